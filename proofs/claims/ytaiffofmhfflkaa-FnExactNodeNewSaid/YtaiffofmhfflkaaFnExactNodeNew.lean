/-
  The law 'FnExactNodeNew' returns true for every input, and its arguments read afterwards as before: the given statement 'Rows.FnExactNodeNewSaid'. No condition.
-/
import Derived.Test.YtaiffofmhfflkaaO1
import Derived.Test.YtaiffofmhfflkaaZQ
namespace Go.Proofs.Ytaiffofmhfflkaa.fnExactNodeNew
open Go.ChangeShapes Go.WideShapes Go.ChangeAt Go.RowKit Go.Proofs.Ytaiffofmhfflkaa
set_option linter.unusedVariables false
set_option maxRecDepth 100000
set_option linter.unusedSimpArgs false
def Is_pfxs (W : World) (v : Value) : Prop := ∃ l, RdP W v l
theorem is_pfxs {H : Type} {enc : TypeId × Value → H} {W : World} {base : Nat} {d : DataW H} {p : List MemPlace} {v : Value} (hv : Value.okWide Try.prog W .any base 22 v) (h : DataW.Trod enc Try.prog W 0 (fun _ => true) true 22 v d p) : Is_pfxs W v := by
  obtain ⟨a0, len0, cap0, rfl⟩ := okWide_slice Try.underlying22 hv
  obtain ⟨fuel, hf⟩ := h
  exact rdP_trod hf
set_option maxHeartbeats 8000000 in
theorem walk (W : World) (v0 v1 v2 : Value) (w0 : Is_int W v0) (w1 : Is_pfxs W v1) (w2 : Is_int W v2) :
    Calls Try.prog 6 #[v0, v1, v2] W fun e w' => e = .returned (.bool true) ∧ Below W.heap.size W w' := by
  obtain ⟨an, rfl, -, -⟩ := w0
  obtain ⟨own, hR⟩ := w1
  obtain ⟨bw, rfl, -, -⟩ := w2
  obtain ⟨a, c, hav⟩ := hR.len
  subst hav
  have B0 : Below W.heap.size W W := Below.refl _ _
  by_cases hbig : (1048576 : Int) < (own.length : Int)
  · have e := szN_lt hbig
    have HE := Lib.hid e
    clear e
    go_enter Try.func6, Try.ntmps6
    go_wp2_with fail
    refine (szP_any _ own _ _ hR (by omega) (by omega)).mono ?_
    rw [HE.out]
    rintro e w1 ⟨rfl, rfl⟩
    go_wp2
    go_ret
    exact ⟨rfl, B0⟩
  · have e := szN_ge hbig
    obtain ⟨r, hr⟩ : ∃ r : Int, r = 1048576 - (own.length : Int) := ⟨_, rfl⟩
    have hrn : ¬ r < 0 := by omega
    rw [← hr] at e
    have HE := Lib.hid e
    have hln : own.length ≤ 1048576 := by omega
    clear e hr hbig
    go_enter Try.func6, Try.ntmps6
    go_wp2_with fail
    refine (szP_any _ own _ _ hR (by omega) (by omega)).mono ?_
    rw [HE.out]
    rintro e w1 ⟨rfl, rfl⟩
    have HLN := Lib.hid hln
    clear hln
    go_wp2_with fail
    refine (toP_any _ own _ hR HLN.out).mono ?_
    rintro e z2 ⟨pa, pc, rfl, hp, hb⟩
    replace hR := hR.keep hb
    replace B0 := below_step B0 hb
    clear hb
    go_wp2_with fail
    refine (snew_any _ own an bw _ hp.rd).mono ?_
    rintro e z3 ⟨ow, rw', sw, TW1, TW2, bw0, bw1, bw2, rfl, hNW, hW1, hW2, hbw, hb⟩
    replace hR := hR.keep hb
    replace B0 := below_step B0 hb
    clear hb hp
    obtain ⟨D, hD⟩ : ∃ D, D = newN an own bw := ⟨_, rfl⟩
    obtain ⟨g, hg⟩ : ∃ g, newB an own bw = g := ⟨_, rfl⟩
    rw [← hD] at hNW hW1 hW2
    have hdD : BdN D := by rw [hD]; exact newN_bd an own bw
    have hwD : wtN D ≤ 1048576 := by rw [hD]; exact newN_wt an own bw
    have HDD := Lib.hid hD
    have HGG := Lib.hid hg
    have HHD := Lib.hid hdD
    rw [← hD, hg]
    have qw := hNW.rd hW1 hW2 hdD
    obtain ⟨⟨w1, w2, q1⟩, ⟨w3, w4, q2⟩, w5, w6, q3⟩ := hNW.lens
    subst q1 q2 q3
    have hgg : (g != g) = false := by simp
    clear hD hg hdD hNW hW1 hW2 hbw
    obtain ⟨bW, N1, z1⟩ := one z3 [.int .i64 D.an, .slice w1 D.own.length w2, .int .i64 D.bw, .bool D.dr, .slice w3 TW1.length w4, .slice w5 TW2.length w6] 35
    go_wp2_with fail
    obtain ⟨WB, hWB⟩ : ∃ WB, WB = z3.heap.size := ⟨_, rfl⟩
    obtain ⟨V, hV⟩ : ∃ V, V = z3.alloc (.cells #[.int .i64 D.an, .slice w1 D.own.length w2, .int .i64 D.bw, .bool D.dr, .slice w3 TW1.length w4, .slice w5 TW2.length w6] 35) := ⟨_, rfl⟩
    rw [← hV] at bW N1 ⊢
    rw [← hWB] at bW
    try rw [← hWB]
    replace qw := qw.keep N1
    replace hR := hR.keep N1
    replace B0 := below_step B0 N1
    clear hV hWB N1 z1
    refine (toP_any _ own _ hR HLN.out).mono ?_
    rintro e z4 ⟨xa, xc, rfl, hX, hb⟩
    have OV : Over V z4 := hb
    have hV45 := hb.size
    have hXl : ∀ k, (Value.slice xa own.length xc).ownBlock = some k → k < z4.heap.size := fun k hk => (World.ownsRow.lt hX k hk).2
    clear hb
    go_wp2_with fail
    refine (inew_any _ own an bw _ hX.rd HLN.out).mono ?_
    rintro e z5 ⟨og, rg, sg, T1, T2, b0, b1, b2, rfl, hN, hE1, hE2, hgb, hb⟩
    rw [← HDD.out] at hN hE1 hE2
    rw [← HDD.out, HGG.out]
    obtain ⟨⟨g1, g2, q1⟩, ⟨g3, g4, q2⟩, g5, g6, q3⟩ := hN.lens
    subst q1 q2 q3
    have HE1 := Lib.hid hE1
    have HE2 := Lib.hid hE2
    clear hE1 hE2
    replace hX := hX.keep hb
    replace OV := over_step OV hb
    have h55 := hb.size
    clear hb
    obtain ⟨bG, N3, z3'⟩ := one z5 [.int .i64 D.an, .slice g1 D.own.length g2, .int .i64 D.bw, .bool D.dr, .slice g3 T1.length g4, .slice g5 T2.length g6] 35
    have x0 := bG.c 0 rfl
    have x1 := bG.c 1 rfl
    have x2 := bG.c 2 rfl
    have x3 := bG.c 3 rfl
    have x4 := bG.c 4 rfl
    have x5 := bG.c 5 rfl
    have s0 := (bW.keep (over_step OV N3)).c 0 rfl
    have s1 := (bW.keep (over_step OV N3)).c 1 rfl
    have s2 := (bW.keep (over_step OV N3)).c 2 rfl
    have s3 := (bW.keep (over_step OV N3)).c 3 rfl
    have s4 := (bW.keep (over_step OV N3)).c 4 rfl
    have s5 := (bW.keep (over_step OV N3)).c 5 rfl
    go_wp2_with fail
    clear x0 x1 x2 x3 x4 x5
    clear s0 s1 s2 s3 s4 s5
    obtain ⟨G, hG⟩ : ∃ G, G = z5.heap.size := ⟨_, rfl⟩
    obtain ⟨W6, hW6⟩ : ∃ W6, W6 = z5.alloc (.cells #[.int .i64 D.an, .slice g1 D.own.length g2, .int .i64 D.bw, .bool D.dr, .slice g3 T1.length g4, .slice g5 T2.length g6] 35) := ⟨_, rfl⟩
    rw [← hW6] at bG N3 ⊢
    rw [← hG] at bG hN h55
    try rw [← hG]
    replace hN := hN.keep N3
    replace hX := hX.keep N3
    replace OV := over_step OV N3
    have hG6 : G ≤ W6.heap.size := by have := N3.size; omega
    have HXL : Hid (∀ k, (Value.slice xa own.length xc).ownBlock = some k → k < z4.heap.size) := Lib.hid hXl
    clear hW6 hG N3 z3' hXl
    have rg : ∀ w' : World, NdT w' b0 b1 b2 G (.slice g1 D.own.length g2) (.slice g3 T1.length g4) (.slice g5 T2.length g6) D.own T1 T2 → RdN w' (.slice g1 D.own.length g2) (.slice g3 T1.length g4) (.slice g5 T2.length g6) D := fun w' h => h.rd HE1.out HE2.out HHD.out
    have RG := Lib.hid rg
    clear rg
    refine (eqNd_same _ _ _ _ _ _ D _ (RG.out _ hN) (qw.keep OV)).mono ?_
    rintro e z7 ⟨rfl, hb⟩
    replace bG := bG.keep hb
    replace hX := hX.keep hb
    replace hN := hN.keep hb
    replace OV := over_step OV hb
    have hG7 : G ≤ z7.heap.size := Nat.le_trans hG6 hb.size
    clear hb hG6
    go_wp2_with fail
    refine (toP_any _ own _ (hR.keep OV) HLN.out).mono ?_
    rintro e z8 ⟨ya, yc, rfl, hY, hb⟩
    replace bG := bG.keep hb
    replace hX := hX.keep hb
    replace hN := hN.keep hb
    replace OV := over_step OV hb
    replace hG7 := Nat.le_trans hG7 hb.size
    clear hb
    go_wp2_with fail
    refine (eqPS_same _ _ own _ hX.rd hY.rd).mono ?_
    rintro e z9 ⟨rfl, hb⟩
    replace bG := bG.keep hb
    replace hX := hX.keep hb
    replace hN := hN.keep hb
    replace OV := over_step OV hb
    replace hG7 := Nat.le_trans hG7 hb.size
    clear hb hY
    go_wp2_with fail
    refine (markP_is _ own V.heap.size 1 _ hX (by omega) (by have := HLN.out; omega)).mono ?_
    rintro e z10 ⟨rfl, -, hg⟩
    have hs : MidB V.heap.size z4.heap.size z9 z10 := (MidB.refl _ _ _).grown hg (fun k hk => ⟨(World.ownsRow.lt hX k hk).1, HXL.out k hk⟩)
    have hV4 : V.heap.size ≤ z9.heap.size := OV.size
    replace OV : Over V z10 := Below.trans OV (hs.below (Nat.le_refl _) hV4)
    replace hN := hN.mid hs hgb
    replace bG := hs.bl bG (.inr h55)
    replace hG7 := Nat.le_trans hG7 hs.size
    clear hs hg hX hV4
    have hk8n : ¬ (1 : Int) + (own.length : Int) * 2 < 0 := by omega
    have x0 := bG.c 0 rfl
    have x1 := bG.c 1 rfl
    have x2 := bG.c 2 rfl
    have x3 := bG.c 3 rfl
    have x4 := bG.c 4 rfl
    have x5 := bG.c 5 rfl
    have s0 := (bW.keep OV).c 0 rfl
    have s1 := (bW.keep OV).c 1 rfl
    have s2 := (bW.keep OV).c 2 rfl
    have s3 := (bW.keep OV).c 3 rfl
    have s4 := (bW.keep OV).c 4 rfl
    have s5 := (bW.keep OV).c 5 rfl
    go_wp2_with fail
    clear x0 x1 x2 x3 x4 x5
    clear s0 s1 s2 s3 s4 s5
    refine (eqNd_same _ _ _ _ _ _ D _ (RG.out _ hN) (qw.keep OV)).mono ?_
    rintro e z11 ⟨rfl, hb⟩
    replace bG := bG.keep hb
    replace hN := hN.keep hb
    replace OV := over_step OV hb
    have hG10 := Nat.le_trans hG7 hb.size
    clear hb hG7
    obtain ⟨U1, hU1⟩ : ∃ U, U = (entT T1).map wE := ⟨_, rfl⟩
    obtain ⟨U2, hU2⟩ : ∃ U, U = (entT T2).map wE := ⟨_, rfl⟩
    have hs1 : U1.sum ≤ 8000000 := by rw [hU1, HE1.out]; exact wN_rib hwD
    have hs2 : U2.sum ≤ 8000000 := by rw [hU2, HE2.out]; exact wN_sent hwD
    have hno : D.own.length ≤ 1048576 := by unfold wtN at hwD; omega
    have HU1 := Lib.hid hU1.symm
    have HU2 := Lib.hid hU2.symm
    clear hU1 hU2
    have x0 := bG.c 0 rfl
    have x1 := bG.c 1 rfl
    have x2 := bG.c 2 rfl
    have x3 := bG.c 3 rfl
    have x4 := bG.c 4 rfl
    have x5 := bG.c 5 rfl
    go_wp2_with fail
    clear x0 x1 x2 x3 x4 x5
    refine (mkNd_is _ _ _ D.own D.an D.bw D.dr T1 T2 U1 U2 b0 b1 b2 G _ hN hno HU1.out hs1 HU2.out hs2 hG10).mono ?_
    rintro e z12 ⟨rfl, hMk, hMid⟩
    have hVb0 : V.heap.size ≤ b0 := Nat.le_trans hV45 hgb
    replace OV : Over V z12 := Below.trans OV (hMid.below hVb0 OV.size)
    replace bG := hMid.bl bG (.inr (Nat.le_refl _))
    clear hMid hN hk8n
    obtain ⟨M, hM⟩ : ∃ M : Int, M = 1 + (D.own.length : Int) * 2 + (U1.sum : Nat) + (U2.sum : Nat) := ⟨_, rfl⟩
    have hMn : ¬ M < 0 := by omega
    have hMM : (M != M) = false := by simp
    rw [← hM]
    have HM := Lib.hid hM
    clear hM
    have x0 := bG.c 0 rfl
    have x1 := bG.c 1 rfl
    have x2 := bG.c 2 rfl
    have x3 := bG.c 3 rfl
    have x4 := bG.c 4 rfl
    have x5 := bG.c 5 rfl
    go_wp2_with fail
    clear x0 x1 x2 x3 x4 x5
    refine (hdNd_is _ _ _ D.own.length D.an D.bw D.dr U1 U2 _ hMk hno hs1 hs2).mono ?_
    rintro e z13 ⟨rfl, hb⟩
    rw [← HM.out]
    replace bG := bG.keep hb
    replace hMk := hMk.keep hb
    replace OV := over_step OV hb
    clear hb
    go_wp2_with fail
    refine (toP_any _ own _ (hR.keep OV) HLN.out).mono ?_
    rintro e z14 ⟨ya, yc, rfl, hY, hb⟩
    replace bG := bG.keep hb
    replace hMk := hMk.keep hb
    replace OV := over_step OV hb
    clear hb
    go_wp2_with fail
    refine (inew_any _ own an bw _ hY.rd HLN.out).mono ?_
    rintro e z15 ⟨oh, rh, sh, TH1, TH2, c0, c1, c2, rfl, hNH, hH1, hH2, hhb, hb⟩
    rw [← HDD.out] at hNH hH1 hH2
    have qh := hNH.rd hH1 hH2 HHD.out
    obtain ⟨⟨t1, t2, q1⟩, ⟨t3, t4, q2⟩, t5, t6, q3⟩ := hNH.lens
    subst q1 q2 q3
    replace bG := bG.keep hb
    replace hMk := hMk.keep hb
    replace OV := over_step OV hb
    clear hb hY hNH hH1 hH2 hhb
    rw [← HDD.out, HGG.out]
    obtain ⟨bH, N4, z4'⟩ := one z15 [.int .i64 D.an, .slice t1 D.own.length t2, .int .i64 D.bw, .bool D.dr, .slice t3 TH1.length t4, .slice t5 TH2.length t6] 35
    have x0 := bH.c 0 rfl
    have x1 := bH.c 1 rfl
    have x2 := bH.c 2 rfl
    have x3 := bH.c 3 rfl
    have x4 := bH.c 4 rfl
    have x5 := bH.c 5 rfl
    have s0 := (bW.keep (over_step OV N4)).c 0 rfl
    have s1 := (bW.keep (over_step OV N4)).c 1 rfl
    have s2 := (bW.keep (over_step OV N4)).c 2 rfl
    have s3 := (bW.keep (over_step OV N4)).c 3 rfl
    have s4 := (bW.keep (over_step OV N4)).c 4 rfl
    have s5 := (bW.keep (over_step OV N4)).c 5 rfl
    go_wp2_with fail
    clear x0 x1 x2 x3 x4 x5
    clear s0 s1 s2 s3 s4 s5
    clear z4'
    replace bG := bG.keep N4
    replace hMk := hMk.keep N4
    replace qh := qh.keep N4
    replace OV := over_step OV N4
    clear N4
    refine (eqNd_same _ _ _ _ _ _ D _ qh (qw.keep OV)).mono ?_
    rintro e z16 ⟨rfl, hb⟩
    replace bG := bG.keep hb
    replace hMk := hMk.keep hb
    replace OV := over_step OV hb
    clear hb qh bH
    have x0 := bG.c 0 rfl
    have x1 := bG.c 1 rfl
    have x2 := bG.c 2 rfl
    have x3 := bG.c 3 rfl
    have x4 := bG.c 4 rfl
    have x5 := bG.c 5 rfl
    go_wp2_with fail
    clear x0 x1 x2 x3 x4 x5
    refine (hdNd_is _ _ _ D.own.length D.an D.bw D.dr U1 U2 _ hMk hno hs1 hs2).mono ?_
    rintro e z17 ⟨rfl, hb⟩
    rw [← HM.out]
    replace OV := over_step OV hb
    clear hb
    go_wp2
    go_ret
    exact ⟨rfl, below_step B0 OV⟩

set_option maxRecDepth 100000 in
theorem lifted (os : Os) (started : os.Started) (H : Type) (enc : TypeId × Value → H) :
    ReturnsInHanded {} Try.checked os 6 .any (Rows.fnExactNodeNewSpec.pre6 enc Try.prog Try.f6 Rows.fnExactNodeNewRow.domain false) (Rows.fnExactNodeNewSpec.post enc Try.prog Try.f6 false true false false) := by
  refine returnsInHanded_of_change (C := Try.checked) own started (by kernel_rfl) Try.func6
    (ChangeSpec.witness6 (enc := enc) (C := Try.checked) false ⟨#[], #[.int .i64 0, .slice none 0 0, .int .i64 0], []⟩ 8 (by kernel_rfl) (by kernel_rfl) (by kernel_rfl) (by kernel_rfl)) ?_
  intro W base args ds gs before hval0 hW hcnd _
  have hval : ∀ (j : Nat) t v, Try.f6.params[j]? = some t → args[j]? = some v → Value.okWide Try.prog W .any base t v := hval0
  have hW' := hW
  obtain ⟨p, q, hA0, hV, rfl, hfz, hnd⟩ := hW
  have hA : DataW.TrodAll enc Try.prog W 0 (fun _ => true) true Try.f6.params.toList args.toList ds p := hA0
  rw [Try.params6] at hA hval
  obtain ⟨v0, vs0, d0, ds0, p0, q0, hargs, rfl, rfl, h0, r0⟩ := trodAll_cons hA
  obtain ⟨v1, vs1, d1, ds1, p1, q1, rfl, rfl, rfl, h1, r1⟩ := trodAll_cons r0
  obtain ⟨v2, vs2, d2, ds2, p2, q2, rfl, rfl, rfl, h2, r2⟩ := trodAll_cons r1
  obtain ⟨rfl, rfl, rfl⟩ := trodAll_nil r2
  obtain rfl : args = #[v0, v1, v2] := by cases args; simp_all
  obtain ⟨rfl, rfl⟩ := trodVars_none hV
  have lt0 : ∀ x ∈ p0, x.block < W.heap.size := by obtain ⟨m, hm⟩ := h0; exact DataW.trod_lt m _ _ _ hm
  have w0 := is_int (hval 0 3 v0 rfl rfl) h0
  have lt1 : ∀ x ∈ p1, x.block < W.heap.size := by obtain ⟨m, hm⟩ := h1; exact DataW.trod_lt m _ _ _ hm
  have w1 := is_pfxs (hval 1 22 v1 rfl rfl) h1
  have lt2 : ∀ x ∈ p2, x.block < W.heap.size := by obtain ⟨m, hm⟩ := h2; exact DataW.trod_lt m _ _ _ hm
  have w2 := is_int (hval 2 3 v2 rfl rfl) h2
  clear hA0 hval0 hval
  refine (walk W v0 v1 v2 w0 w1 w2).mono fun e W' ⟨he, bel⟩ => ?_
  subst he
  exact ⟨_, rfl, _, _, _, [], _, [], hW', trodAll_mk1 (shut_bool Try.underlying4 _), (trodAll_cons_mk (Below.trod laidOut (by kernel_rfl) (of_decide_eq_true (by kernel_rfl)) h0 bel lt0) (trodAll_cons_mk (Below.trod laidOut (by kernel_rfl) (of_decide_eq_true (by kernel_rfl)) h1 bel lt1) (trodAll_cons_mk (Below.trod laidOut (by kernel_rfl) (of_decide_eq_true (by kernel_rfl)) h2 bel lt2) trodAll_mk0))), rfl, bel.frame _, fun h => by cases h⟩

theorem over : Rows.fnExactNodeNewRow.holds Try.pinned (OpenSpec.ofChange Rows.fnExactNodeNewSpec) :=
  OpenClaim.holds_of_wide 6 Try.f6 rfl rfl rfl rfl rfl rfl rfl ⟨rfl, rfl, rfl, rfl, rfl⟩ rfl rfl rfl rfl rfl (by kernel_rfl) Try.func6 (by kernel_rfl)
    (of_decide_eq_true (by kernel_rfl)) (by unfold Func.isWrapper; first | (rw [if_pos (by decide +kernel)]; kernel_rfl) | (rw [if_neg (by decide +kernel)]; exact ⟨rfl, rfl⟩))
    (fun os started H enc _ => lifted os started H enc)

theorem proved : Rows.FnExactNodeNewSaid := over
end Go.Proofs.Ytaiffofmhfflkaa.fnExactNodeNew
