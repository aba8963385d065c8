/-
  The law 'FnExactFabricNew' returns true for every input, and its arguments read afterwards as before: the given statement 'Rows.FnExactFabricNewSaid'. No condition.
-/
import Derived.Test.YtkodnipmogdgkaaGreatFBa
import Derived.Test.YtkodnipmogdgkaaGreatFBo
namespace Go.Proofs.YtkodnipmogdgkaaGreat.fnExactFabricNew
open Go.ChangeShapes Go.WideShapes Go.ChangeAt Go.RowKit Go.Proofs.YtkodnipmogdgkaaGreat
set_option linter.unusedVariables false
set_option maxRecDepth 100000
set_option linter.unusedSimpArgs false
set_option maxHeartbeats 8000000 in
theorem walk (W : World) (v0 v1 v2 : Value) (w0 : Is_NodeS W v0) (w1 : Is_IntSS W v1) (w2 : Is_int W v2) :
    Calls Tryz.prog 5 #[v0, v1, v2] W fun e w' => e = .returned (.bool true) ∧ Below W.heap.size W w' := by
  obtain ⟨N9, hN⟩ := w0
  obtain ⟨L, hU⟩ := w1
  obtain ⟨wd, rfl, -, -⟩ := w2
  obtain ⟨na, nc, rfl⟩ := hN.len
  obtain ⟨ua, uc, rfl⟩ := hU.len
  have B0 := Below.refl W.heap.size W
  go_enter Tryz.func5, Tryz.ntmps5
  go_wp2_with fail
  refine (szNS_l _ N9 1048576 _ hN (by omega) (by omega)).mono ?_
  rintro e w1 ⟨r, rfl, hs1, hs2, hb⟩
  replace hN := hN.keep hb
  replace hU := hU.keep hb
  replace B0 := below_step B0 hb
  clear hb
  have H1 := Lib.hid hs1
  clear hs1 hs2
  by_cases hneg : r < 0
  · go_wp2_with fail
    go_ret
    exact ⟨rfl, B0⟩
  · have h1 := H1.out hneg
    have hr0 : 0 ≤ r ∧ r ≤ 1048576 := by omega
    have HH1 := Lib.hid h1
    clear h1
    go_wp2_with fail
    refine (szUS_l _ L r _ hU hr0.1 hr0.2).mono ?_
    rintro e w2 ⟨r2, rfl, hs1, hs2, hb⟩
    replace hN := hN.keep hb
    replace hU := hU.keep hb
    replace B0 := below_step B0 hb
    clear hb
    have H2 := Lib.hid hs1
    clear hs1 hs2
    by_cases hneg2 : r2 < 0
    · go_wp2_with fail
      go_ret
      exact ⟨rfl, B0⟩
    · have h2 := H2.out hneg2
      have h1 := HH1.out
      have HNN : Hid (N9.length + wtNS N9 ≤ 1048576) := Lib.hid (by omega)
      have HUU : Hid (L.length + wtUS L ≤ 1048576) := Lib.hid (by omega)
      have HNW : Hid ((N9.length + wtNS N9) + L.length ≤ 1048576) := Lib.hid (by omega)
      clear h1 h2 HH1 H1 H2
      go_wp2_with fail
      refine (toNS_o _ N9 _ hN HNN.out).mono ?_
      rintro e w3 ⟨u0, rfl, oA, hb⟩
      have rA := oA.rd
      replace hN := hN.keep hb
      replace hU := hU.keep hb
      replace B0 := below_step B0 hb
      clear hb oA
      go_wp2_with fail
      refine (toUS_o _ L _ hU HUU.out).mono ?_
      rintro e w4 ⟨u1, rfl, oA, hb⟩
      have rB := oA.rd
      replace rA := rA.keep hb
      replace hN := hN.keep hb
      replace hU := hU.keep hb
      replace B0 := below_step B0 hb
      clear hb oA
      go_wp2_with fail
      refine (snew_any _ _ N9 L wd _ rA rB HNW.out).mono ?_
      rintro e w5 ⟨n3, l3, rfl, hW, hb⟩
      replace hN := hN.keep hb
      replace hU := hU.keep hb
      replace B0 := below_step B0 hb
      clear hb rA rB
      obtain ⟨D, hD⟩ : ∃ D, D = fabNewF N9 L wd := ⟨_, rfl⟩
      obtain ⟨g, hg⟩ : ∃ g, g = okNew N9 L wd := ⟨_, rfl⟩
      have hcD : cntF D ≤ 12000000 := by rw [hD]; exact new_cnt N9 L wd HNW.out
      have hcN : cntNS N9 ≤ 12000000 := by have := cntNSw_le N9; have := HNN.out; omega
      have hcU : cntUS L ≤ 12000000 := by have := cntUSw_le L; have := HUU.out; omega
      have HC := Lib.hid (And.intro hcD (And.intro hcN hcU))
      rw [← hD] at hW
      rw [← hD, ← hg]
      have HD := Lib.hid hD
      have HG := Lib.hid hg
      have qw := hW.rd
      have hgg : (g != g) = false := by simp
      clear hD hg hcD hcN hcU hW
      obtain ⟨wa, wc, rfl⟩ := qw.1.len
      obtain ⟨va, vc, rfl⟩ := qw.2.len
      obtain ⟨bW, N1, z1⟩ := one w5 [.slice wa D.nodes.length wc, .slice va D.links.length vc, .int .i64 D.width] 30
      go_wp2_with fail
      obtain ⟨WB, hWB⟩ : ∃ WB, WB = w5.heap.size := ⟨_, rfl⟩
      obtain ⟨V, hV⟩ : ∃ V, V = w5.alloc (.cells #[.slice wa D.nodes.length wc, .slice va D.links.length vc, .int .i64 D.width] 30) := ⟨_, rfl⟩
      rw [← hV] at bW N1 ⊢
      rw [← hWB] at bW
      try rw [← hWB]
      replace qw := qw.keep N1
      replace hN := hN.keep N1
      replace hU := hU.keep N1
      replace B0 := below_step B0 N1
      clear hV hWB N1 z1
      refine (toNS_o _ N9 _ hN HNN.out).mono ?_
      rintro e z4 ⟨x1, rfl, hX, hb⟩
      have OV : Over V z4 := hb
      have hV4 := hb.size
      clear hb
      obtain ⟨xa, xc, rfl⟩ := hX.rd.len
      obtain ⟨lo, hlo⟩ : ∃ n, n = V.heap.size := ⟨_, rfl⟩
      obtain ⟨hi, hhi⟩ : ∃ n, n = z4.heap.size := ⟨_, rfl⟩
      rw [← hlo, ← hhi] at hX
      go_wp2_with fail
      refine (toUS_o _ L _ (hU.keep OV) HUU.out).mono ?_
      rintro e z5 ⟨x2, rfl, hY, hb⟩
      replace hX := hX.agr (.of_below hb)
      replace OV := over_step OV hb
      have hV5 := hb.size
      clear hb
      obtain ⟨ya, yc, rfl⟩ := hY.rd.len
      obtain ⟨h5, hh5⟩ : ∃ n, n = z5.heap.size := ⟨_, rfl⟩
      rw [← hhi, ← hh5] at hY
      go_wp2_with fail
      refine (inew_any _ _ N9 L wd _ hX.rd hY.rd HNW.out).mono ?_
      rintro e z6 ⟨g1, g2, rfl, hG, hb⟩
      rw [← HD.out] at hG
      rw [← HD.out, ← HG.out]
      replace hX := hX.agr (.of_below hb)
      replace hY := hY.agr (.of_below hb)
      replace OV := over_step OV hb
      have h56 := hb.size
      clear hb
      obtain ⟨ga, gc, rfl⟩ := hG.rd.1.len
      obtain ⟨ka, kc, rfl⟩ := hG.rd.2.len
      obtain ⟨u6, hu6⟩ : ∃ n, n = z6.heap.size := ⟨_, rfl⟩
      rw [← hh5, ← hu6] at hG
      obtain ⟨bG, N3, z3⟩ := one z6 [.slice ga D.nodes.length gc, .slice ka D.links.length kc, .int .i64 D.width] 30
      have a0 := (bG).c 0 rfl
      have a1 := (bG).c 1 rfl
      have a2 := (bG).c 2 rfl
      have c0 := ((bW.keep (over_step OV N3))).c 0 rfl
      have c1 := ((bW.keep (over_step OV N3))).c 1 rfl
      have c2 := ((bW.keep (over_step OV N3))).c 2 rfl
      go_wp2_with fail
      clear a0 a1 a2
      clear c0 c1 c2
      obtain ⟨GB, hGB⟩ : ∃ GB, GB = z6.heap.size := ⟨_, rfl⟩
      obtain ⟨V7, hV7⟩ : ∃ V7, V7 = z6.alloc (.cells #[.slice ga D.nodes.length gc, .slice ka D.links.length kc, .int .i64 D.width] 30) := ⟨_, rfl⟩
      rw [← hV7] at bG N3 z3 ⊢
      rw [← hGB] at bG
      try rw [← hGB]
      replace hX := hX.agr (.of_below N3)
      replace hY := hY.agr (.of_below N3)
      replace hG := hG.agr (.of_below N3)
      replace OV := over_step OV N3
      have HLO := Lib.hid (And.intro hlo (show lo ≤ hi ∧ hi ≤ h5 ∧ h5 ≤ u6 ∧ u6 ≤ GB ∧ u6 < V7.heap.size by omega))
      clear hV7 hGB N3 z3 h56 hu6 hlo hhi hh5 hV4 hV5
      refine (eqF_same _ _ _ _ D _ hG.rd (qw.keep OV)).mono ?_
      rintro e z8 ⟨rfl, hb⟩
      have HZ8 := Lib.hid hb.size
      replace hX := hX.agr (.of_below hb)
      replace hY := hY.agr (.of_below hb)
      replace hG := hG.agr (.of_below hb)
      replace bG := bG.keep hb
      replace OV := over_step OV hb
      clear hb
      go_wp2_with fail
      refine (toNS_o _ N9 _ (hN.keep OV) HNN.out).mono ?_
      rintro e z9 ⟨t0, rfl, oA, hb⟩
      have rA := oA.rd
      replace hX := hX.agr (.of_below hb)
      replace hY := hY.agr (.of_below hb)
      replace hG := hG.agr (.of_below hb)
      replace bG := bG.keep hb
      replace OV := over_step OV hb
      clear hb oA
      go_wp2_with fail
      refine (eqNS_same _ _ N9 _ hX.rd rA).mono ?_
      rintro e z10 ⟨rfl, hb⟩
      replace hX := hX.agr (.of_below hb)
      replace hY := hY.agr (.of_below hb)
      replace hG := hG.agr (.of_below hb)
      replace bG := bG.keep hb
      replace OV := over_step OV hb
      clear hb rA
      go_wp2_with fail
      refine (toUS_o _ L _ (hU.keep OV) HUU.out).mono ?_
      rintro e z11 ⟨t1, rfl, oA, hb⟩
      have rA := oA.rd
      replace hX := hX.agr (.of_below hb)
      replace hY := hY.agr (.of_below hb)
      replace hG := hG.agr (.of_below hb)
      replace bG := bG.keep hb
      replace OV := over_step OV hb
      clear hb oA
      go_wp2_with fail
      refine (eqUS_same _ _ L _ hY.rd rA).mono ?_
      rintro e z12 ⟨rfl, hb⟩
      replace hX := hX.agr (.of_below hb)
      replace hY := hY.agr (.of_below hb)
      replace hG := hG.agr (.of_below hb)
      replace bG := bG.keep hb
      replace OV := over_step OV hb
      clear hb rA
      go_wp2_with fail
      refine (mkNS_any _ N9 1 (Rg lo hi) _ hX (by omega) (by have := HC.out; omega)).mono ?_
      rintro e z13 ⟨N', rfl, -, -, -, -, hs⟩
      have hVw := OV.size
      replace OV : Over V z13 := Below.trans OV (hs.below hVw (fun b q => by have := q.1; have := HLO.out; omega))
      replace hY := hY.agr (hs.agr (fun b q r => by have := q.1; have := r.2; omega))
      replace hG := hG.agr (hs.agr (fun b q r => by have := q.1; have := r.2; have := HLO.out; omega))
      replace bG := hs.bl bG (fun q => by have := q.2; have := HLO.out; omega)
      clear hs hX hVw
      obtain ⟨K1, hK1⟩ : ∃ K : Int, K = 1 + (cntNS N9 : Nat) := ⟨_, rfl⟩
      rw [← hK1]
      have hk1 : 0 ≤ K1 ∧ K1 + (cntUS L : Nat) ≤ 40000000 := by have := HC.out; omega
      clear hK1
      go_wp2_with fail
      refine (mkUS_any _ L K1 (Rg hi h5) _ hY hk1.1 hk1.2).mono ?_
      rintro e z14 ⟨rfl, hs⟩
      have hVw := OV.size
      replace OV : Over V z14 := Below.trans OV (hs.below hVw (fun b q => by have := q.1; have := HLO.out; omega))
      replace hG := hG.agr (hs.agr (fun b q r => by have := q.1; have := r.2; omega))
      replace bG := hs.bl bG (fun q => by have := q.2; have := HLO.out; omega)
      clear hs hY hVw
      obtain ⟨K2, hK2⟩ : ∃ K : Int, K = K1 + (cntUS L : Nat) := ⟨_, rfl⟩
      rw [← hK2]
      have hn1 : ¬ K2 < 0 := by omega
      clear hK2 hk1
      have x0 := (bG).c 0 rfl
      have x1 := (bG).c 1 rfl
      have x2 := (bG).c 2 rfl
      have c0 := ((bW.keep OV)).c 0 rfl
      have c1 := ((bW.keep OV)).c 1 rfl
      have c2 := ((bW.keep OV)).c 2 rfl
      go_wp2_with fail
      clear x0 x1 x2
      clear c0 c1 c2
      refine (eqF_same _ _ _ _ D _ hG.rd (qw.keep OV)).mono ?_
      rintro e z15 ⟨rfl, hb⟩
      replace hG := hG.agr (.of_below hb)
      replace bG := bG.keep hb
      replace OV := over_step OV hb
      clear hb
      have x0 := (bG).c 0 rfl
      have x1 := (bG).c 1 rfl
      have x2 := (bG).c 2 rfl
      go_wp2_with fail
      clear x0 x1 x2
      refine (mkF_any _ _ D 1 (Rg h5 u6) _ hG (fun b q => by have := q.2; have := HLO.out; have := bG.lt; omega) (by omega) (by have := HC.out; omega)).mono ?_
      rintro e z16 ⟨D', rfl, hcD, hwD, hmD, hGD, hs⟩
      have hVw := OV.size
      replace OV : Over V z16 := Below.trans OV (hs.below hVw (fun b q => by have := q.1; have := HLO.out; omega))
      replace bG := hs.bl bG (fun q => by have := q.2; have := HLO.out; omega)
      clear hs hG hVw hn1
      obtain ⟨M, hM⟩ : ∃ M : Int, M = 1 + (cntF D : Nat) := ⟨_, rfl⟩
      have hMn : ¬ M < 0 := by omega
      have hMM : (M != M) = false := by simp
      rw [← hM]
      have HM := Lib.hid hM
      have hq : ∀ w : World, RdF w (.slice ga D.nodes.length gc) (.slice ka D.links.length kc) D' → Calls Tryz.prog 14 #[.agg #[.slice ga D.nodes.length gc, .slice ka D.links.length kc, .int .i64 D.width], .int .i64 1] w fun e w' => e = .returned (.int .i64 M) ∧ Below w.heap.size w w' := fun w h => by
        have q := hdF_any _ _ D' 1 w h hmD (by omega) (by rw [hcD]; have := HC.out; omega)
        rw [hwD, hcD, ← hM] at q
        exact q
      have HQ := Lib.hid hq
      have hGr := hGD.rd
      clear hM hq hcD hwD hmD hGD
      have x0 := (bG).c 0 rfl
      have x1 := (bG).c 1 rfl
      have x2 := (bG).c 2 rfl
      go_wp2_with fail
      clear x0 x1 x2
      refine (HQ.out _ hGr).mono ?_
      rintro e z17 ⟨rfl, hb⟩
      replace hGr := hGr.keep hb
      replace bG := bG.keep hb
      replace OV := over_step OV hb
      clear hb
      go_wp2_with fail
      refine (toNS_o _ N9 _ (hN.keep OV) HNN.out).mono ?_
      rintro e z18 ⟨t0, rfl, oA, hb⟩
      have rA := oA.rd
      replace hGr := hGr.keep hb
      replace bG := bG.keep hb
      replace OV := over_step OV hb
      clear hb oA
      go_wp2_with fail
      refine (toUS_o _ L _ (hU.keep OV) HUU.out).mono ?_
      rintro e z19 ⟨t1, rfl, oA, hb⟩
      have rB := oA.rd
      replace rA := rA.keep hb
      replace hGr := hGr.keep hb
      replace bG := bG.keep hb
      replace OV := over_step OV hb
      clear hb oA
      go_wp2_with fail
      refine (inew_any _ _ N9 L wd _ rA rB HNW.out).mono ?_
      rintro e z20 ⟨k1, k2, rfl, hH, hb⟩
      rw [← HD.out] at hH
      rw [← HD.out, ← HG.out]
      have qh := hH.rd
      replace hGr := hGr.keep hb
      replace bG := bG.keep hb
      replace OV := over_step OV hb
      clear hb rA rB hH
      obtain ⟨ha, hc, rfl⟩ := qh.1.len
      obtain ⟨ja, jc, rfl⟩ := qh.2.len
      obtain ⟨bH, N4, z4'⟩ := one z20 [.slice ha D.nodes.length hc, .slice ja D.links.length jc, .int .i64 D.width] 30
      have x0 := (bH).c 0 rfl
      have x1 := (bH).c 1 rfl
      have x2 := (bH).c 2 rfl
      have c0 := ((bW.keep (over_step OV N4))).c 0 rfl
      have c1 := ((bW.keep (over_step OV N4))).c 1 rfl
      have c2 := ((bW.keep (over_step OV N4))).c 2 rfl
      go_wp2_with fail
      clear x0 x1 x2
      clear c0 c1 c2
      clear z4'
      replace bG := bG.keep N4
      replace hGr := hGr.keep N4
      replace qh := qh.keep N4
      replace OV := over_step OV N4
      clear N4
      refine (eqF_same _ _ _ _ D _ qh (qw.keep OV)).mono ?_
      rintro e z21 ⟨rfl, hb⟩
      replace bG := bG.keep hb
      replace hGr := hGr.keep hb
      replace OV := over_step OV hb
      clear hb qh bH
      have x0 := (bG).c 0 rfl
      have x1 := (bG).c 1 rfl
      have x2 := (bG).c 2 rfl
      go_wp2_with fail
      clear x0 x1 x2
      refine (HQ.out _ hGr).mono ?_
      rintro e z22 ⟨rfl, hb⟩
      replace OV := over_step OV hb
      clear hb
      go_wp2
      go_ret
      exact ⟨rfl, below_step B0 OV⟩

set_option maxRecDepth 100000 in
theorem lifted (os : Os) (started : os.Started) (H : Type) (enc : TypeId × Value → H) :
    ReturnsInHanded {} Tryz.checked os 5 .any (Rows.fnExactFabricNewSpec.pre6 enc Tryz.prog Tryz.f5 Rows.fnExactFabricNewRow.domain false) (Rows.fnExactFabricNewSpec.post enc Tryz.prog Tryz.f5 false true false false) := by
  refine returnsInHanded_of_change (C := Tryz.checked) own started (by kernel_rfl) Tryz.func5
    (ChangeSpec.witness6 (enc := enc) (C := Tryz.checked) false ⟨#[], #[.slice none 0 0, .slice none 0 0, .int .i64 0], []⟩ 8 (by kernel_rfl) (by kernel_rfl) (by kernel_rfl) (by kernel_rfl)) ?_
  intro W base args ds gs before hval0 hW hcnd _
  have hval : ∀ (j : Nat) t v, Tryz.f5.params[j]? = some t → args[j]? = some v → Value.okWide Tryz.prog W .any base t v := hval0
  have hW' := hW
  obtain ⟨p, q, hA0, hV, rfl, hfz, hnd⟩ := hW
  have hA : DataW.TrodAll enc Tryz.prog W 0 (fun _ => true) true Tryz.f5.params.toList args.toList ds p := hA0
  rw [Tryz.params5] at hA hval
  obtain ⟨v0, vs0, d0, ds0, p0, q0, hargs, rfl, rfl, h0, r0⟩ := trodAll_cons hA
  obtain ⟨v1, vs1, d1, ds1, p1, q1, rfl, rfl, rfl, h1, r1⟩ := trodAll_cons r0
  obtain ⟨v2, vs2, d2, ds2, p2, q2, rfl, rfl, rfl, h2, r2⟩ := trodAll_cons r1
  obtain ⟨rfl, rfl, rfl⟩ := trodAll_nil r2
  obtain rfl : args = #[v0, v1, v2] := by cases args; simp_all
  obtain ⟨rfl, rfl⟩ := trodVars_none hV
  have lt0 : ∀ x ∈ p0, x.block < W.heap.size := by obtain ⟨m, hm⟩ := h0; exact DataW.trod_lt m _ _ _ hm
  have w0 := is_NodeS (hval 0 22 v0 rfl rfl) h0
  have lt1 : ∀ x ∈ p1, x.block < W.heap.size := by obtain ⟨m, hm⟩ := h1; exact DataW.trod_lt m _ _ _ hm
  have w1 := is_IntSS (hval 1 37 v1 rfl rfl) h1
  have lt2 : ∀ x ∈ p2, x.block < W.heap.size := by obtain ⟨m, hm⟩ := h2; exact DataW.trod_lt m _ _ _ hm
  have w2 := is_int (hval 2 3 v2 rfl rfl) h2
  clear hA0 hval0 hval
  refine (walk W v0 v1 v2 w0 w1 w2).mono fun e W' ⟨he, bel⟩ => ?_
  subst he
  exact ⟨_, rfl, _, _, _, [], _, [], hW', trodAll_mk1 (shut_bool Tryz.underlying4 _), (trodAll_cons_mk (Below.trod laidOut (by kernel_rfl) (of_decide_eq_true (by kernel_rfl)) h0 bel lt0) (trodAll_cons_mk (Below.trod laidOut (by kernel_rfl) (of_decide_eq_true (by kernel_rfl)) h1 bel lt1) (trodAll_cons_mk (Below.trod laidOut (by kernel_rfl) (of_decide_eq_true (by kernel_rfl)) h2 bel lt2) trodAll_mk0))), rfl, bel.frame _, fun h => by cases h⟩

theorem over : Rows.fnExactFabricNewRow.holds Tryz.pinned (OpenSpec.ofChange Rows.fnExactFabricNewSpec) :=
  OpenClaim.holds_of_wide 5 Tryz.f5 rfl rfl rfl rfl rfl rfl rfl ⟨rfl, rfl, rfl, rfl, rfl⟩ rfl rfl rfl rfl rfl (by kernel_rfl) Tryz.func5 (by kernel_rfl)
    (of_decide_eq_true (by kernel_rfl)) (by unfold Func.isWrapper; first | (rw [if_pos (by decide +kernel)]; kernel_rfl) | (rw [if_neg (by decide +kernel)]; exact ⟨rfl, rfl⟩))
    (fun os started H enc _ => lifted os started H enc)

theorem proved : Rows.FnExactFabricNewSaid := over
end Go.Proofs.YtkodnipmogdgkaaGreat.fnExactFabricNew
