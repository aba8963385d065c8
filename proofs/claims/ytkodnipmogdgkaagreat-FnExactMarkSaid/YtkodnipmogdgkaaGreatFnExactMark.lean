/-
  The law 'FnExactMark' returns true for every input, and its arguments read afterwards as before: the given statement 'Rows.FnExactMarkSaid'. No condition.
-/
import Derived.Test.YtkodnipmogdgkaaGreatFWa
import Derived.Test.YtkodnipmogdgkaaGreatFWq
import Derived.Deep.RegionHeld
namespace Go.Proofs.YtkodnipmogdgkaaGreat.fnExactMark
open Go.ChangeShapes Go.WideShapes Go.ChangeAt Go.RowKit Go.Proofs.YtkodnipmogdgkaaGreat
set_option linter.unusedVariables false
set_option maxRecDepth 100000
section
variable {H : Type} {enc : TypeId × Value → H} {W : World} {base : Nat} {d : DataW H} {p : List MemPlace} {v : Value}
theorem wf_bd {a : Int} (h : (Lit.int .i64 a).wf = true) : -9223372036854775808 ≤ a ∧ a ≤ 9223372036854775807 := by
  exact bounds_i64 h
theorem is_int (hv : Value.okWide Tryz.prog W .any base 3 v) (h : DataW.Trod enc Tryz.prog W 0 (fun _ => true) true 3 v d p) : Is_int W v := by
  obtain ⟨a, rfl, rfl, rfl, wa⟩ := open_int Tryz.underlying3 hv h
  exact ⟨a, rfl, wf_bd wa⟩
end
set_option linter.unusedSimpArgs false
set_option maxHeartbeats 8000000 in
theorem walk (W : World) (v0 v1 v2 : Value) (w0 : Is_Fabric W v0) (w1 : Is_int W v1) (w2 : Is_bool W v2) :
    Calls Tryz.prog 3 #[v0, v1, v2] W fun e w' => e = .returned (.bool true) ∧ Below W.heap.size W w' := by
  obtain ⟨X, nv, lv, rfl, hR⟩ := w0; obtain ⟨node, rfl, -, -⟩ := w1; obtain ⟨on, rfl⟩ := w2; obtain ⟨na, nx, rfl⟩ := hR.1.len; obtain ⟨la, lx, rfl⟩ := hR.2.len; obtain ⟨bA, B0, z⟩ := one W [.slice na X.nodes.length nx, .slice la X.links.length lx, .int .i64 X.width] 25; replace hR := hR.keep B0; clear z; have a0 := (bA).c 0 rfl; have a1 := (bA).c 1 rfl; have a2 := (bA).c 2 rfl
  go_enter Tryz.func3, Tryz.ntmps3
  go_wp2_with fail; clear a0 a1 a2; refine (szFabric_l _ _ X _ hR).mono ?_; rintro e w1 ⟨r, rfl, hsz, hb⟩; replace bA := bA.keep hb; replace hR := hR.keep hb; replace B0 := below_step B0 hb; clear hb; have HSZ := Lib.hid hsz; clear hsz
  by_cases hneg : r < 0
  · go_wp2_with fail
    go_ret
    exact ⟨rfl, B0⟩
  · have hlen := HSZ.out hneg
    have HLN := Lib.hid hlen; clear hlen; have a0 := (bA).c 0 rfl; have a1 := (bA).c 1 rfl; have a2 := (bA).c 2 rfl; go_wp2_with fail; clear a0 a1 a2; refine (toF_o _ _ X _ hR HLN.out).mono ?_; rintro e w2 ⟨s0, s1, rfl, hf, hb⟩; have h2 := hf.rd; replace bA := bA.keep hb; replace hR := hR.keep hb; replace B0 := below_step B0 hb; clear hb hf; obtain ⟨pa, pb, rfl⟩ := h2.1.len; obtain ⟨qa, qb, rfl⟩ := h2.2.len; go_wp2_with fail; refine (smark_any _ _ X node on _ h2 HLN.out).mono ?_; rintro e w3 ⟨n3, l3, rfl, hW, hb⟩; replace bA := bA.keep hb; replace hR := hR.keep hb; replace B0 := below_step B0 hb; clear hb h2; obtain ⟨D, hD⟩ : ∃ D, D = markF X node on := ⟨_, rfl⟩; obtain ⟨g, hg⟩ : ∃ g, g = okM X node := ⟨_, rfl⟩; have hcD : cntF D ≤ 12000000 := by rw [hD]; exact mark_cnt X node on HLN.out
    have hcX : cntF X ≤ 12000000 := cntF_le X HLN.out; have HC := Lib.hid (And.intro hcD hcX); rw [← hD] at hW; rw [← hD, ← hg]; have HD := Lib.hid hD; have HG := Lib.hid hg; have qw := hW.rd; have hgg : (g != g) = false := by simp
    clear hD hg hcD hcX hW; obtain ⟨wa, wc, rfl⟩ := qw.1.len; obtain ⟨va, vc, rfl⟩ := qw.2.len; obtain ⟨bW, N1, z1⟩ := one w3 [.slice wa D.nodes.length wc, .slice va D.links.length vc, .int .i64 D.width] 30; have a0 := ((bA.keep N1)).c 0 rfl; have a1 := ((bA.keep N1)).c 1 rfl; have a2 := ((bA.keep N1)).c 2 rfl; go_wp2_with fail; clear a0 a1 a2; obtain ⟨WB, hWB⟩ : ∃ WB, WB = w3.heap.size := ⟨_, rfl⟩; obtain ⟨V, hV⟩ : ∃ V, V = w3.alloc (.cells #[.slice wa D.nodes.length wc, .slice va D.links.length vc, .int .i64 D.width] 30) := ⟨_, rfl⟩; rw [← hV] at bW N1 ⊢; rw [← hWB] at bW
    try rw [← hWB]
    replace qw := qw.keep N1; replace hR := hR.keep N1; replace bA := bA.keep N1; replace B0 := below_step B0 N1; clear hV hWB N1 z1; refine (toF_o _ _ X _ hR HLN.out).mono ?_; rintro e z4 ⟨x1, x2, rfl, hX, hb⟩; have OV : Over V z4 := hb; have hV4 := hb.size; clear hb; obtain ⟨xa, xc, rfl⟩ := hX.rd.1.len; obtain ⟨ya, yc, rfl⟩ := hX.rd.2.len; obtain ⟨lo, hlo⟩ : ∃ n, n = V.heap.size := ⟨_, rfl⟩; obtain ⟨hi, hhi⟩ : ∃ n, n = z4.heap.size := ⟨_, rfl⟩; rw [← hlo, ← hhi] at hX; obtain ⟨bX, N2, z2⟩ := one z4 [.slice xa X.nodes.length xc, .slice ya X.links.length yc, .int .i64 X.width] 30; have a0 := (bX).c 0 rfl; have a1 := (bX).c 1 rfl; have a2 := (bX).c 2 rfl; go_wp2_with fail; clear a0 a1 a2; obtain ⟨XB, hXB⟩ : ∃ XB, XB = z4.heap.size := ⟨_, rfl⟩; obtain ⟨V5, hV5⟩ : ∃ V5, V5 = z4.alloc (.cells #[.slice xa X.nodes.length xc, .slice ya X.links.length yc, .int .i64 X.width] 30) := ⟨_, rfl⟩; rw [← hV5] at bX N2 z2 ⊢; rw [← hXB] at bX
    try rw [← hXB]
    replace hX := hX.agr (.of_below N2); replace OV := over_step OV N2; have hXs : hi ≤ XB ∧ XB < V5.heap.size := by omega
    have HLO := Lib.hid (And.intro hlo (And.intro hhi (And.intro hV4 hXs))); have hX5 : hi < V5.heap.size := by omega
    clear hV5 hXB N2 z2 hlo hhi hV4 hXs; refine (imark_any _ _ X node on _ hX.rd HLN.out).mono ?_; rintro e z6 ⟨g1, g2, rfl, hG, hb⟩; rw [← HD.out] at hG; rw [← HD.out, ← HG.out]; replace hX := hX.agr (.of_below hb); replace bX := bX.keep hb; replace OV := over_step OV hb; have h56 := hb.size; clear hb; obtain ⟨ga, gc, rfl⟩ := hG.rd.1.len; obtain ⟨ka, kc, rfl⟩ := hG.rd.2.len; obtain ⟨l6, hl6⟩ : ∃ n, n = V5.heap.size := ⟨_, rfl⟩; obtain ⟨u6, hu6⟩ : ∃ n, n = z6.heap.size := ⟨_, rfl⟩; rw [← hl6, ← hu6] at hG; obtain ⟨bG, N3, z3⟩ := one z6 [.slice ga D.nodes.length gc, .slice ka D.links.length kc, .int .i64 D.width] 30; have a0 := (bG).c 0 rfl; have a1 := (bG).c 1 rfl; have a2 := (bG).c 2 rfl; have c0 := ((bW.keep (over_step OV N3))).c 0 rfl; have c1 := ((bW.keep (over_step OV N3))).c 1 rfl; have c2 := ((bW.keep (over_step OV N3))).c 2 rfl; go_wp2_with fail; clear a0 a1 a2; clear c0 c1 c2; obtain ⟨GB, hGB⟩ : ∃ GB, GB = z6.heap.size := ⟨_, rfl⟩; obtain ⟨V7, hV7⟩ : ∃ V7, V7 = z6.alloc (.cells #[.slice ga D.nodes.length gc, .slice ka D.links.length kc, .int .i64 D.width] 30) := ⟨_, rfl⟩; rw [← hV7] at bG N3 z3 ⊢; rw [← hGB] at bG
    try rw [← hGB]
    replace hX := hX.agr (.of_below N3); replace hG := hG.agr (.of_below N3); replace bX := bX.keep N3; replace OV := over_step OV N3; have hXG : hi ≤ l6 := by omega
    have HGB := Lib.hid (And.intro (show u6 ≤ GB by omega) (show l6 ≤ u6 by omega)); clear hV7 hGB N3 z3 hX5 h56 hl6 hu6; refine (eqF_same _ _ _ _ D _ hG.rd (qw.keep OV)).mono ?_; rintro e z8 ⟨rfl, hb⟩; replace hX := hX.agr (.of_below hb); replace hG := hG.agr (.of_below hb); replace bX := bX.keep hb; replace bG := bG.keep hb; replace OV := over_step OV hb; clear hb; have bA8 := bA.keep OV; have hR8 := hR.keep OV; have hX8 := hX.rd; go_wp2_with fail
    go_region_held3 (fun w' => Over z8 w' ∧ w'.cell? ⟨W.heap.size, 0, none⟩ = some (.slice na X.nodes.length nx) ∧ w'.cell? ⟨W.heap.size, 1, none⟩ = some (.slice la X.links.length lx) ∧ w'.cell? ⟨W.heap.size, 2, none⟩ = some (.int .i64 X.width) ∧ w'.cell? ⟨XB, 0, none⟩ = some (.slice xa X.nodes.length xc) ∧ w'.cell? ⟨XB, 1, none⟩ = some (.slice ya X.links.length yc) ∧ w'.cell? ⟨XB, 2, none⟩ = some (.int .i64 X.width))
      ((first | exact ⟨over_drew _, bA8.c 0 rfl, bA8.c 1 rfl, bA8.c 2 rfl, bX.c 0 rfl, bX.c 1 rfl, bX.c 2 rfl⟩ | exact (fun o => ⟨o, bA8.o o 0 rfl, bA8.o o 1 rfl, bA8.o o 2 rfl, bX.o o 0 rfl, bX.o o 1 rfl, bX.o o 2 rfl⟩) (over_step (‹Over z8 _ ∧ _›).1 (by assumption))))
      ((first | (go_at_call 10; refine (toF_o _ _ X _ (hR8.keep (‹Over z8 _ ∧ _›).1) HLN.out).mono ?_; rintro e wa ⟨t0, t1, rfl, hxa, hba⟩) | (go_at_call 12; refine (eqF_same _ _ _ _ X _ (hX8.keep (‹Over z8 _ ∧ _›).1) hxa.rd).mono ?_; rintro e wb ⟨rfl, hbb⟩)))
    rename_i hH
    replace hX := hX.agr (.of_below hH.1); replace hG := hG.agr (.of_below hH.1); replace bX := bX.keep hH.1; replace bG := bG.keep hH.1; replace OV := over_step OV hH.1; clear hH hbb hba hxa bA8 hR8 hX8; have x0 := (bX).c 0 rfl; have x1 := (bX).c 1 rfl; have x2 := (bX).c 2 rfl; go_wp2_with fail; clear x0 x1 x2; have hXl := bX.lt; refine (mkF_any _ _ X 1 (Rg lo hi) _ hX (fun b q => by have := q.2; have := HLO.out; omega) (by omega) (by have := HC.out; omega)).mono ?_; rintro e z11 ⟨X', rfl, -, -, -, -, hs⟩; have hVw := OV.size; replace OV : Over V z11 := Below.trans OV (hs.below hVw (fun b q => by have := q.1; have := HLO.out; omega)); replace hG := hG.agr (hs.agr (fun b q r => by have := q.1; have := r.2; omega)); replace bG := hs.bl bG (fun q => by have := q.2; have := HGB.out; omega); clear hs hX bX hXl hVw; have hn1 : ¬ (1 : Int) + (cntF X : Nat) < 0 := by omega
    have x0 := (bG).c 0 rfl; have x1 := (bG).c 1 rfl; have x2 := (bG).c 2 rfl; have c0 := ((bW.keep OV)).c 0 rfl; have c1 := ((bW.keep OV)).c 1 rfl; have c2 := ((bW.keep OV)).c 2 rfl; go_wp2_with fail; clear x0 x1 x2; clear c0 c1 c2; refine (eqF_same _ _ _ _ D _ hG.rd (qw.keep OV)).mono ?_; rintro e z12 ⟨rfl, hb⟩; replace hG := hG.agr (.of_below hb); replace bG := bG.keep hb; replace OV := over_step OV hb; clear hb; have x0 := (bG).c 0 rfl; have x1 := (bG).c 1 rfl; have x2 := (bG).c 2 rfl; go_wp2_with fail; clear x0 x1 x2; have hGl := bG.lt; refine (mkF_any _ _ D 1 (Rg l6 u6) _ hG (fun b q => by have := q.2; have := HGB.out; omega) (by omega) (by have := HC.out; omega)).mono ?_; rintro e z13 ⟨D', rfl, hcD, hwD, hmD, hGD, hs⟩; have hVw := OV.size; replace OV : Over V z13 := Below.trans OV (hs.below hVw (fun b q => by have := q.1; have := HLO.out; omega)); replace bG := hs.bl bG (fun q => by have := q.2; have := HGB.out; omega); clear hs hG hGl hVw hn1; obtain ⟨M, hM⟩ : ∃ M : Int, M = 1 + (cntF D : Nat) := ⟨_, rfl⟩; have hMn : ¬ M < 0 := by omega
    have hMM : (M != M) = false := by simp
    rw [← hM]; have HM := Lib.hid hM
    have hq : ∀ w : World, RdF w (.slice ga D.nodes.length gc) (.slice ka D.links.length kc) D' → Calls Tryz.prog 14 #[.agg #[.slice ga D.nodes.length gc, .slice ka D.links.length kc, .int .i64 D.width], .int .i64 1] w fun e w' => e = .returned (.int .i64 M) ∧ Below w.heap.size w w' := fun w h => by
      have q := hdF_any _ _ D' 1 w h hmD (by omega) (by rw [hcD]; have := HC.out; omega); rw [hwD, hcD, ← hM] at q
      exact q
    have HQ := Lib.hid hq; have hGr := hGD.rd; clear hM hq hcD hwD hmD hGD; have x0 := (bG).c 0 rfl; have x1 := (bG).c 1 rfl; have x2 := (bG).c 2 rfl; go_wp2_with fail; clear x0 x1 x2; refine (HQ.out _ hGr).mono ?_; rintro e z14 ⟨rfl, hb⟩; replace hGr := hGr.keep hb; replace bG := bG.keep hb; replace OV := over_step OV hb; clear hb; have a0 := ((bA.keep OV)).c 0 rfl; have a1 := ((bA.keep OV)).c 1 rfl; have a2 := ((bA.keep OV)).c 2 rfl; go_wp2_with fail; clear a0 a1 a2; refine (toF_o _ _ X _ (hR.keep OV) HLN.out).mono ?_; rintro e z15 ⟨y0, y1, rfl, hf, hb⟩; have h15 := hf.rd; replace hGr := hGr.keep hb; replace bG := bG.keep hb; replace OV := over_step OV hb; clear hb hf; obtain ⟨ua, ub, rfl⟩ := h15.1.len; obtain ⟨ta, tb, rfl⟩ := h15.2.len; go_wp2_with fail; refine (imark_any _ _ X node on _ h15 HLN.out).mono ?_; rintro e z16 ⟨k1, k2, rfl, hH, hb⟩; rw [← HD.out] at hH; rw [← HD.out, ← HG.out]; have qh := hH.rd; replace hGr := hGr.keep hb; replace bG := bG.keep hb; replace OV := over_step OV hb; clear hb h15 hH; obtain ⟨ha, hc, rfl⟩ := qh.1.len; obtain ⟨ja, jc, rfl⟩ := qh.2.len; obtain ⟨bH, N4, z4'⟩ := one z16 [.slice ha D.nodes.length hc, .slice ja D.links.length jc, .int .i64 D.width] 30; have x0 := (bH).c 0 rfl; have x1 := (bH).c 1 rfl; have x2 := (bH).c 2 rfl; have c0 := ((bW.keep (over_step OV N4))).c 0 rfl; have c1 := ((bW.keep (over_step OV N4))).c 1 rfl; have c2 := ((bW.keep (over_step OV N4))).c 2 rfl; go_wp2_with fail; clear x0 x1 x2; clear c0 c1 c2; clear z4'; replace bG := bG.keep N4; replace hGr := hGr.keep N4; replace qh := qh.keep N4; replace OV := over_step OV N4; clear N4; refine (eqF_same _ _ _ _ D _ qh (qw.keep OV)).mono ?_; rintro e z17 ⟨rfl, hb⟩; replace bG := bG.keep hb; replace hGr := hGr.keep hb; replace OV := over_step OV hb; clear hb qh bH; have x0 := (bG).c 0 rfl; have x1 := (bG).c 1 rfl; have x2 := (bG).c 2 rfl; go_wp2_with fail; clear x0 x1 x2; refine (HQ.out _ hGr).mono ?_; rintro e z18 ⟨rfl, hb⟩; replace OV := over_step OV hb; clear hb; go_wp2
    go_ret
    exact ⟨rfl, below_step B0 OV⟩

set_option maxRecDepth 100000 in
theorem lifted (os : Os) (started : os.Started) (H : Type) (enc : TypeId × Value → H) :
    ReturnsInHanded {} Tryz.checked os 3 .any (Rows.fnExactMarkSpec.pre6 enc Tryz.prog Tryz.f3 Rows.fnExactMarkRow.domain false) (Rows.fnExactMarkSpec.post enc Tryz.prog Tryz.f3 false true false false) := by
  refine returnsInHanded_of_change (C := Tryz.checked) own started (by kernel_rfl) Tryz.func3
    (ChangeSpec.witness6 (enc := enc) (C := Tryz.checked) false ⟨#[], #[.agg #[.slice none 0 0, .slice none 0 0, .int .i64 0], .int .i64 0, .bool false], []⟩ 8 (by kernel_rfl) (by kernel_rfl) (by kernel_rfl) (by kernel_rfl)) ?_
  intro W base args ds gs before hval0 hW hcnd _; have hval : ∀ (j : Nat) t v, Tryz.f3.params[j]? = some t → args[j]? = some v → Value.okWide Tryz.prog W .any base t v := hval0; have hW' := hW; obtain ⟨p, q, hA0, hV, rfl, hfz, hnd⟩ := hW; have hA : DataW.TrodAll enc Tryz.prog W 0 (fun _ => true) true Tryz.f3.params.toList args.toList ds p := hA0; rw [Tryz.params3] at hA hval; obtain ⟨v0, vs0, d0, ds0, p0, q0, hargs, rfl, rfl, h0, r0⟩ := trodAll_cons hA; obtain ⟨v1, vs1, d1, ds1, p1, q1, rfl, rfl, rfl, h1, r1⟩ := trodAll_cons r0; obtain ⟨v2, vs2, d2, ds2, p2, q2, rfl, rfl, rfl, h2, r2⟩ := trodAll_cons r1; obtain ⟨rfl, rfl, rfl⟩ := trodAll_nil r2; obtain rfl : args = #[v0, v1, v2] := by cases args; simp_all
  obtain ⟨rfl, rfl⟩ := trodVars_none hV; have lt0 : ∀ x ∈ p0, x.block < W.heap.size := by obtain ⟨m, hm⟩ := h0; exact DataW.trod_lt m _ _ _ hm
  have w0 := is_Fabric (hval 0 25 v0 rfl rfl) h0; have lt1 : ∀ x ∈ p1, x.block < W.heap.size := by obtain ⟨m, hm⟩ := h1; exact DataW.trod_lt m _ _ _ hm
  have w1 := is_int (hval 1 3 v1 rfl rfl) h1; have lt2 : ∀ x ∈ p2, x.block < W.heap.size := by obtain ⟨m, hm⟩ := h2; exact DataW.trod_lt m _ _ _ hm
  have w2 := is_bool (hval 2 4 v2 rfl rfl) h2; clear hA0 hval0 hval; refine (walk W v0 v1 v2 w0 w1 w2).mono fun e W' ⟨he, bel⟩ => ?_
  subst he
  exact ⟨_, rfl, _, _, _, [], _, [], hW', trodAll_mk1 (shut_bool Tryz.underlying4 _), (trodAll_cons_mk (Below.trod laidOut (by kernel_rfl) (of_decide_eq_true (by kernel_rfl)) h0 bel lt0) (trodAll_cons_mk (Below.trod laidOut (by kernel_rfl) (of_decide_eq_true (by kernel_rfl)) h1 bel lt1) (trodAll_cons_mk (Below.trod laidOut (by kernel_rfl) (of_decide_eq_true (by kernel_rfl)) h2 bel lt2) trodAll_mk0))), rfl, bel.frame _, fun h => by cases h⟩

theorem over : Rows.fnExactMarkRow.holds Tryz.pinned (OpenSpec.ofChange Rows.fnExactMarkSpec) :=
  OpenClaim.holds_of_wide 3 Tryz.f3 rfl rfl rfl rfl rfl rfl rfl ⟨rfl, rfl, rfl, rfl, rfl⟩ rfl rfl rfl rfl rfl (by kernel_rfl) Tryz.func3 (by kernel_rfl)
    (of_decide_eq_true (by kernel_rfl)) (by unfold Func.isWrapper; first | (rw [if_pos (by decide +kernel)]; kernel_rfl) | (rw [if_neg (by decide +kernel)]; exact ⟨rfl, rfl⟩))
    (fun os started H enc _ => lifted os started H enc)

theorem proved : Rows.FnExactMarkSaid := over
end Go.Proofs.YtkodnipmogdgkaaGreat.fnExactMark
