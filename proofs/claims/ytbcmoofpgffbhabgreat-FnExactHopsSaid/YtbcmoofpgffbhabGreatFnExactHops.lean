/-
 The law 'FnExactHops' returns true for every input, and its arguments read afterwards as before: the given statement 'Rows.FnExactHopsSaid'. No condition.
-/
import Derived.Test.YtbcmoofpgffbhabGreatHPa
import Derived.Test.YtbcmoofpgffbhabGreatHPl
import Derived.Deep.RegionHeld
namespace Go.Proofs.YtbcmoofpgffbhabGreat.fnExactHops
open Go.ChangeShapes Go.WideShapes Go.ChangeAt Go.RowKit Go.Proofs.YtbcmoofpgffbhabGreat
set_option linter.unusedVariables false
set_option maxRecDepth 100000
set_option linter.unusedSimpArgs false
set_option maxHeartbeats 4000000 in
theorem walk (W : World) (v0 v1 v2 : Value) (w0 : Is_Fabric W v0) (w1 : Is_int W v1) (w2 : Is_int W v2) :
  Calls Tryz.prog 7 #[v0, v1, v2] W fun e w' => e = .returned (.bool true) ∧ Below W.heap.size W w' := by
 obtain ⟨X, nv, lv, rfl, hR⟩ := w0; obtain ⟨nd, rfl, -, -⟩ := w1; obtain ⟨ad, rfl, -, -⟩ := w2; obtain ⟨na, nx, rfl⟩ := hR.1.len; obtain ⟨la, lx, rfl⟩ := hR.2.len; obtain ⟨bA, B0, z⟩ := one W [.slice na X.nodes.length nx, .slice la X.links.length lx, .int .i64 X.width] 69; replace hR := hR.keep B0; clear z; obtain ⟨g, hg⟩ : ∃ g, hopsS X nd ad = g := ⟨_, rfl⟩; have HG := Lib.hid hg; have HI := Lib.hid ((hops_eq X nd ad).trans hg); have hgg : (g != g) = false := by simp
 have hvi : okM X nd = true → X.nodes.length ≤ 8 ∧ X.links.length ≤ 500000 ∧ 0 ≤ nd ∧ nd < 8 ∧ ∀ y ∈ upsF X, 0 ≤ y.fn ∧ y.fn < 8 ∧ 0 ≤ y.tn ∧ y.tn < 8 := fun q => by
  unfold okM inB at q; simp only [Bool.and_eq_true, decide_eq_true_eq] at q; obtain ⟨h1, h2, -, h4, -⟩ := fb_facts q.1
  exact ⟨h1, by omega, q.2.1, by omega, h4⟩
 have hvs : fsB X = true → X.nodes.length ≤ 8 ∧ (∀ i, i < X.nodes.length → ∀ q ∈ (X.nodes.getD i n0).own, pokB q.1 q.2 = true) ∧ X.links.length ≤ 1048576 ∧ ∀ x ∈ X.links, 0 ≤ x.a ∧ x.a < X.nodes.length ∧ 0 ≤ x.b ∧ x.b < X.nodes.length := fun q => by
  rw [fsB_eq] at q; obtain ⟨h1, h2, h3, -, h5⟩ := fb_facts q
  exact ⟨h1, h5, by omega, h3⟩
 have HVI := Lib.hid hvi; have HVS := Lib.hid hvs; clear hg hvi hvs; have a0 := (bA).c 0 rfl; have a1 := (bA).c 1 rfl; have a2 := (bA).c 2 rfl
 go_enter Tryz.func7, Tryz.ntmps7
 go_wp2_with fail; clear a0 a1 a2; refine (szFabric_l _ _ X _ hR).mono ?_; rintro e w1 ⟨r, rfl, hsz, hb⟩; replace bA := bA.keep hb; replace hR := hR.keep hb; replace B0 := below_step B0 hb; clear hb; have HSZ := Lib.hid hsz; clear hsz
 by_cases hneg : r < 0
 ·go_wp2_with fail
  go_ret
  exact ⟨rfl, B0⟩
 ·have hlen := HSZ.out hneg
  have HLN := Lib.hid hlen; clear hlen; obtain ⟨PA, hPA⟩ : ∃ P, P = W.heap.size := ⟨_, rfl⟩; rw [← hPA] at bA
  try rw [← hPA]
  clear hPA; have a0 := (bA).c 0 rfl; have a1 := (bA).c 1 rfl; have a2 := (bA).c 2 rfl; go_wp2_with fail; clear a0 a1 a2; refine (toFabric_f _ _ X _ hR HLN.out).mono ?_; rintro e w2 ⟨s0, s1, rfl, hf, hb⟩; have h2 := hf.now; replace bA := bA.keep hb; replace hR := hR.keep hb; replace B0 := below_step B0 hb; clear hb hf; obtain ⟨ua, ub, rfl⟩ := h2.1.len; obtain ⟨va, vb, rfl⟩ := h2.2.len; go_wp2_with fail; refine (shops_any _ _ X nd ad _ h2 HLN.out HVS.out).mono ?_; rw [HG.out]; rintro e w3 ⟨rfl, hb⟩; replace bA := bA.keep hb; replace hR := hR.keep hb; replace B0 := below_step B0 hb; clear hb h2; have a0 := (bA).c 0 rfl; have a1 := (bA).c 1 rfl; have a2 := (bA).c 2 rfl; go_wp2_with fail; clear a0 a1 a2; refine (toFabric_f _ _ X _ hR HLN.out).mono ?_; rintro e w4 ⟨s0, s1, rfl, hf, hb⟩; have h4 := hf.now; replace bA := bA.keep hb; replace hR := hR.keep hb; replace B0 := below_step B0 hb; clear hb hf; obtain ⟨ua, ub, rfl⟩ := h4.1.len; obtain ⟨va, vb, rfl⟩ := h4.2.len; obtain ⟨Y, eY⟩ : ∃ Y, Y = w4.heap.size := ⟨_, rfl⟩; obtain ⟨bX, bW, z⟩ := one w4 [.slice ua X.nodes.length ub, .slice va X.links.length vb, .int .i64 X.width] 60; have x0 := (bX).c 0 rfl; have x1 := (bX).c 1 rfl; have x2 := (bX).c 2 rfl; go_wp2_with fail; clear x0 x1 x2; obtain ⟨w5, hw5⟩ : ∃ w5, w5 = w4.alloc (.cells #[.slice ua X.nodes.length ub, .slice va X.links.length vb, .int .i64 X.width] 60) := ⟨_, rfl⟩; rw [← hw5] at bX bW ⊢; rw [← eY] at bX
  try rw [← eY]
  replace bA := bA.keep bW; replace hR := hR.keep bW; replace h4 := h4.keep bW; replace B0 := below_step B0 bW; clear bW z hw5 eY; refine (ihops_any _ _ X nd ad _ h4 HLN.out HVI.out).mono ?_; rw [HI.out]; rintro e wd ⟨rfl, hb⟩; replace bX := bX.keep hb; replace h4 := h4.keep hb; replace bA := bA.keep hb; replace hR := hR.keep hb; replace B0 := below_step B0 hb; clear hb; go_wp2_with fail
  go_region_held3 (fun w' => Over wd w' ∧ w'.cell? ⟨PA, 0, none⟩ = some (.slice na X.nodes.length nx) ∧ w'.cell? ⟨PA, 1, none⟩ = some (.slice la X.links.length lx) ∧ w'.cell? ⟨PA, 2, none⟩ = some (.int .i64 X.width) ∧ w'.cell? ⟨Y, 0, none⟩ = some (.slice ua X.nodes.length ub) ∧ w'.cell? ⟨Y, 1, none⟩ = some (.slice va X.links.length vb) ∧ w'.cell? ⟨Y, 2, none⟩ = some (.int .i64 X.width))
   ((first | exact ⟨over_drew _, bA.c 0 rfl, bA.c 1 rfl, bA.c 2 rfl, bX.c 0 rfl, bX.c 1 rfl, bX.c 2 rfl⟩ | exact (fun o => ⟨o, bA.o o 0 rfl, bA.o o 1 rfl, bA.o o 2 rfl, bX.o o 0 rfl, bX.o o 1 rfl, bX.o o 2 rfl⟩) (over_step (‹Over wd _ ∧ _›).1 (by assumption))))
   ((first | (go_at_call 32; refine (toFabric_f _ _ X _ (hR.keep (‹Over wd _ ∧ _›).1) HLN.out).mono ?_; rintro e wa ⟨t0, t1, rfl, hxa, hba⟩) | (go_at_call 27; refine (eqF_same _ _ _ _ X _ (h4.keep (‹Over wd _ ∧ _›).1) hxa.now).mono ?_; rintro e wb ⟨rfl, hbb⟩)))
  rename_i hH
  replace B0 := below_step B0 hH.1; clear hH hbb hba hxa; go_wp2
  go_ret
  exact ⟨rfl, B0⟩

set_option maxRecDepth 100000 in
theorem lifted (os : Os) (started : os.Started) (H : Type) (enc : TypeId × Value → H) :
  ReturnsInHanded {} Tryz.checked os 7 .any (Rows.fnExactHopsSpec.pre6 enc Tryz.prog Tryz.f7 Rows.fnExactHopsRow.domain false) (Rows.fnExactHopsSpec.post enc Tryz.prog Tryz.f7 false true false false) := by
 refine returnsInHanded_of_change (C := Tryz.checked) own started (by kernel_rfl) Tryz.func7
  (ChangeSpec.witness6 (enc := enc) (C := Tryz.checked) false ⟨#[], #[.agg #[.slice none 0 0, .slice none 0 0, .int .i64 0], .int .i64 0, .int .i64 0], []⟩ 8 (by kernel_rfl) (by kernel_rfl) (by kernel_rfl) (by kernel_rfl)) ?_
 intro W base args ds gs before hval0 hW hcnd _; have hval : ∀ (j : Nat) t v, Tryz.f7.params[j]? = some t → args[j]? = some v → Value.okWide Tryz.prog W .any base t v := hval0; have hW' := hW; obtain ⟨p, q, hA0, hV, rfl, hfz, hnd⟩ := hW; have hA : DataW.TrodAll enc Tryz.prog W 0 (fun _ => true) true Tryz.f7.params.toList args.toList ds p := hA0; rw [Tryz.params7] at hA hval; obtain ⟨v0, vs0, d0, ds0, p0, q0, hargs, rfl, rfl, h0, r0⟩ := trodAll_cons hA; obtain ⟨v1, vs1, d1, ds1, p1, q1, rfl, rfl, rfl, h1, r1⟩ := trodAll_cons r0; obtain ⟨v2, vs2, d2, ds2, p2, q2, rfl, rfl, rfl, h2, r2⟩ := trodAll_cons r1; obtain ⟨rfl, rfl, rfl⟩ := trodAll_nil r2; obtain rfl : args = #[v0, v1, v2] := by cases args; simp_all
 obtain ⟨rfl, rfl⟩ := trodVars_none hV; have lt0 : ∀ x ∈ p0, x.block < W.heap.size := by obtain ⟨m, hm⟩ := h0; exact DataW.trod_lt m _ _ _ hm
 have w0 := is_Fabric (hval 0 69 v0 rfl rfl) h0; have lt1 : ∀ x ∈ p1, x.block < W.heap.size := by obtain ⟨m, hm⟩ := h1; exact DataW.trod_lt m _ _ _ hm
 have w1 := is_int (hval 1 3 v1 rfl rfl) h1; have lt2 : ∀ x ∈ p2, x.block < W.heap.size := by obtain ⟨m, hm⟩ := h2; exact DataW.trod_lt m _ _ _ hm
 have w2 := is_int (hval 2 3 v2 rfl rfl) h2; clear hA0 hval0 hval; refine (walk W v0 v1 v2 w0 w1 w2).mono fun e W' ⟨he, bel⟩ => ?_
 subst he
 exact ⟨_, rfl, _, _, _, [], _, [], hW', trodAll_mk1 (shut_bool Tryz.underlying4 _), (trodAll_cons_mk (Below.trod laidOut (by kernel_rfl) (of_decide_eq_true (by kernel_rfl)) h0 bel lt0) (trodAll_cons_mk (Below.trod laidOut (by kernel_rfl) (of_decide_eq_true (by kernel_rfl)) h1 bel lt1) (trodAll_cons_mk (Below.trod laidOut (by kernel_rfl) (of_decide_eq_true (by kernel_rfl)) h2 bel lt2) trodAll_mk0))), rfl, bel.frame _, fun h => by cases h⟩

theorem over : Rows.fnExactHopsRow.holds Tryz.pinned (OpenSpec.ofChange Rows.fnExactHopsSpec) :=
 OpenClaim.holds_of_wide 7 Tryz.f7 rfl rfl rfl rfl rfl rfl rfl ⟨rfl, rfl, rfl, rfl, rfl⟩ rfl rfl rfl rfl rfl (by kernel_rfl) Tryz.func7 (by kernel_rfl)
  (of_decide_eq_true (by kernel_rfl)) (by unfold Func.isWrapper; first | (rw [if_pos (by decide +kernel)]; kernel_rfl) | (rw [if_neg (by decide +kernel)]; exact ⟨rfl, rfl⟩))
  (fun os started H enc _ => lifted os started H enc)

theorem proved : Rows.FnExactHopsSaid := over
end Go.Proofs.YtbcmoofpgffbhabGreat.fnExactHops
