/-
  The law 'FnExactCovers' returns true for every input, and its arguments read afterwards as before: the given statement 'Rows.FnExactCoversSaid'. No condition.
-/
import Derived.Test.YtcolclomhklokaaO1
import Derived.Test.YtcolclomhklokaaW2
namespace Go.Proofs.Ytcolclomhklokaa.fnExactCovers
open Go.ChangeShapes Go.WideShapes Go.ChangeAt Go.RowKit Go.Proofs.Ytcolclomhklokaa
set_option linter.unusedVariables false
theorem walk (W : World) (v0 v1 : Value) (w0 : Is_Prefix W v0) (w1 : Is_int W v1) :
    Calls Try.prog 5 #[v0, v1] W fun e w' => e = .returned (.bool true) ∧ Below W.heap.size W w' := by
  obtain ⟨a, n, rfl, -, -⟩ := w0
  obtain ⟨x, rfl, -, -⟩ := w1
  obtain ⟨c0, c1, lt, B0⟩ := box2 W (.int .i64 a) (.int .i64 n) 23
  go_enter Try.func5, Try.ntmps5
  go_wp2_with fail
  refine (to_any a n _).mono ?_
  rintro e w1 ⟨rfl, hb1⟩
  have k0 := cell_keep hb1 lt c0
  have k1 := cell_keep hb1 lt c1
  have l1 := Nat.lt_of_lt_of_le lt hb1.size
  have B1 := below_step B0 hb1
  clear hb1 B0 c0 c1 lt
  go_wp2_with fail
  refine (scov_any a n x _).mono ?_
  rintro e w2 ⟨rfl, hb2⟩
  have m0 := cell_keep hb2 l1 k0
  have m1 := cell_keep hb2 l1 k1
  have B2 := below_step B1 hb2
  clear hb2 B1 k0 k1 l1
  go_wp2_with fail
  refine (to_any a n _).mono ?_
  rintro e w3 ⟨rfl, hb3⟩
  have B3 := below_step B2 hb3
  clear hb3 B2 m0 m1
  go_wp2_with fail
  refine (icov_any a n x _).mono ?_
  rintro e w4 ⟨rfl, hb4⟩
  have B4 := below_step B3 hb4
  clear hb4 B3
  go_wp2
  go_ret
  exact ⟨rfl, B4⟩

set_option maxRecDepth 100000 in
theorem lifted (os : Os) (started : os.Started) (H : Type) (enc : TypeId × Value → H) :
    ReturnsInHanded {} Try.checked os 5 .any (Rows.fnExactCoversSpec.pre6 enc Try.prog Try.f5 Rows.fnExactCoversRow.domain false) (Rows.fnExactCoversSpec.post enc Try.prog Try.f5 false true false false) := by
  refine returnsInHanded_of_change (C := Try.checked) own started (by kernel_rfl) Try.func5
    (ChangeSpec.witness6 (enc := enc) (C := Try.checked) false ⟨#[], #[.agg #[.int .i64 0, .int .i64 0], .int .i64 0], []⟩ 8 (by kernel_rfl) (by kernel_rfl) (by kernel_rfl) (by kernel_rfl)) ?_
  intro W base args ds gs before hval0 hW hcnd _
  have hval : ∀ (j : Nat) t v, Try.f5.params[j]? = some t → args[j]? = some v → Value.okWide Try.prog W .any base t v := hval0
  have hW' := hW
  obtain ⟨p, q, hA0, hV, rfl, hfz, hnd⟩ := hW
  have hA : DataW.TrodAll enc Try.prog W 0 (fun _ => true) true Try.f5.params.toList args.toList ds p := hA0
  rw [Try.params5] at hA hval
  obtain ⟨v0, vs0, d0, ds0, p0, q0, hargs, rfl, rfl, h0, r0⟩ := trodAll_cons hA
  obtain ⟨v1, vs1, d1, ds1, p1, q1, rfl, rfl, rfl, h1, r1⟩ := trodAll_cons r0
  obtain ⟨rfl, rfl, rfl⟩ := trodAll_nil r1
  obtain rfl : args = #[v0, v1] := by cases args; simp_all
  obtain ⟨rfl, rfl⟩ := trodVars_none hV
  have lt0 : ∀ x ∈ p0, x.block < W.heap.size := by obtain ⟨m, hm⟩ := h0; exact DataW.trod_lt m _ _ _ hm
  have w0 := is_Prefix (hval 0 23 v0 rfl rfl) h0
  have lt1 : ∀ x ∈ p1, x.block < W.heap.size := by obtain ⟨m, hm⟩ := h1; exact DataW.trod_lt m _ _ _ hm
  have w1 := is_int (hval 1 3 v1 rfl rfl) h1
  clear hA0 hval0 hval
  refine (walk W v0 v1 w0 w1).mono fun e W' ⟨he, bel⟩ => ?_
  subst he
  exact ⟨_, rfl, _, _, _, [], _, [], hW', trodAll_mk1 (shut_bool Try.underlying4 _), (trodAll_cons_mk (Below.trod laidOut (by kernel_rfl) (of_decide_eq_true (by kernel_rfl)) h0 bel lt0) (trodAll_cons_mk (Below.trod laidOut (by kernel_rfl) (of_decide_eq_true (by kernel_rfl)) h1 bel lt1) trodAll_mk0)), rfl, bel.frame _, fun h => by cases h⟩

theorem over : Rows.fnExactCoversRow.holds Try.pinned (OpenSpec.ofChange Rows.fnExactCoversSpec) :=
  OpenClaim.holds_of_wide 5 Try.f5 rfl rfl rfl rfl rfl rfl rfl ⟨rfl, rfl, rfl, rfl, rfl⟩ rfl rfl rfl rfl rfl (by kernel_rfl) Try.func5 (by kernel_rfl)
    (of_decide_eq_true (by kernel_rfl)) (by unfold Func.isWrapper; first | (rw [if_pos (by decide +kernel)]; kernel_rfl) | (rw [if_neg (by decide +kernel)]; exact ⟨rfl, rfl⟩))
    (fun os started H enc _ => lifted os started H enc)

theorem proved : Rows.FnExactCoversSaid := over
end Go.Proofs.Ytcolclomhklokaa.fnExactCovers
