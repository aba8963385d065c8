/-
  The law 'FnExactPrefixOk' returns true for every input, and its arguments read afterwards as before: the given statement 'Rows.FnExactPrefixOkSaid'. No condition.
-/
import Derived.Test.YtcolclomhklokaaO1
import Derived.Test.YtcolclomhklokaaW1
namespace Go.Proofs.Ytcolclomhklokaa.fnExactPrefixOk
open Go.ChangeShapes Go.WideShapes Go.ChangeAt Go.RowKit Go.Proofs.Ytcolclomhklokaa
set_option linter.unusedVariables false
theorem walk (W : World) (v0 : Value) (w0 : Is_Prefix W v0) :
    Calls Try.prog 3 #[v0] W fun e w' => e = .returned (.bool true) ∧ Below W.heap.size W w' := by
  obtain ⟨a, n, rfl, -, -⟩ := w0
  go_enter Try.func3, Try.ntmps3
  go_wp2_with fail
  refine (to_any a n _).mono ?_
  rintro e w1 ⟨rfl, hb1⟩
  have c0 : w1.cell? ⟨W.heap.size, 0, none⟩ = some (.int .i64 a) := cell_keep hb1 (by simp) (by simp)
  have c1 : w1.cell? ⟨W.heap.size, 1, none⟩ = some (.int .i64 n) := cell_keep hb1 (by simp) (by simp)
  have l1 : W.heap.size < w1.heap.size := by have := hb1.size; simp at this; omega
  have B1 : Below W.heap.size W w1 := ((Below.refl _ _).alloc (Nat.le_refl _) _).trans (hb1.mono (by simp))
  clear hb1
  go_wp2_with fail
  refine (spok_any a n _).mono ?_
  rintro e w2 ⟨rfl, hb2⟩
  have c2 := cell_keep hb2 l1 c0
  have c3 := cell_keep hb2 l1 c1
  have l2 : W.heap.size < w2.heap.size := Nat.lt_of_lt_of_le l1 hb2.size
  have B2 := below_step B1 hb2
  clear hb2 c0 c1 l1 B1
  go_wp2_with fail
  refine (to_any a n _).mono ?_
  rintro e w3 ⟨rfl, hb3⟩
  have B3 := below_step B2 hb3
  clear hb3 c2 c3 l2 B2
  go_wp2_with fail
  refine (ipok_any a n _).mono ?_
  rintro e w4 ⟨rfl, hb4⟩
  have B4 := below_step B3 hb4
  clear hb4 B3
  go_wp2
  go_ret
  exact ⟨rfl, B4⟩

set_option maxRecDepth 100000 in
theorem lifted (os : Os) (started : os.Started) (H : Type) (enc : TypeId × Value → H) :
    ReturnsInHanded {} Try.checked os 3 .any (Rows.fnExactPrefixOkSpec.pre6 enc Try.prog Try.f3 Rows.fnExactPrefixOkRow.domain false) (Rows.fnExactPrefixOkSpec.post enc Try.prog Try.f3 false true false false) := by
  refine returnsInHanded_of_change (C := Try.checked) own started (by kernel_rfl) Try.func3
    (ChangeSpec.witness6 (enc := enc) (C := Try.checked) false ⟨#[], #[.agg #[.int .i64 0, .int .i64 0]], []⟩ 8 (by kernel_rfl) (by kernel_rfl) (by kernel_rfl) (by kernel_rfl)) ?_
  intro W base args ds gs before hval0 hW hcnd _
  have hval : ∀ (j : Nat) t v, Try.f3.params[j]? = some t → args[j]? = some v → Value.okWide Try.prog W .any base t v := hval0
  have hW' := hW
  obtain ⟨p, q, hA0, hV, rfl, hfz, hnd⟩ := hW
  have hA : DataW.TrodAll enc Try.prog W 0 (fun _ => true) true Try.f3.params.toList args.toList ds p := hA0
  rw [Try.params3] at hA hval
  obtain ⟨v0, vs0, d0, ds0, p0, q0, hargs, rfl, rfl, h0, r0⟩ := trodAll_cons hA
  obtain ⟨rfl, rfl, rfl⟩ := trodAll_nil r0
  obtain rfl : args = #[v0] := by cases args; simp_all
  obtain ⟨rfl, rfl⟩ := trodVars_none hV
  have lt0 : ∀ x ∈ p0, x.block < W.heap.size := by obtain ⟨m, hm⟩ := h0; exact DataW.trod_lt m _ _ _ hm
  have w0 := is_Prefix (hval 0 23 v0 rfl rfl) h0
  clear hA0 hval0 hval
  refine (walk W v0 w0).mono fun e W' ⟨he, bel⟩ => ?_
  subst he
  exact ⟨_, rfl, _, _, _, [], _, [], hW', trodAll_mk1 (shut_bool Try.underlying4 _), (trodAll_cons_mk (Below.trod laidOut (by kernel_rfl) (of_decide_eq_true (by kernel_rfl)) h0 bel lt0) trodAll_mk0), rfl, bel.frame _, fun h => by cases h⟩

theorem over : Rows.fnExactPrefixOkRow.holds Try.pinned (OpenSpec.ofChange Rows.fnExactPrefixOkSpec) :=
  OpenClaim.holds_of_wide 3 Try.f3 rfl rfl rfl rfl rfl rfl rfl ⟨rfl, rfl, rfl, rfl, rfl⟩ rfl rfl rfl rfl rfl (by kernel_rfl) Try.func3 (by kernel_rfl)
    (of_decide_eq_true (by kernel_rfl)) (by unfold Func.isWrapper; first | (rw [if_pos (by decide +kernel)]; kernel_rfl) | (rw [if_neg (by decide +kernel)]; exact ⟨rfl, rfl⟩))
    (fun os started H enc _ => lifted os started H enc)

theorem proved : Rows.FnExactPrefixOkSaid := over
end Go.Proofs.Ytcolclomhklokaa.fnExactPrefixOk
