/-
  The law 'FnExactBeatOk' returns true for every input, and its arguments read afterwards as before: the given statement 'Rows.FnExactBeatOkSaid'. No condition.
-/
import Derived.Test.YtcbiknmkogbjcaaO1
import Derived.Test.YtcbiknmkogbjcaaL4
namespace Go.Proofs.Ytcbiknmkogbjcaa.fnExactBeatOk
open Go.ChangeShapes Go.WideShapes Go.ChangeAt Go.RowKit Go.Proofs.Ytcbiknmkogbjcaa
set_option linter.unusedVariables false
set_option maxRecDepth 100000
set_option maxHeartbeats 2000000 in
theorem walk (W : World) (v0 : Value) (w0 : Is_Beat W v0) :
    Calls Try.prog 4 #[v0] W fun e w' => e = .returned (.bool true) ∧ Below W.heap.size W w' := by
  obtain ⟨st, mi, yo, rfl⟩ := w0
  obtain ⟨bA, B0, z⟩ := one W [.int .i64 st, .int .i64 mi, .int .i64 yo] 29
  clear z
  obtain ⟨t, ht⟩ : ∃ t, beaB st mi yo = t := ⟨_, rfl⟩
  have HT := Lib.hid ht
  have htt : (t != t) = false := by simp
  clear ht
  go_enter Try.func4, Try.ntmps4
  have f0 := bA.c 0 rfl
  have f1 := bA.c 1 rfl
  have f2 := bA.c 2 rfl
  go_wp2_with fail
  clear f0 f1 f2
  refine (toBt_any _ _ _ _).mono ?_
  rintro e w1 ⟨rfl, hb⟩
  replace bA := bA.keep hb
  replace B0 := below_step B0 hb
  clear hb
  go_wp2_with fail
  refine (sBt_t _ HT).mono ?_
  rintro e w2 ⟨rfl, hb⟩
  replace bA := bA.keep hb
  replace B0 := below_step B0 hb
  clear hb
  have f0 := bA.c 0 rfl
  have f1 := bA.c 1 rfl
  have f2 := bA.c 2 rfl
  go_wp2_with fail
  clear f0 f1 f2
  refine (toBt_any _ _ _ _).mono ?_
  rintro e w1 ⟨rfl, hb⟩
  replace bA := bA.keep hb
  replace B0 := below_step B0 hb
  clear hb
  go_wp2_with fail
  refine (iBt_t _ HT).mono ?_
  rintro e w2 ⟨rfl, hb⟩
  replace bA := bA.keep hb
  replace B0 := below_step B0 hb
  clear hb
  go_wp2
  go_ret
  exact ⟨rfl, B0⟩

set_option maxRecDepth 100000 in
theorem lifted (os : Os) (started : os.Started) (H : Type) (enc : TypeId × Value → H) :
    ReturnsInHanded {} Try.checked os 4 .any (Rows.fnExactBeatOkSpec.pre6 enc Try.prog Try.f4 Rows.fnExactBeatOkRow.domain false) (Rows.fnExactBeatOkSpec.post enc Try.prog Try.f4 false true false false) := by
  refine returnsInHanded_of_change (C := Try.checked) own started (by kernel_rfl) Try.func4
    (ChangeSpec.witness6 (enc := enc) (C := Try.checked) false ⟨#[], #[.agg #[.int .i64 0, .int .i64 0, .int .i64 0]], []⟩ 8 (by kernel_rfl) (by kernel_rfl) (by kernel_rfl) (by kernel_rfl)) ?_
  intro W base args ds gs before hval0 hW hcnd _
  have hval : ∀ (j : Nat) t v, Try.f4.params[j]? = some t → args[j]? = some v → Value.okWide Try.prog W .any base t v := hval0
  have hW' := hW
  obtain ⟨p, q, hA0, hV, rfl, hfz, hnd⟩ := hW
  have hA : DataW.TrodAll enc Try.prog W 0 (fun _ => true) true Try.f4.params.toList args.toList ds p := hA0
  rw [Try.params4] at hA hval
  obtain ⟨v0, vs0, d0, ds0, p0, q0, hargs, rfl, rfl, h0, r0⟩ := trodAll_cons hA
  obtain ⟨rfl, rfl, rfl⟩ := trodAll_nil r0
  obtain rfl : args = #[v0] := by cases args; simp_all
  obtain ⟨rfl, rfl⟩ := trodVars_none hV
  have lt0 : ∀ x ∈ p0, x.block < W.heap.size := by obtain ⟨m, hm⟩ := h0; exact DataW.trod_lt m _ _ _ hm
  have w0 := is_Beat (hval 0 29 v0 rfl rfl) h0
  clear hA0 hval0 hval
  refine (walk W v0 w0).mono fun e W' ⟨he, bel⟩ => ?_
  subst he
  exact ⟨_, rfl, _, _, _, [], _, [], hW', trodAll_mk1 (shut_bool Try.underlying4 _), (trodAll_cons_mk (Below.trod laidOut (by kernel_rfl) (of_decide_eq_true (by kernel_rfl)) h0 bel lt0) trodAll_mk0), rfl, bel.frame _, fun h => by cases h⟩

theorem over : Rows.fnExactBeatOkRow.holds Try.pinned (OpenSpec.ofChange Rows.fnExactBeatOkSpec) :=
  OpenClaim.holds_of_wide 4 Try.f4 rfl rfl rfl rfl rfl rfl rfl ⟨rfl, rfl, rfl, rfl, rfl⟩ rfl rfl rfl rfl rfl (by kernel_rfl) Try.func4 (by kernel_rfl)
    (of_decide_eq_true (by kernel_rfl)) (by unfold Func.isWrapper; first | (rw [if_pos (by decide +kernel)]; kernel_rfl) | (rw [if_neg (by decide +kernel)]; exact ⟨rfl, rfl⟩))
    (fun os started H enc _ => lifted os started H enc)

theorem proved : Rows.FnExactBeatOkSaid := over
end Go.Proofs.Ytcbiknmkogbjcaa.fnExactBeatOk
