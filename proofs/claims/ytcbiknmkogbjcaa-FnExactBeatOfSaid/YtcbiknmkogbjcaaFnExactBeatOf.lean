/-
  The law 'FnExactBeatOf' returns true for every input, and its arguments read afterwards as before: the given statement 'Rows.FnExactBeatOfSaid'. No condition.
-/
import Derived.Test.YtcbiknmkogbjcaaO1
import Derived.Test.YtcbiknmkogbjcaaL4
namespace Go.Proofs.Ytcbiknmkogbjcaa.fnExactBeatOf
open Go.ChangeShapes Go.WideShapes Go.ChangeAt Go.RowKit Go.Proofs.Ytcbiknmkogbjcaa
set_option linter.unusedVariables false
set_option maxRecDepth 100000
set_option maxHeartbeats 2000000 in
theorem walk (W : World) (v0 : Value) (w0 : Is_Pulse W v0) :
    Calls Try.prog 6 #[v0] W fun e w' => e = .returned (.bool true) ∧ Below W.heap.size W w' := by
  obtain ⟨st, mi, yo, he, mu, rfl⟩ := w0
  obtain ⟨R, hr⟩ : ∃ R, boF st mi yo he mu = R := ⟨_, rfl⟩
  have HR := Lib.hid hr
  clear hr
  obtain ⟨t, ht⟩ : ∃ t, pulB st mi yo he mu = t := ⟨_, rfl⟩
  have HT := Lib.hid ht
  have htt : (t != t) = false := by simp
  clear ht
  obtain ⟨bA, B0, z⟩ := one W [.int .i64 st, .int .i64 mi, .int .i64 yo, .int .i64 he, .int .i64 mu] 23
  clear z
  go_enter Try.func6, Try.ntmps6
  have f0 := bA.c 0 rfl
  have f1 := bA.c 1 rfl
  have f2 := bA.c 2 rfl
  have f3 := bA.c 3 rfl
  have f4 := bA.c 4 rfl
  go_wp2_with fail
  clear f0 f1 f2 f3 f4
  refine (toPu_any _ _ _ _ _ _).mono ?_
  rintro e w1 ⟨rfl, hb⟩
  replace bA := bA.keep hb
  replace B0 := below_step B0 hb
  clear hb
  go_wp2_with fail
  refine (sbo_t _ HT HR).mono ?_
  rintro e w2 ⟨rfl, hb⟩
  replace bA := bA.keep hb
  replace B0 := below_step B0 hb
  clear hb
  obtain ⟨bW, hb, z⟩ := one w2 [.int .i64 R.a, .int .i64 R.b, .int .i64 R.c] 31
  clear z
  replace bA := bA.keep hb
  replace B0 := below_step B0 hb
  clear hb
  have f0 := bA.c 0 rfl
  have f1 := bA.c 1 rfl
  have f2 := bA.c 2 rfl
  have f3 := bA.c 3 rfl
  have f4 := bA.c 4 rfl
  go_wp2_with fail
  clear f0 f1 f2 f3 f4
  refine (toPu_any _ _ _ _ _ _).mono ?_
  rintro e w3 ⟨rfl, hb⟩
  replace bA := bA.keep hb
  replace bW := bW.keep hb
  replace B0 := below_step B0 hb
  clear hb
  go_wp2_with fail
  refine (ibo_t _ HT HR).mono ?_
  rintro e w4 ⟨rfl, hb⟩
  replace bA := bA.keep hb
  replace bW := bW.keep hb
  replace B0 := below_step B0 hb
  clear hb
  obtain ⟨bG, hb, z⟩ := one w4 [.int .i64 R.a, .int .i64 R.b, .int .i64 R.c] 31
  clear z
  replace bA := bA.keep hb
  replace bW := bW.keep hb
  replace B0 := below_step B0 hb
  clear hb
  have x0 := bW.c 0 rfl
  have x1 := bW.c 1 rfl
  have x2 := bW.c 2 rfl
  have y0 := bG.c 0 rfl
  have y1 := bG.c 1 rfl
  have y2 := bG.c 2 rfl
  go_wp2_with fail
  clear x0 x1 x2
  clear y0 y1 y2
  refine (eqBeat_same R.a R.b R.c _).mono ?_
  rintro e w5 ⟨rfl, hb⟩
  replace B0 := below_step B0 hb
  clear hb bW bG
  go_wp2
  go_ret
  exact ⟨rfl, B0⟩

set_option maxRecDepth 100000 in
theorem lifted (os : Os) (started : os.Started) (H : Type) (enc : TypeId × Value → H) :
    ReturnsInHanded {} Try.checked os 6 .any (Rows.fnExactBeatOfSpec.pre6 enc Try.prog Try.f6 Rows.fnExactBeatOfRow.domain false) (Rows.fnExactBeatOfSpec.post enc Try.prog Try.f6 false true false false) := by
  refine returnsInHanded_of_change (C := Try.checked) own started (by kernel_rfl) Try.func6
    (ChangeSpec.witness6 (enc := enc) (C := Try.checked) false ⟨#[], #[.agg #[.int .i64 0, .int .i64 0, .int .i64 0, .int .i64 0, .int .i64 0]], []⟩ 8 (by kernel_rfl) (by kernel_rfl) (by kernel_rfl) (by kernel_rfl)) ?_
  intro W base args ds gs before hval0 hW hcnd _
  have hval : ∀ (j : Nat) t v, Try.f6.params[j]? = some t → args[j]? = some v → Value.okWide Try.prog W .any base t v := hval0
  have hW' := hW
  obtain ⟨p, q, hA0, hV, rfl, hfz, hnd⟩ := hW
  have hA : DataW.TrodAll enc Try.prog W 0 (fun _ => true) true Try.f6.params.toList args.toList ds p := hA0
  rw [Try.params6] at hA hval
  obtain ⟨v0, vs0, d0, ds0, p0, q0, hargs, rfl, rfl, h0, r0⟩ := trodAll_cons hA
  obtain ⟨rfl, rfl, rfl⟩ := trodAll_nil r0
  obtain rfl : args = #[v0] := by cases args; simp_all
  obtain ⟨rfl, rfl⟩ := trodVars_none hV
  have lt0 : ∀ x ∈ p0, x.block < W.heap.size := by obtain ⟨m, hm⟩ := h0; exact DataW.trod_lt m _ _ _ hm
  have w0 := is_Pulse (hval 0 23 v0 rfl rfl) h0
  clear hA0 hval0 hval
  refine (walk W v0 w0).mono fun e W' ⟨he, bel⟩ => ?_
  subst he
  exact ⟨_, rfl, _, _, _, [], _, [], hW', trodAll_mk1 (shut_bool Try.underlying4 _), (trodAll_cons_mk (Below.trod laidOut (by kernel_rfl) (of_decide_eq_true (by kernel_rfl)) h0 bel lt0) trodAll_mk0), rfl, bel.frame _, fun h => by cases h⟩

theorem over : Rows.fnExactBeatOfRow.holds Try.pinned (OpenSpec.ofChange Rows.fnExactBeatOfSpec) :=
  OpenClaim.holds_of_wide 6 Try.f6 rfl rfl rfl rfl rfl rfl rfl ⟨rfl, rfl, rfl, rfl, rfl⟩ rfl rfl rfl rfl rfl (by kernel_rfl) Try.func6 (by kernel_rfl)
    (of_decide_eq_true (by kernel_rfl)) (by unfold Func.isWrapper; first | (rw [if_pos (by decide +kernel)]; kernel_rfl) | (rw [if_neg (by decide +kernel)]; exact ⟨rfl, rfl⟩))
    (fun os started H enc _ => lifted os started H enc)

theorem proved : Rows.FnExactBeatOfSaid := over
end Go.Proofs.Ytcbiknmkogbjcaa.fnExactBeatOf
