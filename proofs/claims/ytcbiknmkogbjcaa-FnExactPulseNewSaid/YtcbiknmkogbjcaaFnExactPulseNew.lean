/-
  The law 'FnExactPulseNew' returns true for every input, and its arguments read afterwards as before: the given statement 'Rows.FnExactPulseNewSaid'. No condition.
-/
import Derived.Test.YtcbiknmkogbjcaaO1
import Derived.Test.YtcbiknmkogbjcaaL4
namespace Go.Proofs.Ytcbiknmkogbjcaa.fnExactPulseNew
open Go.ChangeShapes Go.WideShapes Go.ChangeAt Go.RowKit Go.Proofs.Ytcbiknmkogbjcaa
set_option linter.unusedVariables false
set_option maxRecDepth 100000
set_option maxHeartbeats 2000000 in
theorem walk (W : World) (v0 v1 : Value) (w0 : Is_int W v0) (w1 : Is_int W v1) :
    Calls Try.prog 5 #[v0, v1] W fun e w' => e = .returned (.bool true) ∧ Below W.heap.size W w' := by
  obtain ⟨mi, rfl, -, -⟩ := w0
  obtain ⟨mu, rfl, -, -⟩ := w1
  obtain ⟨R, hr⟩ : ∃ R, pnF mi mu = R := ⟨_, rfl⟩
  have HR := Lib.hid hr
  clear hr
  obtain ⟨t, ht⟩ : ∃ t, pulB 1 mi 0 0 mu = t := ⟨_, rfl⟩
  have HT := Lib.hid ht
  have htt : (t != t) = false := by simp
  clear ht
  have B0 := Below.refl W.heap.size W
  go_enter Try.func5, Try.ntmps5
  go_wp2_with fail
  refine (spn_t _ HT HR).mono ?_
  rintro e w1 ⟨rfl, hb⟩
  replace B0 := below_step B0 hb
  clear hb
  obtain ⟨bW, hb, z⟩ := one w1 [.int .i64 R.a, .int .i64 R.b, .int .i64 R.c, .int .i64 R.d, .int .i64 R.e] 25
  clear z
  replace B0 := below_step B0 hb
  clear hb
  go_wp2_with fail
  refine (ipn_t _ HT HR).mono ?_
  rintro e w2 ⟨rfl, hb⟩
  replace bW := bW.keep hb
  replace B0 := below_step B0 hb
  clear hb
  obtain ⟨bG, hb, z⟩ := one w2 [.int .i64 R.a, .int .i64 R.b, .int .i64 R.c, .int .i64 R.d, .int .i64 R.e] 25
  clear z
  replace bW := bW.keep hb
  replace B0 := below_step B0 hb
  clear hb
  have x0 := bW.c 0 rfl
  have x1 := bW.c 1 rfl
  have x2 := bW.c 2 rfl
  have x3 := bW.c 3 rfl
  have x4 := bW.c 4 rfl
  have y0 := bG.c 0 rfl
  have y1 := bG.c 1 rfl
  have y2 := bG.c 2 rfl
  have y3 := bG.c 3 rfl
  have y4 := bG.c 4 rfl
  go_wp2_with fail
  clear x0 x1 x2 x3 x4
  clear y0 y1 y2 y3 y4
  refine (eqPulse_same R.a R.b R.c R.d R.e _).mono ?_
  rintro e w3 ⟨rfl, hb⟩
  replace B0 := below_step B0 hb
  clear hb bW bG
  go_wp2
  go_ret
  exact ⟨rfl, B0⟩

set_option maxRecDepth 100000 in
theorem lifted (os : Os) (started : os.Started) (H : Type) (enc : TypeId × Value → H) :
    ReturnsInHanded {} Try.checked os 5 .any (Rows.fnExactPulseNewSpec.pre6 enc Try.prog Try.f5 Rows.fnExactPulseNewRow.domain false) (Rows.fnExactPulseNewSpec.post enc Try.prog Try.f5 false true false false) := by
  refine returnsInHanded_of_change (C := Try.checked) own started (by kernel_rfl) Try.func5
    (ChangeSpec.witness6 (enc := enc) (C := Try.checked) false ⟨#[], #[.int .i64 0, .int .i64 0], []⟩ 8 (by kernel_rfl) (by kernel_rfl) (by kernel_rfl) (by kernel_rfl)) ?_
  intro W base args ds gs before hval0 hW hcnd _
  have hval : ∀ (j : Nat) t v, Try.f5.params[j]? = some t → args[j]? = some v → Value.okWide Try.prog W .any base t v := hval0
  have hW' := hW
  obtain ⟨p, q, hA0, hV, rfl, hfz, hnd⟩ := hW
  have hA : DataW.TrodAll enc Try.prog W 0 (fun _ => true) true Try.f5.params.toList args.toList ds p := hA0
  rw [Try.params5] at hA hval
  obtain ⟨v0, vs0, d0, ds0, p0, q0, hargs, rfl, rfl, h0, r0⟩ := trodAll_cons hA
  obtain ⟨v1, vs1, d1, ds1, p1, q1, rfl, rfl, rfl, h1, r1⟩ := trodAll_cons r0
  obtain ⟨rfl, rfl, rfl⟩ := trodAll_nil r1
  obtain rfl : args = #[v0, v1] := by cases args; simp_all
  obtain ⟨rfl, rfl⟩ := trodVars_none hV
  have lt0 : ∀ x ∈ p0, x.block < W.heap.size := by obtain ⟨m, hm⟩ := h0; exact DataW.trod_lt m _ _ _ hm
  have w0 := is_int (hval 0 3 v0 rfl rfl) h0
  have lt1 : ∀ x ∈ p1, x.block < W.heap.size := by obtain ⟨m, hm⟩ := h1; exact DataW.trod_lt m _ _ _ hm
  have w1 := is_int (hval 1 3 v1 rfl rfl) h1
  clear hA0 hval0 hval
  refine (walk W v0 v1 w0 w1).mono fun e W' ⟨he, bel⟩ => ?_
  subst he
  exact ⟨_, rfl, _, _, _, [], _, [], hW', trodAll_mk1 (shut_bool Try.underlying4 _), (trodAll_cons_mk (Below.trod laidOut (by kernel_rfl) (of_decide_eq_true (by kernel_rfl)) h0 bel lt0) (trodAll_cons_mk (Below.trod laidOut (by kernel_rfl) (of_decide_eq_true (by kernel_rfl)) h1 bel lt1) trodAll_mk0)), rfl, bel.frame _, fun h => by cases h⟩

theorem over : Rows.fnExactPulseNewRow.holds Try.pinned (OpenSpec.ofChange Rows.fnExactPulseNewSpec) :=
  OpenClaim.holds_of_wide 5 Try.f5 rfl rfl rfl rfl rfl rfl rfl ⟨rfl, rfl, rfl, rfl, rfl⟩ rfl rfl rfl rfl rfl (by kernel_rfl) Try.func5 (by kernel_rfl)
    (of_decide_eq_true (by kernel_rfl)) (by unfold Func.isWrapper; first | (rw [if_pos (by decide +kernel)]; kernel_rfl) | (rw [if_neg (by decide +kernel)]; exact ⟨rfl, rfl⟩))
    (fun os started H enc _ => lifted os started H enc)

theorem proved : Rows.FnExactPulseNewSaid := over
end Go.Proofs.Ytcbiknmkogbjcaa.fnExactPulseNew
