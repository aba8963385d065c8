/-
  The law 'FnExactSessionOk' returns true for every input, and its arguments read afterwards as before: the given statement 'Rows.FnExactSessionOkSaid'. No condition.
-/
import Derived.Test.YtaffcicgljoajaaO1
import Derived.Test.YtaffcicgljoajaaS2
import Derived.Test.YtaffcicgljoajaaS3
namespace Go.Proofs.Ytaffcicgljoajaa.fnExactSessionOk
open Go.ChangeShapes Go.WideShapes Go.ChangeAt Go.RowKit Go.Proofs.Ytaffcicgljoajaa
set_option linter.unusedVariables false
set_option maxRecDepth 100000
set_option maxHeartbeats 2000000 in
theorem walk (W : World) (v0 v1 : Value) (w0 : Is_Conf W v0) (w1 : Is_Session W v1) :
    Calls Try.prog 5 #[v0, v1] W fun e w' => e = .returned (.bool true) ∧ Below W.heap.size W w' := by
  obtain ⟨sa, ix, ho, pe, rfl⟩ := w0
  obtain ⟨st, hd, he, ke, pr, rfl⟩ := w1
  obtain ⟨bA, bS, B0, z⟩ := two W [.int .i64 sa, .int .i64 ix, .int .i64 ho, .int .i64 pe] [.int .i64 st, .int .i64 hd, .int .i64 he, .int .i64 ke, .int .i64 pr] 38 44
  clear z
  obtain ⟨t, ht⟩ : ∃ t, sesB sa ix ho pe st hd he ke pr = t := ⟨_, rfl⟩
  have HT := Lib.hid ht
  have htt : (t != t) = false := by simp
  clear ht
  go_enter Try.func5, Try.ntmps5
  go_wp2_with fail
  refine wp_region_class (C := Over ((W.alloc (.cells #[.int .i64 sa, .int .i64 ix, .int .i64 ho, .int .i64 pe] 38)).alloc (.cells #[.int .i64 st, .int .i64 hd, .int .i64 he, .int .i64 ke, .int .i64 pr] 44))) (by kernel_rfl) (by kernel_rfl) (over_drew _) ?_
  repeat (first | go_big_quiet_skip | (go_big_quiet_want; go_big_quiet_op; go_big_quiet_on) | (go_big_quiet_want; go_big_quiet_op; apply Exists.intro; refine ⟨fun w' hC => ?_, ?_⟩; ((first | (go_at_call 18; refine (toCf_any _ _ _ _ _).mono ?_; rintro e w1 ⟨rfl, hb1⟩; exact ⟨rfl, over_step hC hb1⟩) | (go_at_call 21; refine (toSs_any _ _ _ _ _ _).mono ?_; rintro e w1 ⟨rfl, hb1⟩; exact ⟨rfl, over_step hC hb1⟩) | (go_at_call 20; refine (sSs_t _ HT).mono ?_; rintro e w1 ⟨rfl, hb1⟩; exact ⟨rfl, over_step hC hb1⟩))); go_big_quiet_on) | (go_big_quiet_want; apply Exists.intro; refine ⟨fun w' hC => ?_, ?_⟩; (have k0 := over_cell hC bA.lt (bA.c 0 rfl); have k1 := over_cell hC bA.lt (bA.c 1 rfl); have k2 := over_cell hC bA.lt (bA.c 2 rfl); have k3 := over_cell hC bA.lt (bA.c 3 rfl); have k4 := over_cell hC bS.lt (bS.c 0 rfl); have k5 := over_cell hC bS.lt (bS.c 1 rfl); have k6 := over_cell hC bS.lt (bS.c 2 rfl); have k7 := over_cell hC bS.lt (bS.c 3 rfl); have k8 := over_cell hC bS.lt (bS.c 4 rfl); simp [Oper.quietAt, Oper.quietUpon, go_sem, k0, k1, k2, k3, k4, k5, k6, k7, k8]; first | done | rfl); go_big_quiet_on; simp only [Act.put, List.setIfInBounds_toArray, List.set_cons_zero, List.set_cons_succ]))
  refine wpQuiet_nil ?_
  intro wr hC
  have k0 := over_cell hC bA.lt (bA.c 0 rfl)
  have k1 := over_cell hC bA.lt (bA.c 1 rfl)
  have k2 := over_cell hC bA.lt (bA.c 2 rfl)
  have k3 := over_cell hC bA.lt (bA.c 3 rfl)
  have k4 := over_cell hC bS.lt (bS.c 0 rfl)
  have k5 := over_cell hC bS.lt (bS.c 1 rfl)
  have k6 := over_cell hC bS.lt (bS.c 2 rfl)
  have k7 := over_cell hC bS.lt (bS.c 3 rfl)
  have k8 := over_cell hC bS.lt (bS.c 4 rfl)
  replace bA := bA.keep (over_below hC)
  replace bS := bS.keep (over_below hC)
  replace B0 := below_step B0 (over_below hC)
  clear hC k0 k1 k2 k3 k4 k5 k6 k7 k8
  go_wp2_with fail
  refine wp_region_class (C := Over (wr)) (by kernel_rfl) (by kernel_rfl) (over_drew _) ?_
  repeat (first | go_big_quiet_skip | (go_big_quiet_want; go_big_quiet_op; go_big_quiet_on) | (go_big_quiet_want; go_big_quiet_op; apply Exists.intro; refine ⟨fun w' hC => ?_, ?_⟩; ((first | (go_at_call 18; refine (toCf_any _ _ _ _ _).mono ?_; rintro e w1 ⟨rfl, hb1⟩; exact ⟨rfl, over_step hC hb1⟩) | (go_at_call 21; refine (toSs_any _ _ _ _ _ _).mono ?_; rintro e w1 ⟨rfl, hb1⟩; exact ⟨rfl, over_step hC hb1⟩) | (go_at_call 22; refine (iSs_t _ HT).mono ?_; rintro e w1 ⟨rfl, hb1⟩; exact ⟨rfl, over_step hC hb1⟩))); go_big_quiet_on) | (go_big_quiet_want; apply Exists.intro; refine ⟨fun w' hC => ?_, ?_⟩; (have k0 := over_cell hC bA.lt (bA.c 0 rfl); have k1 := over_cell hC bA.lt (bA.c 1 rfl); have k2 := over_cell hC bA.lt (bA.c 2 rfl); have k3 := over_cell hC bA.lt (bA.c 3 rfl); have k4 := over_cell hC bS.lt (bS.c 0 rfl); have k5 := over_cell hC bS.lt (bS.c 1 rfl); have k6 := over_cell hC bS.lt (bS.c 2 rfl); have k7 := over_cell hC bS.lt (bS.c 3 rfl); have k8 := over_cell hC bS.lt (bS.c 4 rfl); simp [Oper.quietAt, Oper.quietUpon, go_sem, k0, k1, k2, k3, k4, k5, k6, k7, k8]; first | done | rfl); go_big_quiet_on; simp only [Act.put, List.setIfInBounds_toArray, List.set_cons_zero, List.set_cons_succ]))
  refine wpQuiet_nil ?_
  intro ws hC
  have k0 := over_cell hC bA.lt (bA.c 0 rfl)
  have k1 := over_cell hC bA.lt (bA.c 1 rfl)
  have k2 := over_cell hC bA.lt (bA.c 2 rfl)
  have k3 := over_cell hC bA.lt (bA.c 3 rfl)
  have k4 := over_cell hC bS.lt (bS.c 0 rfl)
  have k5 := over_cell hC bS.lt (bS.c 1 rfl)
  have k6 := over_cell hC bS.lt (bS.c 2 rfl)
  have k7 := over_cell hC bS.lt (bS.c 3 rfl)
  have k8 := over_cell hC bS.lt (bS.c 4 rfl)
  replace bA := bA.keep (over_below hC)
  replace bS := bS.keep (over_below hC)
  replace B0 := below_step B0 (over_below hC)
  clear hC k0 k1 k2 k3 k4 k5 k6 k7 k8
  go_wp2
  go_ret
  exact ⟨rfl, B0⟩

set_option maxRecDepth 100000 in
theorem lifted (os : Os) (started : os.Started) (H : Type) (enc : TypeId × Value → H) :
    ReturnsInHanded {} Try.checked os 5 .any (Rows.fnExactSessionOkSpec.pre6 enc Try.prog Try.f5 Rows.fnExactSessionOkRow.domain false) (Rows.fnExactSessionOkSpec.post enc Try.prog Try.f5 false true false false) := by
  refine returnsInHanded_of_change (C := Try.checked) own started (by kernel_rfl) Try.func5
    (ChangeSpec.witness6 (enc := enc) (C := Try.checked) false ⟨#[], #[.agg #[.int .i64 0, .int .i64 0, .int .i64 0, .int .i64 0], .agg #[.int .i64 0, .int .i64 0, .int .i64 0, .int .i64 0, .int .i64 0]], []⟩ 8 (by kernel_rfl) (by kernel_rfl) (by kernel_rfl) (by kernel_rfl)) ?_
  intro W base args ds gs before hval0 hW hcnd _
  have hval : ∀ (j : Nat) t v, Try.f5.params[j]? = some t → args[j]? = some v → Value.okWide Try.prog W .any base t v := hval0
  have hW' := hW
  obtain ⟨p, q, hA0, hV, rfl, hfz, hnd⟩ := hW
  have hA : DataW.TrodAll enc Try.prog W 0 (fun _ => true) true Try.f5.params.toList args.toList ds p := hA0
  rw [Try.params5] at hA hval
  obtain ⟨v0, vs0, d0, ds0, p0, q0, hargs, rfl, rfl, h0, r0⟩ := trodAll_cons hA
  obtain ⟨v1, vs1, d1, ds1, p1, q1, rfl, rfl, rfl, h1, r1⟩ := trodAll_cons r0
  obtain ⟨rfl, rfl, rfl⟩ := trodAll_nil r1
  obtain rfl : args = #[v0, v1] := by cases args; simp_all
  obtain ⟨rfl, rfl⟩ := trodVars_none hV
  have lt0 : ∀ x ∈ p0, x.block < W.heap.size := by obtain ⟨m, hm⟩ := h0; exact DataW.trod_lt m _ _ _ hm
  have w0 := is_Conf (hval 0 38 v0 rfl rfl) h0
  have lt1 : ∀ x ∈ p1, x.block < W.heap.size := by obtain ⟨m, hm⟩ := h1; exact DataW.trod_lt m _ _ _ hm
  have w1 := is_Session (hval 1 44 v1 rfl rfl) h1
  clear hA0 hval0 hval
  refine (walk W v0 v1 w0 w1).mono fun e W' ⟨he, bel⟩ => ?_
  subst he
  exact ⟨_, rfl, _, _, _, [], _, [], hW', trodAll_mk1 (shut_bool Try.underlying4 _), (trodAll_cons_mk (Below.trod laidOut (by kernel_rfl) (of_decide_eq_true (by kernel_rfl)) h0 bel lt0) (trodAll_cons_mk (Below.trod laidOut (by kernel_rfl) (of_decide_eq_true (by kernel_rfl)) h1 bel lt1) trodAll_mk0)), rfl, bel.frame _, fun h => by cases h⟩

theorem over : Rows.fnExactSessionOkRow.holds Try.pinned (OpenSpec.ofChange Rows.fnExactSessionOkSpec) :=
  OpenClaim.holds_of_wide 5 Try.f5 rfl rfl rfl rfl rfl rfl rfl ⟨rfl, rfl, rfl, rfl, rfl⟩ rfl rfl rfl rfl rfl (by kernel_rfl) Try.func5 (by kernel_rfl)
    (of_decide_eq_true (by kernel_rfl)) (by unfold Func.isWrapper; first | (rw [if_pos (by decide +kernel)]; kernel_rfl) | (rw [if_neg (by decide +kernel)]; exact ⟨rfl, rfl⟩))
    (fun os started H enc _ => lifted os started H enc)

theorem proved : Rows.FnExactSessionOkSaid := over
end Go.Proofs.Ytaffcicgljoajaa.fnExactSessionOk
