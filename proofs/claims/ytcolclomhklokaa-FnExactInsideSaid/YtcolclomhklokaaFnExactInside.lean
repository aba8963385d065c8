/-
  The law 'FnExactInside' returns true for every input, and its arguments read afterwards as before: the given statement 'Rows.FnExactInsideSaid'. No condition.
-/
import Derived.Test.YtcolclomhklokaaO1
import Derived.Test.YtcolclomhklokaaP2
namespace Go.Proofs.Ytcolclomhklokaa.fnExactInside
open Go.ChangeShapes Go.WideShapes Go.ChangeAt Go.RowKit Go.Proofs.Ytcolclomhklokaa
set_option linter.unusedVariables false
theorem walk (W : World) (v0 v1 : Value) (w0 : Is_Prefix W v0) (w1 : Is_Prefix W v1) :
    Calls Try.prog 6 #[v0, v1] W fun e w' => e = .returned (.bool true) ∧ Below W.heap.size W w' := by
  obtain ⟨a, n, rfl, -, -⟩ := w0
  obtain ⟨b, m, rfl, fb, fm⟩ := w1
  obtain ⟨c0, c1, lt, B0⟩ := box2 W (.int .i64 a) (.int .i64 n) 23
  obtain ⟨d0, d1, ld, D0⟩ := box2 (W.alloc (.cells #[.int .i64 a, .int .i64 n] 23)) (.int .i64 b) (.int .i64 m) 23
  have lt2 := Nat.lt_of_lt_of_le lt D0.size
  have e0 := cell_keep D0 lt c0
  have e1 := cell_keep D0 lt c1
  have BD := below_step B0 D0
  clear c0 c1 lt B0 D0
  have q0 : (W.alloc (.cells #[.int .i64 a, .int .i64 n] 23)).heap.size = W.heap.size + 1 := by simp
  rw [q0] at d0 d1 ld
  clear q0
  go_enter Try.func6, Try.ntmps6
  go_wp2_with fail
  refine wp_region_class (C := Over ((W.alloc (.cells #[.int .i64 a, .int .i64 n] 23)).alloc (.cells #[.int .i64 b, .int .i64 m] 23))) (by kernel_rfl) (by kernel_rfl) (over_drew _) ?_
  repeat (first | go_big_quiet_skip | (go_big_quiet_want; go_big_quiet_op; go_big_quiet_on) | (go_big_quiet_want; go_big_quiet_op; apply Exists.intro; refine ⟨fun w' hC => ?_, ?_⟩; ((first | (go_at_call 11; refine (to_any _ _ _).mono ?_; rintro e w1 ⟨rfl, hb1⟩; exact ⟨rfl, over_step hC hb1⟩) | (go_at_call 17; refine (sins_any a n b m _).mono ?_; rintro e w1 ⟨rfl, hb1⟩; exact ⟨rfl, over_step hC hb1⟩))); go_big_quiet_on) | (go_big_quiet_want; apply Exists.intro; refine ⟨fun w' hC => ?_, ?_⟩; (have k0 := over_cell hC lt2 e0; have k1 := over_cell hC lt2 e1; have k2 := over_cell hC ld d0; have k3 := over_cell hC ld d1; simp [Oper.quietAt, Oper.quietUpon, go_sem, k0, k1, k2, k3]; first | done | rfl); go_big_quiet_on; simp only [Act.put, List.setIfInBounds_toArray, List.set_cons_zero, List.set_cons_succ]))
  refine wpQuiet_nil ?_
  intro wr hC
  have k0 := over_cell hC lt2 e0
  have k1 := over_cell hC lt2 e1
  have k2 := over_cell hC ld d0
  have k3 := over_cell hC ld d1
  replace lt2 := Nat.lt_of_lt_of_le lt2 (over_below hC).size
  replace ld := Nat.lt_of_lt_of_le ld (over_below hC).size
  replace BD := below_step BD (over_below hC)
  clear hC e0 e1 d0 d1
  go_wp2_with fail
  refine wp_region_class (C := Over (wr)) (by kernel_rfl) (by kernel_rfl) (over_drew _) ?_
  repeat (first | go_big_quiet_skip | (go_big_quiet_want; go_big_quiet_op; go_big_quiet_on) | (go_big_quiet_want; go_big_quiet_op; apply Exists.intro; refine ⟨fun w' hC => ?_, ?_⟩; ((first | (go_at_call 11; refine (to_any _ _ _).mono ?_; rintro e w1 ⟨rfl, hb1⟩; exact ⟨rfl, over_step hC hb1⟩) | (go_at_call 18; refine (iins_any a n b m _ fb fm).mono ?_; rintro e w1 ⟨rfl, hb1⟩; exact ⟨rfl, over_step hC hb1⟩))); go_big_quiet_on) | (go_big_quiet_want; apply Exists.intro; refine ⟨fun w' hC => ?_, ?_⟩; (have k0 := over_cell hC lt2 k0; have k1 := over_cell hC lt2 k1; have k2 := over_cell hC ld k2; have k3 := over_cell hC ld k3; simp [Oper.quietAt, Oper.quietUpon, go_sem, k0, k1, k2, k3]; first | done | rfl); go_big_quiet_on; simp only [Act.put, List.setIfInBounds_toArray, List.set_cons_zero, List.set_cons_succ]))
  refine wpQuiet_nil ?_
  intro ws hC
  have k0 := over_cell hC lt2 k0
  have k1 := over_cell hC lt2 k1
  have k2 := over_cell hC ld k2
  have k3 := over_cell hC ld k3
  replace BD := below_step BD (over_below hC)
  clear hC
  go_wp2
  go_ret
  exact ⟨rfl, BD⟩

set_option maxRecDepth 100000 in
theorem lifted (os : Os) (started : os.Started) (H : Type) (enc : TypeId × Value → H) :
    ReturnsInHanded {} Try.checked os 6 .any (Rows.fnExactInsideSpec.pre6 enc Try.prog Try.f6 Rows.fnExactInsideRow.domain false) (Rows.fnExactInsideSpec.post enc Try.prog Try.f6 false true false false) := by
  refine returnsInHanded_of_change (C := Try.checked) own started (by kernel_rfl) Try.func6
    (ChangeSpec.witness6 (enc := enc) (C := Try.checked) false ⟨#[], #[.agg #[.int .i64 0, .int .i64 0], .agg #[.int .i64 0, .int .i64 0]], []⟩ 8 (by kernel_rfl) (by kernel_rfl) (by kernel_rfl) (by kernel_rfl)) ?_
  intro W base args ds gs before hval0 hW hcnd _
  have hval : ∀ (j : Nat) t v, Try.f6.params[j]? = some t → args[j]? = some v → Value.okWide Try.prog W .any base t v := hval0
  have hW' := hW
  obtain ⟨p, q, hA0, hV, rfl, hfz, hnd⟩ := hW
  have hA : DataW.TrodAll enc Try.prog W 0 (fun _ => true) true Try.f6.params.toList args.toList ds p := hA0
  rw [Try.params6] at hA hval
  obtain ⟨v0, vs0, d0, ds0, p0, q0, hargs, rfl, rfl, h0, r0⟩ := trodAll_cons hA
  obtain ⟨v1, vs1, d1, ds1, p1, q1, rfl, rfl, rfl, h1, r1⟩ := trodAll_cons r0
  obtain ⟨rfl, rfl, rfl⟩ := trodAll_nil r1
  obtain rfl : args = #[v0, v1] := by cases args; simp_all
  obtain ⟨rfl, rfl⟩ := trodVars_none hV
  have lt0 : ∀ x ∈ p0, x.block < W.heap.size := by obtain ⟨m, hm⟩ := h0; exact DataW.trod_lt m _ _ _ hm
  have w0 := is_Prefix (hval 0 23 v0 rfl rfl) h0
  have lt1 : ∀ x ∈ p1, x.block < W.heap.size := by obtain ⟨m, hm⟩ := h1; exact DataW.trod_lt m _ _ _ hm
  have w1 := is_Prefix (hval 1 23 v1 rfl rfl) h1
  clear hA0 hval0 hval
  refine (walk W v0 v1 w0 w1).mono fun e W' ⟨he, bel⟩ => ?_
  subst he
  exact ⟨_, rfl, _, _, _, [], _, [], hW', trodAll_mk1 (shut_bool Try.underlying4 _), (trodAll_cons_mk (Below.trod laidOut (by kernel_rfl) (of_decide_eq_true (by kernel_rfl)) h0 bel lt0) (trodAll_cons_mk (Below.trod laidOut (by kernel_rfl) (of_decide_eq_true (by kernel_rfl)) h1 bel lt1) trodAll_mk0)), rfl, bel.frame _, fun h => by cases h⟩

theorem over : Rows.fnExactInsideRow.holds Try.pinned (OpenSpec.ofChange Rows.fnExactInsideSpec) :=
  OpenClaim.holds_of_wide 6 Try.f6 rfl rfl rfl rfl rfl rfl rfl ⟨rfl, rfl, rfl, rfl, rfl⟩ rfl rfl rfl rfl rfl (by kernel_rfl) Try.func6 (by kernel_rfl)
    (of_decide_eq_true (by kernel_rfl)) (by unfold Func.isWrapper; first | (rw [if_pos (by decide +kernel)]; kernel_rfl) | (rw [if_neg (by decide +kernel)]; exact ⟨rfl, rfl⟩))
    (fun os started H enc _ => lifted os started H enc)

theorem proved : Rows.FnExactInsideSaid := over
end Go.Proofs.Ytcolclomhklokaa.fnExactInside
