/-
  Contracts of Inside of the program and of the model. No condition beside that the numbers fit their kind.
-/
import Derived.Test.YtichmbbpjkikaaaDoorP1
namespace Go.Proofs.YtichmbbpjkikaaaDoor
open Go.ChangeShapes Go.WideShapes Go.ChangeAt Go.RowKit Go.BigFrame Go.Maps
set_option linter.unusedVariables false
set_option maxRecDepth 100000

theorem hd_hd (a m : Int) : hd (hd a m) m = hd a m := by
  unfold hd
  have hp : (2 : Int) ^ (16 - m).toNat ≠ 0 := Int.ne_of_gt (Int.pow_pos (by omega))
  rw [Int.mul_ediv_cancel _ hp]
theorem insB_look {a n b m : Int} (h : pokB a n = true) : decide (0 ≤ m ∧ m ≤ n ∧ hd a m = b) = insB a n b m := by
  obtain ⟨h0, h1, h2, h3, _⟩ := pok_of h
  by_cases hm : 0 ≤ m ∧ m ≤ n ∧ hd a m = b
  · obtain ⟨q0, q1, rfl⟩ := hm
    obtain ⟨g0, g1⟩ := hd_bd a m h0 h1
    simp [insB, h, q0, q1, pokB_t g0 g1 q0 (by omega) (hd_hd a m)]
  · rw [decide_eq_false hm]
    unfold insB
    rw [h]
    cases hp : pokB b m
    · simp
    · obtain ⟨_, _, p2, _, _⟩ := pok_of hp
      simp only [Bool.and_self, Bool.true_and]
      by_cases q1 : m ≤ n
      · have : hd a m ≠ b := fun e => hm ⟨p2, q1, e⟩
        simp [q1, this]
      · simp [q1]

theorem held4 {V w : World} {b g : Nat} {u v x y : Value} (lt : b < V.heap.size) (c0 : V.cell? ⟨b, 0, none⟩ = some u) (c1 : V.cell? ⟨b, 1, none⟩ = some v) (ld : g < V.heap.size) (d0 : V.cell? ⟨g, 0, none⟩ = some x) (d1 : V.cell? ⟨g, 1, none⟩ = some y) (h : Over V w) :
    Over V w ∧ w.cell? ⟨b, 0, none⟩ = some u ∧ w.cell? ⟨b, 1, none⟩ = some v ∧ w.cell? ⟨g, 0, none⟩ = some x ∧ w.cell? ⟨g, 1, none⟩ = some y :=
  ⟨h, over_cell h lt c0, over_cell h lt c1, over_cell h ld d0, over_cell h ld d1⟩
theorem iins_any (a n b m : Int) (w : World) (hb : fits b) (hm : fits m) : Calls Tryd.prog 21 #[.agg #[.int .i64 a, .int .i64 n], .agg #[.int .i64 b, .int .i64 m]] w fun e w' => e = .returned (.bool (insB a n b m)) ∧ Below w.heap.size w w' := by
  cases hp : pokB a n
  · rw [show insB a n b m = false by simp [insB, hp]]
    have H1 := Lib.hid hp
    clear hp
    obtain ⟨c0, c1, lt, B0⟩ := box2 w (.int .i64 a) (.int .i64 n) 24
    obtain ⟨d0, d1, ld, D0⟩ := box2 (w.alloc (.cells #[.int .i64 a, .int .i64 n] 24)) (.int .i64 b) (.int .i64 m) 24
    have lt2 := Nat.lt_of_lt_of_le lt D0.size
    have e0 := cell_keep D0 lt c0
    have e1 := cell_keep D0 lt c1
    have BD := below_step B0 D0
    clear c0 c1 lt B0 D0
    have q0 : (w.alloc (.cells #[.int .i64 a, .int .i64 n] 24)).heap.size = w.heap.size + 1 := by simp
    rw [q0] at d0 d1 ld
    clear q0
    go_enter Tryd.func21, Tryd.ntmps21
    go_wp2_with fail
    refine wp_region_class (C := Over ((w.alloc (.cells #[.int .i64 a, .int .i64 n] 24)).alloc (.cells #[.int .i64 b, .int .i64 m] 24))) (by kernel_rfl) (by kernel_rfl) (over_drew _) ?_
    repeat (first | go_big_quiet_skip | (go_big_quiet_want; go_big_quiet_op; go_big_quiet_on) | (go_big_quiet_want; go_big_quiet_op; apply Exists.intro; refine ⟨fun w' hC => ?_, ?_⟩; ((first | (go_at_call 11; refine (ipok_t _ H1).mono ?_; rintro e w1 ⟨rfl, hb1⟩; exact ⟨rfl, over_step hC hb1⟩))); go_big_quiet_on) | (go_big_quiet_want; apply Exists.intro; refine ⟨fun w' hC => ?_, ?_⟩; (have k0 := over_cell hC lt2 e0; have k1 := over_cell hC lt2 e1; simp [Oper.quietAt, Oper.quietUpon, go_sem, k0, k1]; first | done | rfl); go_big_quiet_on; simp only [Act.put, List.setIfInBounds_toArray, List.set_cons_zero, List.set_cons_succ]))
    refine wpQuiet_nil ?_
    intro wr hC
    have k0 := over_cell hC lt2 e0
    have k1 := over_cell hC lt2 e1
    go_wp2
    go_ret
    exact ⟨rfl, below_step BD (over_below hC)⟩
  · obtain ⟨ha0, ha1, hn0, hn1, _⟩ := pok_of hp
    rw [← insB_look hp]
    have H1 := Lib.hid hp
    clear hp
    obtain ⟨k, rfl⟩ := Int.eq_ofNat_of_zero_le hn0
    obtain ⟨c0, c1, lt, B0⟩ := box2 w (.int .i64 a) (.int .i64 (k : Int)) 24
    obtain ⟨d0, d1, ld, D0⟩ := box2 (w.alloc (.cells #[.int .i64 a, .int .i64 (k : Int)] 24)) (.int .i64 b) (.int .i64 m) 24
    have lt2 := Nat.lt_of_lt_of_le lt D0.size
    have e0 := cell_keep D0 lt c0
    have e1 := cell_keep D0 lt c1
    have BD := below_step B0 D0
    clear c0 c1 lt B0 D0
    have q0 : (w.alloc (.cells #[.int .i64 a, .int .i64 (k : Int)] 24)).heap.size = w.heap.size + 1 := by simp
    rw [q0] at d0 d1 ld
    clear q0
    go_enter Tryd.func21, Tryd.ntmps21
    go_wp2_with fail
    go_region_held3 (fun w' => Over ((w.alloc (.cells #[.int .i64 a, .int .i64 (k : Int)] 24)).alloc (.cells #[.int .i64 b, .int .i64 m] 24)) w' ∧ w'.cell? ⟨w.heap.size, 0, none⟩ = some (.int .i64 a) ∧ w'.cell? ⟨w.heap.size, 1, none⟩ = some (.int .i64 (k : Int)) ∧ w'.cell? ⟨w.heap.size + 1, 0, none⟩ = some (.int .i64 b) ∧ w'.cell? ⟨w.heap.size + 1, 1, none⟩ = some (.int .i64 m))
      ((first | exact held4 lt2 e0 e1 ld d0 d1 (over_drew _) | exact held4 lt2 e0 e1 ld d0 d1 (over_step (‹Over _ _ ∧ _›).1 (by assumption)) | assumption))
      ((first | (go_at_call 11; refine (ipok_t _ H1).mono ?_; rintro e wa ⟨rfl, hba⟩) | (go_at_call 61; refine (chain_any a k _ ha0 ha1 (by omega)).mono ?_; rintro e wb ⟨g, rfl, hown, hbb⟩; have hrun := look_any a b m k g wb ha0 ha1 (by omega) hb hm hown; clear hown)))
    go_wp2
    go_ret
    rename_i hH
    exact ⟨ret_bool (by simp), below_step BD (over_below hH.1)⟩
end Go.Proofs.YtichmbbpjkikaaaDoor
