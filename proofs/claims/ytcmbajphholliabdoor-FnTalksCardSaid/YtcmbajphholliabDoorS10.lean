/-
  What the program's machine answers to a message that is not wanted. Conditions: those in each contract.
-/
import Derived.Test.YtcmbajphholliabDoorS9
namespace Go.Proofs.YtcmbajphholliabDoor
open Go.ChangeShapes Go.WideShapes Go.ChangeAt Go.RowKit Go.BigFrame Go.Joins
set_option linter.unusedVariables false
set_option maxRecDepth 100000
set_option linter.unusedSimpArgs false

theorem quiet_below {w : World} : Below w.heap.size w w.drew := Below.drew (Below.refl _ _)
theorem index1 (g : Nat) (k1 x : Int) (w : World) (h0 : w.cell? ⟨g, 0, none⟩ = some (.int .i64 k1)) :
    Calls Tryd.prog 80 #[.slice (some ⟨g, 0, none⟩) 1 1, .int .i64 x] w fun e w' => (∃ r : Int, e = .returned (.int .i64 r) ∧ (0 ≤ r ↔ x ∈ [k1])) ∧ Below w.heap.size w w' := by
  by_cases e1 : x = k1
  · have E1b : (x == k1) = true := by simp [e1]
    have E1 := Lib.hid e1
    clear e1
    go_enter Tryd.func80, Tryd.ntmps80
    go_wp2
    refine wp_loop_rounds 2 ?_
    rw [rounds_succ]
    go_wp2
    go_ret
    exact ⟨⟨_, rfl, by have q := E1.out; simp [q]⟩, Below.refl _ _⟩
  · have E1b : (x == k1) = false := by simp [e1]
    have E1 := Lib.hid e1
    clear e1
    go_enter Tryd.func80, Tryd.ntmps80
    go_wp2
    refine wp_loop_rounds 2 ?_
    rw [rounds_succ]
    go_wp2
    rw [rounds_succ]
    go_wp2
    go_ret
    exact ⟨⟨_, rfl, by have q := E1.out; simp [q]⟩, Below.refl _ _⟩
theorem contains1 (g : Nat) (k1 x : Int) (w : World) (h0 : w.cell? ⟨g, 0, none⟩ = some (.int .i64 k1)) :
    Calls Tryd.prog 55 #[.slice (some ⟨g, 0, none⟩) 1 1, .int .i64 x] w fun e w' => e = .returned (.bool (decide (x ∈ [k1]))) ∧ Below w.heap.size w w' := by
  go_enter Tryd.func55, Tryd.ntmps55
  go_wp2_with fail
  refine (index1 g k1 x _ h0).mono ?_
  rintro e w1 ⟨⟨r, rfl, hr⟩, hb⟩
  have HR := Lib.hid hr
  clear hr h0
  by_cases h : 0 ≤ r
  all_goals
    have HH := Lib.hid h
    go_wp2
    go_ret
    exact ⟨ret_bool (by have q := HR.out; have q2 := HH.out; simp [q2] at q ⊢; first | exact q | (simp [q]; done) | (simp; exact q)), hb⟩
theorem index2 (g : Nat) (k1 k2 x : Int) (w : World) (h0 : w.cell? ⟨g, 0, none⟩ = some (.int .i64 k1)) (h1 : w.cell? ⟨g, 1, none⟩ = some (.int .i64 k2)) :
    Calls Tryd.prog 80 #[.slice (some ⟨g, 0, none⟩) 2 2, .int .i64 x] w fun e w' => (∃ r : Int, e = .returned (.int .i64 r) ∧ (0 ≤ r ↔ x ∈ [k1, k2])) ∧ Below w.heap.size w w' := by
  by_cases e1 : x = k1
  · have E1b : (x == k1) = true := by simp [e1]
    have E1 := Lib.hid e1
    clear e1
    go_enter Tryd.func80, Tryd.ntmps80
    go_wp2
    refine wp_loop_rounds 3 ?_
    rw [rounds_succ]
    go_wp2
    go_ret
    exact ⟨⟨_, rfl, by have q := E1.out; simp [q]⟩, Below.refl _ _⟩
  · have E1b : (x == k1) = false := by simp [e1]
    have E1 := Lib.hid e1
    clear e1
    by_cases e2 : x = k2
    · have E2b : (x == k2) = true := by simp [e2]
      have E2 := Lib.hid e2
      clear e2
      go_enter Tryd.func80, Tryd.ntmps80
      go_wp2
      refine wp_loop_rounds 3 ?_
      rw [rounds_succ]
      go_wp2
      rw [rounds_succ]
      go_wp2
      go_ret
      exact ⟨⟨_, rfl, by have q := E1.out; have q2 := E2.out; simp [q, q2]⟩, Below.refl _ _⟩
    · have E2b : (x == k2) = false := by simp [e2]
      have E2 := Lib.hid e2
      clear e2
      go_enter Tryd.func80, Tryd.ntmps80
      go_wp2
      refine wp_loop_rounds 3 ?_
      rw [rounds_succ]
      go_wp2
      rw [rounds_succ]
      go_wp2
      rw [rounds_succ]
      go_wp2
      go_ret
      exact ⟨⟨_, rfl, by have q := E1.out; have q2 := E2.out; simp [q, q2]⟩, Below.refl _ _⟩
theorem contains2 (g : Nat) (k1 k2 x : Int) (w : World) (h0 : w.cell? ⟨g, 0, none⟩ = some (.int .i64 k1)) (h1 : w.cell? ⟨g, 1, none⟩ = some (.int .i64 k2)) :
    Calls Tryd.prog 55 #[.slice (some ⟨g, 0, none⟩) 2 2, .int .i64 x] w fun e w' => e = .returned (.bool (decide (x ∈ [k1, k2]))) ∧ Below w.heap.size w w' := by
  go_enter Tryd.func55, Tryd.ntmps55
  go_wp2_with fail
  refine (index2 g k1 k2 x _ h0 h1).mono ?_
  rintro e w1 ⟨⟨r, rfl, hr⟩, hb⟩
  have HR := Lib.hid hr
  clear hr h0 h1
  by_cases h : 0 ≤ r
  all_goals
    have HH := Lib.hid h
    go_wp2
    go_ret
    exact ⟨ret_bool (by have q := HR.out; have q2 := HH.out; simp [q2] at q ⊢; first | exact q | (simp [q]; done) | (simp; exact q)), hb⟩
end Go.Proofs.YtcmbajphholliabDoor
