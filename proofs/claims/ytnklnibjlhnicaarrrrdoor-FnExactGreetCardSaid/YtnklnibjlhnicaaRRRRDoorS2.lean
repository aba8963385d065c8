/-
  Sessions: what an argument that is one reads as; contracts of SessionOk of the program and of the model. Conditions: those in each contract.
-/
import Derived.Test.YtnklnibjlhnicaaRRRRDoorS1
namespace Go.Proofs.YtnklnibjlhnicaaRRRRDoor
open Go.ChangeShapes Go.WideShapes Go.ChangeAt Go.RowKit Go.BigFrame Go.Joins
set_option linter.unusedVariables false
set_option maxRecDepth 100000
set_option linter.unusedSimpArgs false

def Is_Session (W : World) (v : Value) : Prop := ∃ st hd he ke pr : Int, v = .agg #[.int .i64 st, .int .i64 hd, .int .i64 he, .int .i64 ke, .int .i64 pr]
theorem array5Ss {α : Type} {xs : Array α} (h : xs.size = 5) : ∃ c0 c1 c2 c3 c4, xs = #[c0, c1, c2, c3, c4] := by
  obtain ⟨l⟩ := xs
  match l, h with
  | [c0, c1, c2, c3, c4], _ => exact ⟨c0, c1, c2, c3, c4, rfl⟩
theorem list5Ss {α : Type} {xs : List α} (h : xs.length = 5) : ∃ c0 c1 c2 c3 c4, xs = [c0, c1, c2, c3, c4] := by
  match xs, h with
  | [c0, c1, c2, c3, c4], _ => exact ⟨c0, c1, c2, c3, c4, rfl⟩
section
variable {H : Type} {enc : TypeId × Value → H} {W : World} {base : Nat} {d : DataW H} {p : List MemPlace} {v : Value}
theorem cellsI1Ss : Tryd.prog.cellsOf 3 = 1 := by kernel_rfl
end
/-- the session is valid -/
def sesB (sa ix ho pe st hd he ke pr : Int) : Bool :=
  decide (cokB sa ix ho pe = true ∧ 0 ≤ st ∧ st ≤ 4 ∧ (¬ 2 ≤ st → hd = 0 ∧ he = 0 ∧ ke = 0 ∧ pr = 0) ∧
    (2 ≤ st → 3 ≤ hd ∧ hd ≤ ho ∧ 0 ≤ he ∧ he < hd ∧ (st = 2 → hd = ho ∧ ke = 0 ∧ pr = 0) ∧ (¬ st = 2 → 1 ≤ ke ∧ ke ≤ hd / 3 ∧ asB pr = true ∧ (pe = 0 ∨ pr = pe))))
theorem cokB_ho {sa ix ho pe : Int} (h : cokB sa ix ho pe = true) : 3 ≤ ho ∧ ho ≤ 255 := by
  unfold cokB valO inB at h
  simp at h
  exact h.1.1.2
theorem sCf_t {sa ix ho pe : Int} {b : Bool} (w : World) (H : Hid (cokB sa ix ho pe = b)) : Calls Tryd.prog 8 #[.agg #[.int .i64 sa, .int .i64 ix, .int .i64 ho, .int .i64 pe]] w fun e w' => e = .returned (.bool b) ∧ Below w.heap.size w w' := H.out ▸ sCf_any sa ix ho pe w
theorem iCf_t {sa ix ho pe : Int} {b : Bool} (w : World) (H : Hid (cokB sa ix ho pe = b)) : Calls Tryd.prog 10 #[.agg #[.int .i64 sa, .int .i64 ix, .int .i64 ho, .int .i64 pe]] w fun e w' => e = .returned (.bool b) ∧ Below w.heap.size w w' := H.out ▸ iCf_any sa ix ho pe w
theorem ialw_any (sa ix ho pe pr : Int) (w : World) : Calls Tryd.prog 48 #[.agg #[.int .i64 sa, .int .i64 ix, .int .i64 ho, .int .i64 pe], .int .i64 pr] w fun e w' => e = .returned (.bool (decide (pe = 0) || decide (pe = pr))) ∧ Below w.heap.size w w' := by
  obtain ⟨bA, B0, z⟩ := one w [.int .i64 sa, .int .i64 ix, .int .i64 ho, .int .i64 pe] 28
  clear z
  by_cases z0 : pe = 0
  · have z0b : (pe == 0) = true := by simp [z0]
    have z0n : (pe != 0) = false := by simp [z0]
    have Z0 := Lib.hid z0
    clear z0
    go_enter Tryd.func48, Tryd.ntmps48
    have fa0 := bA.c 0 rfl
    have fa1 := bA.c 1 rfl
    have fa2 := bA.c 2 rfl
    have fa3 := bA.c 3 rfl
    go_wp2_with fail
    all_goals
      go_ret
      exact ⟨ret_bool (by have q0 := Z0.out; rw [Bool.eq_iff_iff]; (try unfold Bool.or_eq_true); simp [Bool.or_eq_true, Z0.out] <;> omega), B0⟩
  · have z0b : (pe == 0) = false := by simp [z0]
    have z0n : (pe != 0) = true := by simp [z0]
    have Z0 := Lib.hid z0
    clear z0
    by_cases z1 : pe = pr
    · have z1b : (pe == pr) = true := by simp [z1]
      have z1n : (pe != pr) = false := by simp [z1]
      have Z1 := Lib.hid z1
      clear z1
      go_enter Tryd.func48, Tryd.ntmps48
      have fa0 := bA.c 0 rfl
      have fa1 := bA.c 1 rfl
      have fa2 := bA.c 2 rfl
      have fa3 := bA.c 3 rfl
      go_wp2_with fail
      all_goals
        go_ret
        exact ⟨ret_bool (by have q0 := Z0.out; have q1 := Z1.out; rw [Bool.eq_iff_iff]; (try unfold Bool.or_eq_true); simp [Bool.or_eq_true, Z0.out, Z1.out] <;> omega), B0⟩
    · have z1b : (pe == pr) = false := by simp [z1]
      have z1n : (pe != pr) = true := by simp [z1]
      have Z1 := Lib.hid z1
      clear z1
      go_enter Tryd.func48, Tryd.ntmps48
      have fa0 := bA.c 0 rfl
      have fa1 := bA.c 1 rfl
      have fa2 := bA.c 2 rfl
      have fa3 := bA.c 3 rfl
      go_wp2_with fail
      all_goals
        go_ret
        exact ⟨ret_bool (by have q0 := Z0.out; have q1 := Z1.out; rw [Bool.eq_iff_iff]; (try unfold Bool.or_eq_true); simp [Bool.or_eq_true, Z0.out, Z1.out] <;> omega), B0⟩
theorem ialw_t {sa ix ho pe pr : Int} {b : Bool} (w : World) (H : Hid ((decide (pe = 0) || decide (pe = pr)) = b)) : Calls Tryd.prog 48 #[.agg #[.int .i64 sa, .int .i64 ix, .int .i64 ho, .int .i64 pe], .int .i64 pr] w fun e w' => e = .returned (.bool b) ∧ Below w.heap.size w w' := H.out ▸ ialw_any sa ix ho pe pr w
end Go.Proofs.YtnklnibjlhnicaaRRRRDoor
