/-
  PathHas and Shut, of the program and of the model. Conditions: those in each contract.
-/
import Derived.Test.YtbcmoofpgffbhaaI6
import Derived.Test.YtbcmoofpgffbhaaI7
namespace Go.Proofs.Ytbcmoofpgffbhaa
open Go.ChangeShapes Go.WideShapes Go.ChangeAt Go.RowKit Go.BigFrame Go.Joins
set_option linter.unusedVariables false
set_option maxRecDepth 100000

theorem iaok_t {pv cv : Value} {p c : List Int} {pr bw : Int} {b : Bool} (w : World) (hp : RdI w pv p) (hc : RdI w cv c) (H : Hid (aokB p pr c bw = b)) :
    Calls Try.prog 127 #[.agg #[pv, .int .i64 pr, cv, .int .i64 bw]] w fun e w' => e = .returned (.bool b) ∧ Below w.heap.size w w' := H.out ▸ iaok_any pv cv p c pr bw w hp hc
theorem saok_t {pv cv : Value} {p c : List Int} {pr bw : Int} {b : Bool} (w : World) (hp : RdI w pv p) (hc : RdI w cv c) (H : Hid (aokB p pr c bw = b)) :
    Calls Try.prog 157 #[.agg #[pv, .int .i64 pr, cv, .int .i64 bw]] w fun e w' => e = .returned (.bool b) ∧ Below w.heap.size w w' := H.out ▸ saok_any pv cv p c pr bw w hp hc
theorem aok_p {p c : List Int} {pr bw : Int} (h : aokB p pr c bw = true) : p.length ≤ 8 ∧ c.length ≤ 4 ∧ ascB c = true ∧ numsB p = true ∧ numsB c = true := by
  simp only [aokB, Bool.and_eq_true, decide_eq_true_eq] at h
  exact ⟨h.1.1.1.1.1, h.1.2.1, h.2, h.1.1.1.1.2, h.1.2.2⟩
theorem asc_pair {l : List Int} (h : ascB l = true) : l.Pairwise (· < ·) := by
  unfold ascB at h
  simp only [decide_eq_true_eq] at h
  rw [List.pairwise_iff_getElem]
  have step : ∀ k i, i + k + 1 < l.length → l.getD i 0 < l.getD (i + k + 1) 0 := by
    intro k
    induction k with
    | zero => intro i hi; exact h i (by omega)
    | succ k ih => intro i hi; exact Int.lt_trans (ih i (by omega)) (h (i + k + 1) (by omega))
  intro i j hi hj hij
  have := step (j - i - 1) i (by omega)
  rw [show i + (j - i - 1) + 1 = j by omega] at this
  have e1 : l.getD i 0 = l[i] := by simp [List.getD, hi]
  have e2 : l.getD j 0 = l[j] := by simp [List.getD, hj]
  rw [e1, e2] at this
  exact this
theorem asc_le {l : List Int} (h : ascB l = true) : l.Pairwise (· ≤ ·) := (asc_pair h).imp (fun h => Int.le_of_lt h)
end Go.Proofs.Ytbcmoofpgffbhaa
