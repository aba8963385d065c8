/-
  PathHas and Shut, of the program and of the model. Conditions: those in each contract.
-/
import Derived.Test.YtaiffofmhfflkaaGreatI6
import Derived.Test.YtaiffofmhfflkaaGreatI7
namespace Go.Proofs.YtaiffofmhfflkaaGreat
open Go.ChangeShapes Go.WideShapes Go.ChangeAt Go.RowKit Go.BigFrame Go.Joins
set_option linter.unusedVariables false
set_option maxRecDepth 100000

theorem iaok_t {pv cv : Value} {p c : List Int} {pr bw : Int} {b : Bool} (w : World) (hp : RdI w pv p) (hc : RdI w cv c) (H : Hid (aokB p pr c bw = b)) :
    Calls Tryz.prog 195 #[.agg #[pv, .int .i64 pr, cv, .int .i64 bw]] w fun e w' => e = .returned (.bool b) ∧ Below w.heap.size w w' := H.out ▸ iaok_any pv cv p c pr bw w hp hc
theorem saok_t {pv cv : Value} {p c : List Int} {pr bw : Int} {b : Bool} (w : World) (hp : RdI w pv p) (hc : RdI w cv c) (H : Hid (aokB p pr c bw = b)) :
    Calls Tryz.prog 174 #[.agg #[pv, .int .i64 pr, cv, .int .i64 bw]] w fun e w' => e = .returned (.bool b) ∧ Below w.heap.size w w' := H.out ▸ saok_any pv cv p c pr bw w hp hc
theorem aok_p {p c : List Int} {pr bw : Int} (h : aokB p pr c bw = true) : p.length ≤ 8 ∧ c.length ≤ 4 ∧ ascB c = true ∧ numsB p = true ∧ numsB c = true := by
  simp only [aokB, Bool.and_eq_true, decide_eq_true_eq] at h
  exact ⟨h.1.1.1.1.1, h.1.2.1, h.2, h.1.1.1.1.2, h.1.2.2⟩
theorem asc_pair {l : List Int} (h : ascB l = true) : l.Pairwise (· < ·) := by
  unfold ascB at h
  simp only [decide_eq_true_eq] at h
  rw [List.pairwise_iff_getElem]
  have step : ∀ k i, i + k + 1 < l.length → l.getD i 0 < l.getD (i + k + 1) 0 := by
    intro k
    induction k with
    | zero => intro i hi; exact h i (by omega)
    | succ k ih => intro i hi; exact Int.lt_trans (ih i (by omega)) (h (i + k + 1) (by omega))
  intro i j hi hj hij
  have := step (j - i - 1) i (by omega)
  rw [show i + (j - i - 1) + 1 = j by omega] at this
  have e1 : l.getD i 0 = l[i] := by simp [List.getD, hi]
  have e2 : l.getD j 0 = l[j] := by simp [List.getD, hj]
  rw [e1, e2] at this
  exact this
theorem asc_le {l : List Int} (h : ascB l = true) : l.Pairwise (· ≤ ·) := (asc_pair h).imp (fun h => Int.le_of_lt h)
theorem ipath_any (pv cv : Value) (p c : List Int) (pr bw an : Int) (w : World) (hp : RdI w pv p) (hc : RdI w cv c) :
    Calls Tryz.prog 183 #[.agg #[pv, .int .i64 pr, cv, .int .i64 bw], .int .i64 an] w fun e w' => e = .returned (.bool (aokB p pr c bw && decide (an ∈ p))) ∧ Below w.heap.size w w' := by
  obtain ⟨c0, c1, c2, c3, lt, B0⟩ := box4 w pv (.int .i64 pr) cv (.int .i64 bw) 133
  have hp1 := hp.alloc (.cells #[pv, .int .i64 pr, cv, .int .i64 bw] 133)
  have hc1 := hc.alloc (.cells #[pv, .int .i64 pr, cv, .int .i64 bw] 133)
  cases hA : aokB p pr c bw
  · rw [Bool.false_and]
    have HA := Lib.hid hA
    clear hA
    go_enter Tryz.func183, Tryz.ntmps183
    go_wp2_with fail
    refine (iaok_t _ hp1 hc1 HA).mono ?_
    rintro e w1 ⟨rfl, hb⟩
    replace c0 := cell_keep hb lt c0
    replace c1 := cell_keep hb lt c1
    replace c2 := cell_keep hb lt c2
    replace c3 := cell_keep hb lt c3
    replace lt := Nat.lt_of_lt_of_le lt hb.size
    replace hp1 := hp1.keep hb
    replace hc1 := hc1.keep hb
    replace B0 := below_step B0 hb
    clear hb
    go_wp2
    go_ret
    exact ⟨rfl, B0⟩
  · rw [Bool.true_and]
    have HA := Lib.hid hA
    clear hA
    go_enter Tryz.func183, Tryz.ntmps183
    go_wp2_with fail
    refine (iaok_t _ hp1 hc1 HA).mono ?_
    rintro e w1 ⟨rfl, hb⟩
    replace c0 := cell_keep hb lt c0
    replace c1 := cell_keep hb lt c1
    replace c2 := cell_keep hb lt c2
    replace c3 := cell_keep hb lt c3
    replace lt := Nat.lt_of_lt_of_le lt hb.size
    replace hp1 := hp1.keep hb
    replace hc1 := hc1.keep hb
    replace B0 := below_step B0 hb
    clear hb
    go_wp2_with fail
    refine (contains_any _ p an _ hp1).mono ?_
    rintro e w2 ⟨rfl, hb⟩
    replace c0 := cell_keep hb lt c0
    replace c1 := cell_keep hb lt c1
    replace c2 := cell_keep hb lt c2
    replace c3 := cell_keep hb lt c3
    replace lt := Nat.lt_of_lt_of_le lt hb.size
    replace hp1 := hp1.keep hb
    replace hc1 := hc1.keep hb
    replace B0 := below_step B0 hb
    clear hb
    go_wp2
    go_ret
    exact ⟨rfl, B0⟩
end Go.Proofs.YtaiffofmhfflkaaGreat
