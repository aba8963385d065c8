/-
  Contracts of the functions on prefixes with a known answer; two prefixes compared. Conditions: those in each statement.
-/
import Derived.Test.YtichmbbpjkikaaaDoorC1
namespace Go.Proofs.YtichmbbpjkikaaaDoor
open Go.ChangeShapes Go.WideShapes Go.ChangeAt Go.RowKit Go.BigFrame
set_option linter.unusedVariables false
set_option maxRecDepth 100000

theorem icov_t {a n x : Int} {v : Bool} (w : World) (h : Hid (covB a n x = v)) : Calls Tryd.prog 23 #[.agg #[.int .i64 a, .int .i64 n], .int .i64 x] w fun e w' => e = .returned (.bool v) ∧ Below w.heap.size w w' :=
  h.out ▸ icov_any a n x w
theorem iins_t {a n b m : Int} {v : Bool} (w : World) (hb : fits b) (hm : fits m) (h : Hid (insB a n b m = v)) : Calls Tryd.prog 21 #[.agg #[.int .i64 a, .int .i64 n], .agg #[.int .i64 b, .int .i64 m]] w fun e w' => e = .returned (.bool v) ∧ Below w.heap.size w w' :=
  h.out ▸ iins_any a n b m w hb hm
theorem icmp_t {a n b m c : Int} (w : World) (h : Hid (pcmp a n b m = c)) : Calls Tryd.prog 22 #[.agg #[.int .i64 a, .int .i64 n], .agg #[.int .i64 b, .int .i64 m]] w fun e w' => e = .returned (.int .i64 c) ∧ Below w.heap.size w w' :=
  h.out ▸ icmp_any a n b m w
theorem iaddr_h {a : Int} {v : Bool} (w : World) (h : Hid (addrB a = v)) : Calls Tryd.prog 24 #[.int .i64 a] w fun e w' => e = .returned (.bool v) ∧ w = w' :=
  h.out ▸ iaddr_any a w
theorem ins_le {a n b m : Int} (h : insB a n b m = true) : b ≤ a ∧ m ≤ n := by
  unfold insB at h
  simp only [Bool.and_eq_true, beq_iff_eq, decide_eq_true_eq] at h
  obtain ⟨⟨⟨p1, p2⟩, l1⟩, e1⟩ := h
  have q1 := pok_of p1
  refine ⟨?_, l1⟩
  rw [← e1]
  unfold hd
  have hp : (0 : Int) < 2 ^ (16 - m).toNat := Int.pow_pos (by decide)
  have := Int.ediv_mul_le a (Int.ne_of_gt hp)
  exact this
theorem pcmp_lt {a n b m : Int} (h1 : pokB a n = true) (h2 : pokB b m = true) (h : a < b ∨ a = b ∧ n < m) : pcmp a n b m = -1 ∧ pcmp b m a n = 1 := by
  unfold pcmp cmp2 orv cmp1
  simp only [h1, h2, Bool.and_self, if_true]
  constructor
  all_goals
    repeat' split
    all_goals omega
theorem pcmp_eq {a n : Int} (h1 : pokB a n = true) : pcmp a n a n = 0 := (pcmp_zero h1 h1).2 ⟨rfl, rfl⟩
theorem ins_sub {a n m : Int} (h1 : pokB a n = true) (h2 : pokB a m = true) (h : m ≤ n) : insB a n a m = true := by
  have q := pok_of h2
  unfold insB
  simp [h1, h2, h, q.2.2.2.2]
theorem order (a n b m : Int) : (a = b ∧ n = m) ∨ a < b ∨ b < a ∨ (a = b ∧ n < m) ∨ (a = b ∧ m < n) := by omega
end Go.Proofs.YtichmbbpjkikaaaDoor
