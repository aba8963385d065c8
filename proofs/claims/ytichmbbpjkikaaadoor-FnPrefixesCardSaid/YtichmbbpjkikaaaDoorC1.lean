/-
  Facts on prefixes, their order and what they cover, as plain arithmetic. Conditions: those in each statement.
-/
import Derived.Test.YtichmbbpjkikaaaDoorW3
import Derived.Test.YtichmbbpjkikaaaDoorP2
namespace Go.Proofs.YtichmbbpjkikaaaDoor
set_option linter.unusedVariables false
set_option maxRecDepth 100000

theorem hd_le (x n m : Int) (h0 : 0 ≤ x) (hm0 : 0 ≤ m) (hmn : m ≤ n) (hn : n ≤ 16) : hd (hd x n) m = hd x m := by
  unfold hd
  obtain ⟨k, hk⟩ : ∃ k, k = (16 - n).toNat := ⟨_, rfl⟩
  obtain ⟨d, hd'⟩ : ∃ d, (16 - m).toNat = k + d := ⟨(n - m).toNat, by omega⟩
  rw [hd', ← hk, Int.pow_add]
  have p1 : (0 : Int) < 2 ^ k := Int.pow_pos (by decide)
  rw [← Int.ediv_ediv_of_nonneg (Int.le_of_lt p1), Int.mul_ediv_cancel _ (Int.ne_of_gt p1), Int.ediv_ediv_of_nonneg (Int.le_of_lt p1)]

theorem cov_up {a n b m x : Int} (h1 : insB a n b m = true) (h2 : covB a n x = true) : covB b m x = true := by
  unfold insB at h1
  unfold covB at h2 ⊢
  simp only [Bool.and_eq_true, beq_iff_eq, decide_eq_true_eq] at h1 h2 ⊢
  obtain ⟨⟨⟨p1, p2⟩, hmn⟩, he⟩ := h1
  obtain ⟨⟨_, hx⟩, hx2⟩ := h2
  have q1 := pok_of p1
  have q2 := pok_of p2
  refine ⟨⟨p2, hx⟩, ?_⟩
  rw [← hd_le x n m (addr_of hx).1 q2.2.2.1 hmn q1.2.2.2.1, hx2, he]
theorem cov_two {a n b m x : Int} (h1 : covB a n x = true) (h2 : covB b m x = true) (h : m ≤ n) : insB a n b m = true := by
  unfold covB at h1 h2
  unfold insB
  simp only [Bool.and_eq_true, beq_iff_eq, decide_eq_true_eq] at h1 h2 ⊢
  obtain ⟨⟨p1, hx⟩, e1⟩ := h1
  obtain ⟨⟨p2, _⟩, e2⟩ := h2
  have q1 := pok_of p1
  have q2 := pok_of p2
  refine ⟨⟨⟨p1, p2⟩, h⟩, ?_⟩
  rw [← e1, hd_le x n m (addr_of hx).1 q2.2.2.1 h q1.2.2.2.1, e2]
theorem ins_two {a n b m : Int} (h1 : insB a n b m = true) (h2 : insB b m a n = true) : a = b ∧ n = m := by
  unfold insB at h1 h2
  simp only [Bool.and_eq_true, beq_iff_eq, decide_eq_true_eq] at h1 h2
  obtain ⟨⟨⟨p1, p2⟩, l1⟩, e1⟩ := h1
  obtain ⟨⟨⟨_, _⟩, l2⟩, e2⟩ := h2
  obtain rfl : n = m := by omega
  have q1 := pok_of p1
  exact ⟨by rw [← e1, q1.2.2.2.2], rfl⟩
theorem ins_self {a n : Int} (h : pokB a n = true) : insB a n a n = true := by
  have q := pok_of h
  unfold insB
  simp [h, q.2.2.2.2]
theorem cov_self {a n : Int} (h : pokB a n = true) : covB a n a = true := by
  have q := pok_of h
  unfold covB
  simp [h, q.2.2.2.2, addrB_t q.1 q.2.1]
theorem cov_addr {a n x : Int} (h : covB a n x = true) : addrB x = true := by
  unfold covB at h
  simp at h
  exact h.1.2
theorem ins_bad {a n b m : Int} (h : ¬ (pokB a n = true ∧ pokB b m = true)) : insB a n b m = false := by
  unfold insB
  cases h1 : pokB a n <;> cases h2 : pokB b m <;> simp_all
theorem pcmp_bad {a n b m : Int} (h : ¬ (pokB a n = true ∧ pokB b m = true)) : pcmp a n b m = 0 := by
  unfold pcmp
  cases h1 : pokB a n <;> cases h2 : pokB b m <;> simp_all
theorem pcmp_neg (a n b m : Int) : pcmp a n b m = - pcmp b m a n := by
  unfold pcmp cmp2 orv cmp1
  cases h1 : pokB a n <;> cases h2 : pokB b m <;> simp
  repeat' split
  all_goals omega
theorem pcmp_zero {a n b m : Int} (h1 : pokB a n = true) (h2 : pokB b m = true) : pcmp a n b m = 0 ↔ a = b ∧ n = m := by
  unfold pcmp cmp2 orv cmp1
  simp [h1, h2]
  constructor
  · intro h
    repeat' split at h
    all_goals first | omega | (constructor <;> omega)
  · rintro ⟨rfl, rfl⟩
    simp
theorem pcmp_bd (a n b m : Int) : -1 ≤ pcmp a n b m ∧ pcmp a n b m ≤ 1 := by
  unfold pcmp cmp2 orv cmp1
  cases pokB a n <;> cases pokB b m <;> simp
  repeat' split
  all_goals omega
theorem pcmp_wrap (a n b m : Int) : Go.RowKit.wrap64 (-pcmp b m a n) = pcmp a n b m := by
  have h := pcmp_bd a n b m
  have h2 := pcmp_neg a n b m
  rw [← h2]
  unfold Go.RowKit.wrap64
  omega
theorem ins_ne {a n b m : Int} (h1 : pokB a n = true) (h : ¬ (insB a n b m = true ∧ insB b m a n = true)) : ¬ (a = b ∧ n = m) := by
  rintro ⟨rfl, rfl⟩
  exact h ⟨ins_self h1, ins_self h1⟩
end Go.Proofs.YtichmbbpjkikaaaDoor
