/-
  The plain mathematics of prefixes: which bits of an address are kept by a mask, for every length from 0 to 16. No condition.
-/
import Derived.WalkKit
import Derived.Laws.BitsAllLaws
namespace Go.Proofs.Ytbcmoofpgffbhaa

theorem ret_int {k : IntKind} {a b : Int} (h : a = b) : Ending.returned (.int k a) = .returned (.int k b) := by rw [h]
theorem ret_bool {a b : Bool} (h : a = b) : Ending.returned (.bool a) = .returned (.bool b) := by rw [h]

/-- an address: 16 bits -/
def addrB (a : Int) : Bool := decide (0 ≤ a ∧ a ≤ 65535)
/-- the address that is left when only the first n bits are kept -/
def hd (a n : Int) : Int := a / 2 ^ (16 - n).toNat * 2 ^ (16 - n).toNat
/-- the mask of the first n bits -/
def mask (n : Int) : Int := 65536 - 2 ^ (16 - n).toNat
def pokB (a n : Int) : Bool := decide (0 ≤ a ∧ a ≤ 65535 ∧ 0 ≤ n ∧ n ≤ 16 ∧ hd a n = a)

theorem wrap64_in (x : Int) (h0 : -9223372036854775808 ≤ x) (h1 : x ≤ 9223372036854775807) : IntKind.i64.wrap x = x := by
  simp [IntKind.wrap, IntKind.bits, IntKind.signed]
  omega
theorem nat_mask (a k : Nat) (ha : a < 65536) (hk : k ≤ 16) : a &&& (65536 - 2 ^ k) = a / 2 ^ k * 2 ^ k := by
  have e : 65536 - 2 ^ k = ((2 ^ (16 - k) - 1) <<< k) := by
    rw [Nat.shiftLeft_eq, Nat.sub_mul, ← Nat.pow_add, Nat.sub_add_cancel hk]
    omega
  rw [e, ← Nat.shiftRight_eq_div_pow, ← Nat.shiftLeft_eq]
  apply Nat.eq_of_testBit_eq
  intro i
  simp only [Nat.testBit_and, Nat.testBit_shiftLeft, Nat.testBit_two_pow_sub_one, Nat.testBit_shiftRight]
  by_cases h : k ≤ i
  · have e2 : k + (i - k) = i := by omega
    by_cases h2 : i < 16
    · simp [h, e2]; omega
    · have h3 : a.testBit i = false := Nat.testBit_lt_two_pow (Nat.lt_of_lt_of_le ha (by
        have := Nat.pow_le_pow_right (n := 2) (by omega) (show 16 ≤ i by omega)
        omega))
      simp [h3, e2]
  · simp [h]
theorem toNat_sub_bv (x : Nat) (h : x < 18446744073709551616) : (~~~(BitVec.ofNat 64 x)).toNat = 18446744073709551615 - x := by
  rw [BitVec.toNat_not]
  simp [Nat.mod_eq_of_lt h]
theorem bvInt (x : Nat) : BitVec.ofInt 64 (x : Int) = BitVec.ofNat 64 x := by
  simp
theorem and_i64 (a b : Nat) (ha : a < 9223372036854775808) (hb : b < 9223372036854775808) : bits .and .i64 (a : Int) (b : Int) = ((a &&& b : Nat) : Int) := by
  unfold bits
  show IntKind.i64.wrap ((BitVec.ofInt 64 (a : Int) &&& BitVec.ofInt 64 (b : Int)).toNat : Int) = _
  rw [bvInt a, bvInt b, BitVec.toNat_and, BitVec.toNat_ofNat, BitVec.toNat_ofNat, Nat.mod_eq_of_lt (by omega), Nat.mod_eq_of_lt (by omega)]
  have := Nat.and_le_left (n := a) (m := b)
  exact wrap64_in _ (by omega) (by omega)
theorem andNot_i64 (a b : Nat) (ha : a < 9223372036854775808) (hb : b < 9223372036854775808) : bits .andNot .i64 (a : Int) (b : Int) = ((a &&& (18446744073709551615 - b) : Nat) : Int) := by
  unfold bits
  show IntKind.i64.wrap ((BitVec.ofInt 64 (a : Int) &&& ~~~BitVec.ofInt 64 (b : Int)).toNat : Int) = _
  rw [bvInt a, bvInt b, BitVec.toNat_and, toNat_sub_bv b (by omega), BitVec.toNat_ofNat, Nat.mod_eq_of_lt (by omega)]
  have := Nat.and_le_left (n := a) (m := 18446744073709551615 - b)
  exact wrap64_in _ (by omega) (by omega)
theorem pow16 (n : Int) (h0 : 0 ≤ n) (h1 : n ≤ 16) : ∃ k : Nat, k ≤ 16 ∧ (16 - n).toNat = k ∧ n = 16 - (k : Int) := ⟨(16 - n).toNat, by omega, rfl, by omega⟩
theorem pow_le16 (k : Nat) (hk : k ≤ 16) : 1 ≤ 2 ^ k ∧ 2 ^ k ≤ 65536 :=
  ⟨Nat.one_le_two_pow, by have := Nat.pow_le_pow_right (n := 2) (by omega) hk; omega⟩
/-- what the mask keeps of an address -/
theorem and_mask (a n : Int) (ha : 0 ≤ a) (ha' : a ≤ 65535) (h0 : 0 ≤ n) (h1 : n ≤ 16) : bits .and .i64 a (mask n) = hd a n := by
  obtain ⟨k, hk, e, rfl⟩ := pow16 n h0 h1
  obtain ⟨x, rfl⟩ := Int.eq_ofNat_of_zero_le ha
  unfold mask hd
  rw [e]
  have hp := pow_le16 k hk
  have em : (65536 : Int) - 2 ^ k = ((65536 - 2 ^ k : Nat) : Int) := by
    rw [Int.ofNat_sub hp.2]; simp
  rw [em, and_i64 _ _ (by omega) (by omega), nat_mask x k (by omega) hk]
  simp
/-- what is left of an address without the last bits -/
theorem andNot_low (a n : Int) (ha : 0 ≤ a) (ha' : a ≤ 65535) (h0 : 0 ≤ n) (h1 : n ≤ 16) : bits .andNot .i64 a (65535 / 2 ^ n.toNat) = hd a n := by
  obtain ⟨k, hk, e, rfl⟩ := pow16 n h0 h1
  obtain ⟨x, rfl⟩ := Int.eq_ofNat_of_zero_le ha
  have e2 : (16 - (k : Int)).toNat = 16 - k := by omega
  unfold hd
  rw [e, e2]
  have hp := pow_le16 k hk
  have ed : 65535 / 2 ^ (16 - k) = 2 ^ k - 1 := by
    have h : ∀ k, k ≤ 16 → 65535 / 2 ^ (16 - k) = 2 ^ k - 1 := by decide
    exact h k hk
  have em : (65535 : Int) / 2 ^ (16 - k) = ((2 ^ k - 1 : Nat) : Int) := by
    rw [← ed]; simp
  rw [em, andNot_i64 _ _ (by omega) (by omega)]
  have e3 : x &&& (18446744073709551615 - (2 ^ k - 1)) = x &&& (65536 - 2 ^ k) := by
    have hx : x = x &&& 65535 := by
      have := Nat.and_two_pow_sub_one_eq_mod x 16
      simp at this; omega
    have em2 : 65535 &&& (18446744073709551615 - (2 ^ k - 1)) = 65536 - 2 ^ k := by
      have h : ∀ k, k ≤ 16 → 65535 &&& (18446744073709551615 - (2 ^ k - 1)) = 65536 - 2 ^ k := by decide
      exact h k hk
    rw [hx, Nat.and_assoc, em2, ← hx]
  rw [e3, nat_mask x k (by omega) hk]
  simp
theorem hd_bd (a n : Int) (ha : 0 ≤ a) (ha' : a ≤ 65535) : 0 ≤ hd a n ∧ hd a n ≤ 65535 := by
  unfold hd
  have hp : (0 : Int) < 2 ^ (16 - n).toNat := Int.pow_pos (by omega)
  have h1 := Int.ediv_mul_le a (Int.ne_of_gt hp)
  have h2 : 0 ≤ a / 2 ^ (16 - n).toNat := Int.ediv_nonneg ha (Int.le_of_lt hp)
  exact ⟨Int.mul_nonneg h2 (Int.le_of_lt hp), by omega⟩
theorem mask_eq (n : Int) (h0 : 0 ≤ n) (h1 : n ≤ 16) : bits .and .i64 (Go.RowKit.wrap64 (65535 * 2 ^ (16 - n).toNat)) 65535 = mask n := by
  obtain ⟨k, hk, e, rfl⟩ := pow16 n h0 h1
  unfold mask
  rw [e]
  have h : ∀ k, k ≤ 16 → bits .and .i64 (Go.RowKit.wrap64 (65535 * 2 ^ k)) 65535 = 65536 - 2 ^ k := by unfold Go.RowKit.wrap64; decide
  exact h k hk
theorem addrB_t {a : Int} (h0 : 0 ≤ a) (h1 : a ≤ 65535) : addrB a = true := by unfold addrB; simp; omega
theorem addrB_f {a : Int} (h : ¬ (0 ≤ a ∧ a ≤ 65535)) : addrB a = false := by unfold addrB; simp; omega
theorem pokB_t {a n : Int} (h0 : 0 ≤ a) (h1 : a ≤ 65535) (h2 : 0 ≤ n) (h3 : n ≤ 16) (h4 : hd a n = a) : pokB a n = true := by unfold pokB; simp; omega
theorem pokB_f {a n : Int} (h : ¬ (0 ≤ a ∧ a ≤ 65535 ∧ 0 ≤ n ∧ n ≤ 16 ∧ hd a n = a)) : pokB a n = false := by unfold pokB; simp; omega
theorem pok_of {a n : Int} (h : pokB a n = true) : 0 ≤ a ∧ a ≤ 65535 ∧ 0 ≤ n ∧ n ≤ 16 ∧ hd a n = a := of_decide_eq_true h
theorem addr_of {a : Int} (h : addrB a = true) : 0 ≤ a ∧ a ≤ 65535 := of_decide_eq_true h
end Go.Proofs.Ytbcmoofpgffbhaa
