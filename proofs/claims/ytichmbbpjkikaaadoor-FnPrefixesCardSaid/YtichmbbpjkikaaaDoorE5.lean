/-
  What is got out of what was put, and put out of what was got. Conditions: those in each statement.
-/
import Derived.Test.YtichmbbpjkikaaaDoorE4
import Derived.Test.YtichmbbpjkikaaaDoorW6
namespace Go.Proofs.YtichmbbpjkikaaaDoor
set_option linter.unusedVariables false
set_option maxRecDepth 100000
set_option linter.unusedSimpArgs false

theorem hd8 {a n : Int} (h : hd a n = a) (h0 : 0 ≤ n) (h8 : n ≤ 8) : a % 256 = 0 := by
  unfold hd at h
  obtain ⟨k, hk⟩ : ∃ k, (16 - n).toNat = 8 + k := ⟨(8 - n).toNat, by omega⟩
  rw [hk, Int.pow_add] at h
  have : a = 256 * (2 ^ k * (a / (2 ^ 8 * 2 ^ k))) := by
    have e : (2 : Int) ^ 8 = 256 := by decide
    rw [e] at h
    rw [e, ← Int.mul_assoc, Int.mul_comm (256 * 2 ^ k)]
    exact h.symm
  rw [this]
  exact Int.mul_emod_right 256 _
theorem hd0 {a n : Int} (h : hd a n = a) (h1 : 0 ≤ a) (h2 : a ≤ 65535) (h0 : n = 0) : a = 0 := by
  subst h0
  unfold hd at h
  have e : ((16 : Int) - 0).toNat = 16 := by decide
  rw [e] at h
  have e2 : (2 : Int) ^ 16 = 65536 := by decide
  rw [e2] at h
  omega
theorem nb_vals {n : Int} (h0 : 0 ≤ n) (h1 : n ≤ 16) : (n = 0 ∧ nbytes n = 0) ∨ (0 < n ∧ n ≤ 8 ∧ nbytes n = 1) ∨ (8 < n ∧ nbytes n = 2) := by unfold nbytes; omega
theorem get_put {a n : Int} (h : pokB a n = true) : gAns ([9] ++ putL a n ++ [3]) 1 = .tuple #[.agg #[.int .i64 a, .int .i64 n], .int .i64 (1 + ((putL a n).length : Int))] := by
  obtain ⟨h0, h1, h2, h3, h4⟩ := pok_of h
  have key : ∀ (L : List Int), ([9] ++ putL a n ++ [3]) = L → L.getD 1 0 = n → gAddr L 1 = a → (1 + 1 + nbytes n ≤ L.length) → 1 + 1 + nbytes n = 1 + ((putL a n).length : Int) → gAns L 1 = .tuple #[.agg #[.int .i64 a, .int .i64 n], .int .i64 (1 + ((putL a n).length : Int))] := by
    intro L _ e1 e2 e3 e4
    have hk : gOk L 1 := by
      refine ⟨by decide, ⟨?_, ?_, ?_⟩, ?_⟩
      · show 1 < L.length
        have : 0 ≤ nbytes n := by unfold nbytes; omega
        omega
      · show L.getD 1 0 ≤ 16
        rw [e1]; exact h3
      · show ((1 : Nat) : Int) + 1 + nbytes (L.getD 1 0) ≤ L.length
        rw [e1]; omega
      · show pokB (gAddr L 1) (L.getD 1 0) = true
        rw [e1, e2]; exact h
    rw [gAns_yes hk]
    show Value.tuple #[.agg #[.int .i64 (gAddr L 1), .int .i64 (L.getD 1 0)], .int .i64 (1 + 1 + nbytes (L.getD 1 0))] = _
    rw [e1, e2, e4]
  refine key _ rfl ?_ ?_ ?_ ?_
  all_goals
    unfold putL
    rw [if_pos h]
    rcases nb_vals h2 h3 with ⟨n0, nb⟩ | ⟨n0, n8, nb⟩ | ⟨n8, nb⟩
  · rw [if_pos n0]; rfl
  · rw [if_neg (by omega), if_pos n8]; rfl
  · rw [if_neg (by omega), if_neg (by omega)]; rfl
  · rw [if_pos n0]
    show (if n = 0 then (0 : Int) else _) = a
    rw [if_pos n0, hd0 h4 h0 h1 n0]
  · rw [if_neg (by omega), if_pos n8]
    show (if n = 0 then (0 : Int) else if n ≤ 8 then a / 256 * 256 else _) = a
    rw [if_neg (by omega), if_pos n8]
    have := hd8 h4 h2 n8
    omega
  · rw [if_neg (by omega), if_neg (by omega)]
    show (if n = 0 then (0 : Int) else if n ≤ 8 then _ else a / 256 * 256 + a % 256) = a
    rw [if_neg (by omega), if_neg (by omega)]
    omega
  · rw [if_pos n0, nb]; simp
  · rw [if_neg (by omega), if_pos n8, nb]; simp
  · rw [if_neg (by omega), if_neg (by omega), nb]; simp
  · rw [if_pos n0, nb]; simp
  · rw [if_neg (by omega), if_pos n8, nb]; simp
  · rw [if_neg (by omega), if_neg (by omega), nb]; simp
theorem cut1 (l : List Int) (k : Nat) (h : k < l.length) : (l.take (k + 1)).drop k = [l.getD k 0] := by
  rw [List.take_succ_eq_append_getElem h, List.drop_append_of_le_length (by rw [List.length_take]; omega), List.drop_eq_nil_of_le (by rw [List.length_take]; omega)]
  simp [List.getD, h]
theorem cut_succ (l : List Int) (k m : Nat) (h : k ≤ m) (hm : m < l.length) : (l.take (m + 1)).drop k = (l.take m).drop k ++ [l.getD m 0] := by
  rw [List.take_succ_eq_append_getElem hm, List.drop_append_of_le_length (by rw [List.length_take]; omega)]
  simp [List.getD, hm]
/-- put again, it is what was read -/
theorem put_get {l : List Int} {k : Nat} (hb : ∀ x ∈ l, 0 ≤ x ∧ x ≤ 255) (h : gOk l k) : putL (gAddr l k) (l.getD k 0) = (l.take (k + 1 + (nbytes (l.getD k 0)).toNat)).drop k := by
  obtain ⟨_, ⟨q1, q2, q3⟩, q4⟩ := h
  rw [show ((k : Int)).toNat = k by simp] at q1 q2 q3 q4
  obtain ⟨h0, h1, h2, h3, h4⟩ := pok_of q4
  have b1 := getD_bd hb (k + 1)
  have b2 := getD_bd hb (k + 2)
  unfold putL
  rw [if_pos q4]
  rcases nb_vals h2 h3 with ⟨n0, nb⟩ | ⟨n0, n8, nb⟩ | ⟨n8, nb⟩
  · rw [if_pos n0, nb]
    exact (cut1 l k q1).symm
  · rw [nb] at q3 ⊢
    have e : gAddr l k = l.getD (k + 1) 0 * 256 := by unfold gAddr; rw [if_neg (by omega), if_pos n8]
    rw [if_neg (by omega), if_pos n8, e, show (1 : Int).toNat = 1 from rfl, cut_succ l k (k + 1) (by omega) (by omega), cut1 l k q1, Int.mul_ediv_cancel _ (by decide)]
    rfl
  · rw [nb] at q3 ⊢
    have e : gAddr l k = l.getD (k + 1) 0 * 256 + l.getD (k + 2) 0 := by unfold gAddr; rw [if_neg (by omega), if_neg (by omega)]
    rw [if_neg (by omega), if_neg (by omega), e, show (2 : Int).toNat = 2 from rfl, show k + 1 + 2 = (k + 2) + 1 by omega, cut_succ l k (k + 2) (by omega) (by omega), cut_succ l k (k + 1) (by omega) (by omega), cut1 l k q1,
      show (l.getD (k + 1) 0 * 256 + l.getD (k + 2) 0) / 256 = l.getD (k + 1) 0 by omega, show (l.getD (k + 1) 0 * 256 + l.getD (k + 2) 0) % 256 = l.getD (k + 2) 0 by omega]
    rfl
end Go.Proofs.YtichmbbpjkikaaaDoor
