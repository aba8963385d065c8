/-
  PrefixRead of the model, and that it answers as the program does. Conditions: those in each statement.
-/
import Derived.Test.YtichmbbpjkikaaaDoorR4
namespace Go.Proofs.YtichmbbpjkikaaaDoor
open Go.ChangeShapes Go.WideShapes Go.ChangeAt Go.RowKit Go.BigFrame
set_option linter.unusedVariables false
set_option maxRecDepth 100000
set_option linter.unusedSimpArgs false

theorem getD_skip (pre t : List Int) (i : Nat) (h : pre.length ≤ i) : (pre ++ t).getD i 0 = t.getD (i - pre.length) 0 := by
  simp [List.getD, List.getElem?_append_right h]
theorem numL_skip (pre t : List Int) : ∀ (k i : Nat) (x : Int), numL (pre ++ t) k (pre.length + i) x = ((numL t k i x).1, pre.length + (numL t k i x).2) := by
  intro k
  induction k with
  | zero => intro i x; rfl
  | succ k ih =>
    intro i x
    rw [numL, numL, getD_skip _ _ _ (by omega), show pre.length + i - pre.length = i by omega]
    by_cases h : i < t.length ∧ 48 ≤ t.getD i 0 ∧ t.getD i 0 ≤ 57
    · rw [if_pos ⟨by rw [List.length_append]; omega, h.2⟩, if_pos h, show pre.length + i + 1 = pre.length + (i + 1) by omega, ih]
    · rw [if_neg (by rintro ⟨q1, q2⟩; rw [List.length_append] at q1; exact h ⟨by omega, q2⟩), if_neg h]
/-- a sign that is no figure, or the end -/
def Ends (t : List Int) : Prop := t = [] ∨ ∃ c u, t = c :: u ∧ ¬ (48 ≤ c ∧ c ≤ 57)
theorem numL_digits (x : Int) (t : List Int) (h0 : 0 ≤ x) (h1 : x < 1000) (ht : Ends t) : numL (dgI x ++ t) 3 0 0 = (x, (dgI x).length) := by
  have st (k : Nat) (y : Int) : ∀ (u : List Int), numL (u ++ t) k u.length y = (y, u.length) := by
    intro u
    refine num_stop (.inr ?_)
    rintro ⟨q1, q2⟩
    rw [getD_skip _ _ _ (Nat.le_refl _), Nat.sub_self] at q2
    rcases ht with rfl | ⟨c, v, rfl, hc⟩
    · rw [List.length_append] at q1; simp at q1
    · exact hc q2
  by_cases c1 : x < 10
  · rw [dgI_small h0 c1, numL, if_pos ⟨by simp, by show 48 ≤ 48 + x; omega, by show 48 + x ≤ 57; omega⟩]
    rw [show (10 * 0 + (([48 + x] ++ t).getD 0 0 - 48) : Int) = x by show 10 * 0 + (48 + x - 48) = x; omega]
    exact st 2 x [48 + x]
  · rw [dgI_big h0 c1]
    by_cases c2 : x < 100
    · rw [dgI_small (by omega) (by omega : x / 10 < 10)]
      rw [numL, if_pos ⟨by simp, by show 48 ≤ 48 + x / 10; omega, by show 48 + x / 10 ≤ 57; omega⟩,
        numL, if_pos ⟨by simp, by show 48 ≤ 48 + x % 10; omega, by show 48 + x % 10 ≤ 57; omega⟩]
      rw [show (10 * (10 * 0 + ((([48 + x / 10] ++ [48 + x % 10]) ++ t).getD 0 0 - 48)) + ((([48 + x / 10] ++ [48 + x % 10]) ++ t).getD (0 + 1) 0 - 48) : Int) = x by show 10 * (10 * 0 + (48 + x / 10 - 48)) + (48 + x % 10 - 48) = x; omega]
      exact st 1 x [48 + x / 10, 48 + x % 10]
    · rw [dgI_big (by omega) (by omega : ¬ x / 10 < 10), dgI_small (by omega) (by omega : x / 10 / 10 < 10)]
      rw [numL, if_pos ⟨by simp, by show 48 ≤ 48 + x / 10 / 10; omega, by show 48 + x / 10 / 10 ≤ 57; omega⟩,
        numL, if_pos ⟨by simp, by show 48 ≤ 48 + x / 10 % 10; omega, by show 48 + x / 10 % 10 ≤ 57; omega⟩,
        numL, if_pos ⟨by simp, by show 48 ≤ 48 + x % 10; omega, by show 48 + x % 10 ≤ 57; omega⟩]
      rw [show (10 * (10 * (10 * 0 + (((([48 + x / 10 / 10] ++ [48 + x / 10 % 10]) ++ [48 + x % 10]) ++ t).getD 0 0 - 48)) + (((([48 + x / 10 / 10] ++ [48 + x / 10 % 10]) ++ [48 + x % 10]) ++ t).getD (0 + 1) 0 - 48)) + (((([48 + x / 10 / 10] ++ [48 + x / 10 % 10]) ++ [48 + x % 10]) ++ t).getD (0 + 1 + 1) 0 - 48) : Int) = x by
        show 10 * (10 * (10 * 0 + (48 + x / 10 / 10 - 48)) + (48 + x / 10 % 10 - 48)) + (48 + x % 10 - 48) = x; omega]
      exact st 0 x [48 + x / 10 / 10, 48 + x / 10 % 10, 48 + x % 10]
theorem numV_at (pre t : List Int) (x : Int) (h0 : 0 ≤ x) (h1 : x < 1000) (ht : Ends t) : numV (pre ++ (dgI x ++ t)) pre.length = (x, ((pre.length + (dgI x).length : Nat) : Int)) := by
  have q := dgI_pos x
  have e := numL_skip pre (dgI x ++ t) 3 0 0
  rw [numL_digits x t h0 h1 ht, Nat.add_zero] at e
  unfold numV
  rw [e, if_neg (by show ¬ pre.length + (dgI x).length = pre.length; omega)]
/-- what the model's steps find in the text of a valid prefix -/
theorem text_num (a n : Int) (h : pokB a n = true) : ∃ p q r : Nat, numV (textL a n) 0 = (a / 256, (p : Int)) ∧ p < (textL a n).length ∧ (textL a n).getD p 0 = 46 ∧
    numV (textL a n) (p + 1) = (a % 256, (q : Int)) ∧ q < (textL a n).length ∧ (textL a n).getD q 0 = 47 ∧ numV (textL a n) (q + 1) = (n, (r : Int)) ∧ r = (textL a n).length := by
  obtain ⟨h0, h1, h2, h3, -⟩ := pok_of h
  have e1 : textL a n = [] ++ (dgI (a / 256) ++ (46 :: (dgI (a % 256) ++ (47 :: dgI n)))) := by rw [textL_is a n h]; simp
  have e2 : textL a n = (dgI (a / 256) ++ [46]) ++ (dgI (a % 256) ++ (47 :: dgI n)) := by rw [textL_is a n h]; simp
  have e3 : textL a n = (dgI (a / 256) ++ [46] ++ dgI (a % 256) ++ [47]) ++ (dgI n ++ []) := by rw [textL_is a n h]; simp
  have v1 := numV_at [] (46 :: (dgI (a % 256) ++ (47 :: dgI n))) (a / 256) (by omega) (by omega) (.inr ⟨46, _, rfl, by decide⟩)
  have v2 := numV_at (dgI (a / 256) ++ [46]) (47 :: dgI n) (a % 256) (by omega) (by omega) (.inr ⟨47, _, rfl, by decide⟩)
  have v3 := numV_at (dgI (a / 256) ++ [46] ++ dgI (a % 256) ++ [47]) [] n (by omega) (by omega) (.inl rfl)
  rw [← e1] at v1
  rw [← e2] at v2
  rw [← e3] at v3
  have L : (textL a n).length = (dgI (a / 256)).length + 1 + (dgI (a % 256)).length + 1 + (dgI n).length := by rw [e3]; simp only [List.length_append, List.length_cons, List.length_nil]; omega
  refine ⟨(dgI (a / 256)).length, (dgI (a / 256)).length + 1 + (dgI (a % 256)).length, (textL a n).length, ?_, by omega, ?_, ?_, by omega, ?_, ?_, rfl⟩
  · simpa using v1
  · rw [e1, List.nil_append, getD_skip _ _ _ (Nat.le_refl _), Nat.sub_self]; rfl
  · simpa using v2
  · have z : (dgI (a / 256) ++ [46] ++ dgI (a % 256)).length = (dgI (a / 256)).length + 1 + (dgI (a % 256)).length := by simp only [List.length_append, List.length_cons, List.length_nil]
    rw [e2, ← List.append_assoc, getD_skip _ _ _ (by rw [z]; exact Nat.le_refl _), z, Nat.sub_self]; rfl
  · have z : (dgI (a / 256) ++ [46] ++ dgI (a % 256) ++ [47]).length = (dgI (a / 256)).length + 1 + (dgI (a % 256)).length + 1 := by simp only [List.length_append, List.length_cons, List.length_nil]
    rw [z] at v3
    rw [L]; exact v3
theorem numL_end (l : List Int) : ∀ (k i : Nat) (x : Int), i ≤ l.length + 1 → (numL l k i x).2 ≤ l.length + 1 ∧ (i ≤ l.length → (numL l k i x).2 ≤ l.length) := by
  intro k
  induction k with
  | zero => intro i x h; exact ⟨h, fun q => q⟩
  | succ k ih =>
    intro i x h
    rw [numL]
    split
    · next hc =>
      have := ih (i + 1) (10 * x + (l.getD i 0 - 48)) (by omega)
      exact ⟨this.1, fun _ => this.2 (by omega)⟩
    · exact ⟨h, fun q => q⟩
end Go.Proofs.YtichmbbpjkikaaaDoor
