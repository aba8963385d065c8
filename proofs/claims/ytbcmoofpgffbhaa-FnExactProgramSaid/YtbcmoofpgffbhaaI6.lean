/-
  Membership: the model's own loop and the library's search, of the program and of the model. Conditions: those in each contract.
-/
import Derived.Test.YtbcmoofpgffbhaaI5
import Derived.Test.YtbcmoofpgffbhaaShelf
import Derived.Shelf.SlicesG.SearchI
namespace Go.Proofs.Ytbcmoofpgffbhaa
open Go.ChangeShapes Go.WideShapes Go.ChangeAt Go.RowKit Go.BigFrame Go.Joins
set_option linter.unusedVariables false
set_option maxRecDepth 100000

theorem contains_any (v : Value) (l : List Int) (x : Int) (w : World) (h : RdI w v l) :
    Calls Try.prog 176 #[v, .int .i64 x] w fun e w' => e = .returned (.bool (decide (x ∈ l))) ∧ Below w.heap.size w w' := by
  have hm := h.2.1
  unfold maxLen at hm
  rcases h.2.2 with ⟨a, c, rfl, rfl, hac⟩ | ⟨b, o, c, rfl, hp, hc⟩
  · exact (Try.slices_Contains_int_empty a c x w).mono fun e w' ⟨he, hw⟩ => ⟨he, hw ▸ Below.refl _ _⟩
  · have := Try.slices_Contains_int b o l.length c l x w (Nat.le_refl _) (by omega) hc
    rw [List.take_length, List.contains_eq_mem] at this
    exact this.mono fun e w' ⟨he, hw⟩ => ⟨he, hw ▸ Below.refl _ _⟩
theorem contains_yes {l : List Int} {k : Nat} {x : Int} (hk : k < l.length) (hx : l.getD k 0 = x) : decide (x ∈ l) = true := by
  have e : l.getD k 0 = l[k] := by simp [List.getD, hk]
  rw [e] at hx
  simp only [decide_eq_true_eq]
  rw [← hx]
  exact List.getElem_mem hk
theorem contains_no {l : List Int} {n : Nat} {x : Int} (hn : n = l.length) (h : ∀ i, i < n → l.getD i 0 ≠ x) : decide (x ∈ l) = false := by
  cases hc : decide (x ∈ l)
  · rfl
  · simp only [decide_eq_true_eq] at hc
    obtain ⟨i, hi, e⟩ := List.mem_iff_getElem.1 hc
    have := h i (by omega)
    have e2 : l.getD i 0 = l[i] := by simp [List.getD, hi]
    rw [e2, e] at this
    exact absurd rfl this
end Go.Proofs.Ytbcmoofpgffbhaa
