/-
  Membership: the model's own loop and the library's search, of the program and of the model. Conditions: those in each contract.
-/
import Derived.Test.YtbmjicdnphfgaaaI5
import Derived.Test.YtbmjicdnphfgaaaShelf
import Derived.Shelf.SlicesG.SearchI
namespace Go.Proofs.Ytbmjicdnphfgaaa
open Go.ChangeShapes Go.WideShapes Go.ChangeAt Go.RowKit Go.BigFrame Go.Joins
set_option linter.unusedVariables false
set_option maxRecDepth 100000

theorem contains_yes {l : List Int} {k : Nat} {x : Int} (hk : k < l.length) (hx : l.getD k 0 = x) : decide (x ∈ l) = true := by
  have e : l.getD k 0 = l[k] := by simp [List.getD, hk]
  rw [e] at hx
  simp only [decide_eq_true_eq]
  rw [← hx]
  exact List.getElem_mem hk
theorem contains_no {l : List Int} {n : Nat} {x : Int} (hn : n = l.length) (h : ∀ i, i < n → l.getD i 0 ≠ x) : decide (x ∈ l) = false := by
  cases hc : decide (x ∈ l)
  · rfl
  · simp only [decide_eq_true_eq] at hc
    obtain ⟨i, hi, e⟩ := List.mem_iff_getElem.1 hc
    have := h i (by omega)
    have e2 : l.getD i 0 = l[i] := by simp [List.getD, hi]
    rw [e2, e] at this
    exact absurd rfl this
end Go.Proofs.Ytbmjicdnphfgaaa
