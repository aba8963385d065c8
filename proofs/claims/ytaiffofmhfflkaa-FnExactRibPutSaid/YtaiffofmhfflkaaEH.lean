/-
  The library's IndexFunc and DeleteFunc at rows of entries, for the closure of RibDropPeer. Conditions: those in each contract.
-/
import Derived.Test.YtaiffofmhfflkaaEG
namespace Go.Proofs.Ytaiffofmhfflkaa
open Go.ChangeShapes Go.WideShapes Go.ChangeAt Go.RowKit Go.BigFrame Go.Joins
set_option linter.unusedVariables false
set_option maxRecDepth 100000
set_option linter.unusedSimpArgs false
set_option maxRecDepth 100000

/-- the place of the first that is dropped, or none -/
def FirstP (T : List ET) (pe : Int) (r : Int) : Prop :=
  (r = -1 ∧ ∀ (j : Nat) (t : ET), T[j]? = some t → (t.E.pe == pe) = false) ∨ ∃ i : Nat, i < T.length ∧ r = i ∧ (∀ j, j < i → ∀ t : ET, T[j]? = some t → (t.E.pe == pe) = false) ∧ ∀ t : ET, T[i]? = some t → (t.E.pe == pe) = true
theorem keepItP {T : List ET} {pe : Int} {k : Nat} {t : ET} (ht : T[k]? = some t) (hb : (t.E.pe == pe) = false) : (T.take (k + 1)).filter (fun t : ET => !(t.E.pe == pe)) = (T.take k).filter (fun t : ET => !(t.E.pe == pe)) ++ [t] := by
  rw [List.take_add_one, ht, List.filter_append]
  simp [hb]
theorem dropItP {T : List ET} {pe : Int} {k : Nat} {t : ET} (ht : T[k]? = some t) (hb : (t.E.pe == pe) = true) : (T.take (k + 1)).filter (fun t : ET => !(t.E.pe == pe)) = (T.take k).filter (fun t : ET => !(t.E.pe == pe)) := by
  rw [List.take_add_one, ht, List.filter_append]
  simp [hb]
theorem allItP {T : List ET} {pe : Int} {k : Nat} (h : ∀ j, j < k → ∀ t, T[j]? = some t → (t.E.pe == pe) = false) : (T.take k).filter (fun t : ET => !(t.E.pe == pe)) = T.take k := by
  rw [List.filter_eq_self]
  intro t ht
  obtain ⟨j, hj, e⟩ := List.mem_iff_getElem.1 ht
  rw [List.length_take] at hj
  have := h j (by omega) t (by rw [List.getElem?_eq_getElem (by omega)]; rw [List.getElem_take] at e; rw [e])
  simp [this]
end Go.Proofs.Ytaiffofmhfflkaa
