/-
  The library's IndexFunc and DeleteFunc at rows of entries, for the closure of drop. Conditions: those in each contract.
-/
import Derived.Test.YtaiffofmhfflkaaEG
namespace Go.Proofs.Ytaiffofmhfflkaa
open Go.ChangeShapes Go.WideShapes Go.ChangeAt Go.RowKit Go.BigFrame Go.Joins
set_option linter.unusedVariables false
set_option maxRecDepth 100000
set_option linter.unusedSimpArgs false
set_option maxRecDepth 100000

/-- the entry of that prefix and peer -/
def isD (da dn dp : Int) (E : Ent) : Bool := E.a == da && E.n == dn && E.pe == dp
/-- the place of the first that is dropped, or none -/
def FirstD (T : List ET) (da dn dp : Int) (r : Int) : Prop :=
  (r = -1 ∧ ∀ (j : Nat) (t : ET), T[j]? = some t → (isD da dn dp t.E) = false) ∨ ∃ i : Nat, i < T.length ∧ r = i ∧ (∀ j, j < i → ∀ t : ET, T[j]? = some t → (isD da dn dp t.E) = false) ∧ ∀ t : ET, T[i]? = some t → (isD da dn dp t.E) = true
theorem keepItD {T : List ET} {da dn dp : Int} {k : Nat} {t : ET} (ht : T[k]? = some t) (hb : (isD da dn dp t.E) = false) : (T.take (k + 1)).filter (fun t : ET => !(isD da dn dp t.E)) = (T.take k).filter (fun t : ET => !(isD da dn dp t.E)) ++ [t] := by
  rw [List.take_add_one, ht, List.filter_append]
  simp [hb]
theorem dropItD {T : List ET} {da dn dp : Int} {k : Nat} {t : ET} (ht : T[k]? = some t) (hb : (isD da dn dp t.E) = true) : (T.take (k + 1)).filter (fun t : ET => !(isD da dn dp t.E)) = (T.take k).filter (fun t : ET => !(isD da dn dp t.E)) := by
  rw [List.take_add_one, ht, List.filter_append]
  simp [hb]
theorem allItD {T : List ET} {da dn dp : Int} {k : Nat} (h : ∀ j, j < k → ∀ t, T[j]? = some t → (isD da dn dp t.E) = false) : (T.take k).filter (fun t : ET => !(isD da dn dp t.E)) = T.take k := by
  rw [List.filter_eq_self]
  intro t ht
  obtain ⟨j, hj, e⟩ := List.mem_iff_getElem.1 ht
  rw [List.length_take] at hj
  have := h j (by omega) t (by rw [List.getElem?_eq_getElem (by omega)]; rw [List.getElem_take] at e; rw [e])
  simp [this]
end Go.Proofs.Ytaiffofmhfflkaa
