/-
  RibDropPeer of the program and of the model. Conditions: those in each contract.
-/
import Derived.Test.YtaiffofmhfflkaaEH
import Derived.Test.YtaiffofmhfflkaaF3
namespace Go.Proofs.Ytaiffofmhfflkaa
open Go.ChangeShapes Go.WideShapes Go.ChangeAt Go.RowKit Go.BigFrame Go.Joins
set_option linter.unusedVariables false
set_option maxRecDepth 100000
set_option linter.unusedSimpArgs false
set_option maxRecDepth 100000

/-- what RibDropPeer answers -/
def dropP (L : List Ent) (pe : Int) : List Ent := if ribB L = true then L.filter (fun E => !(E.pe == pe)) else []
theorem dropP_no {L : List Ent} {pe : Int} (h : ribB L = false) : dropP L pe = [] := by simp [dropP, h]
theorem dropP_yes {L : List Ent} {pe : Int} (h : ribB L = true) : dropP L pe = L.filter (fun E => !(E.pe == pe)) := by simp [dropP, h]
theorem getD_mem {L : List Ent} {j : Nat} (h : j < L.length) : L.getD j e0 ∈ L := by
  rw [List.getD_eq_getElem?_getD, List.getElem?_eq_getElem h]
  exact List.getElem_mem h
theorem lens_filter {L : List Ent} {f : Ent → Bool} (h : ∀ j, j < L.length → (L.getD j e0).p.length ≤ 1048576 ∧ (L.getD j e0).c.length ≤ 1048576) : ∀ j, j < (L.filter f).length → ((L.filter f).getD j e0).p.length ≤ 1048576 ∧ ((L.filter f).getD j e0).c.length ≤ 1048576 := by
  intro j hj
  obtain ⟨i, hi, e⟩ := List.mem_iff_getElem.1 (List.mem_filter.1 (getD_mem hj)).1
  have := h i hi
  rw [List.getD_eq_getElem?_getD, List.getElem?_eq_getElem hi] at this
  rw [← e]
  exact this
theorem ribB_len7 {L : List Ent} (h : ribB L = true) : L.length ≤ 60 := by
  unfold ribB at h
  simp at h
  omega
end Go.Proofs.Ytaiffofmhfflkaa
