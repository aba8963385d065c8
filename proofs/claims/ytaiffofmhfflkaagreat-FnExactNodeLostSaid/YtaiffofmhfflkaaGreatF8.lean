/-
  The prefixes of a table: contracts of RibPrefixes of the program and of the model. Conditions: those in each contract.
-/
import Derived.Test.YtaiffofmhfflkaaGreatF6
namespace Go.Proofs.YtaiffofmhfflkaaGreat
open Go.ChangeShapes Go.WideShapes Go.ChangeAt Go.RowKit Go.BigFrame Go.Joins
set_option linter.unusedVariables false
set_option maxRecDepth 100000
set_option linter.unusedSimpArgs false
set_option maxRecDepth 100000

/-- what RibPrefixes answers -/
def ansP (L : List Ent) : List (Int × Int) := if ribB L = true then kp (pfx L) L.length else []
theorem ansP_no {L : List Ent} (h : ribB L = false) : ansP L = [] := by simp [ansP, h]
theorem ansP_yes {L : List Ent} (h : ribB L = true) : ansP L = kp (pfx L) L.length := by simp [ansP, h]
theorem ribB_len {L : List Ent} (h : ribB L = true) : L.length ≤ 60 := by
  unfold ribB at h
  simp at h
  omega
theorem take_pfx {L : List Ent} {k : Nat} {E : Ent} (h : k < L.length) (hx : L.getD k e0 = E) : (pfx L).take (k + 1) = (pfx L).take k ++ [(E.a, E.n)] := by
  have hl : k < (pfx L).length := by rw [pfx_len]; exact h
  have e := pfx_get L k
  rw [hx] at e
  rw [List.take_add_one, List.getElem?_eq_getElem hl]
  simp only [List.getD_eq_getElem?_getD, List.getElem?_eq_getElem hl, Option.getD_some] at e
  simp [e]
end Go.Proofs.YtaiffofmhfflkaaGreat
