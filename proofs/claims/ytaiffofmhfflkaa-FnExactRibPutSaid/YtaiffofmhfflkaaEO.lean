/-
  RibDrop of the program and of the model. Conditions: those in each contract.
-/
import Derived.Test.YtaiffofmhfflkaaEN
import Derived.Test.YtaiffofmhfflkaaEI
namespace Go.Proofs.Ytaiffofmhfflkaa
open Go.ChangeShapes Go.WideShapes Go.ChangeAt Go.RowKit Go.BigFrame Go.Joins
set_option linter.unusedVariables false
set_option maxRecDepth 100000
set_option linter.unusedSimpArgs false
set_option maxRecDepth 100000

/-- what RibDrop answers -/
def dropD (L : List Ent) (da dn dp : Int) : List Ent := if ribB L = true then L.filter (fun G => !(isD da dn dp G)) else []
theorem dropD_no {L : List Ent} {da dn dp : Int} (h : ribB L = false) : dropD L da dn dp = [] := by simp [dropD, h]
theorem dropD_yes {L : List Ent} {da dn dp : Int} (h : ribB L = true) : dropD L da dn dp = L.filter (fun G => !(isD da dn dp G)) := by simp [dropD, h]
end Go.Proofs.Ytaiffofmhfflkaa
