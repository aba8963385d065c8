/-
  The model's step of a session. Conditions: those in each contract.
-/
import Derived.Test.YtcmbajphholliabDoorV2
import Derived.Deep.RegionHeld3
import Derived.BigQuiet
import Derived.WalkLawsBesides
import Derived.WalkSpells
import Derived.Outline
namespace Go.Proofs.YtcmbajphholliabDoor
open Go.ChangeShapes Go.WideShapes Go.ChangeAt Go.RowKit Go.BigFrame Go.Joins
set_option linter.unusedVariables false
set_option maxRecDepth 100000
set_option linter.unusedSimpArgs false

theorem Bl.set5 {w : World} {B : Nat} {x0 x1 x2 x3 x4 : Value} (h : Bl w B [x0, x1, x2, x3, x4]) (y0 y1 y2 y3 y4 : Value) : Bl (((((w.setCell ⟨B, 0, none⟩ (y0)).setCell ⟨B, 1, none⟩ (y1)).setCell ⟨B, 2, none⟩ (y2)).setCell ⟨B, 3, none⟩ (y3)).setCell ⟨B, 4, none⟩ (y4)) B [y0, y1, y2, y3, y4] := by
  have h := (((((h.set 0 y0).set 1 y1).set 2 y2).set 3 y3).set 4 y4)
  simpa only [List.set_cons_zero, List.set_cons_succ] using h
theorem below_set5 {w w1 : World} {b B : Nat} (h : Below b w w1) (hB : b ≤ B) (y0 y1 y2 y3 y4 : Value) : Below b w (((((w1.setCell ⟨B, 0, none⟩ (y0)).setCell ⟨B, 1, none⟩ (y1)).setCell ⟨B, 2, none⟩ (y2)).setCell ⟨B, 3, none⟩ (y3)).setCell ⟨B, 4, none⟩ (y4)) :=
  (((((h.setCell (p := ⟨B, 0, none⟩) hB y0).setCell (p := ⟨B, 1, none⟩) hB y1).setCell (p := ⟨B, 2, none⟩) hB y2).setCell (p := ⟨B, 3, none⟩) hB y3).setCell (p := ⟨B, 4, none⟩) hB y4)
theorem OwnG.far5 {w : World} {base B : Nat} {v : Value} {l : List Bm} (h : OwnG w base v l) (hB : B < base) (y0 y1 y2 y3 y4 : Value) : OwnG (((((w.setCell ⟨B, 0, none⟩ (y0)).setCell ⟨B, 1, none⟩ (y1)).setCell ⟨B, 2, none⟩ (y2)).setCell ⟨B, 3, none⟩ (y3)).setCell ⟨B, 4, none⟩ (y4)) base v l :=
  (((((h.far (o := 0) (u := y0) hB).far (o := 1) (u := y1) hB).far (o := 2) (u := y2) hB).far (o := 3) (u := y3) hB).far (o := 4) (u := y4) hB)
end Go.Proofs.YtcmbajphholliabDoor
