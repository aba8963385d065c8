/-
  Messages without prefixes and attributes: the laws' own marks on them; contracts of OpenOf of the program and of the model. Conditions: those in each contract.
-/
import Derived.Test.YtnklnibjlhnicaaRRRRDoorS2
namespace Go.Proofs.YtnklnibjlhnicaaRRRRDoor
open Go.ChangeShapes Go.WideShapes Go.ChangeAt Go.RowKit Go.BigFrame Go.Joins
set_option linter.unusedVariables false
set_option maxRecDepth 100000
set_option linter.unusedSimpArgs false

theorem sl4open_any (sa ix ho pe : Int) (w : World) : Calls Tryd.prog 21 #[.agg #[.int .i64 sa, .int .i64 ix, .int .i64 ho, .int .i64 pe]] w fun e w' => e = .returned (.agg #[.int .i64 1, .int .i64 sa, .int .i64 ho, .int .i64 ix, .slice none 0 0, .slice none 0 0, .slice none 0 0, .int .i64 0, .slice none 0 0, .int .i64 0, .int .i64 0]) ∧ Below w.heap.size w w' := by
  go_enter Tryd.func21, Tryd.ntmps21
  go_wp2
  exact bodyPost_ret (v := .agg #[.int .i64 1, .int .i64 sa, .int .i64 ho, .int .i64 ix, .slice none 0 0, .slice none 0 0, .slice none 0 0, .int .i64 0, .slice none 0 0, .int .i64 0, .int .i64 0]) (by simp [results, Tryd.results21, go_sem]) rfl ⟨rfl, by repeat' (first | exact Below.refl _ _ | (refine Below.setCell ?_ (by simp) _) | (refine Below.alloc ?_ (by simp) _) | (refine Below.drew ?_))⟩
/-- what OpenOf answers: the fields, and whether there is an answer -/
def OpIs (sa ix ho pe k a h i : Int) (b : Bool) : Prop := (cokB sa ix ho pe = true ∧ k = 1 ∧ a = sa ∧ h = ho ∧ i = ix ∧ b = true) ∨ (cokB sa ix ho pe = false ∧ k = 0 ∧ a = 0 ∧ h = 0 ∧ i = 0 ∧ b = false)
theorem opIs_ex (sa ix ho pe : Int) : ∃ k a h i b, OpIs sa ix ho pe k a h i b := by
  cases h : cokB sa ix ho pe
  · exact ⟨0, 0, 0, 0, false, .inr ⟨h, rfl, rfl, rfl, rfl, rfl⟩⟩
  · exact ⟨1, sa, ho, ix, true, .inl ⟨h, rfl, rfl, rfl, rfl, rfl⟩⟩
theorem Bl.set11 {w : World} {B : Nat} {x0 x1 x2 x3 x4 x5 x6 x7 x8 x9 x10 : Value} (h : Bl w B [x0, x1, x2, x3, x4, x5, x6, x7, x8, x9, x10]) (y0 y1 y2 y3 y4 y5 y6 y7 y8 y9 y10 : Value) : Bl (((((((((((w.setCell ⟨B, 0, none⟩ (y0)).setCell ⟨B, 1, none⟩ (y1)).setCell ⟨B, 2, none⟩ (y2)).setCell ⟨B, 3, none⟩ (y3)).setCell ⟨B, 4, none⟩ (y4)).setCell ⟨B, 5, none⟩ (y5)).setCell ⟨B, 6, none⟩ (y6)).setCell ⟨B, 7, none⟩ (y7)).setCell ⟨B, 8, none⟩ (y8)).setCell ⟨B, 9, none⟩ (y9)).setCell ⟨B, 10, none⟩ (y10)) B [y0, y1, y2, y3, y4, y5, y6, y7, y8, y9, y10] := by
  have h := (((((((((((h.set 0 y0).set 1 y1).set 2 y2).set 3 y3).set 4 y4).set 5 y5).set 6 y6).set 7 y7).set 8 y8).set 9 y9).set 10 y10)
  simpa only [List.set_cons_zero, List.set_cons_succ] using h
theorem below_set11 {w w1 : World} {b B : Nat} (h : Below b w w1) (hB : b ≤ B) (y0 y1 y2 y3 y4 y5 y6 y7 y8 y9 y10 : Value) : Below b w (((((((((((w1.setCell ⟨B, 0, none⟩ (y0)).setCell ⟨B, 1, none⟩ (y1)).setCell ⟨B, 2, none⟩ (y2)).setCell ⟨B, 3, none⟩ (y3)).setCell ⟨B, 4, none⟩ (y4)).setCell ⟨B, 5, none⟩ (y5)).setCell ⟨B, 6, none⟩ (y6)).setCell ⟨B, 7, none⟩ (y7)).setCell ⟨B, 8, none⟩ (y8)).setCell ⟨B, 9, none⟩ (y9)).setCell ⟨B, 10, none⟩ (y10)) :=
  (((((((((((h.setCell (p := ⟨B, 0, none⟩) hB y0).setCell (p := ⟨B, 1, none⟩) hB y1).setCell (p := ⟨B, 2, none⟩) hB y2).setCell (p := ⟨B, 3, none⟩) hB y3).setCell (p := ⟨B, 4, none⟩) hB y4).setCell (p := ⟨B, 5, none⟩) hB y5).setCell (p := ⟨B, 6, none⟩) hB y6).setCell (p := ⟨B, 7, none⟩) hB y7).setCell (p := ⟨B, 8, none⟩) hB y8).setCell (p := ⟨B, 9, none⟩) hB y9).setCell (p := ⟨B, 10, none⟩) hB y10)
end Go.Proofs.YtnklnibjlhnicaaRRRRDoor
