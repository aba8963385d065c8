/-
  Slices of the call's own beside each other: what a marking of one leaves of another; a region that draws keeps what was there. No condition beside those in each statement.
-/
import Derived.Test.YtbcmoofpgffbhaaB2
namespace Go.Proofs.Ytbcmoofpgffbhaa
open Go.ChangeShapes Go.WideShapes Go.ChangeAt Go.RowKit Go.BigFrame
set_option linter.unusedVariables false
set_option maxRecDepth 100000

theorem over_refl (V : World) : Over V V := Below.refl _ _
theorem over_alloc {V w : World} (h : Over V w) (o : Obj) : Over V (w.alloc o) := Below.alloc h h.size o
theorem over_trans {V w x : World} (h : Over V w) (k : Over w x) : Over V x := below_step h k
theorem le_over {V w : World} {b : Nat} (h : Over V w) (hb : b ≤ V.heap.size) : b ≤ w.heap.size := Nat.le_trans hb h.size
theorem rd_over {V w : World} {v : Value} {l : List Int} (h : Rd V v l) (o : Over V w) : Rd w v l := h.keep o
theorem Own.kept {w w' : World} {base : Nat} {v : Value} {l : List Int} {row : Option Nat} (h : Own w base v l) (hg : w.grownBy w' row) (hne : v.ownBlock = none ∨ v.ownBlock ≠ row) : Own w' base v l := World.ownsRow.kept h hg hne
/-- an older row and a younger one lie apart -/
theorem sepO {w w' : World} {b1 b2 : Nat} {v u : Value} {l m : List Int} (h1 : Own w b1 v l) (h2 : Own w' b2 u m) (h : w.heap.size ≤ b2) : v.ownBlock = none ∨ v.ownBlock ≠ u.ownBlock := by
  cases hv : v.ownBlock with
  | none => exact .inl rfl
  | some k =>
    refine .inr (fun e => ?_)
    have a1 := (World.ownsRow.lt h1 k hv).2
    have a2 := (World.ownsRow.lt h2 k e.symm).1
    omega
theorem sepY {w w' : World} {b1 b2 : Nat} {v u : Value} {l m : List Int} (h1 : Own w b1 v l) (h2 : Own w' b2 u m) (h : w.heap.size ≤ b2) : u.ownBlock = none ∨ u.ownBlock ≠ v.ownBlock := by
  rcases sepO h1 h2 h with h0 | h0
  · cases hu : u.ownBlock with
    | none => exact .inl rfl
    | some k => exact .inr (by rw [h0]; simp)
  · exact .inr (Ne.symm h0)
theorem held0 {V : World} {b : Nat} {u v : Value} (lt : b < V.heap.size) (c0 : V.cell? ⟨b, 0, none⟩ = some u) (c1 : V.cell? ⟨b, 1, none⟩ = some v) :
    Over V V.drew ∧ V.drew.cell? ⟨b, 0, none⟩ = some u ∧ V.drew.cell? ⟨b, 1, none⟩ = some v := ⟨over_drew V, over_cell (over_drew V) lt c0, over_cell (over_drew V) lt c1⟩
theorem heldS {V w w1 : World} {b : Nat} {u v : Value} (lt : b < V.heap.size) (c0 : V.cell? ⟨b, 0, none⟩ = some u) (c1 : V.cell? ⟨b, 1, none⟩ = some v) (h : Over V w ∧ w.cell? ⟨b, 0, none⟩ = some u ∧ w.cell? ⟨b, 1, none⟩ = some v) (hb : Below w.heap.size w w1) :
    Over V w1 ∧ w1.cell? ⟨b, 0, none⟩ = some u ∧ w1.cell? ⟨b, 1, none⟩ = some v := ⟨over_step h.1 hb, over_cell (over_step h.1 hb) lt c0, over_cell (over_step h.1 hb) lt c1⟩
end Go.Proofs.Ytbcmoofpgffbhaa
