/-
  The drawn prefix that may be bent. Conditions: those in each contract.
-/
import Derived.Test.YtcmbajphholliabDoorD2
namespace Go.Proofs.YtcmbajphholliabDoor
open Go.ChangeShapes Go.WideShapes Go.ChangeAt Go.RowKit Go.BigFrame
set_option linter.unusedVariables false
set_option maxRecDepth 100000

/-- block B holds two cells that may be written -/
structure Box (w : World) (B : Nat) (x y : Value) : Prop where
  lt : B < w.heap.size
  c0 : w.cell? ⟨B, 0, none⟩ = some x
  c1 : w.cell? ⟨B, 1, none⟩ = some y
  f0 : w.frozen? ⟨B, 0, none⟩ = false
  f1 : w.frozen? ⟨B, 1, none⟩ = false
theorem Box.grown {w w' : World} {B : Nat} {x y : Value} {row : Option Nat} (h : Box w B x y) (hg : w.grownBy w' row) (hne : some B ≠ row) : Box w' B x y :=
  ⟨Nat.lt_of_lt_of_le h.lt hg.size, (hg.cell_far _ h.lt hne).trans h.c0, (hg.cell_far _ h.lt hne).trans h.c1, (hg.frozen_far _ h.lt hne).trans h.f0, (hg.frozen_far _ h.lt hne).trans h.f1⟩
theorem Box.alloc {w : World} {B : Nat} {x y : Value} (h : Box w B x y) (o : Obj) : Box (w.alloc o) B x y :=
  ⟨Nat.lt_of_lt_of_le h.lt (by simp), (World.cell?_alloc_past _ _ _ h.lt).trans h.c0, (World.cell?_alloc_past _ _ _ h.lt).trans h.c1, (World.frozen?_alloc_past _ _ _ h.lt).trans h.f0, (World.frozen?_alloc_past _ _ _ h.lt).trans h.f1⟩
theorem Box.new (w : World) (x y : Value) (t : TypeId) (b : Nat) (hb : b = w.heap.size) : Box (w.alloc (.cells #[x, y] t)) b x y := by
  subst hb
  exact ⟨by simp, by simp, by simp, World.frozen?_alloc_at _ _ _ _ rfl, World.frozen?_alloc_at _ _ _ _ rfl⟩
theorem Box.far {w : World} {B C o : Nat} {x y u : Value} (h : Box w B x y) (hne : B ≠ C) : Box (w.setCell ⟨C, o, none⟩ u) B x y :=
  h.grown (grown_set w C o u) (by simpa using hne)
theorem Box.set0 {w : World} {B : Nat} {x y u : Value} (h : Box w B x y) : Box (w.setCell ⟨B, 0, none⟩ u) B u y :=
  ⟨Nat.lt_of_lt_of_le h.lt (grown_set w B 0 u).size, set_same h.c0, set_other (by simp) h.c1, by rw [World.frozen?_setCell]; exact h.f0, by rw [World.frozen?_setCell]; exact h.f1⟩
theorem Box.set1 {w : World} {B : Nat} {x y u : Value} (h : Box w B x y) : Box (w.setCell ⟨B, 1, none⟩ u) B x u :=
  ⟨Nat.lt_of_lt_of_le h.lt (grown_set w B 1 u).size, set_other (by simp) h.c0, set_same h.c1, by rw [World.frozen?_setCell]; exact h.f0, by rw [World.frozen?_setCell]; exact h.f1⟩

end Go.Proofs.YtcmbajphholliabDoor
