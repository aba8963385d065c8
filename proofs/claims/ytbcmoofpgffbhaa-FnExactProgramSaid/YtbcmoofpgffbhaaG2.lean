/-
  Worlds: a block of any number of cells that may be written, as the list of what it holds. No condition beside those in each statement.
-/
import Derived.Test.YtbcmoofpgffbhaaG1
namespace Go.Proofs.Ytbcmoofpgffbhaa
open Go.ChangeShapes Go.WideShapes Go.ChangeAt Go.RowKit Go.BigFrame
set_option linter.unusedVariables false
set_option maxRecDepth 100000

/-- block B holds the cells xs, which may be written -/
structure Bl (w : World) (B : Nat) (xs : List Value) : Prop where
  lt : B < w.heap.size
  cs : ∀ i x, xs[i]? = some x → w.cell? ⟨B, i, none⟩ = some x
  fz : ∀ i, i < xs.length → w.frozen? ⟨B, i, none⟩ = false
section
variable {w w' : World} {B C o : Nat} {xs ys : List Value} {u x : Value} {row : Option Nat}
theorem Bl.c (h : Bl w B xs) (i : Nat) (e : xs[i]? = some x) : w.cell? ⟨B, i, none⟩ = some x := h.cs i x e
theorem Bl.f (h : Bl w B xs) (i : Nat) (e : xs[i]? = some x) : w.frozen? ⟨B, i, none⟩ = false := h.fz i (List.getElem?_eq_some_iff.mp e).1
theorem Bl.grown (h : Bl w B xs) (hg : w.grownBy w' row) (hne : some B ≠ row) : Bl w' B xs :=
  ⟨Nat.lt_of_lt_of_le h.lt hg.size, fun i x e => (hg.cell_far _ h.lt hne).trans (h.cs i x e), fun i hi => (hg.frozen_far _ h.lt hne).trans (h.fz i hi)⟩
theorem Bl.keep (h : Bl w B xs) (hb : Below w.heap.size w w') : Bl w' B xs := h.grown (grown_below hb none) (by simp)
theorem Bl.alloc (h : Bl w B xs) (o : Obj) : Bl (w.alloc o) B xs := h.keep ((Below.refl _ _).alloc (Nat.le_refl _) _)
theorem Bl.new (w : World) (xs : List Value) (t : TypeId) (b : Nat) (hb : b = w.heap.size) : Bl (w.alloc (.cells xs.toArray t)) b xs := by
  subst hb
  refine ⟨by simp, fun i x e => ?_, fun i hi => World.frozen?_alloc_at _ _ _ _ rfl⟩
  simp [World.cell?_alloc_at, e]
theorem Bl.far (h : Bl w B xs) (hne : B ≠ C) : Bl (w.setCell ⟨C, o, none⟩ u) B xs := h.grown (grown_set w C o u) (by simpa using hne)
theorem Bl.set (h : Bl w B xs) (i : Nat) (u : Value) : Bl (w.setCell ⟨B, i, none⟩ u) B (xs.set i u) := by
  refine ⟨Nat.lt_of_lt_of_le h.lt (grown_set w B i u).size, fun j x e => ?_, fun j hj => ?_⟩
  · by_cases hij : i = j
    · subst hij
      have hi : i < xs.length := by
        by_cases hi : i < xs.length
        · exact hi
        · rw [List.set_eq_of_length_le (by omega), List.getElem?_eq_none (by omega)] at e
          cases e
      rw [List.getElem?_set_self hi] at e
      cases e
      exact set_same (h.cs i _ (List.getElem?_eq_getElem hi))
    · rw [List.getElem?_set_ne hij] at e
      exact set_other (by simp <;> omega) (h.cs j x e)
  · rw [World.frozen?_setCell]
    exact h.fz j (by simpa using hj)
end
theorem Bl.o {V w : World} {B : Nat} {xs : List Value} {x : Value} (h : Bl V B xs) (o : Over V w) (i : Nat) (e : xs[i]? = some x) : w.cell? ⟨B, i, none⟩ = some x := over_cell o h.lt (h.c i e)
/-- new blocks: one, two, three of them -/
theorem one (w : World) (xs : List Value) (t1 : TypeId) :
    Bl (w.alloc (.cells xs.toArray t1)) w.heap.size xs ∧ Below w.heap.size w (w.alloc (.cells xs.toArray t1)) ∧ (w.alloc (.cells xs.toArray t1)).heap.size = w.heap.size + 1 :=
  ⟨Bl.new w xs t1 _ rfl, (Below.refl _ _).alloc (Nat.le_refl _) _, by simp⟩
theorem two (w : World) (xs ys : List Value) (t1 t2 : TypeId) :
    Bl ((w.alloc (.cells xs.toArray t1)).alloc (.cells ys.toArray t2)) w.heap.size xs ∧ Bl ((w.alloc (.cells xs.toArray t1)).alloc (.cells ys.toArray t2)) (w.heap.size + 1) ys ∧
    Below w.heap.size w ((w.alloc (.cells xs.toArray t1)).alloc (.cells ys.toArray t2)) ∧ ((w.alloc (.cells xs.toArray t1)).alloc (.cells ys.toArray t2)).heap.size = w.heap.size + 2 := by
  obtain ⟨a, b, c⟩ := one w xs t1
  obtain ⟨d, e, f⟩ := one (w.alloc (.cells xs.toArray t1)) ys t2
  exact ⟨a.keep e, by rw [← c]; exact d, below_step b e, by rw [f, c]⟩
theorem three (w : World) (xs ys zs : List Value) (t1 t2 t3 : TypeId) :
    Bl (((w.alloc (.cells xs.toArray t1)).alloc (.cells ys.toArray t2)).alloc (.cells zs.toArray t3)) w.heap.size xs ∧ Bl (((w.alloc (.cells xs.toArray t1)).alloc (.cells ys.toArray t2)).alloc (.cells zs.toArray t3)) (w.heap.size + 1) ys ∧
    Bl (((w.alloc (.cells xs.toArray t1)).alloc (.cells ys.toArray t2)).alloc (.cells zs.toArray t3)) (w.heap.size + 1 + 1) zs ∧
    Below w.heap.size w (((w.alloc (.cells xs.toArray t1)).alloc (.cells ys.toArray t2)).alloc (.cells zs.toArray t3)) ∧ (((w.alloc (.cells xs.toArray t1)).alloc (.cells ys.toArray t2)).alloc (.cells zs.toArray t3)).heap.size = w.heap.size + 3 := by
  obtain ⟨a, b, c, g⟩ := two w xs ys t1 t2
  obtain ⟨d, e, f⟩ := one ((w.alloc (.cells xs.toArray t1)).alloc (.cells ys.toArray t2)) zs t3
  exact ⟨a.keep e, b.keep e, by rw [show w.heap.size + 1 + 1 = w.heap.size + 2 by rfl, ← g]; exact d, below_step c e, by rw [f, g]⟩
end Go.Proofs.Ytbcmoofpgffbhaa
