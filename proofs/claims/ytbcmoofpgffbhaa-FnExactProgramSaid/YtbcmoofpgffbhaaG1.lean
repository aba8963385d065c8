/-
  Worlds: what a store or a new block leaves; blocks of four cells. No condition beside those in each statement.
-/
import Derived.Test.YtbcmoofpgffbhaaB3
import Derived.Deep.AppendLies
namespace Go.Proofs.Ytbcmoofpgffbhaa
open Go.ChangeShapes Go.WideShapes Go.ChangeAt Go.RowKit Go.BigFrame
set_option linter.unusedVariables false
set_option maxRecDepth 100000

theorem grown_trans {a b c : World} {row : Option Nat} (h : a.grownBy b row) (k : b.grownBy c row) : a.grownBy c row :=
  ⟨k.os.trans h.os, k.tape.trans h.tape, k.output.trans h.output, Nat.le_trans h.size k.size, fun i hi hne => (k.block i (Nat.lt_of_lt_of_le hi h.size) hne).trans (h.block i hi hne)⟩
theorem grown_set (w : World) (g o : Nat) (u : Value) : w.grownBy (w.setCell ⟨g, o, none⟩ u) (some g) :=
  ⟨rfl, rfl, rfl, by simp [World.setCell], fun i hi hne => Below.heap_setCell _ _ _ _ (fun e => hne (by rw [e]))⟩
theorem grown_drewN (w : World) (n : Nat) (row : Option Nat) : w.grownBy (w.drewN n) row := ⟨rfl, rfl, rfl, Nat.le_refl _, fun _ _ _ => rfl⟩
theorem over_row {V w w' : World} {g : Nat} (h : Over V w) (hg : V.heap.size ≤ g) (hk : w.grownBy w' (some g)) : Over V w' :=
  Below.grown h hk h.size (fun k hk => by cases hk; exact hg)
theorem set_other {w : World} {a b : Addr} {u v : Value} (hne : a ≠ b) (h : w.cell? b = some v) : (w.setCell a u).cell? b = some v := by
  rw [World.cell?_setCell_other _ _ _ _ hne]; exact h
theorem set_same {w : World} {a : Addr} {u v : Value} (h : w.cell? a = some v) : (w.setCell a u).cell? a = some u :=
  World.cell?_setCell_same' _ _ _ (by rw [h]; rfl)
theorem grown_dn {a w : World} {row : Option Nat} (h : a.grownBy w row) (n : Nat) : a.grownBy (w.drewN n) row := ⟨h.os, h.tape, h.output, h.size, h.block⟩
theorem set_drewN (w : World) (n : Nat) (a : Addr) (u : Value) : (w.drewN n).setCell a u = (w.setCell a u).drewN n := rfl
theorem grown_alloc {a w : World} {row : Option Nat} (h : a.grownBy w row) (o : Obj) : a.grownBy (w.alloc o) row :=
  grown_trans h ⟨rfl, rfl, rfl, by simp, fun i hi _ => (Below.alloc (Below.refl w.heap.size w) (Nat.le_refl _) o).block i hi⟩
theorem grown_setNew {a w : World} {row : Option Nat} {B o : Nat} {u : Value} (h : a.grownBy w row) (hB : a.heap.size ≤ B) : a.grownBy (w.setCell ⟨B, o, none⟩ u) row :=
  ⟨h.os, h.tape, h.output, Nat.le_trans h.size (grown_set w B o u).size, fun i hi hne => ((grown_set w B o u).block i (Nat.lt_of_lt_of_le hi h.size) (by simp; omega)).trans (h.block i hi hne)⟩

theorem grown_below {w w' : World} (h : Below w.heap.size w w') (row : Option Nat) : w.grownBy w' row := ⟨h.os, h.tape, h.output, h.size, fun k hk _ => h.block k hk⟩
/-- block B holds four cells that may be written -/
structure Bx (w : World) (B : Nat) (x0 x1 x2 x3 : Value) : Prop where
  lt : B < w.heap.size
  c0 : w.cell? ⟨B, 0, none⟩ = some x0
  c1 : w.cell? ⟨B, 1, none⟩ = some x1
  c2 : w.cell? ⟨B, 2, none⟩ = some x2
  c3 : w.cell? ⟨B, 3, none⟩ = some x3
  f0 : w.frozen? ⟨B, 0, none⟩ = false
  f1 : w.frozen? ⟨B, 1, none⟩ = false
  f2 : w.frozen? ⟨B, 2, none⟩ = false
  f3 : w.frozen? ⟨B, 3, none⟩ = false
section
variable {w w' : World} {B C o : Nat} {x0 x1 x2 x3 u : Value} {row : Option Nat}
theorem Bx.grown (h : Bx w B x0 x1 x2 x3) (hg : w.grownBy w' row) (hne : some B ≠ row) : Bx w' B x0 x1 x2 x3 :=
  ⟨Nat.lt_of_lt_of_le h.lt hg.size, (hg.cell_far _ h.lt hne).trans h.c0, (hg.cell_far _ h.lt hne).trans h.c1, (hg.cell_far _ h.lt hne).trans h.c2, (hg.cell_far _ h.lt hne).trans h.c3,
    (hg.frozen_far _ h.lt hne).trans h.f0, (hg.frozen_far _ h.lt hne).trans h.f1, (hg.frozen_far _ h.lt hne).trans h.f2, (hg.frozen_far _ h.lt hne).trans h.f3⟩
theorem Bx.keep (h : Bx w B x0 x1 x2 x3) (hb : Below w.heap.size w w') : Bx w' B x0 x1 x2 x3 := h.grown (grown_below hb none) (by simp)
theorem Bx.alloc (h : Bx w B x0 x1 x2 x3) (o : Obj) : Bx (w.alloc o) B x0 x1 x2 x3 := h.keep ((Below.refl _ _).alloc (Nat.le_refl _) _)
theorem Bx.new (w : World) (x0 x1 x2 x3 : Value) (t : TypeId) (b : Nat) (hb : b = w.heap.size) : Bx (w.alloc (.cells #[x0, x1, x2, x3] t)) b x0 x1 x2 x3 := by
  subst hb
  exact ⟨by simp, by simp, by simp, by simp, by simp, World.frozen?_alloc_at _ _ _ _ rfl, World.frozen?_alloc_at _ _ _ _ rfl, World.frozen?_alloc_at _ _ _ _ rfl, World.frozen?_alloc_at _ _ _ _ rfl⟩
theorem Bx.far (h : Bx w B x0 x1 x2 x3) (hne : B ≠ C) : Bx (w.setCell ⟨C, o, none⟩ u) B x0 x1 x2 x3 := h.grown (grown_set w C o u) (by simpa using hne)
theorem Bx.set0 (h : Bx w B x0 x1 x2 x3) : Bx (w.setCell ⟨B, 0, none⟩ u) B u x1 x2 x3 :=
  ⟨Nat.lt_of_lt_of_le h.lt (grown_set w B 0 u).size, set_same h.c0, set_other (by simp) h.c1, set_other (by simp) h.c2, set_other (by simp) h.c3, by rw [World.frozen?_setCell]; exact h.f0, by rw [World.frozen?_setCell]; exact h.f1, by rw [World.frozen?_setCell]; exact h.f2, by rw [World.frozen?_setCell]; exact h.f3⟩
theorem Bx.set1 (h : Bx w B x0 x1 x2 x3) : Bx (w.setCell ⟨B, 1, none⟩ u) B x0 u x2 x3 :=
  ⟨Nat.lt_of_lt_of_le h.lt (grown_set w B 1 u).size, set_other (by simp) h.c0, set_same h.c1, set_other (by simp) h.c2, set_other (by simp) h.c3, by rw [World.frozen?_setCell]; exact h.f0, by rw [World.frozen?_setCell]; exact h.f1, by rw [World.frozen?_setCell]; exact h.f2, by rw [World.frozen?_setCell]; exact h.f3⟩
theorem Bx.set2 (h : Bx w B x0 x1 x2 x3) : Bx (w.setCell ⟨B, 2, none⟩ u) B x0 x1 u x3 :=
  ⟨Nat.lt_of_lt_of_le h.lt (grown_set w B 2 u).size, set_other (by simp) h.c0, set_other (by simp) h.c1, set_same h.c2, set_other (by simp) h.c3, by rw [World.frozen?_setCell]; exact h.f0, by rw [World.frozen?_setCell]; exact h.f1, by rw [World.frozen?_setCell]; exact h.f2, by rw [World.frozen?_setCell]; exact h.f3⟩
theorem Bx.set3 (h : Bx w B x0 x1 x2 x3) : Bx (w.setCell ⟨B, 3, none⟩ u) B x0 x1 x2 u :=
  ⟨Nat.lt_of_lt_of_le h.lt (grown_set w B 3 u).size, set_other (by simp) h.c0, set_other (by simp) h.c1, set_other (by simp) h.c2, set_same h.c3, by rw [World.frozen?_setCell]; exact h.f0, by rw [World.frozen?_setCell]; exact h.f1, by rw [World.frozen?_setCell]; exact h.f2, by rw [World.frozen?_setCell]; exact h.f3⟩
theorem Bx.all {y0 y1 y2 y3 : Value} (h : Bx w B x0 x1 x2 x3) : Bx ((((w.setCell ⟨B, 0, none⟩ y0).setCell ⟨B, 1, none⟩ y1).setCell ⟨B, 2, none⟩ y2).setCell ⟨B, 3, none⟩ y3) B y0 y1 y2 y3 := h.set0.set1.set2.set3
end
/-- two blocks of four cells, held through a region that draws -/
theorem held8_0 {w : World} {A X : Nat} {a0 a1 a2 a3 x0 x1 x2 x3 : Value} (a : Bx w A a0 a1 a2 a3) (x : Bx w X x0 x1 x2 x3) : Over w w.drew ∧ w.drew.cell? ⟨A, 0, none⟩ = some a0 ∧ w.drew.cell? ⟨A, 1, none⟩ = some a1 ∧ w.drew.cell? ⟨A, 2, none⟩ = some a2 ∧ w.drew.cell? ⟨A, 3, none⟩ = some a3 ∧ w.drew.cell? ⟨X, 0, none⟩ = some x0 ∧ w.drew.cell? ⟨X, 1, none⟩ = some x1 ∧ w.drew.cell? ⟨X, 2, none⟩ = some x2 ∧ w.drew.cell? ⟨X, 3, none⟩ = some x3 :=
  ⟨over_drew w, a.c0, a.c1, a.c2, a.c3, x.c0, x.c1, x.c2, x.c3⟩
theorem held8_S {V w w1 : World} {A X : Nat} {a0 a1 a2 a3 x0 x1 x2 x3 : Value} (a : Bx V A a0 a1 a2 a3) (x : Bx V X x0 x1 x2 x3) (h : Over V w ∧ w.cell? ⟨A, 0, none⟩ = some a0 ∧ w.cell? ⟨A, 1, none⟩ = some a1 ∧ w.cell? ⟨A, 2, none⟩ = some a2 ∧ w.cell? ⟨A, 3, none⟩ = some a3 ∧ w.cell? ⟨X, 0, none⟩ = some x0 ∧ w.cell? ⟨X, 1, none⟩ = some x1 ∧ w.cell? ⟨X, 2, none⟩ = some x2 ∧ w.cell? ⟨X, 3, none⟩ = some x3) (hb : Below w.heap.size w w1) : Over V w1 ∧ w1.cell? ⟨A, 0, none⟩ = some a0 ∧ w1.cell? ⟨A, 1, none⟩ = some a1 ∧ w1.cell? ⟨A, 2, none⟩ = some a2 ∧ w1.cell? ⟨A, 3, none⟩ = some a3 ∧ w1.cell? ⟨X, 0, none⟩ = some x0 ∧ w1.cell? ⟨X, 1, none⟩ = some x1 ∧ w1.cell? ⟨X, 2, none⟩ = some x2 ∧ w1.cell? ⟨X, 3, none⟩ = some x3 :=
  ⟨over_step h.1 hb, over_cell (over_step h.1 hb) a.lt a.c0, over_cell (over_step h.1 hb) a.lt a.c1, over_cell (over_step h.1 hb) a.lt a.c2, over_cell (over_step h.1 hb) a.lt a.c3,
    over_cell (over_step h.1 hb) x.lt x.c0, over_cell (over_step h.1 hb) x.lt x.c1, over_cell (over_step h.1 hb) x.lt x.c2, over_cell (over_step h.1 hb) x.lt x.c3⟩
end Go.Proofs.Ytbcmoofpgffbhaa
