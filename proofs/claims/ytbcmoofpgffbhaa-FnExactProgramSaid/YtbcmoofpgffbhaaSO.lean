/-
  Worlds of which only some blocks have turned. No condition beside those in each statement.
-/
import Derived.Test.YtbcmoofpgffbhaaG2
import Derived.Test.YtbcmoofpgffbhaaB3
namespace Go.Proofs.Ytbcmoofpgffbhaa
open Go.ChangeShapes Go.WideShapes Go.ChangeAt Go.RowKit Go.BigFrame Go.Joins
set_option linter.unusedVariables false
set_option maxRecDepth 100000
set_option linter.unusedSimpArgs false
set_option maxRecDepth 100000

/-- blocks from base to hi may have turned, no other; what was there is there, what could be written can be written -/
structure Soft (base hi : Nat) (w w' : World) : Prop where
  os : w'.os = w.os
  tape : w'.tape = w.tape
  output : w'.output = w.output
  size : w.heap.size ≤ w'.heap.size
  block : ∀ i, i < w.heap.size → (i < base ∨ hi ≤ i) → w'.heap[i]? = w.heap[i]?
  ex : ∀ b o : Nat, (w.cell? ⟨b, o, none⟩).isSome = true → (w'.cell? ⟨b, o, none⟩).isSome = true
  fz : ∀ b o : Nat, (w.cell? ⟨b, o, none⟩).isSome = true → w'.frozen? ⟨b, o, none⟩ = w.frozen? ⟨b, o, none⟩
theorem Soft.refl (base hi : Nat) (w : World) : Soft base hi w w := ⟨rfl, rfl, rfl, Nat.le_refl _, fun _ _ _ => rfl, fun _ _ h => h, fun _ _ _ => rfl⟩
theorem Soft.trans {base hi : Nat} {a b c : World} (h : Soft base hi a b) (k : Soft base hi b c) : Soft base hi a c :=
  ⟨k.os.trans h.os, k.tape.trans h.tape, k.output.trans h.output, Nat.le_trans h.size k.size, fun i hi' hc => (k.block i (Nat.lt_of_lt_of_le hi' h.size) hc).trans (h.block i hi' hc), fun b o q => k.ex b o (h.ex b o q), fun b o q => (k.fz b o (h.ex b o q)).trans (h.fz b o q)⟩
theorem Soft.mono {base base' hi : Nat} {w w' : World} (h : Soft base hi w w') (hb : base' ≤ base) : Soft base' hi w w' :=
  ⟨h.os, h.tape, h.output, h.size, fun i hi' hc => h.block i hi' (by omega), h.ex, h.fz⟩
theorem some_setF {w : World} {a b : Addr} {u : Value} (h : (w.cell? b).isSome = true) : ((w.setCell a u).cell? b).isSome = true := by
  by_cases hne : a = b
  · subst hne
    rw [World.cell?_setCell_same' _ _ _ h]; rfl
  · rw [World.cell?_setCell_other _ _ _ _ hne]; exact h
theorem Soft.set {base hi : Nat} {w w' : World} (h : Soft base hi w w') {B o : Nat} (u : Value) (h1 : base ≤ B) (h2 : B < hi) : Soft base hi w (w'.setCell ⟨B, o, none⟩ u) := by
  refine h.trans ⟨(grown_set w' B o u).os, (grown_set w' B o u).tape, (grown_set w' B o u).output, (grown_set w' B o u).size, fun i hi' hc => (grown_set w' B o u).block i hi' (fun e => by cases e; omega), fun b o q => some_setF q, fun b o _ => World.frozen?_setCell _ _ _ _⟩
theorem Soft.below {base hi : Nat} {w w' : World} (h : Soft base hi w w') (hb : base ≤ w.heap.size) : Below base w w' :=
  ⟨h.os, h.tape, h.output, h.size, fun i hi' => h.block i (by omega) (.inl hi')⟩
theorem soft1 (w : World) (B o : Nat) (u : Value) : Soft B (B + 1) w (w.setCell ⟨B, o, none⟩ u) := (Soft.refl _ _ _).set u (Nat.le_refl _) (Nat.lt_succ_self B)
theorem Soft.of_below {w w' : World} (base hi : Nat) (B0 : Below w.heap.size w w') : Soft base hi w w' :=
  ⟨B0.os, B0.tape, B0.output, B0.size, fun i hi' _ => B0.block i hi', fun b o ha => by
    obtain ⟨x, hx⟩ := Option.isSome_iff_exists.1 ha
    rw [cell_keep B0 (World.block_lt_of_cell? w _ hx) hx]
    rfl, fun b o ha => by
    obtain ⟨x, hx⟩ := Option.isSome_iff_exists.1 ha
    have hl := World.block_lt_of_cell? w _ hx
    exact World.frozen?_of_block (B0.block b hl)⟩
theorem Bl.soft {base hi B : Nat} {w w' : World} {xs : List Value} (h : Bl w B xs) (s : Soft base hi w w') (hB : hi ≤ B) : Bl w' B xs :=
  ⟨Nat.lt_of_lt_of_le h.lt s.size, fun i x e => (World.cell?_of_block (s.block B h.lt (.inr hB))).trans (h.cs i x e), fun i hi' => (World.frozen?_of_block (s.block B h.lt (.inr hB))).trans (h.fz i hi')⟩
end Go.Proofs.Ytbcmoofpgffbhaa
