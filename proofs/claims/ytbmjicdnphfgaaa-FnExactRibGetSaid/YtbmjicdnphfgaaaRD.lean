/-
  Small words for the law on RibGet. Conditions: those in each statement.
-/
import Derived.Test.YtbmjicdnphfgaaaRC
import Derived.Test.YtbmjicdnphfgaaaF5
import Derived.Deep.Cut
import Derived.Deep.CutRange
import Derived.Deep.RegionHeld
namespace Go.Proofs.Ytbmjicdnphfgaaa
open Go.ChangeShapes Go.WideShapes Go.ChangeAt Go.RowKit Go.BigFrame Go.Joins
set_option linter.unusedVariables false
set_option maxRecDepth 100000
set_option linter.unusedSimpArgs false
set_option maxRecDepth 100000

/-- the answer with letters -/
def GetA (w : World) (E : Ent) (fb : Bool) (e : Ending) (w' : World) : Prop :=
  ∃ pa px ca cx, e = .returned (.tuple #[.agg #[.slice pa E.p.length px, .int .i64 E.pr, .slice ca E.c.length cx, .int .i64 E.bw], .bool fb]) ∧ OwnI w' w.heap.size (.slice pa E.p.length px) E.p ∧ OwnI w' w.heap.size (.slice ca E.c.length cx) E.c ∧ Apart (.slice pa E.p.length px) (.slice ca E.c.length cx) ∧ Below w.heap.size w w'
theorem GetR.t {w w' : World} {L : List Ent} {a n pe : Int} {E : Ent} {fb : Bool} {e : Ending} (H : Hid (getE L a n pe = E ∧ (getR L a n pe).isSome = fb)) (h : GetR w L a n pe e w') : GetA w E fb e w' := by
  obtain ⟨h1, h2⟩ := H.out
  unfold GetR at h
  rw [h1, h2] at h
  exact h
theorem sget_t {v : Value} {L : List Ent} {a n pe : Int} {E : Ent} {fb : Bool} (w : World) (H : Hid (getE L a n pe = E ∧ (getR L a n pe).isSome = fb)) (h : RdE w v L) (hlp : ∀ j, j < L.length → (L.getD j e0).p.length ≤ 1048576 ∧ (L.getD j e0).c.length ≤ 1048576) :
    Calls Try.prog 9 #[.agg #[v], .agg #[.int .i64 a, .int .i64 n], .int .i64 pe] w (GetA w E fb) := (sget_any v L a n pe w h hlp).mono fun _ _ h => GetR.t H h
theorem iget_t {v : Value} {L : List Ent} {a n pe : Int} {E : Ent} {fb : Bool} (w : World) (H : Hid (getE L a n pe = E ∧ (getR L a n pe).isSome = fb)) (h : RdE w v L) (hlp : ∀ j, j < L.length → (L.getD j e0).p.length ≤ 1048576 ∧ (L.getD j e0).c.length ≤ 1048576) :
    Calls Try.prog 12 #[.agg #[v], .agg #[.int .i64 a, .int .i64 n], .int .i64 pe] w (GetA w E fb) := (iget_any v L a n pe w h hlp).mono fun _ _ h => GetR.t H h
theorem getE_bd {L : List Ent} {a n pe : Int} (h : ∀ i, i < L.length → BdE (L.getD i e0)) : BdE (getE L a n pe) := by
  unfold getE
  split
  · rename_i j hj
    unfold getR at hj
    split at hj
    · exact h j (getJ_lt hj)
    · cases hj
  · exact ⟨by simp [e0], by simp [e0]⟩
theorem getE_len {L : List Ent} {a n pe : Int} (h : ∀ j, j < L.length → (L.getD j e0).p.length ≤ 1048576 ∧ (L.getD j e0).c.length ≤ 1048576) : (getE L a n pe).p.length ≤ 1048576 ∧ (getE L a n pe).c.length ≤ 1048576 := by
  unfold getE
  split
  · rename_i j hj
    unfold getR at hj
    split at hj
    · exact h j (getJ_lt hj)
    · cases hj
  · exact ⟨by simp [e0], by simp [e0]⟩
theorem sepLtR {w : World} {base : Nat} {v : Value} {l : List Int} {B : Nat} (h : OwnI w base v l) (hB : B < base) : v.ownBlock = none ∨ v.ownBlock ≠ some B := by
  cases hv : v.ownBlock with
  | none => exact .inl rfl
  | some k => exact .inr (by have := (World.ownsRow.lt h k hv).1; intro e; cases e; omega)
theorem sepGeR {w : World} {base : Nat} {v : Value} {l : List Int} {B : Nat} (h : OwnI w base v l) (hB : w.heap.size ≤ B) : v.ownBlock = none ∨ v.ownBlock ≠ some B := by
  cases hv : v.ownBlock with
  | none => exact .inl rfl
  | some k => exact .inr (by have := (World.ownsRow.lt h k hv).2; intro e; cases e; omega)
theorem farNR {w : World} {base : Nat} {v u : Value} {l : List Int} {B o : Nat} (h : OwnI w base v l) (hne : v.ownBlock = none ∨ v.ownBlock ≠ some B) : OwnI (w.setCell ⟨B, o, none⟩ u) base v l := h.kept (grown_set w B o u) hne
theorem OwnI.soft {base hi b : Nat} {w w' : World} {v : Value} {l : List Int} (h : OwnI w b v l) (s : Soft base hi w w') (hv : hi ≤ b) : OwnI w' b v l := by
  unfold OwnI at h ⊢
  refine ⟨h.1, ?_⟩
  rcases h.2 with hn | ⟨g, cap, cur, e, hb, hg, rest⟩
  · exact .inl hn
  · have hlt : g < w.heap.size := (World.ownsRow.lt h g (by rw [e]; rfl)).2
    exact .inr ⟨g, cap, cur, e, hb, (s.block g hlt (.inr (by omega))).trans hg, rest⟩
theorem blSoft {base hi B : Nat} {w w' : World} {xs : List Value} (h : Bl w B xs) (s : Soft base hi w w') (hB : hi ≤ B) : Bl w' B xs :=
  ⟨Nat.lt_of_lt_of_le h.lt s.size, fun i x e => (World.cell?_of_block (s.block B h.lt (.inr hB))).trans (h.cs i x e), fun i hi' => (World.frozen?_of_block (s.block B h.lt (.inr hB))).trans (h.fz i hi')⟩
theorem bxOf {w : World} {B : Nat} {x0 x1 x2 x3 : Value} (h : Bl w B [x0, x1, x2, x3]) : Bx w B x0 x1 x2 x3 := ⟨h.lt, h.c 0 rfl, h.c 1 rfl, h.c 2 rfl, h.c 3 rfl, h.f 0 rfl, h.f 1 rfl, h.f 2 rfl, h.f 3 rfl⟩
/-- what a region leaves that keeps RibGet's answer: the attributes in a block of their own, their rows, the flag -/
def KeptA (V wx : World) (E : Ent) (fb : Bool) (p u : Value) : Prop :=
  ∃ B pa px ca cx, p = .pointer (some ⟨B, 0, none⟩) ∧ u = .bool fb ∧ Over V wx ∧ Bl wx B [.slice pa E.p.length px, .int .i64 E.pr, .slice ca E.c.length cx, .int .i64 E.bw] ∧ OwnI wx V.heap.size (.slice pa E.p.length px) E.p ∧ OwnI wx V.heap.size (.slice ca E.c.length cx) E.c ∧ Apart (.slice pa E.p.length px) (.slice ca E.c.length cx) ∧ V.heap.size ≤ B ∧
    ((Value.slice pa E.p.length px).ownBlock = none ∨ (Value.slice pa E.p.length px).ownBlock ≠ some B) ∧ ((Value.slice ca E.c.length cx).ownBlock = none ∨ (Value.slice ca E.c.length cx).ownBlock ≠ some B)
end Go.Proofs.Ytbmjicdnphfgaaa
