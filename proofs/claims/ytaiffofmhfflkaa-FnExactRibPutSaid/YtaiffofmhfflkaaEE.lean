/-
  Tables without some of their entries, of the model. Conditions: those in each contract.
-/
import Derived.Test.YtaiffofmhfflkaaED
namespace Go.Proofs.Ytaiffofmhfflkaa
open Go.ChangeShapes Go.WideShapes Go.ChangeAt Go.RowKit Go.BigFrame Go.Joins
set_option linter.unusedVariables false
set_option maxRecDepth 100000
set_option linter.unusedSimpArgs false
set_option maxRecDepth 100000

/-- a row of entries reads as them where their slices do -/
theorem row_rd {w : World} {base : Nat} {v : Value} {T : List ET} (h : w.ownsRow base EI 7 v T.length (flatT T)) (hr : ∀ t ∈ T, RdI w t.u t.E.p ∧ RdI w t.v t.E.c) : RdE w v (entT T) := by
  have hrow := h
  rcases h.2 with ⟨rfl, hn⟩ | ⟨g, cap, cur, rfl, hb, hg, hnc, hcm, hcs, htake⟩
  · have hT : T = [] := List.eq_nil_of_length_eq_zero hn
    subst hT
    exact RdE.nil w
  · rw [← entT_len]
    refine ⟨by rw [entT_len]; unfold maxLen at hcm; omega, ?_⟩
    by_cases hz : T.length = 0
    · exact .inl ⟨some ⟨g, 0, none⟩, cap, by rw [entT_len, hz], List.eq_nil_of_length_eq_zero (by rw [entT_len, hz]), fun h => by cases h⟩
    · refine .inr ⟨g, 0, cap, rfl, by rw [entT_len]; omega, fun i hi => ?_⟩
      rw [entT_len] at hi
      have hm : T[i] ∈ T := List.getElem_mem hi
      rw [entT_get hi]
      have hc : ∀ j, j < 7 → w.cell? ⟨g, 0 + i * 7 + j, none⟩ = (cellsT T[i])[j]? := fun j hj => by
        rw [Nat.zero_add, hrow.cellAt (i * 7 + j) (by omega), flatT_get T i j hi hj]
      exact ⟨T[i].u, T[i].v, (hr _ hm).1, (hr _ hm).2, hc 0 (by omega), hc 1 (by omega), hc 2 (by omega), hc 3 (by omega), hc 4 (by omega), hc 5 (by omega), hc 6 (by omega)⟩
theorem filt_yes {L : List Ent} {T : List ET} {k : Nat} {t : ET} {f : Ent → Bool} (h : entT T = (L.take k).filter f) (hk : k < L.length) (hx : L.getD k e0 = t.E) (ht : f t.E = true) : entT (T ++ [t]) = (L.take (k + 1)).filter f := by
  have hg : L[k] = t.E := by simpa [List.getD, hk] using hx
  rw [entT_append, h, List.take_add_one, List.getElem?_eq_getElem hk, hg, List.filter_append]
  simp [entT, ht]
theorem filt_no {L : List Ent} {T : List ET} {k : Nat} {E : Ent} {f : Ent → Bool} (h : entT T = (L.take k).filter f) (hk : k < L.length) (hx : L.getD k e0 = E) (ht : f E = false) : entT T = (L.take (k + 1)).filter f := by
  have hg : L[k] = E := by simpa [List.getD, hk] using hx
  rw [h, List.take_add_one, List.getElem?_eq_getElem hk, hg, List.filter_append]
  simp [ht]
theorem row_slice {w : World} {base : Nat} {v : Value} {n : Nat} {xs : List Value} (h : w.ownsRow base EI 7 v n xs) : ∃ a c, v = .slice a n c := by
  rcases h.2 with ⟨hv, hn⟩ | ⟨g, cap, cur, hv, _⟩
  · exact ⟨none, 0, by rw [hv, hn]⟩
  · exact ⟨_, cap, hv⟩
/-- a block holds these cells, and what lay in w lies there -/
def KpA (w : World) (A : Nat) (xs : List Value) (w' : World) : Prop := Bl w' A xs ∧ Below w.heap.size w w'
theorem KpA.next {w w' w2 : World} {A : Nat} {xs : List Value} (h : KpA w A xs w') (hb : Below w'.heap.size w' w2) : KpA w A xs w2 := ⟨h.1.keep hb, below_step h.2 hb⟩
theorem rowK {w w' : World} {base n : Nat} {v : Value} {xs : List Value} (h : w.ownsRow base EI 7 v n xs) (hb : Below w.heap.size w w') : w'.ownsRow base EI 7 v n xs :=
  World.ownsRow.kept (row := none) h ⟨hb.os, hb.tape, hb.output, hb.size, fun k hk _ => hb.block k hk⟩ (by cases v.ownBlock <;> simp)
theorem rowFar {w : World} {base n B o : Nat} {v u : Value} {xs : List Value} (h : w.ownsRow base EI 7 v n xs) (hB : B < base) : (w.setCell ⟨B, o, none⟩ u).ownsRow base EI 7 v n xs :=
  World.ownsRow.kept h (grown_set w B o u) (by
    cases hv : v.ownBlock with
    | none => exact .inl rfl
    | some k => exact .inr (by have := (World.ownsRow.lt h k hv).1; intro e; cases e; omega))
end Go.Proofs.Ytaiffofmhfflkaa
