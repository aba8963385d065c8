/-
  Rows of entries that the call made and that grow: what they hold, append, copies of entries. Conditions: those in each statement.
-/
import Derived.Test.YtaiffofmhfflkaaGreatF2
import Derived.Test.YtaiffofmhfflkaaGreatI7
import Derived.Maps.AppendAt
import Derived.Deep.RegionHeld
import Derived.Deep.MidRow
namespace Go.Proofs.YtaiffofmhfflkaaGreat
open Go.ChangeShapes Go.WideShapes Go.ChangeAt Go.RowKit Go.BigFrame Go.Joins
set_option linter.unusedVariables false
set_option maxRecDepth 100000
set_option linter.unusedSimpArgs false
set_option maxRecDepth 100000

/-- an entry beside the values of its two slices -/
structure ET where
  E : Ent
  u : Value
  v : Value
def cellsT (t : ET) : List Value := [.int .i64 t.E.a, .int .i64 t.E.n, .int .i64 t.E.pe, t.u, .int .i64 t.E.pr, t.v, .int .i64 t.E.bw]
def flatT (T : List ET) : List Value := T.flatMap cellsT
theorem flatT_len (T : List ET) : (flatT T).length = T.length * 7 := by
  induction T with
  | nil => rfl
  | cons t T ih => simp only [flatT, List.flatMap_cons, List.length_append, List.length_cons] at ih ⊢; rw [ih]; simp [cellsT]; omega
theorem flatT_append (S T : List ET) : flatT (S ++ T) = flatT S ++ flatT T := by simp [flatT]
theorem flatT_get (T : List ET) (i j : Nat) (hi : i < T.length) (hj : j < 7) : (flatT T)[i * 7 + j]? = (cellsT (T[i]'hi))[j]? := by
  induction T generalizing i with
  | nil => simp at hi
  | cons t T ih =>
    have e : flatT (t :: T) = cellsT t ++ flatT T := by simp [flatT]
    rw [e]
    cases i with
    | zero =>
      rw [Nat.zero_mul, Nat.zero_add, List.getElem?_append_left (by simp [cellsT]; omega)]
      rfl
    | succ i =>
      rw [List.getElem?_append_right (by simp [cellsT]; omega), show (i + 1) * 7 + j - (cellsT t).length = i * 7 + j by simp [cellsT]; omega, ih i (by simpa using hi)]
      rfl
/-- all their rows -/
def rowsT (T : List ET) : List Value := T.flatMap fun t => [t.u, t.v]
theorem rowsT_append (S T : List ET) : rowsT (S ++ T) = rowsT S ++ rowsT T := by simp [rowsT]
theorem rowsT_mem {T : List ET} {x : Value} (h : x ∈ rowsT T) : ∃ t ∈ T, x = t.u ∨ x = t.v := by
  simp only [rowsT, List.mem_flatMap, List.mem_cons, List.not_mem_nil, or_false] at h
  exact h
def entT (T : List ET) : List Ent := T.map (·.E)
theorem entT_len (T : List ET) : (entT T).length = T.length := by simp [entT]
theorem entT_append (S T : List ET) : entT (S ++ T) = entT S ++ entT T := by simp [entT]
theorem entT_get {T : List ET} {i : Nat} (hi : i < T.length) : (entT T).getD i e0 = (T[i]'hi).E := by simp [entT, List.getD, hi]
/-- a row of entries of the call's own; their slices are rows of its own too, all apart -/
structure OwnT (w : World) (base : Nat) (v : Value) (T : List ET) : Prop where
  row : w.ownsRow base EI 7 v T.length (flatT T)
  own : ∀ t ∈ T, OwnI w base t.u t.E.p ∧ OwnI w base t.v t.E.c
  len : ∀ t ∈ T, (∃ a c, t.u = .slice a t.E.p.length c) ∧ ∃ a c, t.v = .slice a t.E.c.length c
  sep : ∀ t ∈ T, (t.u.ownBlock = none ∨ t.u.ownBlock ≠ v.ownBlock) ∧ (t.v.ownBlock = none ∨ t.v.ownBlock ≠ v.ownBlock)
  apart : (rowsT T).Pairwise Apart
theorem OwnT.nil (w : World) (base : Nat) : OwnT w base (.slice none 0 0) [] := ⟨World.ownsRow_nil _ _ _ _, by simp, by simp, by simp, by simp [rowsT]⟩
theorem OwnT.kept {w w' : World} {base : Nat} {v : Value} {T : List ET} {row : Option Nat} (h : OwnT w base v T) (hg : w.grownBy w' row) (h1 : v.ownBlock = none ∨ v.ownBlock ≠ row) (h2 : ∀ t ∈ T, (t.u.ownBlock = none ∨ t.u.ownBlock ≠ row) ∧ (t.v.ownBlock = none ∨ t.v.ownBlock ≠ row)) : OwnT w' base v T :=
  ⟨World.ownsRow.kept h.row hg h1, fun t ht => ⟨(h.own t ht).1.kept hg (h2 t ht).1, (h.own t ht).2.kept hg (h2 t ht).2⟩, h.len, h.sep, h.apart⟩
theorem OwnT.keep {w w' : World} {base : Nat} {v : Value} {T : List ET} (h : OwnT w base v T) (hb : Below w.heap.size w w') : OwnT w' base v T :=
  ⟨World.ownsRow.kept (row := none) h.row ⟨hb.os, hb.tape, hb.output, hb.size, fun k hk _ => hb.block k hk⟩ (by cases v.ownBlock <;> simp), fun t ht => ⟨(h.own t ht).1.keep hb, (h.own t ht).2.keep hb⟩, h.len, h.sep, h.apart⟩
theorem OwnT.lenV {w : World} {base : Nat} {v : Value} {T : List ET} (h : OwnT w base v T) : ∃ a c, v = .slice a T.length c := by
  rcases h.row.2 with ⟨hv, hn⟩ | ⟨g, cap, cur, hv, _⟩
  · exact ⟨none, 0, by rw [hv, hn]⟩
  · exact ⟨_, cap, hv⟩
theorem OwnT.lt {w : World} {base : Nat} {v : Value} {T : List ET} (h : OwnT w base v T) : ∀ t ∈ T, (∀ k, t.u.ownBlock = some k → base ≤ k ∧ k < w.heap.size) ∧ ∀ k, t.v.ownBlock = some k → base ≤ k ∧ k < w.heap.size :=
  fun t ht => ⟨fun k hk => World.ownsRow.lt (h.own t ht).1 k hk, fun k hk => World.ownsRow.lt (h.own t ht).2 k hk⟩
theorem OwnT.far {w : World} {base : Nat} {v u : Value} {T : List ET} {B o : Nat} (h : OwnT w base v T) (hB : B < base) : OwnT (w.setCell ⟨B, o, none⟩ u) base v T := by
  have ne : ∀ {x : Value}, (∀ k, x.ownBlock = some k → base ≤ k) → x.ownBlock = none ∨ x.ownBlock ≠ some B := fun {x} hx => by
    cases hv : x.ownBlock with
    | none => exact .inl rfl
    | some k => exact .inr (by have := hx k hv; intro e; cases e; omega)
  exact h.kept (grown_set w B o u) (ne fun k hk => (World.ownsRow.lt h.row k hk).1) fun t ht => ⟨ne fun k hk => ((h.lt t ht).1 k hk).1, ne fun k hk => ((h.lt t ht).2 k hk).1⟩
theorem OwnT.mono {w : World} {base base' : Nat} {v : Value} {T : List ET} (h : OwnT w base v T) (hb : base' ≤ base) : OwnT w base' v T := by
  refine ⟨⟨h.row.1, ?_⟩, fun t ht => ⟨(h.own t ht).1.mono hb, (h.own t ht).2.mono hb⟩, h.len, h.sep, h.apart⟩
  rcases h.row.2 with hn | ⟨g, cap, cur, hv, hg, rest⟩
  · exact .inl hn
  · exact .inr ⟨g, cap, cur, hv, by omega, rest⟩
/-- it reads as its entries -/
theorem OwnT.rd {w : World} {base : Nat} {v : Value} {T : List ET} (h : OwnT w base v T) (hd : ∀ t ∈ T, BdE t.E) : RdE w v (entT T) := by
  rcases h.row.2 with ⟨rfl, hn⟩ | ⟨g, cap, cur, rfl, hb, hg, hnc, hcm, hcs, htake⟩
  · have hT : T = [] := List.eq_nil_of_length_eq_zero hn
    subst hT
    exact RdE.nil w
  · rw [← entT_len]
    refine ⟨by rw [entT_len]; unfold maxLen at hcm; omega, ?_⟩
    by_cases hz : T.length = 0
    · exact .inl ⟨some ⟨g, 0, none⟩, cap, by rw [entT_len, hz], List.eq_nil_of_length_eq_zero (by rw [entT_len, hz]), fun h => by cases h⟩
    · refine .inr ⟨g, 0, cap, rfl, by rw [entT_len]; omega, fun i hi => ?_⟩
      rw [entT_len] at hi
      have hm : T[i] ∈ T := List.getElem_mem hi
      rw [entT_get hi]
      have hc : ∀ j, j < 7 → w.cell? ⟨g, 0 + i * 7 + j, none⟩ = (cellsT T[i])[j]? := fun j hj => by
        rw [Nat.zero_add, h.row.cellAt (i * 7 + j) (by omega), flatT_get T i j hi hj]
      exact ⟨T[i].u, T[i].v, (h.own _ hm).1.rd (hd _ hm).1, (h.own _ hm).2.rd (hd _ hm).2, hc 0 (by omega), hc 1 (by omega), hc 2 (by omega), hc 3 (by omega), hc 4 (by omega), hc 5 (by omega), hc 6 (by omega)⟩
theorem infoE2 : (Tryz.prog.info? EI).map (fun i => (i.zero, i.size, i.bytes)) = some (some (.agg #[.int .i64 0, .int .i64 0, .int .i64 0, .slice none 0 0, .int .i64 0, .slice none 0 0, .int .i64 0]), 7, 88) := by kernel_rfl
/-- one entry more -/
theorem own_appT {w w' : World} {base : Nat} {v v' : Value} {T : List ET} {t : ET} (h : OwnT w base v T) (hb : base ≤ w.heap.size) (ht : OwnI w base t.u t.E.p ∧ OwnI w base t.v t.E.c) (hl : (∃ a c, t.u = .slice a t.E.p.length c) ∧ ∃ a c, t.v = .slice a t.E.c.length c)
    (hap : Apart t.u t.v) (hnew : ∀ s ∈ T, Apart s.u t.u ∧ Apart s.u t.v ∧ Apart s.v t.u ∧ Apart s.v t.v) (hsv : (t.u.ownBlock = none ∨ t.u.ownBlock ≠ v.ownBlock) ∧ (t.v.ownBlock = none ∨ t.v.ownBlock ≠ v.ownBlock))
    (hrow : w'.ownsRow base EI 7 v' (T.length + 1) (flatT T ++ cellsT t)) (hg : w.grownBy w' v.ownBlock) (hor : v'.ownBlock = v.ownBlock ∨ v'.ownBlock = some w.heap.size) : OwnT w' base v' (T ++ [t]) := by
  have hu : ∀ {x : Value}, (x.ownBlock = none ∨ x.ownBlock ≠ v.ownBlock) → (∀ k, x.ownBlock = some k → k < w.heap.size) → x.ownBlock = none ∨ x.ownBlock ≠ v'.ownBlock := fun {x} h1 h2 => by
    rcases h1 with h1 | h1
    · exact .inl h1
    · rcases hor with e | e
      · exact .inr (by rw [e]; exact h1)
      · cases hx : x.ownBlock with
        | none => exact .inl rfl
        | some k => exact .inr (by rw [e]; have := h2 k hx; intro q; cases q; omega)
  have hto := fun k hk => (World.ownsRow.lt ht.1 k hk).2
  have hto2 := fun k hk => (World.ownsRow.lt ht.2 k hk).2
  refine ⟨?_, fun s hs => ?_, fun s hs => ?_, fun s hs => ?_, ?_⟩
  · rw [List.length_append, flatT_append, show flatT [t] = cellsT t by simp [flatT]]
    exact hrow
  · rcases List.mem_append.1 hs with q | q
    · exact ⟨(h.own s q).1.kept hg (h.sep s q).1, (h.own s q).2.kept hg (h.sep s q).2⟩
    · rw [List.mem_singleton.1 q]
      exact ⟨ht.1.kept hg hsv.1, ht.2.kept hg hsv.2⟩
  · rcases List.mem_append.1 hs with q | q
    · exact h.len s q
    · rw [List.mem_singleton.1 q]; exact hl
  · rcases List.mem_append.1 hs with q | q
    · exact ⟨hu (h.sep s q).1 fun k hk => ((h.lt s q).1 k hk).2, hu (h.sep s q).2 fun k hk => ((h.lt s q).2 k hk).2⟩
    · rw [List.mem_singleton.1 q]
      exact ⟨hu hsv.1 hto, hu hsv.2 hto2⟩
  · rw [rowsT_append, List.pairwise_append]
    refine ⟨h.apart, by simp [rowsT]; exact hap, fun x hx y hy => ?_⟩
    obtain ⟨s, hs, hx⟩ := rowsT_mem hx
    obtain ⟨n1, n2, n3, n4⟩ := hnew s hs
    simp [rowsT] at hy
    rcases hx with rfl | rfl <;> rcases hy with rfl | rfl <;> assumption
end Go.Proofs.YtaiffofmhfflkaaGreat
