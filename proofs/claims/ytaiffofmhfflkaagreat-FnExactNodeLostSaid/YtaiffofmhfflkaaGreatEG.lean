/-
  The library's IndexFunc and DeleteFunc at rows of entries. Conditions: those in each contract.
-/
import Derived.Test.YtaiffofmhfflkaaGreatEE
namespace Go.Proofs.YtaiffofmhfflkaaGreat
open Go.ChangeShapes Go.WideShapes Go.ChangeAt Go.RowKit Go.BigFrame Go.Joins
set_option linter.unusedVariables false
set_option maxRecDepth 100000
set_option linter.unusedSimpArgs false
set_option maxRecDepth 100000

theorem rowEl {w : World} {base n c : Nat} {a : Option Addr} {S : List ET} (h : w.ownsRow base EI 7 (.slice a n c) n (flatT S)) (hS : S.length = n) (i : Nat) (hi : i < n) (t : ET) (ht : S[i]? = some t) :
    ∃ g, a = some ⟨g, 0, none⟩ ∧ w.cell? ⟨g, i * 7, none⟩ = some (.int .i64 t.E.a) ∧ w.cell? ⟨g, i * 7 + 1, none⟩ = some (.int .i64 t.E.n) ∧ w.cell? ⟨g, i * 7 + 2, none⟩ = some (.int .i64 t.E.pe) ∧ w.cell? ⟨g, i * 7 + 3, none⟩ = some t.u ∧
      w.cell? ⟨g, i * 7 + 4, none⟩ = some (.int .i64 t.E.pr) ∧ w.cell? ⟨g, i * 7 + 5, none⟩ = some t.v ∧ w.cell? ⟨g, i * 7 + 6, none⟩ = some (.int .i64 t.E.bw) := by
  have hrow := h
  rcases h.2 with ⟨h', e⟩ | ⟨g, cap, cur, h', hb, hg, hnc, hcm, hcs, htake⟩
  · omega
  · simp only [Value.slice.injEq, true_and] at h'
    obtain ⟨rfl, rfl⟩ := h'
    have hiS : i < S.length := by omega
    have e : S[i] = t := by rw [List.getElem?_eq_getElem hiS] at ht; exact Option.some.inj ht
    have hc : ∀ j, j < 7 → w.cell? ⟨g, i * 7 + j, none⟩ = (cellsT t)[j]? := fun j hj => by
      rw [hrow.cellAt (i * 7 + j) (by omega), flatT_get S i j hiS hj, e]
    exact ⟨g, rfl, hc 0 (by omega), hc 1 (by omega), hc 2 (by omega), hc 3 (by omega), hc 4 (by omega), hc 5 (by omega), hc 6 (by omega)⟩
theorem flatT_cons (s : ET) (S : List ET) : flatT (s :: S) = cellsT s ++ flatT S := by simp [flatT]
theorem flatT_set (t : ET) : ∀ (S : List ET) (K : Nat), K < S.length →
    (((((((flatT S).set (K * 7) (.int .i64 t.E.a)).set (K * 7 + 1) (.int .i64 t.E.n)).set (K * 7 + 2) (.int .i64 t.E.pe)).set (K * 7 + 3) t.u).set (K * 7 + 4) (.int .i64 t.E.pr)).set (K * 7 + 5) t.v).set (K * 7 + 6) (.int .i64 t.E.bw) = flatT (S.set K t)
  | [], K, h => by simp at h
  | s :: S, 0, h => by simp [flatT, cellsT]
  | s :: S, K + 1, h => by
    have e : ∀ (j : Nat) (x : Value) (X : List Value), (cellsT s ++ X).set ((K + 1) * 7 + j) x = cellsT s ++ X.set (K * 7 + j) x := fun j x X => by
      have hl : (cellsT s).length = 7 := rfl
      rw [List.set_append_right _ _ (by rw [hl]; omega), hl, show (K + 1) * 7 + j - 7 = K * 7 + j by omega]
    have e0 : ∀ (x : Value) (X : List Value), (cellsT s ++ X).set ((K + 1) * 7) x = cellsT s ++ X.set (K * 7) x := fun x X => e 0 x X
    rw [flatT_cons, e0, e, e, e, e, e, e, List.set_cons_succ, flatT_cons, flatT_set t S K (by simpa using h)]
theorem flatT_take : ∀ (S : List ET) (K : Nat), (flatT S).take (K * 7) = flatT (S.take K)
  | [], K => by simp [flatT]
  | s :: S, 0 => by simp [flatT]
  | s :: S, K + 1 => by
    rw [flatT_cons, List.take_succ_cons, flatT_cons, ← flatT_take S K, List.take_append, show (K + 1) * 7 - (cellsT s).length = K * 7 by simp [cellsT]; omega, List.take_of_length_le (by simp [cellsT]; omega)]
theorem own7_setCells {base g n cap : Nat} : ∀ (vs : List Value) (o : Nat) (w : World) (xs : List Value), w.ownsRow base EI 7 (.slice (some ⟨g, 0, none⟩) n cap) n xs → ∃ xs', (w.setCells g o vs).ownsRow base EI 7 (.slice (some ⟨g, 0, none⟩) n cap) n xs' ∧ xs'.take o = xs.take o
  | [], o, w, xs, h => ⟨xs, h, rfl⟩
  | u :: r, o, w, xs, h => by
    obtain ⟨xs', h', e⟩ := own7_setCells r (o + 1) (w.setCell ⟨g, o, none⟩ u) (xs.set o u) (h.stored o u).1
    refine ⟨xs', by simpa [World.setCells] using h', ?_⟩
    have e2 := congrArg (List.take o) e
    rw [List.take_take, List.take_take] at e2
    simp only [show min o (o + 1) = o by omega] at e2
    rw [e2, List.take_set_of_le (Nat.le_refl _)]
theorem grown7_setCells {g : Nat} : ∀ (vs : List Value) (o : Nat) (w : World), w.grownBy (w.setCells g o vs) (some g)
  | [], o, w => World.grownBy.refl _ _
  | u :: r, o, w => grown_trans (grown_set w g o u) (grown7_setCells r (o + 1) _)
theorem own7_cut {w : World} {base g n cap K : Nat} {xs : List Value} (h : w.ownsRow base EI 7 (.slice (some ⟨g, 0, none⟩) n cap) n xs) (hK : K ≤ n) : w.ownsRow base EI 7 (.slice (some ⟨g, 0, none⟩) K cap) K (xs.take (K * 7)) := by
  rcases h.2 with ⟨h', _⟩ | ⟨g', cap', cur, h', hb, hg, hnc, hcm, hcs, htake⟩
  · simp at h'
  · simp only [Value.slice.injEq, Option.some.injEq, Addr.mk.injEq, and_true, true_and] at h'
    obtain ⟨rfl, rfl⟩ := h'
    refine ⟨by simp [h.1]; omega, .inr ⟨g, cap, cur, rfl, hb, hg, by omega, hcm, hcs, ?_⟩⟩
    rw [← htake, List.take_take, show min (K * 7) (n * 7) = K * 7 by omega]
theorem row_form {w : World} {base n : Nat} {v : Value} {xs : List Value} (h : w.ownsRow base EI 7 v n xs) (hn : 0 < n) : ∃ g c, v = .slice (some ⟨g, 0, none⟩) n c ∧ n ≤ c ∧ base ≤ g ∧ g < w.heap.size ∧ c ≤ 9223372036854775807 := by
  have h0 := h
  rcases h0.2 with ⟨-, e⟩ | ⟨g, c, cur, rfl, hb, hg, hnc, hcm, -, -⟩
  · omega
  · exact ⟨g, c, rfl, hnc, hb, (World.ownsRow.lt h g rfl).2, by unfold maxLen at hcm; omega⟩
abbrev zE : Array Value := #[.int .i64 0, .int .i64 0, .int .i64 0, .slice none 0 0, .int .i64 0, .slice none 0 0, .int .i64 0]
theorem zero7 (w : World) : (zeroValue EI).run Tryz.prog w = .ok (.agg zE) w := by
  kernel_rfl
theorem made7_one (n : Nat) : ∀ v ∈ (madeCells zE (n * 7)).toList, v.oneCell' = true := by
  intro v hv
  have hv2 : v ∈ (Array.range (n * 7)).toList.map (fun x => zE[x % zE.size]!) := by simpa [madeCells] using hv
  obtain ⟨i, -, rfl⟩ := List.mem_map.1 hv2
  have : ∀ j : Nat, j < 7 → (zE[j]!).oneCell' = true := fun j hj => by
    rcases j with _ | _ | _ | _ | _ | _ | _ | q
    iterate 7 rfl
    omega
  exact this _ (Nat.mod_lt _ (by decide))
theorem clear_7 (w : World) (ty : TypeId) (b o n c : Nat) (hn : 0 < n) (hc : ∀ j, j < n * 7 → (w.cell? ⟨b, o + j, none⟩).isSome = true) (hf : ∀ j, j < n * 7 → w.frozen? ⟨b, o + j, none⟩ = false) :
    (Builtin.clear_ #[30] ty #[.slice (some ⟨b, o, none⟩) n c]).run Tryz.prog w = .ok (.tuple #[]) (w.setCells b o (madeCells zE (n * 7)).toList) := by
  have hzc : Builtin.zeroCells zE n = madeCells zE (n * 7) := rfl
  have hl : (madeCells zE (n * 7)).toList.length = n * 7 := by simp [madeCells]
  have hst := run_storeCells_cells (P := Tryz.prog) b o (madeCells zE (n * 7)).toList 0 w (by rw [hl]; simpa using hc) (by rw [hl]; simpa using hf) (made7_one n)
  simp only [Nat.add_zero] at hst
  obtain ⟨m, rfl⟩ : ∃ m, n = m + 1 := ⟨n - 1, by omega⟩
  simp [Builtin.clear_, run_underlying Tryz.underlying30, zero7, Value.cells, hzc, hst]
theorem rowsT_filter (f : ET → Bool) : ∀ T : List ET, (rowsT (T.filter f)).Sublist (rowsT T)
  | [] => by simp [rowsT]
  | t :: T => by
    have ih := rowsT_filter f T
    have e : rowsT (t :: T) = [t.u, t.v] ++ rowsT T := by simp [rowsT]
    rw [List.filter_cons, e]
    split
    · have e2 : rowsT (t :: T.filter f) = [t.u, t.v] ++ rowsT (T.filter f) := by simp [rowsT]
      rw [e2]
      exact List.Sublist.append (List.Sublist.refl _) ih
    · exact ih.trans (List.sublist_append_right _ _)
theorem entT_filter (f : Ent → Bool) (T : List ET) : entT (T.filter fun t => f t.E) = (entT T).filter f := by
  simp [entT, List.filter_map, Function.comp_def]
/-- fewer of them, in the same row -/
theorem OwnT.fewer {w w' : World} {base g n cap K : Nat} {T : List ET} (f : Ent → Bool) (h : OwnT w base (.slice (some ⟨g, 0, none⟩) n cap) T) (hg : w.grownBy w' (some g)) (hK : (T.filter fun t => f t.E).length = K) (hrow : w'.ownsRow base EI 7 (.slice (some ⟨g, 0, none⟩) K cap) K (flatT (T.filter fun t => f t.E))) :
    OwnT w' base (.slice (some ⟨g, 0, none⟩) K cap) (T.filter fun t => f t.E) := by
  have hm : ∀ t ∈ (T.filter fun t => f t.E), t ∈ T := fun t ht => (List.mem_filter.1 ht).1
  exact ⟨by rw [hK]; exact hrow, fun t ht => ⟨(h.own t (hm t ht)).1.kept hg (h.sep t (hm t ht)).1, (h.own t (hm t ht)).2.kept hg (h.sep t (hm t ht)).2⟩, fun t ht => h.len t (hm t ht), fun t ht => h.sep t (hm t ht), h.apart.sublist (rowsT_filter _ T)⟩
end Go.Proofs.YtaiffofmhfflkaaGreat
