/-
  The library's slices.Compact at a slice of prefixes; the program's list of a table's prefixes. Conditions: those in each contract.
-/
import Derived.Test.YtaiffofmhfflkaaGreatF8
namespace Go.Proofs.YtaiffofmhfflkaaGreat
open Go.ChangeShapes Go.WideShapes Go.ChangeAt Go.RowKit Go.BigFrame Go.Joins
set_option linter.unusedVariables false
set_option maxRecDepth 100000
set_option linter.unusedSimpArgs false
set_option maxRecDepth 100000

theorem own_setCells {base g n cap : Nat} : ∀ (vs : List Value) (o : Nat) (w : World) (xs : List Value), w.ownsRow base PT 2 (.slice (some ⟨g, 0, none⟩) n cap) n xs → ∃ xs', (w.setCells g o vs).ownsRow base PT 2 (.slice (some ⟨g, 0, none⟩) n cap) n xs' ∧ xs'.take o = xs.take o
  | [], o, w, xs, h => ⟨xs, h, rfl⟩
  | u :: r, o, w, xs, h => by
    obtain ⟨xs', h', e⟩ := own_setCells r (o + 1) (w.setCell ⟨g, o, none⟩ u) (xs.set o u) (h.stored o u).1
    refine ⟨xs', by simpa [World.setCells] using h', ?_⟩
    have e2 := congrArg (List.take o) e
    rw [List.take_take, List.take_take] at e2
    simp only [show min o (o + 1) = o by omega] at e2
    rw [e2, List.take_set_of_le (Nat.le_refl _)]
theorem grownSetCells {g : Nat} : ∀ (vs : List Value) (o : Nat) (w : World), w.grownBy (w.setCells g o vs) (some g)
  | [], o, w => World.grownBy.refl _ _
  | u :: r, o, w => grown_trans (grown_set w g o u) (grownSetCells r (o + 1) _)
theorem own_cut {w : World} {base g n cap K : Nat} {xs : List Value} (h : w.ownsRow base PT 2 (.slice (some ⟨g, 0, none⟩) n cap) n xs) (hK : K ≤ n) : w.ownsRow base PT 2 (.slice (some ⟨g, 0, none⟩) K cap) K (xs.take (K * 2)) := by
  rcases h.2 with ⟨h', _⟩ | ⟨g', cap', cur, h', hb, hg, hnc, hcm, hcs, htake⟩
  · simp at h'
  · simp only [Value.slice.injEq, Option.some.injEq, Addr.mk.injEq, and_true, true_and] at h'
    obtain ⟨rfl, rfl⟩ := h'
    refine ⟨by simp [h.1]; omega, .inr ⟨g, cap, cur, rfl, hb, hg, by omega, hcm, hcs, ?_⟩⟩
    rw [← htake, List.take_take, show min (K * 2) (n * 2) = K * 2 by omega]
theorem OwnP.at {w : World} {base g n c : Nat} {l : List (Int × Int)} (h : OwnP w base (.slice (some ⟨g, 0, none⟩) n c) l) (hn : n = l.length) {i : Nat} (hi : i < n) :
    w.cell? ⟨g, i * 2, none⟩ = some (.int .i64 (l.getD i (0, 0)).1) ∧ w.cell? ⟨g, i * 2 + 1, none⟩ = some (.int .i64 (l.getD i (0, 0)).2) := by
  subst hn
  have f := flat_get l i hi
  unfold OwnP at h
  refine ⟨(h.cellAt (i * 2) (by omega)).trans ?_, (h.cellAt (i * 2 + 1) (by omega)).trans ?_⟩
  · rw [List.getElem?_map, f.1]; rfl
  · rw [List.getElem?_map, f.2]; rfl
theorem flat_take : ∀ (m : List (Int × Int)) (K : Nat), (flat m).take (K * 2) = flat (m.take K)
  | [], K => by simp [flat]
  | p :: m, 0 => by simp [flat]
  | p :: m, K + 1 => by
    rw [flat_cons, show (K + 1) * 2 = K * 2 + 1 + 1 by omega]
    simp only [List.take_succ_cons, flat_cons, flat_take m K]
theorem OwnP.form {w : World} {base : Nat} {v : Value} {l : List (Int × Int)} (h : OwnP w base v l) (hn : 0 < l.length) : ∃ g c, v = .slice (some ⟨g, 0, none⟩) l.length c ∧ l.length ≤ c ∧ base ≤ g ∧ g < w.heap.size ∧ c ≤ 9223372036854775807 := by
  have h0 := h
  unfold OwnP at h0
  rcases h0.2 with ⟨-, e⟩ | ⟨g, c, cur, rfl, hb, hg, hnc, hcm, -, -⟩
  · omega
  · exact ⟨g, c, rfl, hnc, hb, (World.ownsRow.lt h g rfl).2, by unfold maxLen at hcm; omega⟩
theorem zeroP (w : World) : (zeroValue PT).run Tryz.prog w = .ok (.agg #[.int .i64 0, .int .i64 0]) w := by
  kernel_rfl
theorem clear_P (w : World) (ty : TypeId) (b o n c : Nat) (hn : 0 < n) (hc : ∀ j, j < n * 2 → (w.cell? ⟨b, o + j, none⟩).isSome = true) (hf : ∀ j, j < n * 2 → w.frozen? ⟨b, o + j, none⟩ = false) :
    (Builtin.clear_ #[29] ty #[.slice (some ⟨b, o, none⟩) n c]).run Tryz.prog w = .ok (.tuple #[]) (w.setCells b o (madeCells #[Value.int .i64 0, Value.int .i64 0] (n * 2)).toList) := by
  have hzc : Builtin.zeroCells #[Value.int .i64 0, Value.int .i64 0] n = madeCells #[Value.int .i64 0, Value.int .i64 0] (n * 2) := rfl
  have hl : (madeCells #[Value.int .i64 0, Value.int .i64 0] (n * 2)).toList.length = n * 2 := by simp [madeCells]
  have hst := run_storeCells_cells (P := Tryz.prog) b o (madeCells #[Value.int .i64 0, Value.int .i64 0] (n * 2)).toList 0 w (by rw [hl]; simpa using hc) (by rw [hl]; simpa using hf) (by
    intro v hv
    rw [made_zero] at hv
    obtain ⟨x, -, rfl⟩ := List.mem_map.1 hv
    rfl)
  simp only [Nat.add_zero] at hst
  obtain ⟨m, rfl⟩ : ∃ m, n = m + 1 := ⟨n - 1, by omega⟩
  simp [Builtin.clear_, run_underlying Tryz.underlying29, zeroP, Value.cells, hzc, hst]
theorem kp_small {l : List (Int × Int)} (h : l.length < 2) : kp l l.length = l := by
  match l, h with
  | [], _ => rfl
  | [x], _ => simp [kp]
theorem kp_take {l : List (Int × Int)} {k : Nat} (h : k < l.length) (e : kp l k = l.take k) (hk : kp l (k + 1) = kp l k ++ [l.getD k (0, 0)]) : kp l (k + 1) = l.take (k + 1) := by
  rw [hk, e, List.take_add_one, List.getElem?_eq_getElem h]
  simp [List.getD_eq_getElem?_getD, List.getElem?_eq_getElem h]
end Go.Proofs.YtaiffofmhfflkaaGreat
