/-
  The library's slices.Compact at a slice of prefixes; the program's list of a table's prefixes. Conditions: those in each contract.
  A list of prefixes is marked, and its marks are found again. Conditions: those in each contract.
  Marks on switches: on a copy of an argument, on an answer; the latter are found again. Conditions: those in each contract.
  Words for the laws on switches. Conditions: those in each statement.
  Copies of switches and NodeDrain, of the program and of the model. Conditions: those in each contract.
  Words for the laws on functions that answer a switch. Conditions: those in each statement.
-/
import Derived.Test.YtaiffofmhfflkaaGreatFZj
import Derived.Test.YtaiffofmhfflkaaGreatFZb
import Derived.Test.YtaiffofmhfflkaaGreatFZi
import Derived.Deep.RegionHeld
namespace Go.Proofs.YtaiffofmhfflkaaGreat
open Go.ChangeShapes Go.WideShapes Go.ChangeAt Go.RowKit Go.BigFrame Go.Joins
set_option linter.unusedVariables false
set_option maxRecDepth 100000
set_option maxRecDepth 100000
set_option linter.unusedSimpArgs false
set_option maxRecDepth 100000

theorem own_setCells {base g n cap : Nat} : ∀ (vs : List Value) (o : Nat) (w : World) (xs : List Value), w.ownsRow base PT 2 (.slice (some ⟨g, 0, none⟩) n cap) n xs → ∃ xs', (w.setCells g o vs).ownsRow base PT 2 (.slice (some ⟨g, 0, none⟩) n cap) n xs' ∧ xs'.take o = xs.take o
  | [], o, w, xs, h => ⟨xs, h, rfl⟩
  | u :: r, o, w, xs, h => by
    obtain ⟨xs', h', e⟩ := own_setCells r (o + 1) (w.setCell ⟨g, o, none⟩ u) (xs.set o u) (h.stored o u).1
    refine ⟨xs', by simpa [World.setCells] using h', ?_⟩
    have e2 := congrArg (List.take o) e
    rw [List.take_take, List.take_take] at e2
    simp only [show min o (o + 1) = o by omega] at e2
    rw [e2, List.take_set_of_le (Nat.le_refl _)]
theorem grownSetCells {g : Nat} : ∀ (vs : List Value) (o : Nat) (w : World), w.grownBy (w.setCells g o vs) (some g)
  | [], o, w => World.grownBy.refl _ _
  | u :: r, o, w => grown_trans (grown_set w g o u) (grownSetCells r (o + 1) _)
theorem own_cut {w : World} {base g n cap K : Nat} {xs : List Value} (h : w.ownsRow base PT 2 (.slice (some ⟨g, 0, none⟩) n cap) n xs) (hK : K ≤ n) : w.ownsRow base PT 2 (.slice (some ⟨g, 0, none⟩) K cap) K (xs.take (K * 2)) := by
  rcases h.2 with ⟨h', _⟩ | ⟨g', cap', cur, h', hb, hg, hnc, hcm, hcs, htake⟩
  · simp at h'
  · simp only [Value.slice.injEq, Option.some.injEq, Addr.mk.injEq, and_true, true_and] at h'
    obtain ⟨rfl, rfl⟩ := h'
    refine ⟨by simp [h.1]; omega, .inr ⟨g, cap, cur, rfl, hb, hg, by omega, hcm, hcs, ?_⟩⟩
    rw [← htake, List.take_take, show min (K * 2) (n * 2) = K * 2 by omega]
theorem OwnP.at {w : World} {base g n c : Nat} {l : List (Int × Int)} (h : OwnP w base (.slice (some ⟨g, 0, none⟩) n c) l) (hn : n = l.length) {i : Nat} (hi : i < n) :
    w.cell? ⟨g, i * 2, none⟩ = some (.int .i64 (l.getD i (0, 0)).1) ∧ w.cell? ⟨g, i * 2 + 1, none⟩ = some (.int .i64 (l.getD i (0, 0)).2) := by
  subst hn
  have f := flat_get l i hi
  unfold OwnP at h
  refine ⟨(h.cellAt (i * 2) (by omega)).trans ?_, (h.cellAt (i * 2 + 1) (by omega)).trans ?_⟩
  · rw [List.getElem?_map, f.1]; rfl
  · rw [List.getElem?_map, f.2]; rfl
theorem flat_take : ∀ (m : List (Int × Int)) (K : Nat), (flat m).take (K * 2) = flat (m.take K)
  | [], K => by simp [flat]
  | p :: m, 0 => by simp [flat]
  | p :: m, K + 1 => by
    rw [flat_cons, show (K + 1) * 2 = K * 2 + 1 + 1 by omega]
    simp only [List.take_succ_cons, flat_cons, flat_take m K]
theorem OwnP.form {w : World} {base : Nat} {v : Value} {l : List (Int × Int)} (h : OwnP w base v l) (hn : 0 < l.length) : ∃ g c, v = .slice (some ⟨g, 0, none⟩) l.length c ∧ l.length ≤ c ∧ base ≤ g ∧ g < w.heap.size ∧ c ≤ 9223372036854775807 := by
  have h0 := h
  unfold OwnP at h0
  rcases h0.2 with ⟨-, e⟩ | ⟨g, c, cur, rfl, hb, hg, hnc, hcm, -, -⟩
  · omega
  · exact ⟨g, c, rfl, hnc, hb, (World.ownsRow.lt h g rfl).2, by unfold maxLen at hcm; omega⟩
theorem zeroP (w : World) : (zeroValue PT).run Tryz.prog w = .ok (.agg #[.int .i64 0, .int .i64 0]) w := by
  kernel_rfl
theorem clear_P (w : World) (ty : TypeId) (b o n c : Nat) (hn : 0 < n) (hc : ∀ j, j < n * 2 → (w.cell? ⟨b, o + j, none⟩).isSome = true) (hf : ∀ j, j < n * 2 → w.frozen? ⟨b, o + j, none⟩ = false) :
    (Builtin.clear_ #[29] ty #[.slice (some ⟨b, o, none⟩) n c]).run Tryz.prog w = .ok (.tuple #[]) (w.setCells b o (madeCells #[Value.int .i64 0, Value.int .i64 0] (n * 2)).toList) := by
  have hzc : Builtin.zeroCells #[Value.int .i64 0, Value.int .i64 0] n = madeCells #[Value.int .i64 0, Value.int .i64 0] (n * 2) := rfl
  have hl : (madeCells #[Value.int .i64 0, Value.int .i64 0] (n * 2)).toList.length = n * 2 := by simp [madeCells]
  have hst := run_storeCells_cells (P := Tryz.prog) b o (madeCells #[Value.int .i64 0, Value.int .i64 0] (n * 2)).toList 0 w (by rw [hl]; simpa using hc) (by rw [hl]; simpa using hf) (by
    intro v hv
    rw [made_zero] at hv
    obtain ⟨x, -, rfl⟩ := List.mem_map.1 hv
    rfl)
  simp only [Nat.add_zero] at hst
  obtain ⟨m, rfl⟩ : ∃ m, n = m + 1 := ⟨n - 1, by omega⟩
  simp [Builtin.clear_, run_underlying Tryz.underlying29, zeroP, Value.cells, hzc, hst]
theorem kp_small {l : List (Int × Int)} (h : l.length < 2) : kp l l.length = l := by
  match l, h with
  | [], _ => rfl
  | [x], _ => simp [kp]
theorem kp_take {l : List (Int × Int)} {k : Nat} (h : k < l.length) (e : kp l k = l.take k) (hk : kp l (k + 1) = kp l k ++ [l.getD k (0, 0)]) : kp l (k + 1) = l.take (k + 1) := by
  rw [hk, e, List.take_add_one, List.getElem?_eq_getElem h]
  simp [List.getD_eq_getElem?_getD, List.getElem?_eq_getElem h]
end Go.Proofs.YtaiffofmhfflkaaGreat
namespace Go.Proofs.YtaiffofmhfflkaaGreat
open Go.ChangeShapes Go.WideShapes Go.ChangeAt Go.RowKit Go.BigFrame Go.Joins
set_option linter.unusedVariables false
set_option maxRecDepth 100000
set_option linter.unusedSimpArgs false
set_option maxRecDepth 100000

/-- the first n hold the marks from k on -/
def MarkP (k : Int) (n : Nat) (l : List (Int × Int)) : Prop := ∀ i : Nat, i < n → l.getD i (0, 0) = (k + (i : Int) * 2, k + (i : Int) * 2 + 1)
theorem MarkP.next {k : Int} {n : Nat} {l : List (Int × Int)} (h : MarkP k n l) (hn : n < l.length) : MarkP k (n + 1) (l.set n (k + (n : Int) * 2, k + (n : Int) * 2 + 1)) := by
  intro i hi
  by_cases e : i = n
  · subst e
    simp [List.getD_eq_getElem?_getD, hn]
  · rw [← h i (by omega)]
    simp only [List.getD_eq_getElem?_getD, List.getElem?_set]
    rw [if_neg (by omega)]
theorem OwnP.soft {base hi b : Nat} {w w' : World} {v : Value} {l : List (Int × Int)} (h : OwnP w b v l) (s : Soft base hi w w') (hv : hi ≤ b) : OwnP w' b v l := by
  unfold OwnP at h ⊢
  refine ⟨h.1, ?_⟩
  rcases h.2 with hn | ⟨g, cap, cur, e, hb, hg, rest⟩
  · exact .inl hn
  · have hlt : g < w.heap.size := (World.ownsRow.lt h g (by rw [e]; rfl)).2
    exact .inr ⟨g, cap, cur, e, hb, (s.block g hlt (.inr (by omega))).trans hg, rest⟩
theorem markP_is (v : Value) (l : List (Int × Int)) (base : Nat) (k : Int) (w : World) (h : OwnP w base v l) (hk0 : 0 ≤ k) (hk : k + l.length * 2 ≤ 4294967296) :
    Calls Tryz.prog 55 #[v, .int .i64 k] w fun e w' => e = .returned (.int .i64 (k + l.length * 2)) ∧ (∃ l', l'.length = l.length ∧ MarkP k l'.length l' ∧ OwnP w' base v l') ∧ w.grownBy w' v.ownBlock := by
  have h0 := h
  unfold OwnP at h0
  rcases h.2 with ⟨rfl, hn⟩ | ⟨g, cap, cur, rfl, hb, hg, hnc, hcm, hcs, htake⟩
  · have hl : l = [] := List.eq_nil_of_length_eq_zero hn
    subst hl
    clear hn h0 hk
    go_enter Tryz.func55, Tryz.ntmps55
    go_wp2
    refine wp_loop_rounds 1 ?_
    rw [rounds_succ]
    go_wp2
    go_ret
    exact ⟨ret_int (by simp), ⟨[], rfl, fun i hi => absurd hi (by simp), h⟩, ⟨rfl, rfl, rfl, Nat.le_refl _, fun _ _ _ => rfl⟩⟩
  · clear htake hcs hg h
    obtain ⟨n, hn'⟩ : ∃ n, n = l.length := ⟨_, rfl⟩
    have h1 : ∃ l' : List (Int × Int), l'.length = n ∧ MarkP k 0 l' ∧ w.ownsRow base PT 2 (.slice (some ⟨g, 0, none⟩) n cap) n ((flat l').map (Value.int .i64)) := ⟨l, hn'.symm, fun i hi => absurd hi (by omega), by rw [hn']; exact h0⟩
    rw [← hn'] at hk hnc ⊢
    have hm : n ≤ 9223372036854775807 := by unfold maxLen at hcm; omega
    clear hn' hcm cur h0
    go_enter Tryz.func55, Tryz.ntmps55
    go_wp2
    go_loopw [1, 5] (fun q i wr => ∃ j : Nat, j ≤ n ∧ i = .int .i64 j ∧ q = .int .i64 (k + (j : Int) * 2) ∧ (∃ l' : List (Int × Int), l'.length = n ∧ MarkP k j l' ∧ wr.ownsRow base PT 2 (.slice (some ⟨g, 0, none⟩) n cap) n ((flat l').map (Value.int .i64))) ∧ w.grownBy wr (some g)) (fun _ i _ => n - (intOf i).toNat)
    case atStart => exact ⟨0, Nat.zero_le _, rfl, by simp, h1, ⟨rfl, rfl, rfl, Nat.le_refl _, fun _ _ _ => rfl⟩⟩
    case round =>
      obtain ⟨j, hj, rfl, rfl, ⟨l', hl', hmk, hown⟩, hB⟩ := hrel
      by_cases hlt : j < n
      · have hltI : (j : Int) < (n : Int) := by omega
        have hfl : ((flat l').map (Value.int .i64)).length = n * 2 := by rw [List.length_map, flat_len, hl']
        have f0 := hown.frozenAt (j * 2)
        have f1 := hown.frozenAt (j * 2 + 1)
        obtain ⟨p0, e0⟩ : ∃ p0, wr.cell? ⟨g, j * 2, none⟩ = some p0 := ⟨_, (hown.cellAt (j * 2) (by omega)).trans (List.getElem?_eq_getElem (by rw [hfl]; omega))⟩
        obtain ⟨p1, e1⟩ : ∃ p1, wr.cell? ⟨g, j * 2 + 1, none⟩ = some p1 := ⟨_, (hown.cellAt (j * 2 + 1) (by omega)).trans (List.getElem?_eq_getElem (by rw [hfl]; omega))⟩
        have s1 := hown.stored (j * 2) (.int .i64 (k + (j : Int) * 2))
        have s2 := s1.1.stored (j * 2 + 1) (.int .i64 (k + (j : Int) * 2 + 1))
        have hB2 := grown_trans (grown_trans hB s1.2) s2.2
        have hst := s2.1
        rw [map_set_flat _ j (by rw [hl']; exact hlt)] at hst
        have HST := Lib.hid hst
        have HB := Lib.hid hB2
        have HMK := Lib.hid (hmk.next (by rw [hl']; exact hlt))
        have HL : Hid ((l'.set j (k + (j : Int) * 2, k + (j : Int) * 2 + 1)).length = n) := Lib.hid (by rw [List.length_set, hl'])
        clear s1 s2 hst hB2 hown hB hfl hl' hmk
        go_wp2
        go_roundw
        case rel => exact ⟨j + 1, by omega, by go_num, by congr 1; omega, ⟨_, HL.out, HMK.out, HST.out⟩, HB.out⟩
        case measure => simp [intOf]; omega
      · have hjn : j = n := by omega
        subst hjn
        go_wp2
        go_ret
        exact ⟨rfl, ⟨l', hl', by rw [hl']; exact hmk, by unfold OwnP; rw [hl']; exact hown⟩, hB⟩
theorem heldP_is (v : Value) (l : List (Int × Int)) (k : Int) (w : World) (h : RdP w v l) (hm : MarkP k l.length l) (hn : l.length ≤ 1048576) (hk0 : 0 ≤ k) (hk : k ≤ 1) :
    Calls Tryz.prog 57 #[v, .int .i64 k] w fun e w' => e = .returned (.int .i64 (k + l.length * 2)) ∧ Below w.heap.size w w' := by
  obtain ⟨a, c, rfl, hc⟩ := h.el
  obtain ⟨n, hn'⟩ : ∃ n, n = l.length := ⟨_, rfl⟩
  rw [← hn'] at hc hm hn ⊢
  clear hn' h
  have HM := Lib.hid hm
  clear hm
  go_enter Tryz.func57, Tryz.ntmps57
  go_wp2
  go_loopw [1, 5] (fun q i wr => ∃ j : Nat, j ≤ n ∧ i = .int .i64 j ∧ q = .int .i64 (k + (j : Int) * 2) ∧ Below w.heap.size w wr) (fun _ i _ => n - (intOf i).toNat)
  case atStart => exact ⟨0, Nat.zero_le _, rfl, by simp, Below.refl _ _⟩
  case round =>
    obtain ⟨j, hj, rfl, rfl, hB⟩ := hrel
    by_cases hlt : j < n
    · have hltI : (j : Int) < (n : Int) := by omega
      obtain ⟨b, o, rfl, g0, g1⟩ := hc j hlt
      rw [HM.out j hlt] at g0 g1
      dsimp only at g0 g1
      replace g0 := cell_keep hB (World.block_lt_of_cell? _ _ g0) g0
      replace g1 := cell_keep hB (World.block_lt_of_cell? _ _ g1) g1
      have hw1 : IntKind.i64.wrap (k + (j : Int) * 2 + 1) = k + (j : Int) * 2 + 1 := wrap64_in _ (by omega) (by omega)
      have hw2 : IntKind.i64.wrap (k + (j : Int) * 2 + 1 + 1) = k + (j : Int) * 2 + 1 + 1 := wrap64_in _ (by omega) (by omega)
      have hb0 : (k + (j : Int) * 2 != k + (j : Int) * 2) = false := by simp
      have hb1 : (k + (j : Int) * 2 + 1 != k + (j : Int) * 2 + 1) = false := by simp
      clear hc
      go_wp2
      go_roundw
      case rel => exact ⟨j + 1, by omega, by go_num, by congr 1; omega, hB⟩
      case measure => simp [intOf]; omega
    · have hjn : j = n := by omega
      subst hjn
      clear hc
      go_wp2
      go_ret
      exact ⟨rfl, hB⟩
end Go.Proofs.YtaiffofmhfflkaaGreat
namespace Go.Proofs.YtaiffofmhfflkaaGreat
open Go.ChangeShapes Go.WideShapes Go.ChangeAt Go.RowKit Go.BigFrame Go.Joins
set_option linter.unusedVariables false
set_option maxRecDepth 100000
set_option linter.unusedSimpArgs false
set_option maxRecDepth 100000

set_option maxHeartbeats 2000000 in
theorem markES_k (B hi : Nat) (L : List Ent) (k : Int) (base : Nat) (w : World) (hM : MkE w w base B hi L.length L) (hL : L.length + wtE L ≤ 1048576) (hk0 : 0 ≤ k) (hk : k ≤ 32000000) :
    Calls Tryz.prog 86 #[.slice (some ⟨B, 0, none⟩) L.length L.length, .int .i64 k] w fun e w' => ∃ r : Int, e = .returned (.int .i64 r) ∧ 0 ≤ r ∧ r ≤ k + 6300000 ∧ Soft base hi w w' := by
  obtain ⟨n, hn⟩ : ∃ n, n = L.length := ⟨_, rfl⟩
  rw [← hn] at hM ⊢
  have HN := Lib.hid hn
  have hnn : n ≤ 1048576 := by omega
  have HWT := Lib.hid hL
  clear hn hL
  go_enter Tryz.func86, Tryz.ntmps86
  go_wp2
  go_loopw [1, 5] (fun q i wr => ∃ j : Nat, j ≤ n ∧ i = .int .i64 j ∧ (∃ r : Int, q = .int .i64 r ∧ 0 ≤ r ∧ r ≤ k + 5 * (j : Int) + (wtE (L.take j) : Nat)) ∧ MkE w wr base B hi n L) (fun _ i _ => n - (intOf i).toNat)
  case atStart => exact ⟨0, Nat.zero_le _, rfl, ⟨_, rfl, by omega, by simp [wtE]⟩, hM⟩
  case round =>
    clear hM
    obtain ⟨j, hj, rfl, ⟨r, rfl, hr0, hr1⟩, hM⟩ := hrel
    by_cases hlt : j < n
    · have hltI : (j : Int) < (n : Int) := by omega
      obtain ⟨E, hx⟩ : ∃ E, L.getD j e0 = E := ⟨_, rfl⟩
      have hwt := wt_take (L := L) (k := j) (by rw [← HN.out]; exact hlt)
      have hwl := wt_le L (j + 1)
      have hwL := HWT.out
      have hNn := HN.out
      rw [hx] at hwt
      have hEP : E.p.length ≤ 1048576 := by omega
      have hEC : E.c.length ≤ 1048576 := by omega
      have hrb : r ≤ 60000000 := by omega
      have HR := Lib.hid (And.intro hr1 (And.intro hwt hwl))
      clear hr1 hwt hwl hwL hNn
      have hE := hM.2.2.1 j hlt
      rw [hx] at hE
      obtain ⟨u1, u2, k3, k5, r1, r2⟩ := hE
      have R1 := r1
      have R2 := r2
      obtain ⟨a1, d1, rfl, -⟩ := r1
      obtain ⟨a2, d2, rfl, -⟩ := r2
      have HX := Lib.hid hx
      clear hx
      obtain ⟨p0, g0, f0⟩ := hM.cell (j * 7) (by omega)
      obtain ⟨p1, g1, f1⟩ := hM.cell (j * 7 + 1) (by omega)
      obtain ⟨p2, g2, f2⟩ := hM.cell (j * 7 + 2) (by omega)
      have hw1 : IntKind.i64.wrap (r + 1) = r + 1 := wrap64_in _ (by omega) (by omega)
      have hw2 : IntKind.i64.wrap (r + 1 + 1) = r + 1 + 1 := wrap64_in _ (by omega) (by omega)
      have hw3 : IntKind.i64.wrap (r + 1 + 1 + 1) = r + 1 + 1 + 1 := wrap64_in _ (by omega) (by omega)
      go_wp2_with fail
      replace hM := ((hM.set (j * 7) (.int .i64 r) (fun i => ⟨by omega, by omega⟩)).set (j * 7 + 1) (.int .i64 (r + 1)) (fun i => ⟨by omega, by omega⟩)).set (j * 7 + 2) (.int .i64 (r + 1 + 1)) (fun i => ⟨by omega, by omega⟩)
      clear g0 f0 g1 f1 g2 f2 k3
      replace R1 := ((R1.soft (soft1 _ B (j * 7) (.int .i64 r))).soft (soft1 _ B (j * 7 + 1) (.int .i64 (r + 1)))).soft (soft1 _ B (j * 7 + 2) (.int .i64 (r + 1 + 1)))
      replace R2 := ((R2.soft (soft1 _ B (j * 7) (.int .i64 r))).soft (soft1 _ B (j * 7 + 1) (.int .i64 (r + 1)))).soft (soft1 _ B (j * 7 + 2) (.int .i64 (r + 1 + 1)))
      have no : ∀ x y : Nat, x ≠ y → (⟨B, x, none⟩ : Addr) ≠ ⟨B, y, none⟩ := fun x y h q => by injection q with q1 q2; exact h q2
      replace k5 := set_other (u := .int .i64 (r + 1 + 1)) (no (j * 7 + 2) _ (by omega)) (set_other (u := .int .i64 (r + 1)) (no (j * 7 + 1) _ (by omega)) (set_other (u := .int .i64 r) (no (j * 7) _ (by omega)) k5))
      refine (markWr _ E.p.length _ (B + 1) hi _ R1 (by omega) (by omega)).mono ?_
      rintro e w1 ⟨rfl, hs⟩
      have hB1 := hM.2.2.2.2.2
      replace k5 := cell_keep (hs.below hB1) (Nat.lt_succ_self B) k5
      replace hM := hM.soft hs
      replace R2 := R2.soft hs
      clear hs R1 hB1 no
      obtain ⟨r4, h4⟩ : ∃ r4, r4 = r + 1 + 1 + 1 + (E.p.length : Int) := ⟨_, rfl⟩
      rw [← h4]
      have H4 := Lib.hid h4
      have hr4 : 0 ≤ r4 := by omega
      have hr4b : r4 ≤ 70000000 := by omega
      clear h4
      obtain ⟨p4, g4, f4⟩ := hM.cell (j * 7 + 4) (by omega)
      have hw4 : IntKind.i64.wrap (r4 + 1) = r4 + 1 := wrap64_in _ (by omega) (by omega)
      go_wp2_with fail
      replace hM := hM.set (j * 7 + 4) (.int .i64 r4) (fun i => ⟨by omega, by omega⟩)
      replace R2 := R2.soft (soft1 _ B (j * 7 + 4) (.int .i64 r4))
      clear g4 f4 k5
      refine (markWr _ E.c.length _ (B + 1) hi _ R2 (by omega) (by omega)).mono ?_
      rintro e w2 ⟨rfl, hs⟩
      replace hM := hM.soft hs
      clear hs R2
      obtain ⟨r6, h6⟩ : ∃ r6, r6 = r4 + 1 + (E.c.length : Int) := ⟨_, rfl⟩
      rw [← h6]
      have H6 := Lib.hid h6
      have hr6 : 0 ≤ r6 := by omega
      have hr6b : r6 ≤ 80000000 := by omega
      clear h6
      obtain ⟨p6, g6, f6⟩ := hM.cell (j * 7 + 6) (by omega)
      have hw6 : IntKind.i64.wrap (r6 + 1) = r6 + 1 := wrap64_in _ (by omega) (by omega)
      have HM := Lib.hid (hM.set (j * 7 + 6) (.int .i64 r6) (fun i => ⟨by omega, by omega⟩))
      clear hM
      go_wp2
      go_roundw
      case rel =>
        refine ⟨j + 1, by omega, by go_num, ⟨r6 + 1, rfl, by omega, ?_⟩, HM.out⟩
        obtain ⟨q1, q2, q3⟩ := HR.out
        have q4 := H4.out
        have q6 := H6.out
        omega
      case measure => simp [intOf]; omega
    · have hjn : j = n := by omega
      subst hjn
      have hrt : r ≤ k + 6300000 := by
        have h1 := wt_le L j
        have h2 := HWT.out
        have h3 := HN.out
        omega
      have HRT := Lib.hid hrt
      clear hr1 hrt
      go_wp2
      go_ret
      exact ⟨r, rfl, hr0, HRT.out, hM.1⟩
theorem markRb_k (u : Value) (L : List Ent) (k : Int) (base hi : Nat) (w : World) (h : MkR w base hi u L) (hL : L.length + wtE L ≤ 1048576) (hk0 : 0 ≤ k) (hk : k ≤ 32000000) :
    Calls Tryz.prog 56 #[.agg #[u], .int .i64 k] w fun e w' => ∃ r : Int, e = .returned (.int .i64 r) ∧ 0 ≤ r ∧ r ≤ k + 6300000 ∧ MidB base hi w w' := by
  obtain ⟨bA, B0, z⟩ := one w [u] 32
  have hs0 : MidB base hi w (w.alloc (.cells #[u] 32)) := ⟨B0.os, B0.tape, B0.output, B0.size, fun i hi' _ => B0.block i hi'⟩
  obtain ⟨B, rfl, hM⟩ := h.keep B0
  clear bA z
  go_enter Tryz.func56, Tryz.ntmps56
  go_wp2_with fail
  refine (markES_k B hi L k base _ hM hL hk0 hk).mono ?_
  rintro e w1 ⟨r, rfl, hr0, hr1, hs⟩
  have hS : MidB base hi w w1 := hs0.trans ⟨hs.os, hs.tape, hs.output, hs.size, hs.block⟩
  clear hs0 hs
  go_wp2
  go_ret
  exact ⟨r, rfl, hr0, hr1, hS⟩
theorem MidB.wider {a b a' b' : Nat} {w w' : World} (h : MidB a b w w') (h1 : a' ≤ a) (h2 : b ≤ b') : MidB a' b' w w' := ⟨h.os, h.tape, h.output, h.size, fun i hi hc => h.block i hi (by omega)⟩
theorem MidB.of_below {w w' : World} (base hi : Nat) (h : Below w.heap.size w w') : MidB base hi w w' := ⟨h.os, h.tape, h.output, h.size, fun i hi' _ => h.block i hi'⟩
theorem MkR.mid {w w' : World} {base hi b0 h0 : Nat} {u : Value} {L : List Ent} (h : MkR w base hi u L) (s : MidB b0 h0 w w') (hd : h0 ≤ base ∨ hi ≤ b0) : MkR w' base hi u L := by
  obtain ⟨B, e, s0, c, ew, h1, h2, h3⟩ := h
  have blk : ∀ i, base ≤ i → i < hi → i < w.heap.size → w'.heap[i]? = w.heap[i]? := fun i a b q => s.block i q (by omega)
  have hb := blk B h1 h2 h3
  have wr : ∀ {v : Value} {n : Nat}, Wr w (B + 1) hi v n → Wr w' (B + 1) hi v n := fun {v n} q => by
    obtain ⟨a, c, rfl, hc⟩ := q
    refine ⟨a, c, rfl, fun i hi' => ?_⟩
    obtain ⟨g, e, q2, q3, q4, q5⟩ := hc i hi'
    have hg : g < w.heap.size := by
      obtain ⟨x, hx⟩ := Option.isSome_iff_exists.1 q4
      exact World.block_lt_of_cell? w _ hx
    have eg := blk g (by omega) q3 hg
    exact ⟨g, e, q2, q3, by rw [World.cell?_of_block (w := w) (a := ⟨g, i, none⟩) eg]; exact q4, (World.frozen?_of_block (w := w) eg).trans q5⟩
  refine ⟨B, e, Soft.refl _ _ _, fun j hj => ⟨by rw [World.cell?_of_block (w := w) (a := ⟨B, j, none⟩) hb]; exact (c j hj).1, (World.frozen?_of_block (w := w) hb).trans (c j hj).2⟩, fun i hi' => ?_, h1, h2, Nat.le_trans h3 s.size⟩
  obtain ⟨u1, u2, e1, e2, r1, r2⟩ := ew i hi'
  exact ⟨u1, u2, (World.cell?_of_block (w := w) hb).trans e1, (World.cell?_of_block (w := w) hb).trans e2, wr r1, wr r2⟩
theorem row_mid {base hi b n z : Nat} {e : TypeId} {w w' : World} {v : Value} {xs : List Value} (h : w.ownsRow b e z v n xs) (s : MidB base hi w w') (hv : ∀ k, v.ownBlock = some k → k < base ∨ hi ≤ k) : w'.ownsRow b e z v n xs := by
  refine ⟨h.1, ?_⟩
  rcases h.2 with hn | ⟨g, cap, cur, e, hb, hg, rest⟩
  · exact .inl hn
  · have hlt : g < w.heap.size := (World.ownsRow.lt h g (by rw [e]; rfl)).2
    exact .inr ⟨g, cap, cur, e, hb, (s.block g hlt (hv g (by rw [e]; rfl))).trans hg, rest⟩
theorem OwnP.mid {base hi b : Nat} {w w' : World} {v : Value} {l : List (Int × Int)} (h : OwnP w b v l) (s : MidB base hi w w') (hv : ∀ k, v.ownBlock = some k → k < base ∨ hi ≤ k) : OwnP w' b v l := row_mid h s hv
theorem OwnT.mid {base hi b : Nat} {w w' : World} {v : Value} {T : List ET} (h : OwnT w b v T) (s : MidB base hi w w') (hv : hi ≤ b ∨ InH base v T) : OwnT w' b v T := by
  refine ⟨row_mid h.row s fun k hk => ?_, fun t ht => ⟨row_mid (h.own t ht).1 s fun k hk => ?_, row_mid (h.own t ht).2 s fun k hk => ?_⟩, h.len, h.sep, h.apart⟩
  · have := (World.ownsRow.lt h.row k hk).1
    rcases hv with q | q
    · omega
    · have := q.1 k hk; omega
  · have := ((h.lt t ht).1 k hk).1
    rcases hv with q | q
    · omega
    · have := (q.2 t ht).1 k hk; omega
  · have := ((h.lt t ht).2 k hk).1
    rcases hv with q | q
    · omega
    · have := (q.2 t ht).2 k hk; omega
set_option maxHeartbeats 2000000 in
theorem markNd_any (ov ru su : Value) (N : Nd) (b0 h1 h2 h3 : Nat) (w : World) (ho : OwnP w b0 ov N.own) (hh : ∀ k, ov.ownBlock = some k → k < h1) (m1 : MkR w h1 h2 ru N.rib) (m2 : MkR w h2 h3 su N.sent) (hn : wtN N ≤ 1048576) (q1 : b0 ≤ h1) (q2 : h1 ≤ h2) (q3 : h2 ≤ h3) (q4 : h3 ≤ w.heap.size) :
    Calls Tryz.prog 15 #[.agg #[.int .i64 N.an, ov, .int .i64 N.bw, .bool N.dr, ru, su], .int .i64 1] w fun e w' => ∃ r : Int, e = .returned (.int .i64 r) ∧ 0 ≤ r ∧ MidB b0 h3 w w' := by
  have hl1 : N.own.length ≤ 1048576 := by unfold wtN at hn; omega
  have hl2 : N.rib.length + wtE N.rib ≤ 1048576 := by unfold wtN at hn; omega
  have hl3 : N.sent.length + wtE N.sent ≤ 1048576 := by unfold wtN at hn; omega
  clear hn
  obtain ⟨bA, B0, z⟩ := one w [.int .i64 N.an, ov, .int .i64 N.bw, .bool N.dr, ru, su] 34
  have M0 := MidB.of_below b0 h3 B0
  replace ho := ho.keep B0
  replace m1 := m1.keep B0
  replace m2 := m2.keep B0
  obtain ⟨A, hA⟩ : ∃ A, A = w.heap.size := ⟨_, rfl⟩
  have hAh : h3 ≤ A := by omega
  rw [← hA] at bA
  have a1 := bA.c 1 rfl
  clear z B0
  go_enter Tryz.func15, Tryz.ntmps15
  go_wp2_with fail
  try rw [← hA]
  clear hA a1
  refine (markP_is ov N.own b0 1 _ ho (by omega) (by omega)).mono ?_
  rintro e w1 ⟨rfl, -, hg⟩
  have g1 := (MidB.refl b0 h1 _).grown hg (fun k hk => ⟨(World.ownsRow.lt ho k hk).1, hh k hk⟩)
  replace bA := g1.bl bA (.inr (by omega))
  replace m1 := m1.mid g1 (.inl (Nat.le_refl _))
  replace m2 := m2.mid g1 (.inl q2)
  have M1 := M0.trans (g1.wider (Nat.le_refl _) (by omega))
  clear hg g1 M0 ho hh
  obtain ⟨k1, hk1⟩ : ∃ k1 : Int, k1 = 1 + (N.own.length : Int) * 2 := ⟨_, rfl⟩
  rw [← hk1]
  have hk1a : 0 ≤ k1 := by omega
  have hk1b : k1 ≤ 2100000 := by omega
  clear hk1
  have a4 := bA.c 4 rfl
  go_wp2_with fail
  clear a4
  refine (markRb_k ru N.rib k1 h1 h2 _ m1 hl2 (by omega) (by omega)).mono ?_
  rintro e w2 ⟨k2, rfl, hk2a, hk2b, g2⟩
  replace bA := g2.bl bA (.inr (by omega))
  replace m2 := m2.mid g2 (.inl (Nat.le_refl _))
  have M2 := M1.trans (g2.wider q1 q3)
  clear g2 M1 m1
  have a5 := bA.c 5 rfl
  go_wp2_with fail
  clear a5
  refine (markRb_k su N.sent k2 h2 h3 _ m2 hl3 (by omega) (by omega)).mono ?_
  rintro e w3 ⟨k3, rfl, hk3a, hk3b, g3⟩
  have M3 := M2.trans (g3.wider (Nat.le_trans q1 q2) (Nat.le_refl _))
  clear g3 M2 m2 bA
  go_wp2
  go_ret
  exact ⟨k3, rfl, hk3a, M3⟩
theorem mkRb_k (v : Value) (T : List ET) (W : List Nat) (k : Int) (base hi : Nat) (w : World) (h : OwnT w base v T) (hH : InH hi v T) (hW : (entT T).map wE = W) (hWs : W.sum ≤ 8000000) (hk0 : 0 ≤ k) (hk : k ≤ 32000000) :
    Calls Tryz.prog 56 #[.agg #[v], .int .i64 k] w fun e w' => ∃ S, e = .returned (.int .i64 (k + (W.sum : Nat))) ∧ S.length = T.length ∧ MarkedW k W (entT S) T.length ∧ OwnT w' base v S ∧ MidB base hi w w' ∧ InH hi v S := by
  obtain ⟨bA, B0, z⟩ := one w [v] 32
  have h1 := h.keep B0
  have B1 : MidB base hi w (w.alloc (.cells #[v] 32)) := (MidB.refl base hi w).grown (grown_below B0 none) (fun k hk => by cases hk)
  clear bA z
  go_enter Tryz.func56, Tryz.ntmps56
  go_wp2_with fail
  refine (mkES_any v T W k base hi _ h1 hH hW hWs hk0 hk).mono ?_
  rintro e w1 ⟨S, rfl, hl, hM, hO, hB, hI⟩
  have B2 := B1.trans hB
  have HM := Lib.hid hM
  have HI := Lib.hid hI
  clear hM hB hI
  go_wp2
  go_ret
  exact ⟨S, rfl, hl, HM.out, hO, B2, HI.out⟩
theorem hdRb_k (v : Value) (L : List Ent) (W : List Nat) (k : Int) (w : World) (h : RdE w v L) (hM : MarkedW k W L L.length) (hWs : W.sum ≤ 8000000) (hk0 : 0 ≤ k) (hk : k ≤ 32000000) :
    Calls Tryz.prog 58 #[.agg #[v], .int .i64 k] w fun e w' => e = .returned (.int .i64 (k + (W.sum : Nat))) ∧ Below w.heap.size w w' := by
  obtain ⟨bA, B0, z⟩ := one w [v] 32
  have h1 := h.keep B0
  obtain ⟨a, c, rfl⟩ := h.len
  have HM := Lib.hid hM
  clear bA z hM
  go_enter Tryz.func58, Tryz.ntmps58
  go_wp2_with fail
  refine (hdES_any _ L W k _ h1 HM.out hWs hk0 hk).mono ?_
  rintro e w1 ⟨rfl, hB⟩
  have B2 := below_step B0 hB
  have hn : ¬ k + (W.sum : Nat) < 0 := by omega
  clear hB
  go_wp2
  go_ret
  exact ⟨rfl, B2⟩
/-- a switch of the call's own: its list, its table and what was sent lie behind one another -/
structure NdT (w : World) (b0 h1 h2 h3 : Nat) (ov ru su : Value) (own : List (Int × Int)) (T1 T2 : List ET) : Prop where
  o : OwnP w b0 ov own
  oh : ∀ k, ov.ownBlock = some k → k < h1
  r : OwnT w h1 ru T1
  ri : InH h2 ru T1
  s : OwnT w h2 su T2
  si : InH h3 su T2
  q1 : b0 ≤ h1
  q2 : h1 ≤ h2
  q3 : h2 ≤ h3
theorem NdT.keep {w w' : World} {b0 h1 h2 h3 : Nat} {ov ru su : Value} {own : List (Int × Int)} {T1 T2 : List ET} (h : NdT w b0 h1 h2 h3 ov ru su own T1 T2) (hb : Below w.heap.size w w') : NdT w' b0 h1 h2 h3 ov ru su own T1 T2 :=
  ⟨h.o.keep hb, h.oh, h.r.keep hb, h.ri, h.s.keep hb, h.si, h.q1, h.q2, h.q3⟩
theorem NdT.mid {w w' : World} {b0 h1 h2 h3 b h : Nat} {ov ru su : Value} {own : List (Int × Int)} {T1 T2 : List ET} (H : NdT w b0 h1 h2 h3 ov ru su own T1 T2) (s : MidB b h w w') (hb : h ≤ b0) : NdT w' b0 h1 h2 h3 ov ru su own T1 T2 :=
  ⟨H.o.mid s fun k hk => .inr (Nat.le_trans hb (World.ownsRow.lt H.o k hk).1), H.oh, H.r.mid s (.inl (Nat.le_trans hb H.q1)), H.ri, H.s.mid s (.inl (Nat.le_trans hb (Nat.le_trans H.q1 H.q2))), H.si, H.q1, H.q2, H.q3⟩
/-- its slices bear the marks from 1 on -/
def MarkN (w : World) (ov ru su : Value) (n : Nat) (W1 W2 : List Nat) : Prop :=
  ∃ l L1 L2, l.length = n ∧ MarkP 1 n l ∧ RdP w ov l ∧ MarkedW (1 + (n : Int) * 2) W1 L1 L1.length ∧ RdE w ru L1 ∧ MarkedW (1 + (n : Int) * 2 + (W1.sum : Nat)) W2 L2 L2.length ∧ RdE w su L2
theorem MarkN.keep {w w' : World} {ov ru su : Value} {n : Nat} {W1 W2 : List Nat} (h : MarkN w ov ru su n W1 W2) (hb : Below w.heap.size w w') : MarkN w' ov ru su n W1 W2 := by
  obtain ⟨l, L1, L2, a, b, c, d, e, f, g⟩ := h
  exact ⟨l, L1, L2, a, b, c.keep hb, d, e.keep hb, f, g.keep hb⟩
set_option maxHeartbeats 2000000 in
theorem mkNd_is (ov ru su : Value) (own : List (Int × Int)) (an bw : Int) (dr : Bool) (T1 T2 : List ET) (W1 W2 : List Nat) (b0 h1 h2 h3 : Nat) (w : World) (H : NdT w b0 h1 h2 h3 ov ru su own T1 T2) (hn : own.length ≤ 1048576)
    (hW1 : (entT T1).map wE = W1) (hs1 : W1.sum ≤ 8000000) (hW2 : (entT T2).map wE = W2) (hs2 : W2.sum ≤ 8000000) (q4 : h3 ≤ w.heap.size) :
    Calls Tryz.prog 15 #[.agg #[.int .i64 an, ov, .int .i64 bw, .bool dr, ru, su], .int .i64 1] w fun e w' => e = .returned (.int .i64 (1 + (own.length : Int) * 2 + (W1.sum : Nat) + (W2.sum : Nat))) ∧ MarkN w' ov ru su own.length W1 W2 ∧ MidB b0 h3 w w' := by
  obtain ⟨q1, q2, q3⟩ : b0 ≤ h1 ∧ h1 ≤ h2 ∧ h2 ≤ h3 := ⟨H.q1, H.q2, H.q3⟩
  obtain ⟨bA, B0, z⟩ := one w [.int .i64 an, ov, .int .i64 bw, .bool dr, ru, su] 34
  have M0 := MidB.of_below b0 h3 B0
  have ho := H.o.keep B0
  have hr := H.r.keep B0
  have hs := H.s.keep B0
  have hri := H.ri
  have hsi := H.si
  have hh := H.oh
  obtain ⟨A, hA⟩ : ∃ A, A = w.heap.size := ⟨_, rfl⟩
  have hAh : h3 ≤ A := by omega
  rw [← hA] at bA
  have a1 := bA.c 1 rfl
  have HW1 := Lib.hid hW1
  have HW2 := Lib.hid hW2
  clear z B0 H hW1 hW2
  go_enter Tryz.func15, Tryz.ntmps15
  go_wp2_with fail
  try rw [← hA]
  clear hA a1
  refine (markP_is ov own b0 1 _ ho (by omega) (by omega)).mono ?_
  rintro e w1 ⟨rfl, ⟨l, hl, hMP, hol⟩, hg⟩
  have g1 := (MidB.refl b0 h1 _).grown hg (fun k hk => ⟨(World.ownsRow.lt ho k hk).1, hh k hk⟩)
  replace bA := g1.bl bA (.inr (by omega))
  replace hr := hr.mid g1 (.inl (Nat.le_refl _))
  replace hs := hs.mid g1 (.inl q2)
  have M1 := M0.trans (g1.wider (Nat.le_refl _) (by omega))
  have HMP := Lib.hid hMP
  have HL := Lib.hid hl
  clear hg g1 M0 ho hMP hl
  obtain ⟨k1, hk1⟩ : ∃ k1 : Int, k1 = 1 + (own.length : Int) * 2 := ⟨_, rfl⟩
  rw [← hk1]
  have hk1a : 0 ≤ k1 := by omega
  have hk1b : k1 ≤ 2100000 := by omega
  have HK1 := Lib.hid hk1
  clear hk1
  have a4 := bA.c 4 rfl
  go_wp2_with fail
  clear a4
  refine (mkRb_k ru T1 W1 k1 h1 h2 _ hr hri HW1.out hs1 (by omega) (by omega)).mono ?_
  rintro e w2 ⟨S1, rfl, hl1, hM1, hO1, g2, hi1⟩
  replace bA := g2.bl bA (.inr (by omega))
  replace hs := hs.mid g2 (.inl (Nat.le_refl _))
  replace hol := hol.mid g2 fun k hk => .inl (hh k hk)
  have M2 := M1.trans (g2.wider q1 q3)
  have rd1 := marked_bd hM1 hl1.symm hk1a (by omega) hs1
  have HI1 := Lib.hid hi1
  have HRD1 := Lib.hid rd1
  have HM1 : Hid (MarkedW k1 W1 (entT S1) (entT S1).length) := Lib.hid (by rw [entT_len, hl1]; exact hM1)
  clear g2 M1 hr hM1 hi1 rd1 hl1
  obtain ⟨k2, hk2⟩ : ∃ k2 : Int, k2 = k1 + (W1.sum : Nat) := ⟨_, rfl⟩
  rw [← hk2]
  have hk2a : 0 ≤ k2 := by omega
  have hk2b : k2 ≤ 20000000 := by omega
  have HK2 := Lib.hid hk2
  clear hk2
  have a5 := bA.c 5 rfl
  go_wp2_with fail
  clear a5
  refine (mkRb_k su T2 W2 k2 h2 h3 _ hs hsi HW2.out hs2 (by omega) (by omega)).mono ?_
  rintro e w3 ⟨S2, rfl, hl2, hM2, hO2, g3, -⟩
  replace hO1 := hO1.mid g3 (.inr HI1.out)
  replace hol := hol.mid g3 fun k hk => .inl (Nat.lt_of_lt_of_le (hh k hk) q2)
  have M3 := M2.trans (g3.wider (Nat.le_trans q1 q2) (Nat.le_refl _))
  have rd2 := marked_bd hM2 hl2.symm hk2a (by omega) hs2
  have HM2 : MarkedW k2 W2 (entT S2) (entT S2).length := by rw [entT_len, hl2]; exact hM2
  clear g3 M2 hs hM2 bA
  have HE : Hid (k2 + (W2.sum : Nat) = 1 + (own.length : Int) * 2 + (W1.sum : Nat) + (W2.sum : Nat)) := Lib.hid (by rw [HK2.out, HK1.out])
  have hMN : Hid (MarkN w3 ov ru su own.length W1 W2) := Lib.hid ⟨l, entT S1, entT S2, HL.out, by rw [← HL.out]; exact HMP.out, hol.rd, by rw [← HK1.out]; exact HM1.out, hO1.rd HRD1.out, by rw [← HK1.out, ← HK2.out]; exact HM2, hO2.rd rd2⟩
  clear hol hO1 hO2 rd2 HM2 hl2
  go_wp2
  go_ret
  exact ⟨by rw [HE.out]; rfl, hMN.out, M3⟩
set_option maxHeartbeats 2000000 in
theorem hdNd_is (ov ru su : Value) (n : Nat) (an bw : Int) (dr : Bool) (W1 W2 : List Nat) (w : World) (H : MarkN w ov ru su n W1 W2) (hn : n ≤ 1048576) (hs1 : W1.sum ≤ 8000000) (hs2 : W2.sum ≤ 8000000) :
    Calls Tryz.prog 16 #[.agg #[.int .i64 an, ov, .int .i64 bw, .bool dr, ru, su], .int .i64 1] w fun e w' => e = .returned (.int .i64 (1 + (n : Int) * 2 + (W1.sum : Nat) + (W2.sum : Nat))) ∧ Below w.heap.size w w' := by
  obtain ⟨bA, B0, z⟩ := one w [.int .i64 an, ov, .int .i64 bw, .bool dr, ru, su] 34
  obtain ⟨l, L1, L2, hl, hMP, hP, hM1, hR1, hM2, hR2⟩ := H.keep B0
  subst hl
  have HM1 := Lib.hid hM1
  have HM2 := Lib.hid hM2
  have HMP := Lib.hid hMP
  have a1 := bA.c 1 rfl
  clear z hM1 hM2 hMP H
  go_enter Tryz.func16, Tryz.ntmps16
  go_wp2_with fail
  refine (heldP_is ov l 1 _ hP HMP.out hn (by omega) (by omega)).mono ?_
  rintro e w1 ⟨rfl, hb⟩
  replace bA := bA.keep hb
  replace hR1 := hR1.keep hb
  replace hR2 := hR2.keep hb
  replace B0 := below_step B0 hb
  clear hb a1 hP
  obtain ⟨k1, hk1⟩ : ∃ k1 : Int, k1 = 1 + (l.length : Int) * 2 := ⟨_, rfl⟩
  rw [← hk1] at HM1 HM2 ⊢
  have hk1a : ¬ k1 < 0 := by omega
  have hk1b : k1 ≤ 2100000 := by omega
  have HK1 := Lib.hid hk1
  clear hk1
  have a4 := bA.c 4 rfl
  go_wp2_with fail
  clear a4
  refine (hdRb_k ru L1 W1 k1 _ hR1 HM1.out hs1 (by omega) (by omega)).mono ?_
  rintro e w2 ⟨rfl, hb⟩
  replace bA := bA.keep hb
  replace hR2 := hR2.keep hb
  replace B0 := below_step B0 hb
  clear hb hR1
  obtain ⟨k2, hk2⟩ : ∃ k2 : Int, k2 = k1 + (W1.sum : Nat) := ⟨_, rfl⟩
  rw [← hk2] at HM2 ⊢
  have hk2a : ¬ k2 < 0 := by omega
  have hk2b : k2 ≤ 20000000 := by omega
  have HE : Hid (k2 + (W2.sum : Nat) = 1 + (l.length : Int) * 2 + (W1.sum : Nat) + (W2.sum : Nat)) := Lib.hid (by rw [hk2, HK1.out])
  clear hk2
  have a5 := bA.c 5 rfl
  go_wp2_with fail
  clear a5
  refine (hdRb_k su L2 W2 k2 _ hR2 HM2.out hs2 (by omega) (by omega)).mono ?_
  rintro e w3 ⟨rfl, hb⟩
  replace B0 := below_step B0 hb
  have hk3 : ¬ k2 + (W2.sum : Nat) < 0 := by omega
  clear hb hR2
  go_wp2
  go_ret
  exact ⟨by rw [← HE.out]; rfl, B0⟩
end Go.Proofs.YtaiffofmhfflkaaGreat
namespace Go.Proofs.YtaiffofmhfflkaaGreat
open Go.ChangeShapes Go.WideShapes Go.ChangeAt Go.RowKit Go.BigFrame Go.Joins
set_option linter.unusedVariables false
set_option maxRecDepth 100000
set_option linter.unusedSimpArgs false
set_option maxRecDepth 100000

/-- the numbers of its slices are numbers -/
def BdN (N : Nd) : Prop := (∀ i, i < N.rib.length → BdE (N.rib.getD i e0)) ∧ ∀ i, i < N.sent.length → BdE (N.sent.getD i e0)
theorem RdN.bd {w : World} {ov rv sv : Value} {N : Nd} (h : RdN w ov rv sv N) : BdN N := ⟨h.2.1.bd, h.2.2.bd⟩
theorem newNd_open {w w' : World} {N : Nd} {e : Ending} (h : NewNd w N e w') (hd : BdN N) (hn : wtN N ≤ 1048576) : ∃ ov rv sv, e = .returned (.agg #[.int .i64 N.an, ov, .int .i64 N.bw, .bool N.dr, rv, sv]) ∧ RdN w' ov rv sv N ∧ Below w.heap.size w w' := by
  obtain ⟨ov, ru, su, h1, h2, rfl, ho, -, hr, -, hs, -, -, -, -, hb⟩ := h
  have l2 : N.rib.length ≤ 1048576 := by unfold wtN at hn; omega
  have l3 : N.sent.length ≤ 1048576 := by unfold wtN at hn; omega
  exact ⟨ov, ru, su, rfl, ⟨ho.rd, hr.rd hd.1 l2, hs.rd hd.2 l3⟩, hb⟩
theorem toNd_p {ov rv sv : Value} {N : Nd} {w : World} (h : RdN w ov rv sv N) (hd : BdN N) (hn : wtN N ≤ 1048576) :
    Calls Tryz.prog 12 #[.agg #[.int .i64 N.an, ov, .int .i64 N.bw, .bool N.dr, rv, sv]] w fun e w' => ∃ o r s, e = .returned (.agg #[.int .i64 N.an, o, .int .i64 N.bw, .bool N.dr, r, s]) ∧ RdN w' o r s N ∧ Below w.heap.size w w' :=
  (toNd_any ov rv sv N w h hn).mono fun e w' q => newNd_open q hd hn
theorem sndok_t {ov rv sv : Value} {N : Nd} {b : Bool} (w : World) (h : RdN w ov rv sv N) (H : Hid (ndB N = b)) :
    Calls Tryz.prog 44 #[.agg #[.int .i64 N.an, ov, .int .i64 N.bw, .bool N.dr, rv, sv]] w fun e w' => e = .returned (.bool b) ∧ Below w.heap.size w w' := H.out ▸ sndok_any ov rv sv N w h
theorem indok_t {ov rv sv : Value} {N : Nd} {b : Bool} (w : World) (h : RdN w ov rv sv N) (H : Hid (ndB N = b)) :
    Calls Tryz.prog 65 #[.agg #[.int .i64 N.an, ov, .int .i64 N.bw, .bool N.dr, rv, sv]] w fun e w' => e = .returned (.bool b) ∧ Below w.heap.size w w' := H.out ▸ indok_any ov rv sv N w h
end Go.Proofs.YtaiffofmhfflkaaGreat
namespace Go.Proofs.YtaiffofmhfflkaaGreat
open Go.ChangeShapes Go.WideShapes Go.ChangeAt Go.RowKit Go.BigFrame Go.Joins
set_option linter.unusedVariables false
set_option linter.unusedSimpArgs false
set_option maxRecDepth 100000

theorem wp_appPS {ops : Array Oper} {rest : List Oper} {o : Oper} {a : Act} {Q : Exit → Act → World → Prop} {w : World} (hgd : o.guard = none) (s x : Operand)
    (ho : o.op = .call { callee := .builtin .append, args := #[s, x], argTypes := #[29, 29] })
    (base : Nat) (v u : Value) (l m : List (Int × Int)) (hs : a.eval s = v) (hx : a.eval x = u) (hown : OwnP w base v l) (hu : RdP w u m) (hlen : l.length + m.length ≤ 4294967296) (hbase : base ≤ w.heap.size)
    (h : ∀ v' w', OwnP w' base v' (l ++ m) → w.grownBy w' v.ownBlock → wpList Tryz.prog ops Q rest (a.put o.dst v') w') : wpList Tryz.prog ops Q (o :: rest) a w := by
  obtain ⟨i0, hi, hz0, hz1, hz2⟩ := info_parts infoP
  have hmap : (flat l).map (Value.int .i64) ++ (flat m).map (Value.int .i64) = (flat (l ++ m)).map (Value.int .i64) := by rw [flat_append, List.map_append]
  have hl2 : (l ++ m).length = l.length + m.length := by simp
  have done : ∀ (ad : Addr) (c : Nat), u = .slice (some ad) m.length c → (∀ j y, ((flat m).map (Value.int .i64))[j]? = some y → w.cell? (ad.add j) = some y) → wpList Tryz.prog ops Q (o :: rest) a w := by
    intro ad c hv hc
    refine wpList_append_own w hgd s x 29 ho base PT i0 (.agg #[.int .i64 0, .int .i64 0]) 2 16 Tryz.underlying29 hi hz0 hz1 hz2 rfl (by decide) v l.length ((flat l).map (Value.int .i64)) hs hown ad m.length c ((flat m).map (Value.int .i64)) (hx.trans hv) (by simp [flat_len]) hc (by simp [Value.oneCell']) (by unfold maxLen; omega) (by omega) hbase ?_
    intro v' w' ho' hg' _
    refine h v' w' ?_ hg'
    unfold OwnP
    rw [hl2, ← hmap]
    exact ho'
  obtain ⟨hm, ⟨p, c, hv, rfl, hac⟩ | ⟨b, off, c, hv, hp, hc⟩⟩ := hu
  · cases p with
    | none =>
      have hc0 := hac rfl
      subst hc0
      refine wpList_append_own_none hgd s x 29 ho base PT i0 2 Tryz.underlying29 hi v l.length ((flat l).map (Value.int .i64)) hs hown (hx.trans hv) ?_
      exact h v w (by simpa using hown) ⟨rfl, rfl, rfl, Nat.le_refl _, fun _ _ _ => rfl⟩
    | some ad => exact done ad c hv (by simp [flat])
  · refine done ⟨b, off, none⟩ c hv (fun j y hy => ?_)
    have hj : j < m.length * 2 := by
      have := (List.getElem?_eq_some_iff.1 hy).1
      rw [List.length_map, flat_len] at this
      exact this
    have hadd : (⟨b, off, none⟩ : Addr).add j = ⟨b, off + j, none⟩ := by unfold Addr.add; split <;> simp_all
    rw [hadd]
    obtain ⟨i, hi' | hi'⟩ : ∃ i, j = i * 2 ∨ j = i * 2 + 1 := ⟨j / 2, by omega⟩
    · have e := flat_get m i (by omega)
      subst hi'
      rw [List.getElem?_map, e.1] at hy
      rw [(hc i (by omega)).1]
      simpa using hy
    · have e := flat_get m i (by omega)
      subst hi'
      rw [List.getElem?_map, e.2] at hy
      rw [show off + (i * 2 + 1) = off + i * 2 + 1 by omega, (hc i (by omega)).2]
      simpa using hy
theorem OwnP.lenS8 {w : World} {base : Nat} {v : Value} {l : List (Int × Int)} (h : OwnP w base v l) : ∃ a c, v = .slice a l.length c := by
  obtain ⟨a, c, hv, -⟩ := h.cap
  exact ⟨a, c, hv⟩
theorem NdT.far {w : World} {b0 h1 h2 h3 C o : Nat} {ov ru su u : Value} {own : List (Int × Int)} {T1 T2 : List ET} (h : NdT w b0 h1 h2 h3 ov ru su own T1 T2) (hC : C < b0) : NdT (w.setCell ⟨C, o, none⟩ u) b0 h1 h2 h3 ov ru su own T1 T2 :=
  ⟨h.o.far hC, h.oh, h.r.far (Nat.lt_of_lt_of_le hC h.q1), h.ri, h.s.far (Nat.lt_of_lt_of_le hC (Nat.le_trans h.q1 h.q2)), h.si, h.q1, h.q2, h.q3⟩
/-- a switch of the call's own that reads as D -/
def NewNdT (w : World) (D : Nd) (e : Ending) (w' : World) : Prop :=
  ∃ ov ru su T1 T2 b0 h1 h2, e = .returned (.agg #[.int .i64 D.an, ov, .int .i64 D.bw, .bool D.dr, ru, su]) ∧ NdT w' b0 h1 h2 w'.heap.size ov ru su D.own T1 T2 ∧ entT T1 = D.rib ∧ entT T2 = D.sent ∧ w.heap.size ≤ b0 ∧ Below w.heap.size w w'
theorem NdT.rd {w : World} {b0 h1 h2 h3 : Nat} {ov ru su : Value} {D : Nd} {T1 T2 : List ET} (h : NdT w b0 h1 h2 h3 ov ru su D.own T1 T2) (e1 : entT T1 = D.rib) (e2 : entT T2 = D.sent) (hd : BdN D) : RdN w ov ru su D :=
  ⟨h.o.rd, e1 ▸ h.r.rd (fun t ht => bd_mem (L := D.rib) hd.1 (e1 ▸ entT_mem ht)), e2 ▸ h.s.rd (fun t ht => bd_mem (L := D.sent) hd.2 (e2 ▸ entT_mem ht))⟩
theorem NdT.lens {w : World} {b0 h1 h2 h3 : Nat} {ov ru su : Value} {own : List (Int × Int)} {T1 T2 : List ET} (h : NdT w b0 h1 h2 h3 ov ru su own T1 T2) : (∃ a c, ov = .slice a own.length c) ∧ (∃ a c, ru = .slice a T1.length c) ∧ ∃ a c, su = .slice a T2.length c := ⟨h.o.lenS8, h.r.lenV, h.s.lenV⟩
set_option maxHeartbeats 2000000 in
theorem icopy8_any (ov rv sv : Value) (N : Nd) (w : World) (h : RdN w ov rv sv N) (hn : wtN N ≤ 1048576) :
    Calls Tryz.prog 51 #[.agg #[.int .i64 N.an, ov, .int .i64 N.bw, .bool N.dr, rv, sv]] w (NewNdT w N) := by
  have hl1 : N.own.length ≤ 1048576 := by unfold wtN at hn; omega
  have hl2 : N.rib.length + wtE N.rib ≤ 1048576 := by unfold wtN at hn; omega
  have hl3 : N.sent.length + wtE N.sent ≤ 1048576 := by unfold wtN at hn; omega
  obtain ⟨oa, oc, hov⟩ := h.1.len
  obtain ⟨ra, rc, hrv⟩ := h.2.1.len
  obtain ⟨sa, sc, hsv⟩ := h.2.2.len
  subst hov hrv hsv
  obtain ⟨bA, bR, B1, z⟩ := two w [.int .i64 N.an, .slice oa N.own.length oc, .int .i64 N.bw, .bool N.dr, .slice ra N.rib.length rc, .slice sa N.sent.length sc] [.int .i64 0, .slice none 0 0, .int .i64 0, .bool false, .slice none 0 0, .slice none 0 0] 34 34
  obtain ⟨V, hV⟩ : ∃ V, V = (w.alloc (.cells #[.int .i64 N.an, .slice oa N.own.length oc, .int .i64 N.bw, .bool N.dr, .slice ra N.rib.length rc, .slice sa N.sent.length sc] 34)).alloc (.cells #[.int .i64 0, .slice none 0 0, .int .i64 0, .bool false, .slice none 0 0, .slice none 0 0] 34) := ⟨_, rfl⟩
  have a1 := bA.c 1 rfl
  clear hn
  go_enter Tryz.func51, Tryz.ntmps51
  go_wp2_with (at_builtin; refine Hid.out ?_)
  refine Lib.hid ?_
  rw [← hV] at bA bR B1 z ⊢
  obtain ⟨A, hA⟩ : ∃ A, A = w.heap.size := ⟨_, rfl⟩
  obtain ⟨R, hR⟩ : ∃ R, R = w.heap.size + 1 := ⟨_, rfl⟩
  rw [← hA] at bA
  rw [← hR] at bR
  rw [← hR]
  try rw [← hA]
  have hAR : A ≠ R := by omega
  have hwA : w.heap.size ≤ A := by omega
  have hwR : w.heap.size ≤ R := by omega
  have hAV : A < V.heap.size := by rw [z]; omega
  have hRV : R < V.heap.size := by rw [z]; omega
  have hwV : w.heap.size ≤ V.heap.size := by omega
  have hVA : A + 2 = V.heap.size := by omega
  clear hV hA hR z a1
  refine wp_appPS rfl _ _ rfl V.heap.size (.slice none 0 0) (.slice oa N.own.length oc) [] N.own rfl rfl (World.ownsRow_nil _ _ _ _) (h.keep B1).1 (by simp; omega) (Nat.le_refl _) ?_
  intro v1 w1 ho1 hg1
  rw [List.nil_append] at ho1
  obtain ⟨x1, y1, rfl⟩ := ho1.lenS8
  replace bA := bA.grown hg1 (by simp [Value.ownBlock])
  replace bR := bR.grown hg1 (by simp [Value.ownBlock])
  have B2 : Below w.heap.size w w1 := Below.grown B1 hg1 B1.size (fun k hk => by simp [Value.ownBlock] at hk)
  have hVw : V.heap.size ≤ w1.heap.size := hg1.size
  clear hg1 B1
  have a1 := bA.c 1 rfl
  have af1 := bA.f 1 rfl
  have a4 := bA.c 4 rfl
  go_wp2_with fail
  clear a1 af1 a4
  have bA2 := bA.set 1 (.slice x1 N.own.length y1)
  have bR2 := bR.far (o := 1) (u := .slice x1 N.own.length y1) hAR.symm
  have ho2 := ho1.far (o := 1) (u := .slice x1 N.own.length y1) hAV
  have B3 := B2.setCell (p := ⟨A, 1, none⟩) hwA (.slice x1 N.own.length y1)
  obtain ⟨W2, hW2⟩ : ∃ W, W = w1.setCell ⟨A, 1, none⟩ (.slice x1 N.own.length y1) := ⟨_, rfl⟩
  have hVW : V.heap.size ≤ W2.heap.size := by rw [hW2]; simpa using hVw
  rw [← hW2] at bA2 bR2 ho2 B3 ⊢
  have HOH : Hid (∀ k, (Value.slice x1 N.own.length y1).ownBlock = some k → k < W2.heap.size) := Lib.hid fun k hk => (World.ownsRow.lt ho2 k hk).2
  clear hW2 bA bR ho1 B2 hVw
  simp only [List.set_cons_zero, List.set_cons_succ] at bA2
  refine (irc_any _ N.rib W2 (h.keep B3).2.1 (by omega) (lens_of hl2)).mono ?_
  rintro e w2 ⟨ru, T1, rfl, hT1, hE1, hb⟩
  obtain ⟨x2, y2, rfl⟩ := hT1.lenV
  have HE1 := Lib.hid hE1
  have hI1 := Lib.hid hT1.inH
  have hs2 := hb.size
  replace bA2 := bA2.keep hb
  replace bR2 := bR2.keep hb
  replace ho2 := ho2.keep hb
  replace B3 := below_step B3 hb
  clear hb hE1
  have a4 := bA2.c 4 rfl
  have af4 := bA2.f 4 rfl
  have a5 := bA2.c 5 rfl
  go_wp2_with fail
  clear a4 af4 a5
  have bA3 := bA2.set 4 (.slice x2 T1.length y2)
  have bR3 := bR2.far (o := 4) (u := .slice x2 T1.length y2) hAR.symm
  have ho3 := ho2.far (o := 4) (u := .slice x2 T1.length y2) hAV
  have hT13 := hT1.far (o := 4) (u := .slice x2 T1.length y2) (Nat.lt_of_lt_of_le hAV hVW)
  have B4 := B3.setCell (p := ⟨A, 4, none⟩) hwA (.slice x2 T1.length y2)
  obtain ⟨W3, hW3⟩ : ∃ W, W = w2.setCell ⟨A, 4, none⟩ (.slice x2 T1.length y2) := ⟨_, rfl⟩
  have hs3 : w2.heap.size = W3.heap.size := by rw [hW3]; simp
  rw [← hW3] at bA3 bR3 ho3 hT13 B4 ⊢
  rw [hs3] at hI1 hs2
  clear hW3 bA2 bR2 ho2 B3 hT1 hs3
  simp only [List.set_cons_zero, List.set_cons_succ] at bA3
  refine (irc_any _ N.sent W3 (h.keep B4).2.2 (by omega) (lens_of hl3)).mono ?_
  rintro e w3 ⟨su, T2, rfl, hT2, hE2, hb⟩
  obtain ⟨x3, y3, rfl⟩ := hT2.lenV
  have HE2 := Lib.hid hE2
  have hI2 := Lib.hid hT2.inH
  have hs4 := hb.size
  replace bA3 := bA3.keep hb
  replace bR3 := bR3.keep hb
  replace ho3 := ho3.keep hb
  replace hT13 := hT13.keep hb
  replace B4 := below_step B4 hb
  have hN : NdT w3 V.heap.size W2.heap.size W3.heap.size w3.heap.size (.slice x1 N.own.length y1) (.slice x2 T1.length y2) (.slice x3 T2.length y3) N.own T1 T2 :=
    ⟨ho3, HOH.out, hT13, hI1.out, hT2, hI2.out, hVW, hs2, hs4⟩
  clear hb hE2 h ho3 hT13 hT2
  have bA4 := bA3.set 5 (.slice x3 T2.length y3)
  have bR4 := bR3.far (o := 5) (u := .slice x3 T2.length y3) hAR.symm
  have hN4 := hN.far (C := A) (o := 5) (u := .slice x3 T2.length y3) hAV
  have B5 := B4.setCell (p := ⟨A, 5, none⟩) hwA (.slice x3 T2.length y3)
  have a5 := bA3.c 5 rfl
  have af5 := bA3.f 5 rfl
  have k0 := bA4.c 0 rfl
  have k1 := bA4.c 1 rfl
  have k2 := bA4.c 2 rfl
  have k3 := bA4.c 3 rfl
  have k4 := bA4.c 4 rfl
  have k5 := bA4.c 5 rfl
  have r0 := bR4.c 0 rfl
  have rf0 := bR4.f 0 rfl
  have r1 := bR4.c 1 rfl
  have rf1 := bR4.f 1 rfl
  have r2 := bR4.c 2 rfl
  have rf2 := bR4.f 2 rfl
  have r3 := bR4.c 3 rfl
  have rf3 := bR4.f 3 rfl
  have r4 := bR4.c 4 rfl
  have rf4 := bR4.f 4 rfl
  have r5 := bR4.c 5 rfl
  have rf5 := bR4.f 5 rfl
  go_wp2_with fail
  have bE := ((((((bR4.set 0 (.int .i64 N.an)).set 1 (.slice x1 N.own.length y1)).set 2 (.int .i64 N.bw)).set 3 (.bool N.dr)).set 4 (.slice x2 T1.length y2)).set 5 (.slice x3 T2.length y3))
  have e0 := bE.c 0 rfl
  have e1 := bE.c 1 rfl
  have e2 := bE.c 2 rfl
  have e3 := bE.c 3 rfl
  have e4 := bE.c 4 rfl
  have e5 := bE.c 5 rfl
  exact bodyPost_ret (v := .agg #[.int .i64 N.an, .slice x1 N.own.length y1, .int .i64 N.bw, .bool N.dr, .slice x2 T1.length y2, .slice x3 T2.length y3]) (by simp [results, Tryz.results51, go_sem, e0, e1, e2, e3, e4, e5]) rfl
    ⟨_, _, _, T1, T2, V.heap.size, W2.heap.size, W3.heap.size, rfl, by simpa using ((((((hN4.far (C := R) (o := 0) (u := .int .i64 N.an) hRV).far (C := R) (o := 1) (u := .slice x1 N.own.length y1) hRV).far (C := R) (o := 2) (u := .int .i64 N.bw) hRV).far (C := R) (o := 3) (u := .bool N.dr) hRV).far (C := R) (o := 4) (u := .slice x2 T1.length y2) hRV).far (C := R) (o := 5) (u := .slice x3 T2.length y3) hRV), HE1.out, HE2.out, hwV, ((((((B5.setCell (p := ⟨R, 0, none⟩) hwR (.int .i64 N.an)).setCell (p := ⟨R, 1, none⟩) hwR (.slice x1 N.own.length y1)).setCell (p := ⟨R, 2, none⟩) hwR (.int .i64 N.bw)).setCell (p := ⟨R, 3, none⟩) hwR (.bool N.dr)).setCell (p := ⟨R, 4, none⟩) hwR (.slice x2 T1.length y2)).setCell (p := ⟨R, 5, none⟩) hwR (.slice x3 T2.length y3))⟩
set_option maxHeartbeats 2000000 in
theorem sown8_any (ov rv sv : Value) (N : Nd) (w : World) (h : RdN w ov rv sv N) (hn : wtN N ≤ 1048576) :
    Calls Tryz.prog 46 #[.agg #[.int .i64 N.an, ov, .int .i64 N.bw, .bool N.dr, rv, sv]] w (NewNdT w N) := by
  have hl1 : N.own.length ≤ 1048576 := by unfold wtN at hn; omega
  have hl2 : N.rib.length + wtE N.rib ≤ 1048576 := by unfold wtN at hn; omega
  have hl3 : N.sent.length + wtE N.sent ≤ 1048576 := by unfold wtN at hn; omega
  obtain ⟨oa, oc, hov⟩ := h.1.len
  obtain ⟨ra, rc, hrv⟩ := h.2.1.len
  obtain ⟨sa, sc, hsv⟩ := h.2.2.len
  subst hov hrv hsv
  obtain ⟨bA, bR, B1, z⟩ := two w [.int .i64 N.an, .slice oa N.own.length oc, .int .i64 N.bw, .bool N.dr, .slice ra N.rib.length rc, .slice sa N.sent.length sc] [.int .i64 0, .slice none 0 0, .int .i64 0, .bool false, .slice none 0 0, .slice none 0 0] 34 34
  obtain ⟨V, hV⟩ : ∃ V, V = (w.alloc (.cells #[.int .i64 N.an, .slice oa N.own.length oc, .int .i64 N.bw, .bool N.dr, .slice ra N.rib.length rc, .slice sa N.sent.length sc] 34)).alloc (.cells #[.int .i64 0, .slice none 0 0, .int .i64 0, .bool false, .slice none 0 0, .slice none 0 0] 34) := ⟨_, rfl⟩
  have a1 := bA.c 1 rfl
  clear hn
  go_enter Tryz.func46, Tryz.ntmps46
  go_wp2_with (at_builtin; refine Hid.out ?_)
  refine Lib.hid ?_
  rw [← hV] at bA bR B1 z ⊢
  obtain ⟨A, hA⟩ : ∃ A, A = w.heap.size := ⟨_, rfl⟩
  obtain ⟨R, hR⟩ : ∃ R, R = w.heap.size + 1 := ⟨_, rfl⟩
  rw [← hA] at bA
  rw [← hR] at bR
  rw [← hR]
  try rw [← hA]
  have hAR : A ≠ R := by omega
  have hwA : w.heap.size ≤ A := by omega
  have hwR : w.heap.size ≤ R := by omega
  have hAV : A < V.heap.size := by rw [z]; omega
  have hRV : R < V.heap.size := by rw [z]; omega
  have hwV : w.heap.size ≤ V.heap.size := by omega
  have hVA : A + 2 = V.heap.size := by omega
  clear hV hA hR z a1
  obtain ⟨bZ, N0, z0⟩ := one V ([] : List Value) PT
  have hem : OwnP (V.alloc (.cells #[] PT)) V.heap.size (.slice (some ⟨A + 2, 0, none⟩) 0 0) [] := by
    rw [hVA]
    exact World.ownsRow_lit (e := PT) (size := 2) V #[] 0 (Nat.le_refl _) (by simp) (by simp)
  refine wp_appPS rfl _ _ rfl V.heap.size (.slice (some ⟨A + 2, 0, none⟩) 0 0) (.slice oa N.own.length oc) [] N.own rfl rfl hem ((h.keep B1).1.keep N0) (by simp; omega) (Nat.le_trans (Nat.le_refl _) N0.size) ?_
  intro v1 w1 ho1 hg1
  rw [List.nil_append] at ho1
  obtain ⟨x1, y1, rfl⟩ := ho1.lenS8
  replace bA := (bA.keep N0).grown hg1 (by simp [Value.ownBlock])
  replace bR := (bR.keep N0).grown hg1 (by simp [Value.ownBlock]; omega)
  have B2 : Below w.heap.size w w1 := Below.grown (below_step B1 N0) hg1 (below_step B1 N0).size (fun k hk => by simp [Value.ownBlock] at hk; omega)
  have hVw : V.heap.size ≤ w1.heap.size := Nat.le_trans N0.size hg1.size
  clear hg1 B1
  have a1 := bA.c 1 rfl
  have af1 := bA.f 1 rfl
  have a4 := bA.c 4 rfl
  go_wp2_with fail
  clear a1 af1 a4
  have bA2 := bA.set 1 (.slice x1 N.own.length y1)
  have bR2 := bR.far (o := 1) (u := .slice x1 N.own.length y1) hAR.symm
  have ho2 := ho1.far (o := 1) (u := .slice x1 N.own.length y1) hAV
  have B3 := B2.setCell (p := ⟨A, 1, none⟩) hwA (.slice x1 N.own.length y1)
  obtain ⟨W2, hW2⟩ : ∃ W, W = w1.setCell ⟨A, 1, none⟩ (.slice x1 N.own.length y1) := ⟨_, rfl⟩
  have hVW : V.heap.size ≤ W2.heap.size := by rw [hW2]; simpa using hVw
  rw [← hW2] at bA2 bR2 ho2 B3 ⊢
  have HOH : Hid (∀ k, (Value.slice x1 N.own.length y1).ownBlock = some k → k < W2.heap.size) := Lib.hid fun k hk => (World.ownsRow.lt ho2 k hk).2
  clear hW2 bA bR ho1 B2 hVw
  simp only [List.set_cons_zero, List.set_cons_succ] at bA2
  refine (sown6_any _ N.rib W2 (h.keep B3).2.1 (by omega) (lens_of hl2)).mono ?_
  rintro e w2 ⟨ru, T1, rfl, hT1, hE1, hb⟩
  obtain ⟨x2, y2, rfl⟩ := hT1.lenV
  have HE1 := Lib.hid hE1
  have hI1 := Lib.hid hT1.inH
  have hs2 := hb.size
  replace bA2 := bA2.keep hb
  replace bR2 := bR2.keep hb
  replace ho2 := ho2.keep hb
  replace B3 := below_step B3 hb
  clear hb hE1
  have a4 := bA2.c 4 rfl
  have af4 := bA2.f 4 rfl
  have a5 := bA2.c 5 rfl
  go_wp2_with fail
  clear a4 af4 a5
  have bA3 := bA2.set 4 (.slice x2 T1.length y2)
  have bR3 := bR2.far (o := 4) (u := .slice x2 T1.length y2) hAR.symm
  have ho3 := ho2.far (o := 4) (u := .slice x2 T1.length y2) hAV
  have hT13 := hT1.far (o := 4) (u := .slice x2 T1.length y2) (Nat.lt_of_lt_of_le hAV hVW)
  have B4 := B3.setCell (p := ⟨A, 4, none⟩) hwA (.slice x2 T1.length y2)
  obtain ⟨W3, hW3⟩ : ∃ W, W = w2.setCell ⟨A, 4, none⟩ (.slice x2 T1.length y2) := ⟨_, rfl⟩
  have hs3 : w2.heap.size = W3.heap.size := by rw [hW3]; simp
  rw [← hW3] at bA3 bR3 ho3 hT13 B4 ⊢
  rw [hs3] at hI1 hs2
  clear hW3 bA2 bR2 ho2 B3 hT1 hs3
  simp only [List.set_cons_zero, List.set_cons_succ] at bA3
  refine (sown6_any _ N.sent W3 (h.keep B4).2.2 (by omega) (lens_of hl3)).mono ?_
  rintro e w3 ⟨su, T2, rfl, hT2, hE2, hb⟩
  obtain ⟨x3, y3, rfl⟩ := hT2.lenV
  have HE2 := Lib.hid hE2
  have hI2 := Lib.hid hT2.inH
  have hs4 := hb.size
  replace bA3 := bA3.keep hb
  replace bR3 := bR3.keep hb
  replace ho3 := ho3.keep hb
  replace hT13 := hT13.keep hb
  replace B4 := below_step B4 hb
  have hN : NdT w3 V.heap.size W2.heap.size W3.heap.size w3.heap.size (.slice x1 N.own.length y1) (.slice x2 T1.length y2) (.slice x3 T2.length y3) N.own T1 T2 :=
    ⟨ho3, HOH.out, hT13, hI1.out, hT2, hI2.out, hVW, hs2, hs4⟩
  clear hb hE2 h ho3 hT13 hT2
  have bA4 := bA3.set 5 (.slice x3 T2.length y3)
  have bR4 := bR3.far (o := 5) (u := .slice x3 T2.length y3) hAR.symm
  have hN4 := hN.far (C := A) (o := 5) (u := .slice x3 T2.length y3) hAV
  have B5 := B4.setCell (p := ⟨A, 5, none⟩) hwA (.slice x3 T2.length y3)
  have a5 := bA3.c 5 rfl
  have af5 := bA3.f 5 rfl
  have k0 := bA4.c 0 rfl
  have k1 := bA4.c 1 rfl
  have k2 := bA4.c 2 rfl
  have k3 := bA4.c 3 rfl
  have k4 := bA4.c 4 rfl
  have k5 := bA4.c 5 rfl
  have r0 := bR4.c 0 rfl
  have rf0 := bR4.f 0 rfl
  have r1 := bR4.c 1 rfl
  have rf1 := bR4.f 1 rfl
  have r2 := bR4.c 2 rfl
  have rf2 := bR4.f 2 rfl
  have r3 := bR4.c 3 rfl
  have rf3 := bR4.f 3 rfl
  have r4 := bR4.c 4 rfl
  have rf4 := bR4.f 4 rfl
  have r5 := bR4.c 5 rfl
  have rf5 := bR4.f 5 rfl
  go_wp2_with fail
  have bE := ((((((bR4.set 0 (.int .i64 N.an)).set 1 (.slice x1 N.own.length y1)).set 2 (.int .i64 N.bw)).set 3 (.bool N.dr)).set 4 (.slice x2 T1.length y2)).set 5 (.slice x3 T2.length y3))
  have e0 := bE.c 0 rfl
  have e1 := bE.c 1 rfl
  have e2 := bE.c 2 rfl
  have e3 := bE.c 3 rfl
  have e4 := bE.c 4 rfl
  have e5 := bE.c 5 rfl
  exact bodyPost_ret (v := .agg #[.int .i64 N.an, .slice x1 N.own.length y1, .int .i64 N.bw, .bool N.dr, .slice x2 T1.length y2, .slice x3 T2.length y3]) (by simp [results, Tryz.results46, go_sem, e0, e1, e2, e3, e4, e5]) rfl
    ⟨_, _, _, T1, T2, V.heap.size, W2.heap.size, W3.heap.size, rfl, by simpa using ((((((hN4.far (C := R) (o := 0) (u := .int .i64 N.an) hRV).far (C := R) (o := 1) (u := .slice x1 N.own.length y1) hRV).far (C := R) (o := 2) (u := .int .i64 N.bw) hRV).far (C := R) (o := 3) (u := .bool N.dr) hRV).far (C := R) (o := 4) (u := .slice x2 T1.length y2) hRV).far (C := R) (o := 5) (u := .slice x3 T2.length y3) hRV), HE1.out, HE2.out, hwV, ((((((B5.setCell (p := ⟨R, 0, none⟩) hwR (.int .i64 N.an)).setCell (p := ⟨R, 1, none⟩) hwR (.slice x1 N.own.length y1)).setCell (p := ⟨R, 2, none⟩) hwR (.int .i64 N.bw)).setCell (p := ⟨R, 3, none⟩) hwR (.bool N.dr)).setCell (p := ⟨R, 4, none⟩) hwR (.slice x2 T1.length y2)).setCell (p := ⟨R, 5, none⟩) hwR (.slice x3 T2.length y3))⟩
def nd0 : Nd := ⟨0, [], 0, false, [], []⟩
/-- what NodeDrain answers -/
def drainN (N : Nd) (on : Bool) : Nd := if ndB N = true then { N with dr := on } else nd0
theorem ndT_nil (w : World) : NdT w w.heap.size w.heap.size w.heap.size w.heap.size (.slice none 0 0) (.slice none 0 0) (.slice none 0 0) [] [] [] :=
  ⟨World.ownsRow_nil _ _ _ _, fun k hk => (by cases hk), OwnT.nil _ _, (OwnT.nil w w.heap.size).inH, OwnT.nil _ _, (OwnT.nil w w.heap.size).inH, Nat.le_refl _, Nat.le_refl _, Nat.le_refl _⟩
theorem NdT.wider {w : World} {b0 h1 h2 h3 h4 : Nat} {ov ru su : Value} {own : List (Int × Int)} {T1 T2 : List ET} (h34 : h3 ≤ h4) (h : NdT w b0 h1 h2 h3 ov ru su own T1 T2) : NdT w b0 h1 h2 h4 ov ru su own T1 T2 :=
  ⟨h.o, h.oh, h.r, h.ri, h.s, ⟨fun k hk => Nat.lt_of_lt_of_le (h.si.1 k hk) h34, fun t ht => ⟨fun k hk => Nat.lt_of_lt_of_le ((h.si.2 t ht).1 k hk) h34, fun k hk => Nat.lt_of_lt_of_le ((h.si.2 t ht).2 k hk) h34⟩⟩, h.q1, h.q2, Nat.le_trans h.q3 h34⟩
set_option maxHeartbeats 2000000 in
theorem idrain_any (ov rv sv : Value) (N : Nd) (on : Bool) (w : World) (h : RdN w ov rv sv N) (hn : wtN N ≤ 1048576) :
    Calls Tryz.prog 74 #[.agg #[.int .i64 N.an, ov, .int .i64 N.bw, .bool N.dr, rv, sv], .bool on] w (NewNdT w (drainN N on)) := by
  obtain ⟨oa, oc, hov⟩ := h.1.len
  obtain ⟨ra, rc, hrv⟩ := h.2.1.len
  obtain ⟨sa, sc, hsv⟩ := h.2.2.len
  subst hov hrv hsv
  obtain ⟨bA, bR, B1, z⟩ := two w [.int .i64 N.an, .slice oa N.own.length oc, .int .i64 N.bw, .bool N.dr, .slice ra N.rib.length rc, .slice sa N.sent.length sc] [.int .i64 0, .slice none 0 0, .int .i64 0, .bool false, .slice none 0 0, .slice none 0 0] 34 34
  obtain ⟨A, hA⟩ : ∃ A, A = w.heap.size := ⟨_, rfl⟩
  obtain ⟨R, hR⟩ : ∃ R, R = w.heap.size + 1 := ⟨_, rfl⟩
  have hwR : w.heap.size ≤ R := by omega
  have a0 := bA.c 0 rfl
  have a1 := bA.c 1 rfl
  have a2 := bA.c 2 rfl
  have a3 := bA.c 3 rfl
  have a4 := bA.c 4 rfl
  have a5 := bA.c 5 rfl
  have HND := Lib.hid hn
  clear hn
  cases hb : ndB N
  · have e : drainN N on = nd0 := by simp [drainN, hb]
    rw [e]
    have HB := Lib.hid hb
    clear hb e
    go_enter Tryz.func74, Tryz.ntmps74
    go_wp2_with fail
    clear a0 a1 a2 a3 a4 a5
    refine (indok_t _ (h.keep B1) HB).mono ?_
    rintro e w1 ⟨rfl, hb1⟩
    have hs1 := hb1.size
    replace bR := bR.keep hb1
    replace B1 := below_step B1 hb1
    rw [← hR] at bR
    try rw [← hR]
    have hRb : R < w1.heap.size := by omega
    clear hR hb1
    have r0 := bR.c 0 rfl
    have rf0 := bR.f 0 rfl
    have r1 := bR.c 1 rfl
    have rf1 := bR.f 1 rfl
    have r2 := bR.c 2 rfl
    have rf2 := bR.f 2 rfl
    have r3 := bR.c 3 rfl
    have rf3 := bR.f 3 rfl
    have r4 := bR.c 4 rfl
    have rf4 := bR.f 4 rfl
    have r5 := bR.c 5 rfl
    have rf5 := bR.f 5 rfl
    go_wp2_with fail
    have bE := ((((((bR.set 0 (.int .i64 0)).set 1 (.slice none 0 0)).set 2 (.int .i64 0)).set 3 (.bool false)).set 4 (.slice none 0 0)).set 5 (.slice none 0 0))
    have e0 := bE.c 0 rfl
    have e1 := bE.c 1 rfl
    have e2 := bE.c 2 rfl
    have e3 := bE.c 3 rfl
    have e4 := bE.c 4 rfl
    have e5 := bE.c 5 rfl
    exact bodyPost_ret (v := .agg #[.int .i64 0, .slice none 0 0, .int .i64 0, .bool false, .slice none 0 0, .slice none 0 0]) (by simp [results, Tryz.results74, go_sem, e0, e1, e2, e3, e4, e5]) rfl
      ⟨_, _, _, [], [], _, _, _, rfl, ndT_nil _, rfl, rfl, by have := ((((((B1.setCell (p := ⟨R, 0, none⟩) hwR (.int .i64 0)).setCell (p := ⟨R, 1, none⟩) hwR (.slice none 0 0)).setCell (p := ⟨R, 2, none⟩) hwR (.int .i64 0)).setCell (p := ⟨R, 3, none⟩) hwR (.bool false)).setCell (p := ⟨R, 4, none⟩) hwR (.slice none 0 0)).setCell (p := ⟨R, 5, none⟩) hwR (.slice none 0 0)).size; simpa using this, ((((((B1.setCell (p := ⟨R, 0, none⟩) hwR (.int .i64 0)).setCell (p := ⟨R, 1, none⟩) hwR (.slice none 0 0)).setCell (p := ⟨R, 2, none⟩) hwR (.int .i64 0)).setCell (p := ⟨R, 3, none⟩) hwR (.bool false)).setCell (p := ⟨R, 4, none⟩) hwR (.slice none 0 0)).setCell (p := ⟨R, 5, none⟩) hwR (.slice none 0 0))⟩
  · have e : drainN N on = { N with dr := on } := by simp [drainN, hb]
    rw [e]
    have HB := Lib.hid hb
    clear hb e
    go_enter Tryz.func74, Tryz.ntmps74
    go_wp2_with fail
    clear a0 a1 a2 a3 a4 a5
    refine (indok_t _ (h.keep B1) HB).mono ?_
    rintro e w1 ⟨rfl, hb1⟩
    have hs1 := hb1.size
    replace bA := bA.keep hb1
    replace bR := bR.keep hb1
    replace B1 := below_step B1 hb1
    rw [← hR] at bR
    rw [← hA] at bA
    try rw [← hR]
    try rw [← hA]
    have hRb1 : R < w1.heap.size := by omega
    have hAb1 : A < w1.heap.size := by omega
    clear hR hA hb1
    have a0 := bA.c 0 rfl
    have a1 := bA.c 1 rfl
    have a2 := bA.c 2 rfl
    have a3 := bA.c 3 rfl
    have a4 := bA.c 4 rfl
    have a5 := bA.c 5 rfl
    go_wp2_with fail
    clear a0 a1 a2 a3 a4 a5
    refine (icopy8_any _ _ _ N w1 (h.keep B1) HND.out).mono ?_
    rintro e w2 ⟨ov2, ru2, su2, T1, T2, b0, h1, h2, rfl, hN, hE1, hE2, hb0, hb2⟩
    have hRb : R < b0 := Nat.lt_of_lt_of_le hRb1 hb0
    have hwb : w.heap.size ≤ b0 := by omega
    have hs2 := hb2.size
    replace bR := bR.keep hb2
    replace B1 := below_step B1 hb2
    obtain ⟨⟨x1, y1, q1⟩, ⟨x2, y2, q2⟩, x3, y3, q3⟩ := hN.lens
    subst q1 q2 q3
    have HE1 := Lib.hid hE1
    have HE2 := Lib.hid hE2
    have lR := bR.lt
    have bRs := ((((((bR.set 0 (.int .i64 N.an)).set 1 (.slice x1 N.own.length y1)).set 2 (.int .i64 N.bw)).set 3 (.bool on)).set 4 (.slice x2 T1.length y2)).set 5 (.slice x3 T2.length y3))
    have hNs := ((((((hN.far (C := R) (o := 0) (u := .int .i64 N.an) hRb).far (C := R) (o := 1) (u := .slice x1 N.own.length y1) hRb).far (C := R) (o := 2) (u := .int .i64 N.bw) hRb).far (C := R) (o := 3) (u := .bool on) hRb).far (C := R) (o := 4) (u := .slice x2 T1.length y2) hRb).far (C := R) (o := 5) (u := .slice x3 T2.length y3) hRb)
    have Bs := ((((((B1.setCell (p := ⟨R, 0, none⟩) hwR (.int .i64 N.an)).setCell (p := ⟨R, 1, none⟩) hwR (.slice x1 N.own.length y1)).setCell (p := ⟨R, 2, none⟩) hwR (.int .i64 N.bw)).setCell (p := ⟨R, 3, none⟩) hwR (.bool on)).setCell (p := ⟨R, 4, none⟩) hwR (.slice x2 T1.length y2)).setCell (p := ⟨R, 5, none⟩) hwR (.slice x3 T2.length y3))
    clear hE1 hE2
    have r0 := bR.c 0 rfl
    have rf0 := bR.f 0 rfl
    have r1 := bR.c 1 rfl
    have rf1 := bR.f 1 rfl
    have r2 := bR.c 2 rfl
    have rf2 := bR.f 2 rfl
    have r3 := bR.c 3 rfl
    have rf3 := bR.f 3 rfl
    have r4 := bR.c 4 rfl
    have rf4 := bR.f 4 rfl
    have r5 := bR.c 5 rfl
    have rf5 := bR.f 5 rfl
    go_wp2_with fail
    obtain ⟨Wx, hWx⟩ : ∃ W, W = ((((((w2.setCell ⟨R, 0, none⟩ (.int .i64 N.an)).setCell ⟨R, 1, none⟩ (.slice x1 N.own.length y1)).setCell ⟨R, 2, none⟩ (.int .i64 N.bw)).setCell ⟨R, 3, none⟩ (.bool on)).setCell ⟨R, 4, none⟩ (.slice x2 T1.length y2)).setCell ⟨R, 5, none⟩ (.slice x3 T2.length y3)) := ⟨_, rfl⟩
    have hsx : w2.heap.size = Wx.heap.size := by rw [hWx]; simp
    rw [← hWx] at bRs hNs Bs ⊢
    have N1 : Below Wx.heap.size Wx (Wx.alloc (.cells #[.int .i64 N.an, .slice x1 N.own.length y1, .int .i64 N.bw, .bool on, .slice x2 T1.length y2, .slice x3 T2.length y3] 34)) := (Below.refl _ _).alloc (Nat.le_refl _) _
    have bE := bRs.keep N1
    have hN2 := hNs.keep N1
    have B2 := below_step Bs N1
    have hsz : w2.heap.size ≤ (Wx.alloc (.cells #[.int .i64 N.an, .slice x1 N.own.length y1, .int .i64 N.bw, .bool on, .slice x2 T1.length y2, .slice x3 T2.length y3] 34)).heap.size := by rw [hsx]; exact N1.size
    have e0 := bE.c 0 rfl
    have e1 := bE.c 1 rfl
    have e2 := bE.c 2 rfl
    have e3 := bE.c 3 rfl
    have e4 := bE.c 4 rfl
    have e5 := bE.c 5 rfl
    exact bodyPost_ret (v := .agg #[.int .i64 N.an, .slice x1 N.own.length y1, .int .i64 N.bw, .bool on, .slice x2 T1.length y2, .slice x3 T2.length y3]) (by simp [results, Tryz.results74, go_sem, e0, e1, e2, e3, e4, e5]) rfl
      ⟨_, _, _, T1, T2, b0, h1, h2, rfl, NdT.wider hsz hN2, HE1.out, HE2.out, hwb, B2⟩
end Go.Proofs.YtaiffofmhfflkaaGreat
namespace Go.Proofs.YtaiffofmhfflkaaGreat
open Go.ChangeShapes Go.WideShapes Go.ChangeAt Go.RowKit Go.BigFrame Go.Joins
set_option linter.unusedVariables false
set_option linter.unusedSimpArgs false
set_option maxRecDepth 100000

def Is_bool (W : World) (v : Value) : Prop := ∃ b : Bool, v = .bool b
theorem is_bool {H : Type} {enc : TypeId × Value → H} {W : World} {base : Nat} {d : DataW H} {p : List MemPlace} {v : Value} (hv : Value.okWide Tryz.prog W .any base 4 v) (h : DataW.Trod enc Tryz.prog W 0 (fun _ => true) true 4 v d p) : Is_bool W v := by
  obtain ⟨b, rfl, -, -⟩ := open_bool Tryz.underlying4 hv h
  exact ⟨b, rfl⟩
theorem wN_rib {D : Nd} (h : wtN D ≤ 1048576) : (D.rib.map wE).sum ≤ 8000000 := by
  have := wE_all D.rib
  unfold wtN at h
  omega
theorem wN_sent {D : Nd} (h : wtN D ≤ 1048576) : (D.sent.map wE).sum ≤ 8000000 := by
  have := wE_all D.sent
  unfold wtN at h
  omega
theorem bdN0 : BdN nd0 := ⟨fun i hi => by simp [nd0] at hi, fun i hi => by simp [nd0] at hi⟩
theorem wtN0 : wtN nd0 ≤ 1048576 := by simp [wtN, nd0, wtE]
theorem drain_bd {N : Nd} (on : Bool) (h : BdN N) : BdN (drainN N on) := by
  unfold drainN
  split
  · exact h
  · exact bdN0
theorem drain_wt {N : Nd} (on : Bool) (h : wtN N ≤ 1048576) : wtN (drainN N on) ≤ 1048576 := by
  unfold drainN
  split
  · exact h
  · exact wtN0
end Go.Proofs.YtaiffofmhfflkaaGreat
