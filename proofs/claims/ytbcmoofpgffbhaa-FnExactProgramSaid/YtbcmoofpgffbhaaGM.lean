/-
  Tables of groups are marked, and single groups; their marks are found again. Conditions: those in each contract.
-/
import Derived.Test.YtbcmoofpgffbhaaGB
import Derived.Test.YtbcmoofpgffbhaaSO
namespace Go.Proofs.Ytbcmoofpgffbhaa
open Go.ChangeShapes Go.WideShapes Go.ChangeAt Go.RowKit Go.BigFrame Go.Joins
set_option linter.unusedVariables false
set_option maxRecDepth 100000
set_option linter.unusedSimpArgs false
set_option maxRecDepth 100000

/-- the first n hold the marks from k on -/
def MarkH (k : Int) (n : Nat) (l : List (Int × Int)) : Prop := ∀ i : Nat, i < n → l.getD i (0, 0) = (k + (i : Int) * 2, k + (i : Int) * 2 + 1)
theorem MarkH.next {k : Int} {n : Nat} {l : List (Int × Int)} (h : MarkH k n l) (hn : n < l.length) : MarkH k (n + 1) (l.set n (k + (n : Int) * 2, k + (n : Int) * 2 + 1)) := by
  intro i hi
  by_cases e : i = n
  · subst e
    simp [List.getD_eq_getElem?_getD, hn]
  · rw [← h i (by omega)]
    simp only [List.getD_eq_getElem?_getD, List.getElem?_set]
    rw [if_neg (by omega)]
theorem OwnHp.soft {base hi b : Nat} {w w' : World} {v : Value} {l : List (Int × Int)} (h : OwnHp w b v l) (s : Soft base hi w w') (hv : hi ≤ b) : OwnHp w' b v l := by
  unfold OwnHp at h ⊢
  refine ⟨h.1, ?_⟩
  rcases h.2 with hn | ⟨g, cap, cur, e, hb, hg, rest⟩
  · exact .inl hn
  · have hlt : g < w.heap.size := (World.ownsRow.lt h g (by rw [e]; rfl)).2
    exact .inr ⟨g, cap, cur, e, hb, (s.block g hlt (.inr (by omega))).trans hg, rest⟩
theorem markH_is (v : Value) (l : List (Int × Int)) (base : Nat) (k : Int) (w : World) (h : OwnHp w base v l) (hk0 : 0 ≤ k) (hk : k + l.length * 2 ≤ 4294967296) :
    Calls Try.prog 96 #[v, .int .i64 k] w fun e w' => e = .returned (.int .i64 (k + l.length * 2)) ∧ (∃ l', l'.length = l.length ∧ MarkH k l'.length l' ∧ OwnHp w' base v l') ∧ w.grownBy w' v.ownBlock := by
  have h0 := h
  unfold OwnHp at h0
  rcases h.2 with ⟨rfl, hn⟩ | ⟨g, cap, cur, rfl, hb, hg, hnc, hcm, hcs, htake⟩
  · have hl : l = [] := List.eq_nil_of_length_eq_zero hn
    subst hl
    clear hn h0 hk
    go_enter Try.func96, Try.ntmps96
    go_wp2
    refine wp_loop_rounds 1 ?_
    rw [rounds_succ]
    go_wp2
    go_ret
    exact ⟨ret_int (by simp), ⟨[], rfl, fun i hi => absurd hi (by simp), h⟩, ⟨rfl, rfl, rfl, Nat.le_refl _, fun _ _ _ => rfl⟩⟩
  · clear htake hcs hg h
    obtain ⟨n, hn'⟩ : ∃ n, n = l.length := ⟨_, rfl⟩
    have h1 : ∃ l' : List (Int × Int), l'.length = n ∧ MarkH k 0 l' ∧ w.ownsRow base HpT 2 (.slice (some ⟨g, 0, none⟩) n cap) n ((flat l').map (Value.int .i64)) := ⟨l, hn'.symm, fun i hi => absurd hi (by omega), by rw [hn']; exact h0⟩
    rw [← hn'] at hk hnc ⊢
    have hm : n ≤ 9223372036854775807 := by unfold maxLen at hcm; omega
    clear hn' hcm cur h0
    go_enter Try.func96, Try.ntmps96
    go_wp2
    go_loopw [1, 5] (fun q i wr => ∃ j : Nat, j ≤ n ∧ i = .int .i64 j ∧ q = .int .i64 (k + (j : Int) * 2) ∧ (∃ l' : List (Int × Int), l'.length = n ∧ MarkH k j l' ∧ wr.ownsRow base HpT 2 (.slice (some ⟨g, 0, none⟩) n cap) n ((flat l').map (Value.int .i64))) ∧ w.grownBy wr (some g)) (fun _ i _ => n - (intOf i).toNat)
    case atStart => exact ⟨0, Nat.zero_le _, rfl, by simp, h1, ⟨rfl, rfl, rfl, Nat.le_refl _, fun _ _ _ => rfl⟩⟩
    case round =>
      obtain ⟨j, hj, rfl, rfl, ⟨l', hl', hmk, hown⟩, hB⟩ := hrel
      by_cases hlt : j < n
      · have hltI : (j : Int) < (n : Int) := by omega
        have hfl : ((flat l').map (Value.int .i64)).length = n * 2 := by rw [List.length_map, flat_len, hl']
        have f0 := hown.frozenAt (j * 2)
        have f1 := hown.frozenAt (j * 2 + 1)
        obtain ⟨p0, e0⟩ : ∃ p0, wr.cell? ⟨g, j * 2, none⟩ = some p0 := ⟨_, (hown.cellAt (j * 2) (by omega)).trans (List.getElem?_eq_getElem (by rw [hfl]; omega))⟩
        obtain ⟨p1, e1⟩ : ∃ p1, wr.cell? ⟨g, j * 2 + 1, none⟩ = some p1 := ⟨_, (hown.cellAt (j * 2 + 1) (by omega)).trans (List.getElem?_eq_getElem (by rw [hfl]; omega))⟩
        have s1 := hown.stored (j * 2) (.int .i64 (k + (j : Int) * 2))
        have s2 := s1.1.stored (j * 2 + 1) (.int .i64 (k + (j : Int) * 2 + 1))
        have hB2 := grown_trans (grown_trans hB s1.2) s2.2
        have hst := s2.1
        rw [map_set_flat _ j (by rw [hl']; exact hlt)] at hst
        have HST := Lib.hid hst
        have HB := Lib.hid hB2
        have HMK := Lib.hid (hmk.next (by rw [hl']; exact hlt))
        have HL : Hid ((l'.set j (k + (j : Int) * 2, k + (j : Int) * 2 + 1)).length = n) := Lib.hid (by rw [List.length_set, hl'])
        clear s1 s2 hst hB2 hown hB hfl hl' hmk
        go_wp2
        go_roundw
        case rel => exact ⟨j + 1, by omega, by go_num, by congr 1; omega, ⟨_, HL.out, HMK.out, HST.out⟩, HB.out⟩
        case measure => simp [intOf]; omega
      · have hjn : j = n := by omega
        subst hjn
        go_wp2
        go_ret
        exact ⟨rfl, ⟨l', hl', by rw [hl']; exact hmk, by unfold OwnHp; rw [hl']; exact hown⟩, hB⟩
theorem heldH_is (v : Value) (l : List (Int × Int)) (k : Int) (w : World) (h : RdP w v l) (hm : MarkH k l.length l) (hn : l.length ≤ 1048576) (hk0 : 0 ≤ k) (hk : k ≤ 1) :
    Calls Try.prog 97 #[v, .int .i64 k] w fun e w' => e = .returned (.int .i64 (k + l.length * 2)) ∧ Below w.heap.size w w' := by
  obtain ⟨a, c, rfl, hc⟩ := h.el
  obtain ⟨n, hn'⟩ : ∃ n, n = l.length := ⟨_, rfl⟩
  rw [← hn'] at hc hm hn ⊢
  clear hn' h
  have HM := Lib.hid hm
  clear hm
  go_enter Try.func97, Try.ntmps97
  go_wp2
  go_loopw [1, 5] (fun q i wr => ∃ j : Nat, j ≤ n ∧ i = .int .i64 j ∧ q = .int .i64 (k + (j : Int) * 2) ∧ Below w.heap.size w wr) (fun _ i _ => n - (intOf i).toNat)
  case atStart => exact ⟨0, Nat.zero_le _, rfl, by simp, Below.refl _ _⟩
  case round =>
    obtain ⟨j, hj, rfl, rfl, hB⟩ := hrel
    by_cases hlt : j < n
    · have hltI : (j : Int) < (n : Int) := by omega
      obtain ⟨b, o, rfl, g0, g1⟩ := hc j hlt
      rw [HM.out j hlt] at g0 g1
      dsimp only at g0 g1
      replace g0 := cell_keep hB (World.block_lt_of_cell? _ _ g0) g0
      replace g1 := cell_keep hB (World.block_lt_of_cell? _ _ g1) g1
      have hw1 : IntKind.i64.wrap (k + (j : Int) * 2 + 1) = k + (j : Int) * 2 + 1 := wrap64_in _ (by omega) (by omega)
      have hw2 : IntKind.i64.wrap (k + (j : Int) * 2 + 1 + 1) = k + (j : Int) * 2 + 1 + 1 := wrap64_in _ (by omega) (by omega)
      have hb0 : (k + (j : Int) * 2 != k + (j : Int) * 2) = false := by simp
      have hb1 : (k + (j : Int) * 2 + 1 != k + (j : Int) * 2 + 1) = false := by simp
      clear hc
      go_wp2
      go_roundw
      case rel => exact ⟨j + 1, by omega, by go_num, by congr 1; omega, hB⟩
      case measure => simp [intOf]; omega
    · have hjn : j = n := by omega
      subst hjn
      clear hc
      go_wp2
      go_ret
      exact ⟨rfl, hB⟩
/-- a row of hops that may be written, in blocks from base to hi -/
def WrH (w : World) (base hi : Nat) (v : Value) (n : Nat) : Prop := ∃ a c, v = .slice a n c ∧ ∀ i, i < n * 2 → ∃ g, a = some ⟨g, 0, none⟩ ∧ base ≤ g ∧ g < hi ∧ (w.cell? ⟨g, i, none⟩).isSome = true ∧ w.frozen? ⟨g, i, none⟩ = false
theorem WrH.soft {w w' : World} {b1 h1 base hi : Nat} {v : Value} {n : Nat} (h : WrH w base hi v n) (s : Soft b1 h1 w w') : WrH w' base hi v n := by
  obtain ⟨a, c, rfl, hc⟩ := h
  refine ⟨a, c, rfl, fun i hi' => ?_⟩
  obtain ⟨g, e, h2, h3, h4, h5⟩ := hc i hi'
  exact ⟨g, e, h2, h3, s.ex _ _ h4, (s.fz _ _ h4).trans h5⟩
theorem OwnHp.wr {w : World} {base hi : Nat} {v : Value} {l : List (Int × Int)} (h : OwnHp w base v l) (hh : w.heap.size ≤ hi) : WrH w base hi v l.length := by
  have h0 := h
  unfold OwnHp at h0
  rcases h.2 with ⟨rfl, hn⟩ | ⟨g, cap, cur, rfl, hb, hg, hnc, hcm, hcs, htake⟩
  · exact ⟨none, 0, by rw [hn], fun i hi' => by omega⟩
  · refine ⟨_, cap, rfl, fun i hi' => ⟨g, rfl, hb, Nat.lt_of_lt_of_le (World.ownsRow.lt h g rfl).2 hh, ?_, h0.frozenAt i⟩⟩
    rw [h0.cellAt i (by omega)]
    simp [flat_len, hi']
theorem markWrH (v : Value) (n : Nat) (k : Int) (base hi : Nat) (w : World) (h : WrH w base hi v n) (hk0 : 0 ≤ k) (hk : k + n * 2 ≤ 4294967296) :
    Calls Try.prog 96 #[v, .int .i64 k] w fun e w' => e = .returned (.int .i64 (k + n * 2)) ∧ Soft base hi w w' := by
  obtain ⟨a, c, rfl, hc⟩ := h
  go_enter Try.func96, Try.ntmps96
  go_wp2
  go_loopw [1, 5] (fun q i wr => ∃ j : Nat, j ≤ n ∧ i = .int .i64 j ∧ q = .int .i64 (k + (j : Int) * 2) ∧ Soft base hi w wr) (fun _ i _ => n - (intOf i).toNat)
  case atStart => exact ⟨0, Nat.zero_le _, rfl, by simp, Soft.refl _ _ _⟩
  case round =>
    obtain ⟨j, hj, rfl, rfl, hS⟩ := hrel
    by_cases hlt : j < n
    · have hltI : (j : Int) < (n : Int) := by omega
      obtain ⟨g, rfl, hb, hg, h4, h5⟩ := hc (j * 2) (by omega)
      obtain ⟨g', eg, -, -, h6, h7⟩ := hc (j * 2 + 1) (by omega)
      obtain rfl : g = g' := by simpa using eg
      clear eg
      obtain ⟨x, ex⟩ := Option.isSome_iff_exists.1 (hS.ex _ _ h4)
      obtain ⟨y, ey⟩ := Option.isSome_iff_exists.1 (hS.ex _ _ h6)
      have e3 := (hS.fz _ _ h4).trans h5
      have e4 := (hS.fz _ _ h6).trans h7
      have HS := Lib.hid ((hS.set (o := j * 2) (.int .i64 (k + (j : Int) * 2)) hb hg).set (o := j * 2 + 1) (.int .i64 (k + (j : Int) * 2 + 1)) hb hg)
      have hwr : IntKind.i64.wrap (k + (j : Int) * 2 + 1) = k + (j : Int) * 2 + 1 := wrap64_in _ (by omega) (by omega)
      have hwr2 : IntKind.i64.wrap (k + (j : Int) * 2 + 1 + 1) = k + (j : Int) * 2 + 1 + 1 := wrap64_in _ (by omega) (by omega)
      clear hc h4 h5 h6 h7 hS
      go_wp2
      go_roundw
      case rel => exact ⟨j + 1, by omega, by go_num, by congr 1; omega, HS.out⟩
      case measure => simp [intOf]; omega
    · have hjn : j = n := by omega
      subst hjn
      clear hc
      go_wp2
      go_ret
      exact ⟨rfl, hS⟩
/-- the row of element i may be written, and its slice lies where it lay -/
def GWr (w : World) (B hi i : Nat) (E : Grp) : Prop := ∃ u1, w.cell? ⟨B, i * 3 + 2, none⟩ = some u1 ∧ WrH w (B + 1) hi u1 E.h.length
theorem GWr.set {w : World} {B hi i o : Nat} {E : Grp} {u : Value} (h : GWr w B hi i E) (h1 : o ≠ i * 3 + 2) : GWr (w.setCell ⟨B, o, none⟩ u) B hi i E := by
  obtain ⟨u1, e1, r1⟩ := h
  exact ⟨u1, set_other (fun q => by injection q with q1 q2; exact h1 q2) e1, r1.soft (soft1 w B o u)⟩
theorem GWr.soft {w w' : World} {B hi i : Nat} {E : Grp} (h : GWr w B hi i E) (s : Soft (B + 1) hi w w') (hB : B + 1 ≤ w.heap.size) : GWr w' B hi i E := by
  obtain ⟨u1, e1, r1⟩ := h
  exact ⟨u1, cell_keep (s.below hB) (Nat.lt_succ_self B) e1, r1.soft s⟩
/-- a table that is being marked -/
def MkG (w0 w : World) (base B hi n : Nat) (L : List Grp) : Prop :=
  Soft base hi w0 w ∧ (∀ j, j < n * 3 → (w.cell? ⟨B, j, none⟩).isSome = true ∧ w.frozen? ⟨B, j, none⟩ = false) ∧ (∀ i, i < n → GWr w B hi i (L.getD i gr0)) ∧ base ≤ B ∧ B < hi ∧ B + 1 ≤ w.heap.size
theorem MkG.set {w0 w : World} {base B hi n : Nat} {L : List Grp} (h : MkG w0 w base B hi n L) (o : Nat) (u : Value) (ho : ∀ i, o ≠ i * 3 + 2) : MkG w0 (w.setCell ⟨B, o, none⟩ u) base B hi n L := by
  obtain ⟨s, c, e, h1, h2, h3⟩ := h
  exact ⟨s.set u h1 h2, fun j hj => ⟨some_setF (c j hj).1, by rw [World.frozen?_setCell]; exact (c j hj).2⟩, fun i hi' => (e i hi').set (ho i), h1, h2, Nat.le_trans h3 (grown_set w B o u).size⟩
theorem MkG.soft {w0 w w' : World} {base B hi n : Nat} {L : List Grp} (h : MkG w0 w base B hi n L) (s : Soft (B + 1) hi w w') : MkG w0 w' base B hi n L := by
  obtain ⟨s0, c, e, h1, h2, h3⟩ := h
  exact ⟨s0.trans (s.mono (by omega)), fun j hj => ⟨s.ex _ _ (c j hj).1, (s.fz _ _ (c j hj).1).trans (c j hj).2⟩, fun i hi' => (e i hi').soft s h3, h1, h2, Nat.le_trans h3 s.size⟩
theorem MkG.cell {w0 w : World} {base B hi n : Nat} {L : List Grp} (h : MkG w0 w base B hi n L) (j : Nat) (hj : j < n * 3) : ∃ x, w.cell? ⟨B, j, none⟩ = some x ∧ w.frozen? ⟨B, j, none⟩ = false := by
  obtain ⟨x, hx⟩ := Option.isSome_iff_exists.1 (h.2.1 j hj).1
  exact ⟨x, hx, (h.2.1 j hj).2⟩
theorem OwnG.mk {w : World} {base : Nat} {v : Value} {L : List Grp} (h : OwnG w base v L) : ∃ B, v = .slice (some ⟨B, 0, none⟩) L.length L.length ∧ MkG w w base B w.heap.size L.length L := by
  obtain ⟨B, rfl, h1, xs, hl, hB, hx⟩ := h
  refine ⟨B, rfl, Soft.refl _ _ _, fun j hj => ⟨by rw [hB.c j (List.getElem?_eq_getElem (by omega))]; rfl, hB.f j (List.getElem?_eq_getElem (by omega))⟩, fun i hi' => ?_, h1, hB.lt, hB.lt⟩
  obtain ⟨u1, q1, c0, c1, c2⟩ := hx i hi'
  exact ⟨u1, hB.c _ c2, q1.wr (Nat.le_refl _)⟩
theorem OwnG.later {w0 w : World} {base : Nat} {v : Value} {L : List Grp} (h : OwnG w0 base v L) (hb : Below w0.heap.size w0 w) : ∃ B, v = .slice (some ⟨B, 0, none⟩) L.length L.length ∧ MkG w w base B w0.heap.size L.length L := by
  obtain ⟨B, e, hM⟩ := h.mk
  have hM2 := hM.soft (Soft.of_below (B + 1) w0.heap.size hb)
  exact ⟨B, e, Soft.refl _ _ _, hM2.2⟩
set_option maxHeartbeats 2000000 in
theorem markGS_of (B hi : Nat) (L : List Grp) (k : Int) (base : Nat) (w : World) (hM : MkG w w base B hi L.length L) (hL : L.length + wtG L ≤ 1048576) (hk0 : 0 ≤ k) (hk : k ≤ 100000000) :
    Calls Try.prog 43 #[.slice (some ⟨B, 0, none⟩) L.length L.length, .int .i64 k] w fun e w' => ∃ r : Int, e = .returned (.int .i64 r) ∧ 0 ≤ r ∧ Soft base hi w w' := by
  obtain ⟨n, hn⟩ : ∃ n, n = L.length := ⟨_, rfl⟩
  rw [← hn] at hM ⊢
  have HN := Lib.hid hn
  have hnn : n ≤ 1048576 := by omega
  have HWT := Lib.hid hL
  clear hn hL
  go_enter Try.func43, Try.ntmps43
  go_wp2
  go_loopw [1, 5] (fun q i wr => ∃ j : Nat, j ≤ n ∧ i = .int .i64 j ∧ (∃ r : Int, q = .int .i64 r ∧ 0 ≤ r ∧ r ≤ k + 2 * (j : Int) + 2 * (wtG (L.take j) : Nat)) ∧ MkG w wr base B hi n L) (fun _ i _ => n - (intOf i).toNat)
  case atStart => exact ⟨0, Nat.zero_le _, rfl, ⟨_, rfl, by omega, by simp [wtG]⟩, hM⟩
  case round =>
    clear hM
    obtain ⟨j, hj, rfl, ⟨r, rfl, hr0, hr1⟩, hM⟩ := hrel
    by_cases hlt : j < n
    · have hltI : (j : Int) < (n : Int) := by omega
      obtain ⟨E, hx⟩ : ∃ E, L.getD j gr0 = E := ⟨_, rfl⟩
      have hwt := wtG_take (L := L) (k := j) (by rw [← HN.out]; exact hlt)
      have hwl := wtG_le L (j + 1)
      have hwL := HWT.out
      have hNn := HN.out
      rw [hx] at hwt
      have hEP : E.h.length ≤ 1048576 := by omega
      have hrb : r ≤ 200000000 := by omega
      have HR := Lib.hid (And.intro hr1 (And.intro hwt hwl))
      clear hr1 hwt hwl hwL hNn
      have hE := hM.2.2.1 j hlt
      rw [hx] at hE
      obtain ⟨u1, k2, r1⟩ := hE
      have R1 := r1
      obtain ⟨a1, d1, rfl, -⟩ := r1
      have HX := Lib.hid hx
      clear hx
      obtain ⟨p0, g0, f0⟩ := hM.cell (j * 3) (by omega)
      obtain ⟨p1, g1, f1⟩ := hM.cell (j * 3 + 1) (by omega)
      have hw1 : IntKind.i64.wrap (r + 1) = r + 1 := wrap64_in _ (by omega) (by omega)
      have hw2 : IntKind.i64.wrap (r + 1 + 1) = r + 1 + 1 := wrap64_in _ (by omega) (by omega)
      go_wp2_with fail
      replace hM := (hM.set (j * 3) (.int .i64 r) (fun i => by omega)).set (j * 3 + 1) (.int .i64 (r + 1)) (fun i => by omega)
      clear g0 f0 g1 f1 k2
      replace R1 := (R1.soft (soft1 _ B (j * 3) (.int .i64 r))).soft (soft1 _ B (j * 3 + 1) (.int .i64 (r + 1)))
      refine (markWrH _ E.h.length _ (B + 1) hi _ R1 (by omega) (by omega)).mono ?_
      rintro e w1 ⟨rfl, hs⟩
      have HM := Lib.hid (hM.soft hs)
      clear hs R1 hM
      obtain ⟨r4, h4⟩ : ∃ r4, r4 = r + 1 + 1 + (E.h.length : Int) * 2 := ⟨_, rfl⟩
      rw [← h4]
      have H4 := Lib.hid h4
      have hr4 : 0 ≤ r4 := by omega
      clear h4
      go_wp2
      go_roundw
      case rel =>
        refine ⟨j + 1, by omega, by go_num, ⟨r4, rfl, by omega, ?_⟩, HM.out⟩
        obtain ⟨q1, q2, q3⟩ := HR.out
        have q4 := H4.out
        omega
      case measure => simp [intOf]; omega
    · have hjn : j = n := by omega
      subst hjn
      go_wp2
      go_ret
      exact ⟨r, rfl, hr0, hM.1⟩
theorem markFb_later (v : Value) (L : List Grp) (k : Int) (base : Nat) (w0 w : World) (h : OwnG w0 base v L) (hb : Below w0.heap.size w0 w) (hL : L.length + wtG L ≤ 1048576) (hk0 : 0 ≤ k) (hk : k ≤ 100000000) :
    Calls Try.prog 30 #[.agg #[v], .int .i64 k] w fun e w' => ∃ r : Int, e = .returned (.int .i64 r) ∧ 0 ≤ r ∧ Soft base w0.heap.size w w' := by
  obtain ⟨bA, B0, z⟩ := one w [v] 57
  have hs0 := Soft.of_below base w0.heap.size B0
  obtain ⟨B, rfl, hM⟩ := h.later (below_step hb B0)
  clear bA z
  go_enter Try.func30, Try.ntmps30
  go_wp2_with fail
  refine (markGS_of B _ L k base _ hM hL hk0 hk).mono ?_
  rintro e w1 ⟨r, rfl, hr0, hs⟩
  have hS := hs0.trans hs
  clear hs0 hs
  go_wp2
  go_ret
  exact ⟨r, rfl, hr0, hS⟩
end Go.Proofs.Ytbcmoofpgffbhaa
