/-
  A table's cells and rows are marked: what else lies in memory stays as it was. Conditions: those in each contract.
-/
import Derived.Test.YtbcmoofpgffbhaaF2
import Derived.Test.YtbcmoofpgffbhaaSO
namespace Go.Proofs.Ytbcmoofpgffbhaa
open Go.ChangeShapes Go.WideShapes Go.ChangeAt Go.RowKit Go.BigFrame Go.Joins
set_option linter.unusedVariables false
set_option maxRecDepth 100000
set_option linter.unusedSimpArgs false
set_option maxRecDepth 100000

/-- blocks from base to hi may have turned, no other; what was there is there, what could be written can be written -/
def Wr (w : World) (base hi : Nat) (v : Value) (n : Nat) : Prop := ∃ a c, v = .slice a n c ∧ ∀ i, i < n → ∃ g, a = some ⟨g, 0, none⟩ ∧ base ≤ g ∧ g < hi ∧ (w.cell? ⟨g, i, none⟩).isSome = true ∧ w.frozen? ⟨g, i, none⟩ = false
theorem Wr.soft {w w' : World} {b1 h1 base hi : Nat} {v : Value} {n : Nat} (h : Wr w base hi v n) (s : Soft b1 h1 w w') : Wr w' base hi v n := by
  obtain ⟨a, c, rfl, hc⟩ := h
  refine ⟨a, c, rfl, fun i hi' => ?_⟩
  obtain ⟨g, e, h2, h3, h4, h5⟩ := hc i hi'
  exact ⟨g, e, h2, h3, s.ex _ _ h4, (s.fz _ _ h4).trans h5⟩
theorem OwnI.wr {w : World} {base hi : Nat} {v : Value} {l : List Int} (h : OwnI w base v l) (hh : w.heap.size ≤ hi) : Wr w base hi v l.length := by
  have h0 := h
  unfold OwnI at h0
  rcases h.2 with ⟨rfl, hn⟩ | ⟨g, cap, cur, rfl, hb, hg, hnc, hcm, hcs, htake⟩
  · exact ⟨none, 0, by rw [hn], fun i hi' => by omega⟩
  · refine ⟨_, cap, rfl, fun i hi' => ⟨g, rfl, hb, Nat.lt_of_lt_of_le (World.ownsRow.lt h g rfl).2 hh, ?_, h0.frozenAt i⟩⟩
    rw [h0.cellAt i (by omega)]
    simp [hi']
theorem markWr (v : Value) (n : Nat) (k : Int) (base hi : Nat) (w : World) (h : Wr w base hi v n) (hk0 : 0 ≤ k) (hk : k + n ≤ 4294967296) :
    Calls Try.prog 70 #[v, .int .i64 k] w fun e w' => e = .returned (.int .i64 (k + n)) ∧ Soft base hi w w' := by
  obtain ⟨a, c, rfl, hc⟩ := h
  go_enter Try.func70, Try.ntmps70
  go_wp2
  go_loopw [1, 5] (fun q i wr => ∃ j : Nat, j ≤ n ∧ i = .int .i64 j ∧ q = .int .i64 (k + (j : Int)) ∧ Soft base hi w wr) (fun _ i _ => n - (intOf i).toNat)
  case atStart => exact ⟨0, Nat.zero_le _, rfl, by simp, Soft.refl _ _ _⟩
  case round =>
    obtain ⟨j, hj, rfl, rfl, hS⟩ := hrel
    by_cases hlt : j < n
    · have hltI : (j : Int) < (n : Int) := by omega
      obtain ⟨g, rfl, hb, hg, h4, h5⟩ := hc j hlt
      obtain ⟨x, ex⟩ := Option.isSome_iff_exists.1 (hS.ex _ _ h4)
      have e3 := (hS.fz _ _ h4).trans h5
      have HS := Lib.hid (hS.set (o := j) (.int .i64 (k + (j : Int))) hb hg)
      have hwr : IntKind.i64.wrap (k + (j : Int) + 1) = k + (j : Int) + 1 := wrap64_in _ (by omega) (by omega)
      clear hc h4 h5 hS
      go_wp2
      go_roundw
      case rel => exact ⟨j + 1, by omega, by go_num, by congr 1; omega, HS.out⟩
      case measure => simp [intOf]; omega
    · have hjn : j = n := by omega
      subst hjn
      clear hc
      go_wp2
      go_ret
      exact ⟨rfl, hS⟩
/-- the rows of element i may be written, and its slices lie where they lay -/
def EW (w : World) (B hi i : Nat) (E : Ent) : Prop := ∃ u1 u2, w.cell? ⟨B, i * 7 + 3, none⟩ = some u1 ∧ w.cell? ⟨B, i * 7 + 5, none⟩ = some u2 ∧ Wr w (B + 1) hi u1 E.p.length ∧ Wr w (B + 1) hi u2 E.c.length
theorem EW.set {w : World} {B hi i o : Nat} {E : Ent} {u : Value} (h : EW w B hi i E) (h1 : o ≠ i * 7 + 3) (h2 : o ≠ i * 7 + 5) : EW (w.setCell ⟨B, o, none⟩ u) B hi i E := by
  obtain ⟨u1, u2, e1, e2, r1, r2⟩ := h
  exact ⟨u1, u2, set_other (fun q => by injection q with q1 q2; exact h1 q2) e1, set_other (fun q => by injection q with q1 q2; exact h2 q2) e2, r1.soft (soft1 w B o u), r2.soft (soft1 w B o u)⟩
theorem EW.soft {w w' : World} {B hi i : Nat} {E : Ent} (h : EW w B hi i E) (s : Soft (B + 1) hi w w') (hB : B + 1 ≤ w.heap.size) : EW w' B hi i E := by
  obtain ⟨u1, u2, e1, e2, r1, r2⟩ := h
  exact ⟨u1, u2, cell_keep (s.below hB) (Nat.lt_succ_self B) e1, cell_keep (s.below hB) (Nat.lt_succ_self B) e2, r1.soft s, r2.soft s⟩
/-- a table that is being marked -/
def MkE (w0 w : World) (base B hi n : Nat) (L : List Ent) : Prop :=
  Soft base hi w0 w ∧ (∀ j, j < n * 7 → (w.cell? ⟨B, j, none⟩).isSome = true ∧ w.frozen? ⟨B, j, none⟩ = false) ∧ (∀ i, i < n → EW w B hi i (L.getD i e0)) ∧ base ≤ B ∧ B < hi ∧ B + 1 ≤ w.heap.size
theorem MkE.set {w0 w : World} {base B hi n : Nat} {L : List Ent} (h : MkE w0 w base B hi n L) (o : Nat) (u : Value) (ho : ∀ i, o ≠ i * 7 + 3 ∧ o ≠ i * 7 + 5) : MkE w0 (w.setCell ⟨B, o, none⟩ u) base B hi n L := by
  obtain ⟨s, c, e, h1, h2, h3⟩ := h
  exact ⟨s.set u h1 h2, fun j hj => ⟨some_setF (c j hj).1, by rw [World.frozen?_setCell]; exact (c j hj).2⟩, fun i hi' => (e i hi').set (ho i).1 (ho i).2, h1, h2, Nat.le_trans h3 (grown_set w B o u).size⟩
theorem MkE.soft {w0 w w' : World} {base B hi n : Nat} {L : List Ent} (h : MkE w0 w base B hi n L) (s : Soft (B + 1) hi w w') : MkE w0 w' base B hi n L := by
  obtain ⟨s0, c, e, h1, h2, h3⟩ := h
  exact ⟨s0.trans (s.mono (by omega)), fun j hj => ⟨s.ex _ _ (c j hj).1, (s.fz _ _ (c j hj).1).trans (c j hj).2⟩, fun i hi' => (e i hi').soft s h3, h1, h2, Nat.le_trans h3 s.size⟩
theorem MkE.cell {w0 w : World} {base B hi n : Nat} {L : List Ent} (h : MkE w0 w base B hi n L) (j : Nat) (hj : j < n * 7) : ∃ x, w.cell? ⟨B, j, none⟩ = some x ∧ w.frozen? ⟨B, j, none⟩ = false := by
  obtain ⟨x, hx⟩ := Option.isSome_iff_exists.1 (h.2.1 j hj).1
  exact ⟨x, hx, (h.2.1 j hj).2⟩
theorem OwnE.mk {w : World} {base : Nat} {v : Value} {L : List Ent} (h : OwnE w base v L) : ∃ B, v = .slice (some ⟨B, 0, none⟩) L.length L.length ∧ MkE w w base B w.heap.size L.length L := by
  obtain ⟨B, rfl, h1, xs, hl, hB, hx⟩ := h
  refine ⟨B, rfl, Soft.refl _ _ _, fun j hj => ⟨by rw [hB.c j (List.getElem?_eq_getElem (by omega))]; rfl, hB.f j (List.getElem?_eq_getElem (by omega))⟩, fun i hi' => ?_, h1, hB.lt, hB.lt⟩
  obtain ⟨u1, u2, g1, g2, c0, c1, c2, c3, c4, c5, c6⟩ := hx i hi'
  exact ⟨u1, u2, hB.c _ c3, hB.c _ c5, g1.wr (Nat.le_refl _), g2.wr (Nat.le_refl _)⟩
set_option maxHeartbeats 2000000 in
theorem markES_of (B hi : Nat) (L : List Ent) (k : Int) (base : Nat) (w : World) (hM : MkE w w base B hi L.length L) (hL : L.length + wtE L ≤ 1048576) (hk0 : 0 ≤ k) (hk : k ≤ 1) :
    Calls Try.prog 25 #[.slice (some ⟨B, 0, none⟩) L.length L.length, .int .i64 k] w fun e w' => ∃ r : Int, e = .returned (.int .i64 r) ∧ 0 ≤ r ∧ Soft base hi w w' := by
  obtain ⟨n, hn⟩ : ∃ n, n = L.length := ⟨_, rfl⟩
  rw [← hn] at hM ⊢
  have HN := Lib.hid hn
  have hnn : n ≤ 1048576 := by omega
  have HWT := Lib.hid hL
  clear hn hL
  go_enter Try.func25, Try.ntmps25
  go_wp2
  go_loopw [1, 5] (fun q i wr => ∃ j : Nat, j ≤ n ∧ i = .int .i64 j ∧ (∃ r : Int, q = .int .i64 r ∧ 0 ≤ r ∧ r ≤ 1 + 5 * (j : Int) + (wtE (L.take j) : Nat)) ∧ MkE w wr base B hi n L) (fun _ i _ => n - (intOf i).toNat)
  case atStart => exact ⟨0, Nat.zero_le _, rfl, ⟨_, rfl, by omega, by simp [wtE]; omega⟩, hM⟩
  case round =>
    clear hM
    obtain ⟨j, hj, rfl, ⟨r, rfl, hr0, hr1⟩, hM⟩ := hrel
    by_cases hlt : j < n
    · have hltI : (j : Int) < (n : Int) := by omega
      obtain ⟨E, hx⟩ : ∃ E, L.getD j e0 = E := ⟨_, rfl⟩
      have hwt := wt_take (L := L) (k := j) (by rw [← HN.out]; exact hlt)
      have hwl := wt_le L (j + 1)
      have hwL := HWT.out
      have hNn := HN.out
      rw [hx] at hwt
      have hEP : E.p.length ≤ 1048576 := by omega
      have hEC : E.c.length ≤ 1048576 := by omega
      have hrb : r ≤ 8000000 := by omega
      have HR := Lib.hid (And.intro hr1 (And.intro hwt hwl))
      clear hr1 hwt hwl hwL hNn
      have hE := hM.2.2.1 j hlt
      rw [hx] at hE
      obtain ⟨u1, u2, k3, k5, r1, r2⟩ := hE
      have R1 := r1
      have R2 := r2
      obtain ⟨a1, d1, rfl, -⟩ := r1
      obtain ⟨a2, d2, rfl, -⟩ := r2
      have HX := Lib.hid hx
      clear hx
      obtain ⟨p0, g0, f0⟩ := hM.cell (j * 7) (by omega)
      obtain ⟨p1, g1, f1⟩ := hM.cell (j * 7 + 1) (by omega)
      obtain ⟨p2, g2, f2⟩ := hM.cell (j * 7 + 2) (by omega)
      have hw1 : IntKind.i64.wrap (r + 1) = r + 1 := wrap64_in _ (by omega) (by omega)
      have hw2 : IntKind.i64.wrap (r + 1 + 1) = r + 1 + 1 := wrap64_in _ (by omega) (by omega)
      have hw3 : IntKind.i64.wrap (r + 1 + 1 + 1) = r + 1 + 1 + 1 := wrap64_in _ (by omega) (by omega)
      go_wp2_with fail
      replace hM := ((hM.set (j * 7) (.int .i64 r) (fun i => ⟨by omega, by omega⟩)).set (j * 7 + 1) (.int .i64 (r + 1)) (fun i => ⟨by omega, by omega⟩)).set (j * 7 + 2) (.int .i64 (r + 1 + 1)) (fun i => ⟨by omega, by omega⟩)
      clear g0 f0 g1 f1 g2 f2 k3
      replace R1 := ((R1.soft (soft1 _ B (j * 7) (.int .i64 r))).soft (soft1 _ B (j * 7 + 1) (.int .i64 (r + 1)))).soft (soft1 _ B (j * 7 + 2) (.int .i64 (r + 1 + 1)))
      replace R2 := ((R2.soft (soft1 _ B (j * 7) (.int .i64 r))).soft (soft1 _ B (j * 7 + 1) (.int .i64 (r + 1)))).soft (soft1 _ B (j * 7 + 2) (.int .i64 (r + 1 + 1)))
      have no : ∀ x y : Nat, x ≠ y → (⟨B, x, none⟩ : Addr) ≠ ⟨B, y, none⟩ := fun x y h q => by injection q with q1 q2; exact h q2
      replace k5 := set_other (u := .int .i64 (r + 1 + 1)) (no (j * 7 + 2) _ (by omega)) (set_other (u := .int .i64 (r + 1)) (no (j * 7 + 1) _ (by omega)) (set_other (u := .int .i64 r) (no (j * 7) _ (by omega)) k5))
      refine (markWr _ E.p.length _ (B + 1) hi _ R1 (by omega) (by omega)).mono ?_
      rintro e w1 ⟨rfl, hs⟩
      have hB1 := hM.2.2.2.2.2
      replace k5 := cell_keep (hs.below hB1) (Nat.lt_succ_self B) k5
      replace hM := hM.soft hs
      replace R2 := R2.soft hs
      clear hs R1 hB1 no
      obtain ⟨r4, h4⟩ : ∃ r4, r4 = r + 1 + 1 + 1 + (E.p.length : Int) := ⟨_, rfl⟩
      rw [← h4]
      have H4 := Lib.hid h4
      have hr4 : 0 ≤ r4 := by omega
      have hr4b : r4 ≤ 10000000 := by omega
      clear h4
      obtain ⟨p4, g4, f4⟩ := hM.cell (j * 7 + 4) (by omega)
      have hw4 : IntKind.i64.wrap (r4 + 1) = r4 + 1 := wrap64_in _ (by omega) (by omega)
      go_wp2_with fail
      replace hM := hM.set (j * 7 + 4) (.int .i64 r4) (fun i => ⟨by omega, by omega⟩)
      replace R2 := R2.soft (soft1 _ B (j * 7 + 4) (.int .i64 r4))
      clear g4 f4 k5
      refine (markWr _ E.c.length _ (B + 1) hi _ R2 (by omega) (by omega)).mono ?_
      rintro e w2 ⟨rfl, hs⟩
      replace hM := hM.soft hs
      clear hs R2
      obtain ⟨r6, h6⟩ : ∃ r6, r6 = r4 + 1 + (E.c.length : Int) := ⟨_, rfl⟩
      rw [← h6]
      have H6 := Lib.hid h6
      have hr6 : 0 ≤ r6 := by omega
      have hr6b : r6 ≤ 12000000 := by omega
      clear h6
      obtain ⟨p6, g6, f6⟩ := hM.cell (j * 7 + 6) (by omega)
      have hw6 : IntKind.i64.wrap (r6 + 1) = r6 + 1 := wrap64_in _ (by omega) (by omega)
      have HM := Lib.hid (hM.set (j * 7 + 6) (.int .i64 r6) (fun i => ⟨by omega, by omega⟩))
      clear hM
      go_wp2
      go_roundw
      case rel =>
        refine ⟨j + 1, by omega, by go_num, ⟨r6 + 1, rfl, by omega, ?_⟩, HM.out⟩
        obtain ⟨q1, q2, q3⟩ := HR.out
        have q4 := H4.out
        have q6 := H6.out
        omega
      case measure => simp [intOf]; omega
    · have hjn : j = n := by omega
      subst hjn
      go_wp2
      go_ret
      exact ⟨r, rfl, hr0, hM.1⟩
theorem markES_any (v : Value) (L : List Ent) (k : Int) (base : Nat) (w : World) (h : OwnE w base v L) (hL : L.length + wtE L ≤ 1048576) (hk0 : 0 ≤ k) (hk : k ≤ 1) :
    Calls Try.prog 25 #[v, .int .i64 k] w fun e w' => ∃ r : Int, e = .returned (.int .i64 r) ∧ 0 ≤ r ∧ Soft base w.heap.size w w' := by
  obtain ⟨B, rfl, hM⟩ := h.mk
  exact markES_of B _ L k base w hM hL hk0 hk
theorem OwnE.later {w0 w : World} {base : Nat} {v : Value} {L : List Ent} (h : OwnE w0 base v L) (hb : Below w0.heap.size w0 w) : ∃ B, v = .slice (some ⟨B, 0, none⟩) L.length L.length ∧ MkE w w base B w0.heap.size L.length L := by
  obtain ⟨B, e, hM⟩ := h.mk
  have hM2 := hM.soft (Soft.of_below (B + 1) w0.heap.size hb)
  exact ⟨B, e, Soft.refl _ _ _, hM2.2⟩
theorem markRb_later (v : Value) (L : List Ent) (k : Int) (base : Nat) (w0 w : World) (h : OwnE w0 base v L) (hb : Below w0.heap.size w0 w) (hL : L.length + wtE L ≤ 1048576) (hk0 : 0 ≤ k) (hk : k ≤ 1) :
    Calls Try.prog 24 #[.agg #[v], .int .i64 k] w fun e w' => ∃ r : Int, e = .returned (.int .i64 r) ∧ 0 ≤ r ∧ Soft base w0.heap.size w w' := by
  obtain ⟨bA, B0, z⟩ := one w [v] 46
  have hs0 := Soft.of_below base w0.heap.size B0
  obtain ⟨B, rfl, hM⟩ := h.later (below_step hb B0)
  clear bA z
  go_enter Try.func24, Try.ntmps24
  go_wp2_with fail
  refine (markES_of B _ L k base _ hM hL hk0 hk).mono ?_
  rintro e w1 ⟨r, rfl, hr0, hs⟩
  have hS := hs0.trans hs
  clear hs0 hs
  go_wp2
  go_ret
  exact ⟨r, rfl, hr0, hS⟩
theorem markRb_any (v : Value) (L : List Ent) (k : Int) (base : Nat) (w : World) (h : OwnE w base v L) (hL : L.length + wtE L ≤ 1048576) (hk0 : 0 ≤ k) (hk : k ≤ 1) (hb : base ≤ w.heap.size) :
    Calls Try.prog 24 #[.agg #[v], .int .i64 k] w fun e w' => ∃ r : Int, e = .returned (.int .i64 r) ∧ 0 ≤ r ∧ Soft base (w.heap.size + 1) w w' := by
  obtain ⟨bA, B0, z⟩ := one w [v] 46
  have h1 := h.keep B0
  have hs0 : Soft base (w.heap.size + 1) w (w.alloc (.cells #[v] 46)) := ⟨B0.os, B0.tape, B0.output, B0.size, fun i hi' _ => B0.block i hi', fun b o ha => by
    obtain ⟨x, hx⟩ := Option.isSome_iff_exists.1 ha
    rw [World.cell?_alloc_past _ _ _ (World.block_lt_of_cell? w _ hx)]
    exact ha, fun b o ha => by
    obtain ⟨x, hx⟩ := Option.isSome_iff_exists.1 ha
    exact World.frozen?_alloc_past _ _ _ (World.block_lt_of_cell? w _ hx)⟩
  clear bA
  obtain ⟨a, c, hv⟩ : ∃ a c, v = .slice a L.length c := by
    obtain ⟨B, hv, -⟩ := h
    exact ⟨_, _, hv⟩
  subst hv
  go_enter Try.func24, Try.ntmps24
  go_wp2_with fail
  refine (markES_any _ L k base _ h1 hL hk0 hk).mono ?_
  rintro e w1 ⟨r, rfl, hr0, hs⟩
  rw [z] at hs
  have hS := hs0.trans hs
  clear hs0 hs z h1
  go_wp2
  go_ret
  exact ⟨r, rfl, hr0, hS⟩
end Go.Proofs.Ytbcmoofpgffbhaa
