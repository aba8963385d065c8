/-
  Links. Conditions: those in each contract.
  Fabrics as arguments. Conditions: those in each contract.
  Validity of attributes, of the program and of the model. Conditions: those in each contract.
  AttrOk, of the program and of the model. Conditions: those in each contract.
  AttrOk of the model. Conditions: those in each contract.
  Ints appended to a slice that the call made; copies of attributes. Conditions: those in each statement.
  Rows of entries that the call made and that grow: what they hold, append, copies of entries. Conditions: those in each statement.
  Copies of entries and of whole tables, of the program. Conditions: those in each contract.
-/
import Derived.Test.YtaiffofmhfflkaaGreatFZc
import Derived.Test.YtaiffofmhfflkaaGreatFZa
import Derived.Laws.AppendOwnNone
import Derived.Test.YtaiffofmhfflkaaGreatFZb
import Derived.Maps.AppendAt
import Derived.Deep.RegionHeld
import Derived.Deep.MidRow
namespace Go.Proofs.YtaiffofmhfflkaaGreat
open Go.ChangeShapes Go.WideShapes Go.ChangeAt Go.RowKit Go.BigFrame Go.Joins
set_option linter.unusedVariables false
set_option maxRecDepth 100000
set_option maxRecDepth 100000
set_option linter.unusedSimpArgs false
set_option maxRecDepth 100000

/-- a link -/
structure Lk where
  a : Int
  ai : Int
  b : Int
  bi : Int
  up : Bool
  ab : List Mg
  ba : List Mg
def l0 : Lk := ⟨0, 0, 0, 0, false, [], []⟩
instance : Inhabited Lk := ⟨l0⟩
def wtL (x : Lk) : Nat := (x.ab.length + wtMS x.ab) + (x.ba.length + wtMS x.ba)
def RdL (w : World) (av bv : Value) (x : Lk) : Prop := RdMS w av x.ab ∧ RdMS w bv x.ba
theorem RdL.keep {w w' : World} {av bv : Value} {x : Lk} (h : RdL w av bv x) (hb : Below w.heap.size w w') : RdL w' av bv x := by
  obtain ⟨h0, h1⟩ := h
  exact ⟨h0.keep hb, h1.keep hb⟩
/-- the cells of block b from o on hold it -/
def AtL (w : World) (b o : Nat) (x : Lk) : Prop :=
  ∃ av bv, RdL w av bv x ∧ w.cell? ⟨b, o, none⟩ = some (.int .i64 x.a) ∧ w.cell? ⟨b, o + 1, none⟩ = some (.int .i64 x.ai) ∧ w.cell? ⟨b, o + 2, none⟩ = some (.int .i64 x.b) ∧ w.cell? ⟨b, o + 3, none⟩ = some (.int .i64 x.bi) ∧ w.cell? ⟨b, o + 4, none⟩ = some (.bool x.up) ∧ w.cell? ⟨b, o + 5, none⟩ = some (av) ∧ w.cell? ⟨b, o + 6, none⟩ = some (bv)
theorem AtL.keep {w w' : World} {b o : Nat} {x : Lk} (h : AtL w b o x) (hb : Below w.heap.size w w') : AtL w' b o x := by
  obtain ⟨av, bv, hr, k0, k1, k2, k3, k4, k5, k6⟩ := h
  exact ⟨av, bv, hr.keep hb, cell_keep hb (World.block_lt_of_cell? w _ k0) k0, cell_keep hb (World.block_lt_of_cell? w _ k1) k1, cell_keep hb (World.block_lt_of_cell? w _ k2) k2, cell_keep hb (World.block_lt_of_cell? w _ k3) k3, cell_keep hb (World.block_lt_of_cell? w _ k4) k4, cell_keep hb (World.block_lt_of_cell? w _ k5) k5, cell_keep hb (World.block_lt_of_cell? w _ k6) k6⟩
def RdLS (w : World) (v : Value) (L : List Lk) : Prop :=
  L.length ≤ 9223372036854775807 ∧
  ((∃ a c, v = .slice a 0 c ∧ L = [] ∧ (a = none → c = 0)) ∨
   ∃ b o c, v = .slice (some ⟨b, o, none⟩) L.length c ∧ 0 < L.length ∧ ∀ i, i < L.length → AtL w b (o + i * 7) (L.getD i l0))
theorem RdLS.keep {w w' : World} {v : Value} {L : List Lk} (h : RdLS w v L) (hb : Below w.heap.size w w') : RdLS w' v L := by
  obtain ⟨h2, h3⟩ := h
  refine ⟨h2, ?_⟩
  rcases h3 with h3 | ⟨b, o, c, hv, hp, hc⟩
  · exact .inl h3
  · exact .inr ⟨b, o, c, hv, hp, fun i hi => (hc i hi).keep hb⟩
theorem RdLS.len {w : World} {v : Value} {L : List Lk} (h : RdLS w v L) : ∃ a c, v = .slice a L.length c := by
  rcases h.2 with ⟨a, c, rfl, rfl, hac⟩ | ⟨b, o, c, rfl, _⟩
  · exact ⟨a, c, rfl⟩
  · exact ⟨_, c, rfl⟩
theorem RdLS.el {w : World} {v : Value} {L : List Lk} (h : RdLS w v L) : ∃ a c, v = .slice a L.length c ∧ ∀ i, i < L.length → ∃ b o, a = some ⟨b, o, none⟩ ∧ AtL w b (o + i * 7) (L.getD i l0) := by
  rcases h.2 with ⟨a, c, rfl, rfl, -⟩ | ⟨b, o, c, rfl, -, hc⟩
  · exact ⟨a, c, rfl, fun i hi => absurd hi (by simp)⟩
  · exact ⟨_, c, rfl, fun i hi => ⟨b, o, rfl, hc i hi⟩⟩
theorem RdLS.nil (w : World) : RdLS w (.slice none 0 0) [] := ⟨by simp, .inl ⟨none, 0, rfl, rfl, fun _ => rfl⟩⟩
def wtLS (L : List Lk) : Nat := (L.map wtL).sum
theorem wtL_take {L : List Lk} {j : Nat} (h : j < L.length) : wtLS (L.take (j + 1)) = wtLS (L.take j) + wtL (L.getD j l0) := by
  unfold wtLS
  rw [List.take_succ_eq_append_getElem h, List.map_append, List.sum_append]
  have e : L.getD j l0 = L[j] := by simp [List.getD, h]
  rw [e]
  simp
theorem wtL_le (L : List Lk) (j : Nat) : wtLS (L.take j) ≤ wtLS L := by
  conv => rhs; rw [← List.take_append_drop j L]
  unfold wtLS
  rw [List.map_append, List.sum_append]
  omega
theorem wtL_at {L : List Lk} {j : Nat} (h : j < L.length) : wtL (L.getD j l0) ≤ wtLS L := by
  have h1 := wtL_take h
  have h2 := wtL_le L (j + 1)
  omega
section
variable {H : Type} {enc : TypeId × Value → H} {W : World} {base : Nat} {d : DataW H} {p : List MemPlace} {v : Value}
theorem cellsMS1 : Tryz.prog.cellsOf 150 = 1 := by kernel_rfl
theorem L_trod {fuel : Nat} {c0 c1 c2 c3 c4 c5 c6 : Value} {y : DataW H × List MemPlace} (h : DataW.trod enc Tryz.prog W 0 (fun _ => true) true fuel 152 [c0, c1, c2, c3, c4, c5, c6] = some y) :
    ∃ E : Lk, c0 = .int .i64 E.a ∧ c1 = .int .i64 E.ai ∧ c2 = .int .i64 E.b ∧ c3 = .int .i64 E.bi ∧ c4 = .bool E.up ∧ RdL W c5 c6 E := by
  obtain ⟨ys, n, _, hx, hl, hlen, hf⟩ := DataW.trod_struct Tryz.underlying152 h
  obtain ⟨y0, y1, y2, y3, y4, y5, y6, rfl⟩ := list7 hlen
  have h0 := hf 0 _ rfl
  have h1 := hf 1 _ rfl
  have h2 := hf 2 _ rfl
  have h3 := hf 3 _ rfl
  have h4 := hf 4 _ rfl
  have h5 := hf 5 _ rfl
  have h6 := hf 6 _ rfl
  clear hf
  simp [cellsI1e, cellsMS1, cellsB1n] at h0 h1 h2 h3 h4 h5 h6
  obtain ⟨x0, e0, -, -⟩ := DataW.trod_int Tryz.underlying3 h0
  obtain ⟨x1, e1, -, -⟩ := DataW.trod_int Tryz.underlying3 h1
  obtain ⟨x2, e2, -, -⟩ := DataW.trod_int Tryz.underlying3 h2
  obtain ⟨x3, e3, -, -⟩ := DataW.trod_int Tryz.underlying3 h3
  obtain ⟨x4, e4, -⟩ := DataW.trod_bool Tryz.underlying4 h4
  obtain ⟨l5, g5⟩ := rdMS_trod h5
  obtain ⟨l6, g6⟩ := rdMS_trod h6
  simp at e0 e1 e2 e3 e4
  exact ⟨⟨x0, x1, x2, x3, x4, l5, l6⟩, e0, e1, e2, e3, e4, g5, g6⟩
theorem cellsLS : Tryz.prog.cellsOf 152 = 7 := by kernel_rfl
theorem listL {α : Type} {xs : List α} (h : xs.length = 7) : ∃ c0 c1 c2 c3 c4 c5 c6, xs = [c0, c1, c2, c3, c4, c5, c6] := by
  match xs, h with
  | [c0, c1, c2, c3, c4, c5, c6], _ => exact ⟨c0, c1, c2, c3, c4, c5, c6, rfl⟩
theorem rdLS_trod {fuel : Nat} {y : DataW H × List MemPlace} (h : DataW.trod enc Tryz.prog W 0 (fun _ => true) true fuel 41 [v] = some y) : ∃ L, RdLS W v L := by
  rcases Deep.open_slice Tryz.underlying41 h with ⟨hcs, _⟩ | ⟨a, len, cap, m, n, D, Pl, hcs, _, hl, hm, hmm, _, hx⟩
  · obtain ⟨rfl, -⟩ := List.cons.inj hcs
    exact ⟨[], RdLS.nil W⟩
  · obtain ⟨rfl, -⟩ := List.cons.inj hcs
    have hlm : len ≤ m := by rw [hmm]; split <;> omega
    obtain ⟨b, off, spot⟩ := a
    by_cases h0 : len = 0
    · subst h0
      exact ⟨[], by simp, .inl ⟨_, cap, rfl, rfl, fun h => by cases h⟩⟩
    · have hspot : spot = none := by
        obtain ⟨cs', h1, _⟩ := hx 0 (by omega)
        rw [cellsLS] at h1
        obtain ⟨_, hlen, hcell⟩ := World.cells?_some h1
        have h2 := hcell 0 (by omega)
        rw [List.getElem?_eq_getElem (by omega)] at h2
        simpa [Addr.add] using World.cell?_spot h2
      subst hspot
      have hadd : ∀ o k, (⟨b, o, none⟩ : Addr).add k = ⟨b, o + k, none⟩ := fun o k => by unfold Addr.add; split <;> simp_all
      have hex : ∀ i, i < len → ∃ E : Lk, AtL W b (off + i * 7) E := by
        intro i hi
        obtain ⟨cs', h1, h2⟩ := hx i (by omega)
        rw [cellsLS] at h1
        obtain ⟨_, hlen, hcell⟩ := World.cells?_some h1
        obtain ⟨x0, x1, x2, x3, x4, x5, x6, rfl⟩ := listL hlen
        obtain ⟨E, rfl, rfl, rfl, rfl, rfl, hr⟩ := L_trod h2
        have e0 := hcell 0 (by omega)
        have e1 := hcell 1 (by omega)
        have e2 := hcell 2 (by omega)
        have e3 := hcell 3 (by omega)
        have e4 := hcell 4 (by omega)
        have e5 := hcell 5 (by omega)
        have e6 := hcell 6 (by omega)
        simp only [hadd] at e0 e1 e2 e3 e4 e5 e6
        exact ⟨E, x5, x6, hr, e0, e1, e2, e3, e4, e5, e6⟩
      obtain ⟨f, hf⟩ := Deep.choose_lt hex
      refine ⟨(List.range len).map f, by simp; unfold maxLen at hm; omega, .inr ⟨b, off, cap, by simp, by simp; omega, fun i hi => ?_⟩⟩
      have hi : i < len := by simpa using hi
      rw [show ((List.range len).map f).getD i l0 = f i by simp [List.getD, hi]]
      exact hf i hi
end
set_option maxHeartbeats 1000000 in
theorem szL_l (av bv : Value) (x : Lk) (left : Int) (w : World) (h : RdL w av bv x) (hl0 : 0 ≤ left) (hl1 : left ≤ 1048576) :
    Calls Tryz.prog 120 #[.agg #[.int .i64 x.a, .int .i64 x.ai, .int .i64 x.b, .int .i64 x.bi, .bool x.up, av, bv], .int .i64 left] w fun e w' => ∃ r : Int, e = .returned (.int .i64 r) ∧ (¬ r < 0 → r = left - (wtL x : Nat)) ∧ (r < 0 → r = -1) ∧ Below w.heap.size w w' := by
  obtain ⟨bA, B0, z⟩ := one w [.int .i64 x.a, .int .i64 x.ai, .int .i64 x.b, .int .i64 x.bi, .bool x.up, av, bv] 152
  replace h := h.keep B0
  clear z
  have a0 := bA.c 5 rfl
  go_enter Tryz.func120, Tryz.ntmps120
  go_wp2_with fail
  clear a0
  refine (szMS_l av x.ab left _ (h.1) hl0 hl1).mono ?_
  rintro e w1 ⟨r0, rfl, hr0, hm0, hb⟩
  replace bA := bA.keep hb
  replace h := h.keep hb
  replace B0 := below_step B0 hb
  have HR0 := Lib.hid hr0
  clear hb hr0 hm0
  by_cases hn0 : r0 < 0
  · go_wp2
    go_ret
    exact ⟨-1, rfl, fun h => by omega, fun _ => rfl, B0⟩
  · have hu0 : r0 ≤ 1048576 := by have := HR0.out hn0; omega
    have a1 := bA.c 6 rfl
    go_wp2_with fail
    clear a1
    refine (szMS_l bv x.ba r0 _ (h.2) (by omega) (by omega)).mono ?_
    rintro e w2 ⟨r1, rfl, hr1, hm1, hb⟩
    replace bA := bA.keep hb
    replace h := h.keep hb
    replace B0 := below_step B0 hb
    have HR1 := Lib.hid hr1
    clear hb hr1 hm1
    by_cases hn1 : r1 < 0
    · go_wp2
      go_ret
      exact ⟨-1, rfl, fun h => by omega, fun _ => rfl, B0⟩
    · go_wp2
      go_ret
      refine ⟨r1, rfl, fun _ => ?_, fun q => absurd q (by omega), B0⟩
      have e0 := HR0.out hn0
      have e1 := HR1.out (by omega)
      unfold wtL
      omega
set_option maxHeartbeats 2000000 in
theorem toL_f (s0 s1 : Value) (x : Lk) (w : World) (h : RdL w s0 s1 x) (hw : wtL x ≤ 1048576) :
    Calls Tryz.prog 122 #[.agg #[.int .i64 x.a, .int .i64 x.ai, .int .i64 x.b, .int .i64 x.bi, .bool x.up, s0, s1]] w fun e w' => ∃ s0 s1, e = .returned (.agg #[.int .i64 x.a, .int .i64 x.ai, .int .i64 x.b, .int .i64 x.bi, .bool x.up, s0, s1]) ∧ Fresh w.heap.size w' (fun W => RdL W s0 s1 x) ∧ Below w.heap.size w w' := by
  unfold wtL at hw
  obtain ⟨bA, bR, bO, B1, z⟩ := three w [.int .i64 x.a, .int .i64 x.ai, .int .i64 x.b, .int .i64 x.bi, .bool x.up, s0, s1] [.int .i64 0, .int .i64 0, .int .i64 0, .int .i64 0, .bool false, .slice none 0 0, .slice none 0 0] [.int .i64 x.a, .int .i64 x.ai, .int .i64 x.b, .int .i64 x.bi, .bool x.up, .slice none 0 0, .slice none 0 0] 152 85 85
  have a5 := bA.c 5 rfl
  go_enter Tryz.func122, Tryz.ntmps122
  go_wp2_with fail
  clear a5
  refine (toMS_f s0 x.ab _ (h.1.keep B1) (by omega)).mono ?_
  rintro e w1 ⟨u0, rfl, f0, hb⟩
  obtain ⟨p0, q0, rfl⟩ := f0.now.len
  have hs := hb.size
  rw [z] at f0 hs
  replace bA := bA.keep hb
  replace bR := bR.keep hb
  replace bO := bO.keep hb
  replace B1 := below_step B1 hb
  clear hb
  clear z
  obtain ⟨A, hA⟩ : ∃ A, A = w.heap.size := ⟨_, rfl⟩
  obtain ⟨R, hR⟩ : ∃ R, R = w.heap.size + 1 := ⟨_, rfl⟩
  obtain ⟨O, hO⟩ : ∃ O, O = w.heap.size + 1 + 1 := ⟨_, rfl⟩
  rw [← hA] at bA
  rw [← hR] at bR
  rw [← hO] at bO
  rw [← hO, ← hR]
  try rw [← hA]
  have hO3 : O < w.heap.size + 3 := by omega
  have hRO : R ≠ O := by omega
  have hR3 : R < w.heap.size + 3 := by omega
  have hAO : A ≠ O := by omega
  have hwO : w.heap.size ≤ O := by omega
  have hwR : w.heap.size ≤ R := by omega
  clear hA hR hO
  have o5 := bO.c 5 rfl
  have of5 := bO.f 5 rfl
  have a6 := bA.c 6 rfl
  go_wp2_with fail
  clear o5 of5 a6
  replace hs := Nat.le_trans hs (grown_set _ O 5 (.slice p0 x.ab.length q0)).size
  replace bA := bA.far (o := 5) (u := .slice p0 x.ab.length q0) hAO
  replace bR := bR.far (o := 5) (u := .slice p0 x.ab.length q0) hRO
  replace bO := bO.set 5 (.slice p0 x.ab.length q0)
  replace f0 := f0.far (o := 5) (u := .slice p0 x.ab.length q0) hO3
  replace B1 := B1.setCell (p := ⟨O, 5, none⟩) hwO (.slice p0 x.ab.length q0)
  refine (toMS_f s1 x.ba _ (h.2.keep B1) (by omega)).mono ?_
  rintro e w2 ⟨u1, rfl, f1, hb⟩
  obtain ⟨p1, q1, rfl⟩ := f1.now.len
  replace f1 := f1.mono hs
  replace hs := Nat.le_trans hs hb.size
  replace bA := bA.keep hb
  replace bR := bR.keep hb
  replace bO := bO.keep hb
  replace f0 := f0.keep hb
  replace B1 := below_step B1 hb
  clear hb
  have o0 := bO.c 0 rfl
  have of0 := bO.f 0 rfl
  have o1 := bO.c 1 rfl
  have of1 := bO.f 1 rfl
  have o2 := bO.c 2 rfl
  have of2 := bO.f 2 rfl
  have o3 := bO.c 3 rfl
  have of3 := bO.f 3 rfl
  have o4 := bO.c 4 rfl
  have of4 := bO.f 4 rfl
  have o5 := bO.c 5 rfl
  have of5 := bO.f 5 rfl
  have o6 := bO.c 6 rfl
  have of6 := bO.f 6 rfl
  have r0 := bR.c 0 rfl
  have rf0 := bR.f 0 rfl
  have r1 := bR.c 1 rfl
  have rf1 := bR.f 1 rfl
  have r2 := bR.c 2 rfl
  have rf2 := bR.f 2 rfl
  have r3 := bR.c 3 rfl
  have rf3 := bR.f 3 rfl
  have r4 := bR.c 4 rfl
  have rf4 := bR.f 4 rfl
  have r5 := bR.c 5 rfl
  have rf5 := bR.f 5 rfl
  have r6 := bR.c 6 rfl
  have rf6 := bR.f 6 rfl
  go_wp2_with fail
  have bE := ((((((((bR.far (o := 6) (u := .slice p1 x.ba.length q1) hRO).set 0 (.int .i64 x.a)).set 1 (.int .i64 x.ai)).set 2 (.int .i64 x.b)).set 3 (.int .i64 x.bi)).set 4 (.bool x.up)).set 5 (.slice p0 x.ab.length q0)).set 6 (.slice p1 x.ba.length q1))
  have e0 := bE.c 0 rfl
  have e1 := bE.c 1 rfl
  have e2 := bE.c 2 rfl
  have e3 := bE.c 3 rfl
  have e4 := bE.c 4 rfl
  have e5 := bE.c 5 rfl
  have e6 := bE.c 6 rfl
  have g0 := ((((((((f0.far (o := 6) (u := .slice p1 x.ba.length q1) hO3).far (o := 0) (u := .int .i64 x.a) hR3).far (o := 1) (u := .int .i64 x.ai) hR3).far (o := 2) (u := .int .i64 x.b) hR3).far (o := 3) (u := .int .i64 x.bi) hR3).far (o := 4) (u := .bool x.up) hR3).far (o := 5) (u := .slice p0 x.ab.length q0) hR3).far (o := 6) (u := .slice p1 x.ba.length q1) hR3)
  have g1 := ((((((((f1.far (o := 6) (u := .slice p1 x.ba.length q1) hO3).far (o := 0) (u := .int .i64 x.a) hR3).far (o := 1) (u := .int .i64 x.ai) hR3).far (o := 2) (u := .int .i64 x.b) hR3).far (o := 3) (u := .int .i64 x.bi) hR3).far (o := 4) (u := .bool x.up) hR3).far (o := 5) (u := .slice p0 x.ab.length q0) hR3).far (o := 6) (u := .slice p1 x.ba.length q1) hR3)
  exact bodyPost_ret (v := .agg #[.int .i64 x.a, .int .i64 x.ai, .int .i64 x.b, .int .i64 x.bi, .bool x.up, .slice p0 x.ab.length q0, .slice p1 x.ba.length q1]) (by simp [results, Tryz.results122, go_sem, e0, e1, e2, e3, e4, e5, e6]) rfl
    ⟨_, _, rfl, fun W k => ⟨g0 W (k.up (by omega)), g1 W (k.up (by omega))⟩, ((((((((B1.setCell (p := ⟨O, 6, none⟩) hwO (.slice p1 x.ba.length q1)).setCell (p := ⟨R, 0, none⟩) hwR (.int .i64 x.a)).setCell (p := ⟨R, 1, none⟩) hwR (.int .i64 x.ai)).setCell (p := ⟨R, 2, none⟩) hwR (.int .i64 x.b)).setCell (p := ⟨R, 3, none⟩) hwR (.int .i64 x.bi)).setCell (p := ⟨R, 4, none⟩) hwR (.bool x.up)).setCell (p := ⟨R, 5, none⟩) hwR (.slice p0 x.ab.length q0)).setCell (p := ⟨R, 6, none⟩) hwR (.slice p1 x.ba.length q1))⟩
theorem eqL_same (av bv av2 bv2 : Value) (x : Lk) (w : World) (h : RdL w av bv x) (h2 : RdL w av2 bv2 x) :
    Calls Tryz.prog 136 #[.agg #[.int .i64 x.a, .int .i64 x.ai, .int .i64 x.b, .int .i64 x.bi, .bool x.up, av, bv], .agg #[.int .i64 x.a, .int .i64 x.ai, .int .i64 x.b, .int .i64 x.bi, .bool x.up, av2, bv2]] w fun e w' => e = .returned (.bool true) ∧ Below w.heap.size w w' := by
  obtain ⟨bA, bB, B1, z⟩ := two w [.int .i64 x.a, .int .i64 x.ai, .int .i64 x.b, .int .i64 x.bi, .bool x.up, av, bv] [.int .i64 x.a, .int .i64 x.ai, .int .i64 x.b, .int .i64 x.bi, .bool x.up, av2, bv2] 85 85
  replace h := h.keep B1
  replace h2 := h2.keep B1
  clear z
  have q0 : (x.a != x.a) = false := by simp
  have q1 : (x.ai != x.ai) = false := by simp
  have q2 : (x.b != x.b) = false := by simp
  have q3 : (x.bi != x.bi) = false := by simp
  have q4 : (x.up != x.up) = false := by simp
  have a0 := bA.c 0 rfl
  have b0 := bB.c 0 rfl
  have a1 := bA.c 1 rfl
  have b1 := bB.c 1 rfl
  have a2 := bA.c 2 rfl
  have b2 := bB.c 2 rfl
  have a3 := bA.c 3 rfl
  have b3 := bB.c 3 rfl
  have a4 := bA.c 4 rfl
  have b4 := bB.c 4 rfl
  have a5 := bA.c 5 rfl
  have b5 := bB.c 5 rfl
  go_enter Tryz.func136, Tryz.ntmps136
  go_wp2_with fail
  refine (eqMS_same _ _ x.ab _ (h.1) (h2.1)).mono ?_
  rintro e w1 ⟨rfl, hb⟩
  replace bA := bA.keep hb
  replace bB := bB.keep hb
  replace h := h.keep hb
  replace h2 := h2.keep hb
  replace B1 := below_step B1 hb
  clear hb a0 b0 a1 b1 a2 b2 a3 b3 a4 b4 a5 b5
  have a6 := bA.c 6 rfl
  have b6 := bB.c 6 rfl
  go_wp2_with fail
  refine (eqMS_same _ _ x.ba _ (h.2) (h2.2)).mono ?_
  rintro e w2 ⟨rfl, hb⟩
  replace bA := bA.keep hb
  replace bB := bB.keep hb
  replace h := h.keep hb
  replace h2 := h2.keep hb
  replace B1 := below_step B1 hb
  clear hb a6 b6
  go_wp2
  go_ret
  exact ⟨rfl, B1⟩
theorem szLS_l (v : Value) (L : List Lk) (left : Int) (w : World) (h : RdLS w v L) (hl0 : 0 ≤ left) (hl1 : left ≤ 1048576) :
    Calls Tryz.prog 59 #[v, .int .i64 left] w fun e w' => ∃ r : Int, e = .returned (.int .i64 r) ∧ (¬ r < 0 → r = left - (L.length : Nat) - (wtLS L : Nat)) ∧ (r < 0 → r = -1) ∧ Below w.heap.size w w' := by
  have hm := h.1
  obtain ⟨a, c, rfl, hc⟩ := h.el
  obtain ⟨n, hn⟩ : ∃ n, n = L.length := ⟨_, rfl⟩
  rw [← hn] at hc hm ⊢
  have HN := Lib.hid hn
  clear h hn
  by_cases hbig : left - n < 0
  · go_enter Tryz.func59, Tryz.ntmps59
    have hw1 : IntKind.i64.wrap (left - (n : Int)) = left - (n : Int) := wrap64_in _ (by omega) (by omega)
    go_wp2
    go_ret
    exact ⟨-1, rfl, fun h => by omega, fun _ => rfl, Below.refl _ _⟩
  · have hnn : (n : Int) ≤ 1048576 := by omega
    have hw1 : IntKind.i64.wrap (left - (n : Int)) = left - (n : Int) := wrap64_in _ (by omega) (by omega)
    go_enter Tryz.func59, Tryz.ntmps59
    go_wp2
    go_loopw [1, 5] (fun q i wr => ∃ j : Nat, j ≤ n ∧ i = .int .i64 j ∧ (∃ l : Int, q = .int .i64 l ∧ 0 ≤ l ∧ l = left - (n : Int) - (wtLS (L.take j) : Nat)) ∧ Below w.heap.size w wr) (fun _ i _ => n - (intOf i).toNat)
    case atStart => exact ⟨0, Nat.zero_le _, rfl, ⟨_, rfl, by omega, by simp [wtLS]⟩, Below.refl _ _⟩
    case round =>
      obtain ⟨j, hj, rfl, ⟨l, rfl, hl0, hl⟩, hB⟩ := hrel
      have HL := Lib.hid hl
      have hl1 : l ≤ 1048576 := by omega
      clear hl
      by_cases hlt : j < n
      · have hltI : (j : Int) < (n : Int) := by omega
        obtain ⟨b, o, rfl, hE⟩ := hc j hlt
        obtain ⟨x, hx⟩ : ∃ x, L.getD j l0 = x := ⟨_, rfl⟩
        rw [hx] at hE
        obtain ⟨av, bv, hr, k0, k1, k2, k3, k4, k5, k6⟩ := hE.keep hB
        have HX := Lib.hid hx
        have HCC := Lib.hid hc
        clear hx hc hE
        go_wp2_with fail
        refine (szL_l av bv x l _ hr hl0 hl1).mono ?_
        rintro e w1 ⟨r, rfl, hr1, hr2, hb⟩
        have hB2 := below_step hB hb
        have HR1 := Lib.hid hr1
        have HR2 := Lib.hid hr2
        clear hb hB k0 k1 k2 k3 k4 k5 k6 hr hr1 hr2
        by_cases hneg : r < 0
        · go_wp2
          go_ret
          exact ⟨-1, rfl, fun h => by omega, fun _ => rfl, hB2⟩
        · go_wp2
          go_roundw
          case rel =>
            refine ⟨j + 1, by omega, by go_num, ⟨r, rfl, by omega, ?_⟩, hB2⟩
            have h1 := wtL_take (L := L) (j := j) (by rw [← HN.out]; exact hlt)
            rw [HX.out] at h1
            have h2 := HR1.out hneg
            have h3 := HL.out
            omega
          case measure => simp [intOf]; omega
      · have hkn : j = n := by omega
        subst hkn
        have hw : wtLS (L.take j) = wtLS L := by rw [List.take_of_length_le (by rw [HN.out]; exact Nat.le_refl _)]
        have HW := Lib.hid hw
        clear hc hw
        go_wp2
        go_ret
        refine ⟨l, rfl, fun _ => ?_, fun h => by omega, hB⟩
        have h3 := HL.out
        rw [HW.out] at h3
        omega
/-- element i of the cells xs is that, its slices lie in blocks from base on -/
def LX (xs : List Value) (w : World) (base i : Nat) (x : Lk) : Prop :=
  ∃ av bv, Fresh base w (fun W => RdL W av bv x) ∧ xs[i * 7]? = some (.int .i64 x.a) ∧ xs[i * 7 + 1]? = some (.int .i64 x.ai) ∧ xs[i * 7 + 2]? = some (.int .i64 x.b) ∧ xs[i * 7 + 3]? = some (.int .i64 x.bi) ∧ xs[i * 7 + 4]? = some (.bool x.up) ∧ xs[i * 7 + 5]? = some (av) ∧ xs[i * 7 + 6]? = some (bv)
def MadeL (w : World) (B n k : Nat) (L : List Lk) : Prop := ∃ xs : List Value, xs.length = n * 7 ∧ Bl w B xs ∧ ∀ i, i < k → LX xs w (B + 1) i (L.getD i l0)
theorem MadeL.keep {w w' : World} {B n k : Nat} {L : List Lk} (h : MadeL w B n k L) (hb : Below w.heap.size w w') : MadeL w' B n k L := by
  obtain ⟨xs, hl, hB, hx⟩ := h
  refine ⟨xs, hl, hB.keep hb, fun i hi => ?_⟩
  obtain ⟨av, bv, h1, h3⟩ := hx i hi
  exact ⟨av, bv, h1.agr (.of_below hb), h3⟩
theorem MadeL.cell {w : World} {B n k : Nat} {L : List Lk} (h : MadeL w B n k L) (j : Nat) (hj : j < n * 7) : ∃ x, w.cell? ⟨B, j, none⟩ = some x ∧ w.frozen? ⟨B, j, none⟩ = false := by
  obtain ⟨xs, hl, hB, hx⟩ := h
  exact ⟨_, hB.c j (List.getElem?_eq_getElem (by omega)), hB.f j (List.getElem?_eq_getElem (by omega))⟩
theorem MadeL.step {w : World} {B n j : Nat} {L : List Lk} (h : MadeL w B n j L) (hk : j < n) {av bv : Value} {x : Lk} (hE : L.getD j l0 = x) (h1 : Fresh (B + 1) w (fun W => RdL W av bv x)) :
    MadeL (((((((w.setCell ⟨B, j * 7, none⟩ (.int .i64 x.a)).setCell ⟨B, j * 7 + 1, none⟩ (.int .i64 x.ai)).setCell ⟨B, j * 7 + 2, none⟩ (.int .i64 x.b)).setCell ⟨B, j * 7 + 3, none⟩ (.int .i64 x.bi)).setCell ⟨B, j * 7 + 4, none⟩ (.bool x.up)).setCell ⟨B, j * 7 + 5, none⟩ (av)).setCell ⟨B, j * 7 + 6, none⟩ (bv)) B n (j + 1) L := by
  obtain ⟨xs, hl, hB, hx⟩ := h
  have ha : Agr (B + 1) w (((((((w.setCell ⟨B, j * 7, none⟩ (.int .i64 x.a)).setCell ⟨B, j * 7 + 1, none⟩ (.int .i64 x.ai)).setCell ⟨B, j * 7 + 2, none⟩ (.int .i64 x.b)).setCell ⟨B, j * 7 + 3, none⟩ (.int .i64 x.bi)).setCell ⟨B, j * 7 + 4, none⟩ (.bool x.up)).setCell ⟨B, j * 7 + 5, none⟩ (av)).setCell ⟨B, j * 7 + 6, none⟩ (bv)) := (((((((Agr.refl _ _).trans (agr_set _ (Nat.lt_succ_self B))).trans (agr_set _ (Nat.lt_succ_self B))).trans (agr_set _ (Nat.lt_succ_self B))).trans (agr_set _ (Nat.lt_succ_self B))).trans (agr_set _ (Nat.lt_succ_self B))).trans (agr_set _ (Nat.lt_succ_self B))).trans (agr_set _ (Nat.lt_succ_self B))
  refine ⟨(((((((xs.set (j * 7) (.int .i64 x.a)).set (j * 7 + 1) (.int .i64 x.ai)).set (j * 7 + 2) (.int .i64 x.b)).set (j * 7 + 3) (.int .i64 x.bi)).set (j * 7 + 4) (.bool x.up)).set (j * 7 + 5) (av)).set (j * 7 + 6) (bv)), by simpa using hl, (((((((hB.set (j * 7) (.int .i64 x.a)).set (j * 7 + 1) (.int .i64 x.ai)).set (j * 7 + 2) (.int .i64 x.b)).set (j * 7 + 3) (.int .i64 x.bi)).set (j * 7 + 4) (.bool x.up)).set (j * 7 + 5) (av)).set (j * 7 + 6) (bv)), fun i hi => ?_⟩
  by_cases e : i = j
  · have e' := e.symm
    subst e'
    rw [hE]
    refine ⟨av, bv, h1.agr ha, ?_, ?_, ?_, ?_, ?_, ?_, ?_⟩
    all_goals simp only [List.getElem?_set, List.length_set]
    all_goals simp (disch := omega) [hl]
    all_goals omega
  · obtain ⟨v0, v1, g1, c0, c1, c2, c3, c4, c5, c6⟩ := hx i (by omega)
    refine ⟨v0, v1, g1.agr ha, ?_, ?_, ?_, ?_, ?_, ?_, ?_⟩
    all_goals (repeat rw [List.getElem?_set_ne (by omega)])
    all_goals assumption
theorem MadeL.fresh {w : World} {B n b : Nat} {L : List Lk} (h : MadeL w B n n L) (hn : n = L.length) (hb : b ≤ B) (hl : L.length ≤ 1048576) : Fresh b w (fun W => RdLS W (.slice (some ⟨B, 0, none⟩) n n) L) := by
  obtain ⟨xs, hxl, hB, hx⟩ := h
  intro w' k
  subst hn
  refine ⟨by omega, ?_⟩
  by_cases h0 : L.length = 0
  · refine .inl ⟨some ⟨B, 0, none⟩, 0, by rw [h0], List.eq_nil_of_length_eq_zero h0, fun h => by cases h⟩
  · refine .inr ⟨B, 0, L.length, rfl, by omega, fun i hi => ?_⟩
    obtain ⟨av, bv, g1, c0, c1, c2, c3, c4, c5, c6⟩ := hx i hi
    have hB' := bl_agr hB k hb
    refine ⟨av, bv, g1 w' (k.up (by omega)), ?_⟩
    simp only [Nat.zero_add]
    exact ⟨hB'.c _ c0, hB'.c _ c1, hB'.c _ c2, hB'.c _ c3, hB'.c _ c4, hB'.c _ c5, hB'.c _ c6⟩
theorem infoLS : (Tryz.prog.info? 85).map (fun i => (i.zero, i.size, i.bytes)) = some (some (.agg #[.int .i64 0, .int .i64 0, .int .i64 0, .int .i64 0, .bool false, .slice none 0 0, .slice none 0 0]), 7, 88) := by kernel_rfl
theorem make_LS (t : TypeId) (ht : Tryz.prog.underlying t = some (.slice 85)) (n : Nat) (hn : n ≤ 1048576) (w : World) :
    (Instr.makeSlice t (.int .i64 (n : Int)) (.int .i64 (n : Int))).run Tryz.prog w = .ok (.slice (some ⟨w.heap.size, 0, none⟩) n n) (w.alloc (.cells (madeCells #[Value.int .i64 0, Value.int .i64 0, Value.int .i64 0, Value.int .i64 0, Value.bool false, Value.slice none 0 0, Value.slice none 0 0] (n * 7)) 85)) := by
  obtain ⟨i, hi, hzz⟩ := Option.map_eq_some_iff.1 infoLS
  simp only [Prod.mk.injEq] at hzz
  obtain ⟨hz, hs, hb⟩ := hzz
  have hr := run_make (P := Tryz.prog) w t 85 i _ ht hi hz .i64 .i64 n n (by omega) (Int.le_refl _) (by rw [hb]; omega) (by omega)
  simpa only [Int.toNat_natCast, hs, Value.cells] using hr
theorem madeL_start (w : World) (n : Nat) (L : List Lk) : MadeL (w.alloc (.cells (madeCells #[Value.int .i64 0, Value.int .i64 0, Value.int .i64 0, Value.int .i64 0, Value.bool false, Value.slice none 0 0, Value.slice none 0 0] (n * 7)) 85)) w.heap.size n 0 L := by
  refine ⟨(madeCells #[Value.int .i64 0, Value.int .i64 0, Value.int .i64 0, Value.int .i64 0, Value.bool false, Value.slice none 0 0, Value.slice none 0 0] (n * 7)).toList, by simp [size_madeCells], ?_, fun i hi => absurd hi (Nat.not_lt_zero _)⟩
  have := Bl.new w (madeCells #[Value.int .i64 0, Value.int .i64 0, Value.int .i64 0, Value.int .i64 0, Value.bool false, Value.slice none 0 0, Value.slice none 0 0] (n * 7)).toList 85 w.heap.size rfl
  simpa using this
set_option maxHeartbeats 2000000 in
theorem toLS_f (v : Value) (L : List Lk) (w : World) (h : RdLS w v L) (hn : L.length + wtLS L ≤ 1048576) :
    Calls Tryz.prog 62 #[v] w fun e w' => ∃ u, e = .returned u ∧ Fresh w.heap.size w' (fun W => RdLS W u L) ∧ Below w.heap.size w w' := by
  have hmk := fun W => make_LS 47 Tryz.underlying47 L.length (by omega) W
  obtain ⟨a, c, rfl, hc⟩ := h.el
  obtain ⟨n, hn'⟩ : ∃ n, n = L.length := ⟨_, rfl⟩
  rw [← hn'] at hc hn hmk ⊢
  have hnn : n ≤ 1048576 := by omega
  have HN := Lib.hid hn'
  have HW := Lib.hid hn
  clear hn' h hn
  obtain ⟨B, hBB⟩ : ∃ B, B = w.heap.size := ⟨_, rfl⟩
  have hst := madeL_start w n L
  rw [← hBB] at hst
  have HS := Lib.hid hst
  have HBB := Lib.hid hBB
  have hwB : w.heap.size ≤ B := by omega
  clear hst
  go_enter Tryz.func62, Tryz.ntmps62
  go_wp2
  rw [← hBB]
  clear hmk hBB
  go_loopw [4] (fun i wr => ∃ j : Nat, j ≤ n ∧ i = .int .i64 j ∧ MadeL wr B n j L ∧ Below w.heap.size w wr) (fun i _ => n - (intOf i).toNat)
  case atStart => exact ⟨0, Nat.zero_le _, rfl, HS.out, (Below.refl _ _).alloc (Nat.le_refl _) _⟩
  case round =>
    obtain ⟨j, hj, rfl, hM, hB⟩ := hrel
    by_cases hlt : j < n
    · have hltI : (j : Int) < (n : Int) := by omega
      obtain ⟨b, o, rfl, hE⟩ := hc j hlt
      obtain ⟨x, hx⟩ : ∃ x, L.getD j l0 = x := ⟨_, rfl⟩
      rw [hx] at hE
      obtain ⟨av, bv, hr, k0, k1, k2, k3, k4, k5, k6⟩ := hE.keep hB
      have HX := Lib.hid hx
      have HCC := Lib.hid hc
      clear hx hc hE
      have hwx : wtL x ≤ 1048576 := by
        have h1 := wtL_at (L := L) (j := j) (by rw [← HN.out]; exact hlt)
        rw [HX.out] at h1
        have := HW.out
        omega
      have hBW : B < wr.heap.size := by
        obtain ⟨xs, hl, hBl, -⟩ := hM
        exact hBl.lt
      go_wp2_with fail
      refine (toL_f av bv x _ hr hwx).mono ?_
      clear hr hwx k0 k1 k2 k3 k4 k5 k6
      rintro e w2 ⟨av, bv, rfl, h1, hb⟩
      have hM2 := hM.keep hb
      have hB2 := below_step hB hb
      replace h1 := h1.mono (Nat.succ_le_of_lt hBW)
      clear hM hB hb hBW
      obtain ⟨ava, avx, rfl⟩ := (h1.now.1).len
      obtain ⟨bva, bvx, rfl⟩ := (h1.now.2).len
      obtain ⟨p0, g0, f0⟩ := hM2.cell (j * 7) (by omega)
      obtain ⟨p1, g1, f1⟩ := hM2.cell (j * 7 + 1) (by omega)
      obtain ⟨p2, g2, f2⟩ := hM2.cell (j * 7 + 2) (by omega)
      obtain ⟨p3, g3, f3⟩ := hM2.cell (j * 7 + 3) (by omega)
      obtain ⟨p4, g4, f4⟩ := hM2.cell (j * 7 + 4) (by omega)
      obtain ⟨p5, g5, f5⟩ := hM2.cell (j * 7 + 5) (by omega)
      obtain ⟨p6, g6, f6⟩ := hM2.cell (j * 7 + 6) (by omega)
      have HM := Lib.hid (hM2.step hlt HX.out h1)
      have hB3 := (((((((hB2.setCell (p := ⟨B, j * 7, none⟩) hwB (.int .i64 x.a)).setCell (p := ⟨B, j * 7 + 1, none⟩) hwB (.int .i64 x.ai)).setCell (p := ⟨B, j * 7 + 2, none⟩) hwB (.int .i64 x.b)).setCell (p := ⟨B, j * 7 + 3, none⟩) hwB (.int .i64 x.bi)).setCell (p := ⟨B, j * 7 + 4, none⟩) hwB (.bool x.up)).setCell (p := ⟨B, j * 7 + 5, none⟩) hwB (.slice ava x.ab.length avx)).setCell (p := ⟨B, j * 7 + 6, none⟩) hwB (.slice bva x.ba.length bvx))
      clear hM2 hB2 h1
      go_wp2
      go_roundw
      case rel => exact ⟨j + 1, by omega, by go_num, HM.out, hB3⟩
      case measure => simp [intOf]; omega
    · have hkn : j = n := by omega
      subst hkn
      clear hc
      have HF := Lib.hid (hM.fresh (b := w.heap.size) HN.out hwB (by rw [← HN.out]; exact hnn))
      go_wp2
      go_ret
      exact ⟨.slice (some ⟨B, 0, none⟩) j j, rfl, HF.out, hB⟩
set_option maxHeartbeats 4000000 in
theorem eqLS_same (v u : Value) (L : List Lk) (w : World) (h1 : RdLS w v L) (h2 : RdLS w u L) :
    Calls Tryz.prog 70 #[v, u] w fun e w' => e = .returned (.bool true) ∧ Below w.heap.size w w' := by
  have hm1 := h1.1
  obtain ⟨a, c, rfl, hc⟩ := h1.el
  obtain ⟨a', c', rfl, hc'⟩ := h2.el
  obtain ⟨n, hn⟩ : ∃ n, n = L.length := ⟨_, rfl⟩
  rw [← hn] at hc hc' hm1 ⊢
  have HN := Lib.hid hn
  clear hn h1 h2
  have hnn : ((n : Int) != (n : Int)) = false := by simp
  go_enter Tryz.func70, Tryz.ntmps70
  go_wp2
  go_loopw [5] (fun i wr => ∃ j : Nat, j ≤ n ∧ i = .int .i64 j ∧ Below w.heap.size w wr) (fun i _ => n - (intOf i).toNat)
  case atStart => exact ⟨0, Nat.zero_le _, rfl, Below.refl _ _⟩
  case round =>
    obtain ⟨j, hk, rfl, hB⟩ := hrel
    by_cases hlt : j < n
    · have hltI : (j : Int) < (n : Int) := by omega
      obtain ⟨b, o, rfl, hE⟩ := hc j hlt
      obtain ⟨b', o', rfl, hE'⟩ := hc' j hlt
      obtain ⟨x, hx⟩ : ∃ x, L.getD j l0 = x := ⟨_, rfl⟩
      rw [hx] at hE hE'
      obtain ⟨av, bv, hr, k0, k1, k2, k3, k4, k5, k6⟩ := hE.keep hB
      obtain ⟨av2, bv2, hr2, m0, m1, m2, m3, m4, m5, m6⟩ := hE'.keep hB
      clear hx hc hc' hE hE'
      go_wp2
      go_region_held3 (fun w' => Over wr w' ∧ w'.cell? ⟨b, o + j * 7, none⟩ = some (.int .i64 x.a) ∧ w'.cell? ⟨b, o + j * 7 + 1, none⟩ = some (.int .i64 x.ai) ∧ w'.cell? ⟨b, o + j * 7 + 2, none⟩ = some (.int .i64 x.b) ∧ w'.cell? ⟨b, o + j * 7 + 3, none⟩ = some (.int .i64 x.bi) ∧ w'.cell? ⟨b, o + j * 7 + 4, none⟩ = some (.bool x.up) ∧ w'.cell? ⟨b, o + j * 7 + 5, none⟩ = some (av) ∧ w'.cell? ⟨b, o + j * 7 + 6, none⟩ = some (bv) ∧ w'.cell? ⟨b', o' + j * 7, none⟩ = some (.int .i64 x.a) ∧ w'.cell? ⟨b', o' + j * 7 + 1, none⟩ = some (.int .i64 x.ai) ∧ w'.cell? ⟨b', o' + j * 7 + 2, none⟩ = some (.int .i64 x.b) ∧ w'.cell? ⟨b', o' + j * 7 + 3, none⟩ = some (.int .i64 x.bi) ∧ w'.cell? ⟨b', o' + j * 7 + 4, none⟩ = some (.bool x.up) ∧ w'.cell? ⟨b', o' + j * 7 + 5, none⟩ = some (av2) ∧ w'.cell? ⟨b', o' + j * 7 + 6, none⟩ = some (bv2))
        ((first | exact ⟨over_drew _, k0, k1, k2, k3, k4, k5, k6, m0, m1, m2, m3, m4, m5, m6⟩ | exact (fun o => ⟨o, over_cell o (World.block_lt_of_cell? wr _ k0) k0, over_cell o (World.block_lt_of_cell? wr _ k1) k1, over_cell o (World.block_lt_of_cell? wr _ k2) k2, over_cell o (World.block_lt_of_cell? wr _ k3) k3, over_cell o (World.block_lt_of_cell? wr _ k4) k4, over_cell o (World.block_lt_of_cell? wr _ k5) k5, over_cell o (World.block_lt_of_cell? wr _ k6) k6, over_cell o (World.block_lt_of_cell? wr _ m0) m0, over_cell o (World.block_lt_of_cell? wr _ m1) m1, over_cell o (World.block_lt_of_cell? wr _ m2) m2, over_cell o (World.block_lt_of_cell? wr _ m3) m3, over_cell o (World.block_lt_of_cell? wr _ m4) m4, over_cell o (World.block_lt_of_cell? wr _ m5) m5, over_cell o (World.block_lt_of_cell? wr _ m6) m6⟩) (over_step (by assumption : Over wr _ ∧ _).1 (by assumption))))
        ((first | (go_at_call 136; refine (eqL_same av bv av2 bv2 x _ (hr.keep (‹Over wr _ ∧ _›).1) (hr2.keep (‹Over wr _ ∧ _›).1)).mono ?_; rintro e w6 ⟨rfl, hbb⟩)))
      rename_i hH
      replace hB := below_step hB hH.1
      clear hH hbb k0 k1 k2 k3 k4 k5 k6 m0 m1 m2 m3 m4 m5 m6 hr hr2
      go_wp2
      go_roundw
      case rel => exact ⟨j + 1, by omega, by go_num, hB⟩
      case measure => simp [intOf]; omega
    · have hkn : j = n := by omega
      clear hc hc'
      go_wp2
      go_ret
      exact ⟨rfl, hB⟩
end Go.Proofs.YtaiffofmhfflkaaGreat
namespace Go.Proofs.YtaiffofmhfflkaaGreat
open Go.ChangeShapes Go.WideShapes Go.ChangeAt Go.RowKit Go.BigFrame Go.Joins
set_option linter.unusedVariables false
set_option maxRecDepth 100000
set_option linter.unusedSimpArgs false
set_option maxRecDepth 100000

/-- a fabric -/
structure Fb where
  nodes : List Nd
  links : List Lk
  width : Int
def wtF (x : Fb) : Nat := (x.nodes.length + wtNS x.nodes) + (x.links.length + wtLS x.links)
def RdF (w : World) (nv lv : Value) (x : Fb) : Prop := RdNS w nv x.nodes ∧ RdLS w lv x.links
theorem RdF.keep {w w' : World} {nv lv : Value} {x : Fb} (h : RdF w nv lv x) (hb : Below w.heap.size w w') : RdF w' nv lv x := ⟨h.1.keep hb, h.2.keep hb⟩
def Is_Fabric (W : World) (v : Value) : Prop := ∃ (x : Fb) (nv lv : Value), v = .agg #[nv, lv, .int .i64 x.width] ∧ RdF W nv lv x
theorem array3F {α : Type} {xs : Array α} (h : xs.size = 3) : ∃ c0 c1 c2, xs = #[c0, c1, c2] := by
  obtain ⟨l⟩ := xs
  match l, h with
  | [c0, c1, c2], _ => exact ⟨c0, c1, c2, rfl⟩
theorem list3F {α : Type} {xs : List α} (h : xs.length = 3) : ∃ c0 c1 c2, xs = [c0, c1, c2] := by
  match xs, h with
  | [c0, c1, c2], _ => exact ⟨c0, c1, c2, rfl⟩
section
variable {H : Type} {enc : TypeId × Value → H} {W : World} {base : Nat} {d : DataW H} {p : List MemPlace} {v : Value}
theorem cellsF3 : Tryz.prog.cellsOf 43 = 3 := by kernel_rfl
theorem cellsNS1 : Tryz.prog.cellsOf 40 = 1 := by kernel_rfl
theorem cellsLS1 : Tryz.prog.cellsOf 41 = 1 := by kernel_rfl
theorem is_Fabric (hv : Value.okWide Tryz.prog W .any base 43 v) (h : DataW.Trod enc Tryz.prog W 0 (fun _ => true) true 43 v d p) : Is_Fabric W v := by
  obtain ⟨cs, rfl, hsz⟩ := okWide_struct Tryz.underlying43 hv
  rw [cellsF3] at hsz
  obtain ⟨c0, c1, c2, rfl⟩ := array3F hsz
  obtain ⟨fuel, hf⟩ := h
  obtain ⟨ys, n, _, hx, hl, hlen, hf⟩ := DataW.trod_struct Tryz.underlying43 hf
  obtain ⟨y0, y1, y2, rfl⟩ := list3F hlen
  have h0 := hf 0 _ rfl
  have h1 := hf 1 _ rfl
  have h2 := hf 2 _ rfl
  clear hf
  simp [Value.cells, cellsI1e, cellsNS1, cellsLS1] at h0 h1 h2
  obtain ⟨x2, e2, -, -⟩ := DataW.trod_int Tryz.underlying3 h2
  obtain ⟨l0, g0⟩ := rdNS_trod h0
  obtain ⟨l1, g1⟩ := rdLS_trod h1
  simp at e2
  subst e2
  exact ⟨⟨l0, l1, x2⟩, c0, c1, rfl, g0, g1⟩
end
set_option maxHeartbeats 1000000 in
theorem szFabric_l (nv lv : Value) (x : Fb) (w : World) (h : RdF w nv lv x) :
    Calls Tryz.prog 17 #[.agg #[nv, lv, .int .i64 x.width], .int .i64 1048576] w fun e w' => ∃ r : Int, e = .returned (.int .i64 r) ∧ (¬ r < 0 → wtF x ≤ 1048576) ∧ Below w.heap.size w w' := by
  obtain ⟨bA, B0, z⟩ := one w [nv, lv, .int .i64 x.width] 43
  replace h := h.keep B0
  clear z
  have a0 := bA.c 0 rfl
  go_enter Tryz.func17, Tryz.ntmps17
  go_wp2_with fail
  clear a0
  refine (szNS_l nv x.nodes 1048576 _ (h.1) (by omega) (by omega)).mono ?_
  rintro e w1 ⟨r0, rfl, hr0, hm0, hb⟩
  replace bA := bA.keep hb
  replace h := h.keep hb
  replace B0 := below_step B0 hb
  have HR0 := Lib.hid hr0
  clear hb hr0 hm0
  by_cases hn0 : r0 < 0
  · go_wp2
    go_ret
    exact ⟨-1, rfl, fun h => by omega, B0⟩
  · have hu0 : r0 ≤ 1048576 := by have := HR0.out hn0; omega
    have a1 := bA.c 1 rfl
    go_wp2_with fail
    clear a1
    refine (szLS_l lv x.links r0 _ (h.2) (by omega) (by omega)).mono ?_
    rintro e w2 ⟨r1, rfl, hr1, hm1, hb⟩
    replace bA := bA.keep hb
    replace h := h.keep hb
    replace B0 := below_step B0 hb
    have HR1 := Lib.hid hr1
    clear hb hr1 hm1
    by_cases hn1 : r1 < 0
    · go_wp2
      go_ret
      exact ⟨-1, rfl, fun h => by omega, B0⟩
    · go_wp2
      go_ret
      refine ⟨r1, rfl, fun _ => ?_, B0⟩
      have e0 := HR0.out hn0
      have e1 := HR1.out (by omega)
      unfold wtF
      omega
set_option maxHeartbeats 2000000 in
theorem toFabric_f (s0 s1 : Value) (x : Fb) (w : World) (h : RdF w s0 s1 x) (hw : wtF x ≤ 1048576) :
    Calls Tryz.prog 19 #[.agg #[s0, s1, .int .i64 x.width]] w fun e w' => ∃ s0 s1, e = .returned (.agg #[s0, s1, .int .i64 x.width]) ∧ Fresh w.heap.size w' (fun W => RdF W s0 s1 x) ∧ Below w.heap.size w w' := by
  unfold wtF at hw
  obtain ⟨bA, bR, bO, B1, z⟩ := three w [s0, s1, .int .i64 x.width] [.slice none 0 0, .slice none 0 0, .int .i64 0] [.slice none 0 0, .slice none 0 0, .int .i64 0] 43 49 49
  have a0 := bA.c 0 rfl
  go_enter Tryz.func19, Tryz.ntmps19
  go_wp2_with fail
  clear a0
  refine (toNS_f s0 x.nodes _ (h.1.keep B1) (by omega)).mono ?_
  rintro e w1 ⟨u0, rfl, f0, hb⟩
  obtain ⟨p0, q0, rfl⟩ := f0.now.len
  have hs := hb.size
  rw [z] at f0 hs
  replace bA := bA.keep hb
  replace bR := bR.keep hb
  replace bO := bO.keep hb
  replace B1 := below_step B1 hb
  clear hb
  clear z
  obtain ⟨A, hA⟩ : ∃ A, A = w.heap.size := ⟨_, rfl⟩
  obtain ⟨R, hR⟩ : ∃ R, R = w.heap.size + 1 := ⟨_, rfl⟩
  obtain ⟨O, hO⟩ : ∃ O, O = w.heap.size + 1 + 1 := ⟨_, rfl⟩
  rw [← hA] at bA
  rw [← hR] at bR
  rw [← hO] at bO
  rw [← hO, ← hR]
  try rw [← hA]
  have hO3 : O < w.heap.size + 3 := by omega
  have hRO : R ≠ O := by omega
  have hR3 : R < w.heap.size + 3 := by omega
  have hAO : A ≠ O := by omega
  have hwO : w.heap.size ≤ O := by omega
  have hwR : w.heap.size ≤ R := by omega
  clear hA hR hO
  have o0 := bO.c 0 rfl
  have of0 := bO.f 0 rfl
  have a1 := bA.c 1 rfl
  go_wp2_with fail
  clear o0 of0 a1
  replace hs := Nat.le_trans hs (grown_set _ O 0 (.slice p0 x.nodes.length q0)).size
  replace bA := bA.far (o := 0) (u := .slice p0 x.nodes.length q0) hAO
  replace bR := bR.far (o := 0) (u := .slice p0 x.nodes.length q0) hRO
  replace bO := bO.set 0 (.slice p0 x.nodes.length q0)
  replace f0 := f0.far (o := 0) (u := .slice p0 x.nodes.length q0) hO3
  replace B1 := B1.setCell (p := ⟨O, 0, none⟩) hwO (.slice p0 x.nodes.length q0)
  refine (toLS_f s1 x.links _ (h.2.keep B1) (by omega)).mono ?_
  rintro e w2 ⟨u1, rfl, f1, hb⟩
  obtain ⟨p1, q1, rfl⟩ := f1.now.len
  replace f1 := f1.mono hs
  replace hs := Nat.le_trans hs hb.size
  replace bA := bA.keep hb
  replace bR := bR.keep hb
  replace bO := bO.keep hb
  replace f0 := f0.keep hb
  replace B1 := below_step B1 hb
  clear hb
  have o0 := bO.c 0 rfl
  have of0 := bO.f 0 rfl
  have o1 := bO.c 1 rfl
  have of1 := bO.f 1 rfl
  have o2 := bO.c 2 rfl
  have of2 := bO.f 2 rfl
  have r0 := bR.c 0 rfl
  have rf0 := bR.f 0 rfl
  have r1 := bR.c 1 rfl
  have rf1 := bR.f 1 rfl
  have r2 := bR.c 2 rfl
  have rf2 := bR.f 2 rfl
  have a2 := bA.c 2 rfl
  go_wp2_with fail
  have bE := (((((bR.far (o := 1) (u := .slice p1 x.links.length q1) hRO).far (o := 2) (u := .int .i64 x.width) hRO).set 0 (.slice p0 x.nodes.length q0)).set 1 (.slice p1 x.links.length q1)).set 2 (.int .i64 x.width))
  have e0 := bE.c 0 rfl
  have e1 := bE.c 1 rfl
  have e2 := bE.c 2 rfl
  have g0 := (((((f0.far (o := 1) (u := .slice p1 x.links.length q1) hO3).far (o := 2) (u := .int .i64 x.width) hO3).far (o := 0) (u := .slice p0 x.nodes.length q0) hR3).far (o := 1) (u := .slice p1 x.links.length q1) hR3).far (o := 2) (u := .int .i64 x.width) hR3)
  have g1 := (((((f1.far (o := 1) (u := .slice p1 x.links.length q1) hO3).far (o := 2) (u := .int .i64 x.width) hO3).far (o := 0) (u := .slice p0 x.nodes.length q0) hR3).far (o := 1) (u := .slice p1 x.links.length q1) hR3).far (o := 2) (u := .int .i64 x.width) hR3)
  exact bodyPost_ret (v := .agg #[.slice p0 x.nodes.length q0, .slice p1 x.links.length q1, .int .i64 x.width]) (by simp [results, Tryz.results19, go_sem, e0, e1, e2]) rfl
    ⟨_, _, rfl, fun W k => ⟨g0 W (k.up (by omega)), g1 W (k.up (by omega))⟩, (((((B1.setCell (p := ⟨O, 1, none⟩) hwO (.slice p1 x.links.length q1)).setCell (p := ⟨O, 2, none⟩) hwO (.int .i64 x.width)).setCell (p := ⟨R, 0, none⟩) hwR (.slice p0 x.nodes.length q0)).setCell (p := ⟨R, 1, none⟩) hwR (.slice p1 x.links.length q1)).setCell (p := ⟨R, 2, none⟩) hwR (.int .i64 x.width))⟩
theorem eqF_same (nv lv nv2 lv2 : Value) (x : Fb) (w : World) (h : RdF w nv lv x) (h2 : RdF w nv2 lv2 x) :
    Calls Tryz.prog 21 #[.agg #[nv, lv, .int .i64 x.width], .agg #[nv2, lv2, .int .i64 x.width]] w fun e w' => e = .returned (.bool true) ∧ Below w.heap.size w w' := by
  obtain ⟨bA, bB, B1, z⟩ := two w [nv, lv, .int .i64 x.width] [nv2, lv2, .int .i64 x.width] 49 49
  replace h := h.keep B1
  replace h2 := h2.keep B1
  clear z
  have q2 : (x.width != x.width) = false := by simp
  have a0 := bA.c 0 rfl
  have b0 := bB.c 0 rfl
  go_enter Tryz.func21, Tryz.ntmps21
  go_wp2_with fail
  refine (eqNS_same _ _ x.nodes _ (h.1) (h2.1)).mono ?_
  rintro e w1 ⟨rfl, hb⟩
  replace bA := bA.keep hb
  replace bB := bB.keep hb
  replace h := h.keep hb
  replace h2 := h2.keep hb
  replace B1 := below_step B1 hb
  clear hb a0 b0
  have a1 := bA.c 1 rfl
  have b1 := bB.c 1 rfl
  go_wp2_with fail
  refine (eqLS_same _ _ x.links _ (h.2) (h2.2)).mono ?_
  rintro e w2 ⟨rfl, hb⟩
  replace bA := bA.keep hb
  replace bB := bB.keep hb
  replace h := h.keep hb
  replace h2 := h2.keep hb
  replace B1 := below_step B1 hb
  clear hb a1 b1
  have a2 := bA.c 2 rfl
  have b2 := bB.c 2 rfl
  go_wp2
  go_ret
  exact ⟨rfl, B1⟩
end Go.Proofs.YtaiffofmhfflkaaGreat
namespace Go.Proofs.YtaiffofmhfflkaaGreat
open Go.ChangeShapes Go.WideShapes Go.ChangeAt Go.RowKit Go.BigFrame Go.Joins
set_option linter.unusedVariables false
set_option maxRecDepth 100000

/-- a slice of ints: its length, and its elements where there are any -/
theorem RdI.el {w : World} {v : Value} {l : List Int} (h : RdI w v l) : ∃ a c, v = .slice a l.length c ∧ ∀ i, i < l.length → ∃ b o, a = some ⟨b, o, none⟩ ∧ w.cell? ⟨b, o + i, none⟩ = some (.int .i64 (l.getD i 0)) := by
  rcases h.2.2 with ⟨a, c, rfl, rfl, hac⟩ | ⟨b, o, c, rfl, hp, hc⟩
  · exact ⟨a, c, rfl, fun i hi => by simp at hi⟩
  · exact ⟨_, c, rfl, fun i hi => ⟨b, o, rfl, hc i hi⟩⟩
def inB (n lo hi : Int) : Bool := decide (lo ≤ n ∧ n ≤ hi)
def asB (n : Int) : Bool := inB n 1 65535
def numsB (l : List Int) : Bool := decide (∀ i, i < l.length → asB (l.getD i 0) = true)
def ascB (l : List Int) : Bool := decide (∀ i, i < l.length - 1 → l.getD i 0 < l.getD (i + 1) 0)
def aokB (p : List Int) (pr : Int) (c : List Int) (bw : Int) : Bool :=
  decide (p.length ≤ 8) && numsB p && inB pr 0 1000 && inB bw 0 1000 && (decide (c.length ≤ 4) && numsB c) && ascB c

theorem within_any (n lo hi : Int) (w : World) : Calls Tryz.prog 63 #[.int .i64 n, .int .i64 lo, .int .i64 hi] w fun e w' => e = .returned (.bool (inB n lo hi)) ∧ w = w' := by
  by_cases h0 : lo ≤ n
  all_goals
    go_enter Tryz.func63, Tryz.ntmps63
    go_wp2
    go_ret
    exact ⟨ret_bool (by unfold inB; first | (congr 1; simp; omega) | (simp; omega)), rfl⟩
theorem sas_any (n : Int) (w : World) : Calls Tryz.prog 102 #[.int .i64 n] w fun e w' => e = .returned (.bool (asB n)) ∧ w = w' := by
  by_cases h0 : 1 ≤ n
  all_goals
    go_enter Tryz.func102, Tryz.ntmps102
    go_wp2
    go_ret
    exact ⟨ret_bool (by unfold asB inB; first | (congr 1; simp; omega) | (simp; omega)), rfl⟩
theorem numok_any (n : Int) (w : World) : Calls Tryz.prog 125 #[.int .i64 n] w fun e w' => e = .returned (.bool (asB n)) ∧ w = w' := by
  go_enter Tryz.func125, Tryz.ntmps125
  go_wp2_with fail
  refine (within_any n 1 65535 _).mono ?_
  rintro e w1 ⟨rfl, rfl⟩
  go_wp2
  go_ret
  exact ⟨rfl, rfl⟩
theorem nums_any (v : Value) (l : List Int) (most : Int) (w : World) (h : RdI w v l) :
    Calls Tryz.prog 209 #[v, .int .i64 most] w fun e w' => e = .returned (.bool (decide ((l.length : Int) ≤ most) && numsB l)) ∧ Below w.heap.size w w' := by
  have hm := h.2.1
  unfold maxLen at hm
  obtain ⟨a, c, rfl, hc⟩ := h.el
  have hb := getD_bd_I h.1
  obtain ⟨n, hn⟩ : ∃ n, n = l.length := ⟨_, rfl⟩
  rw [← hn] at hc hm ⊢
  have HN := Lib.hid hn
  clear h hn
  by_cases hmost : (n : Int) ≤ most
  · have e : decide ((n : Int) ≤ most) = true := by simp [hmost]
    rw [e, Bool.true_and]
    clear e
    go_enter Tryz.func209, Tryz.ntmps209
    go_wp2
    go_loop [13] (fun q => ∃ k : Nat, k ≤ n ∧ q = .int .i64 k ∧ ∀ i, i < k → asB (l.getD i 0) = true) (fun q => n - (intOf q).toNat)
    case atStart => exact ⟨0, Nat.zero_le _, rfl, fun i hi => by omega⟩
    case round =>
      obtain ⟨k, hk, rfl, hall⟩ := hrel
      have HA := Lib.hid hall
      clear hall
      by_cases hlt : k < n
      · have hltI : (k : Int) < (n : Int) := by omega
        obtain ⟨b, o, rfl, e1⟩ := hc k hlt
        obtain ⟨x, hx⟩ : ∃ x, l.getD k 0 = x := ⟨_, rfl⟩
        rw [hx] at e1
        have HX := Lib.hid hx
        clear hx hc hb
        cases has : asB x
        · have hno : numsB l = false := by
            unfold numsB
            simp only [decide_eq_false_iff_not]
            intro h
            have := h k (by rw [← HN.out]; exact hlt)
            rw [HX.out, has] at this
            cases this
          have HF := Lib.hid hno
          have HS := Lib.hid has
          clear hno has
          go_wp2_with fail
          refine (numok_any x _).mono ?_
          rintro e w1 ⟨rfl, rfl⟩
          rw [HS.out]
          go_wp2
          go_ret
          exact ⟨ret_bool HF.out.symm, Below.refl _ _⟩
        · have HS := Lib.hid has
          clear has
          go_wp2_with fail
          refine (numok_any x _).mono ?_
          rintro e w1 ⟨rfl, rfl⟩
          rw [HS.out]
          go_wp2
          go_round
          case rel => exact ⟨k + 1, by omega, by go_num, fun i hi => by
            by_cases e : i = k
            · rw [e, HX.out]; exact HS.out
            · exact HA.out i (by omega)⟩
          case measure => simp [intOf]; omega
      · have hkn : k = n := by omega
        have hyes : numsB l = true := by
          unfold numsB
          simp only [decide_eq_true_eq]
          intro i hi
          exact HA.out i (by rw [hkn, HN.out]; exact hi)
        have HF := Lib.hid hyes
        clear hyes hkn hc hb
        go_wp2
        go_ret
        exact ⟨ret_bool HF.out.symm, Below.refl _ _⟩
  · have e : (decide ((n : Int) ≤ most) && numsB l) = false := by simp [hmost]
    rw [e]
    clear e
    go_enter Tryz.func209, Tryz.ntmps209
    go_wp2
    go_ret
    exact ⟨rfl, Below.refl _ _⟩
theorem asc_any (v : Value) (l : List Int) (w : World) (h : RdI w v l) :
    Calls Tryz.prog 210 #[v] w fun e w' => e = .returned (.bool (ascB l)) ∧ Below w.heap.size w w' := by
  have hm := h.2.1
  unfold maxLen at hm
  obtain ⟨a, c, rfl, hc⟩ := h.el
  obtain ⟨n, hn⟩ : ∃ n, n = l.length := ⟨_, rfl⟩
  rw [← hn] at hc hm ⊢
  have HN := Lib.hid hn
  clear h hn
  go_enter Tryz.func210, Tryz.ntmps210
  go_wp2
  go_loopw [3] (fun q wr => ∃ k : Nat, (k + 1 ≤ n ∨ k = 0) ∧ q = .int .i64 ((k : Int) + 1) ∧ (∀ i, i < k → l.getD i 0 < l.getD (i + 1) 0) ∧ Below w.heap.size w wr) (fun q _ => n + 1 - (intOf q).toNat)
  case atStart => exact ⟨0, .inr rfl, rfl, fun i hi => by omega, Below.refl _ _⟩
  case round =>
    obtain ⟨k, hk, rfl, hall, hB⟩ := hrel
    have HA := Lib.hid hall
    clear hall
    by_cases hlt : k + 1 < n
    · have hltI : (k : Int) + 1 < (n : Int) := by omega
      obtain ⟨b, o, hae, e1⟩ := hc k (by omega)
      obtain ⟨b', o', hae', e2⟩ := hc (k + 1) hlt
      rw [hae] at hae'
      injection hae' with hae'
      injection hae' with hb1 ho1
      subst hb1 ho1 hae
      replace e1 := cell_keep hB (World.block_lt_of_cell? w _ e1) e1
      replace e2 := cell_keep hB (World.block_lt_of_cell? w _ e2) e2
      obtain ⟨x, hx⟩ : ∃ x, l.getD k 0 = x := ⟨_, rfl⟩
      obtain ⟨y, hy⟩ : ∃ y, l.getD (k + 1) 0 = y := ⟨_, rfl⟩
      rw [hx] at e1
      rw [hy] at e2
      have HX := Lib.hid hx
      have HY := Lib.hid hy
      clear hx hy hc
      by_cases hxy : x < y
      · have hge : decide (y ≤ x) = false := by simp; omega
        have HL := Lib.hid hxy
        clear hxy
        go_wp2
        go_quiet (fail)
        go_wp2
        go_roundw
        case rel => exact ⟨k + 1, .inl (by omega), by go_num, fun i hi => by
            by_cases e : i = k
            · rw [e, HX.out, HY.out]; exact HL.out
            · exact HA.out i (by omega), hB.trans ⟨rfl, rfl, rfl, Nat.le_refl _, fun _ _ => rfl⟩⟩
        case measure => simp [intOf]; omega
      · have hge : decide (y ≤ x) = true := by simp; omega
        have hno : ascB l = false := by
          unfold ascB
          simp only [decide_eq_false_iff_not]
          intro h
          have := h k (by rw [← HN.out]; omega)
          rw [HX.out, HY.out] at this
          exact hxy this
        have HF := Lib.hid hno
        clear hno hxy
        go_wp2
        go_quiet (fail)
        go_wp2
        go_ret
        exact ⟨ret_bool HF.out.symm, hB.trans ⟨rfl, rfl, rfl, Nat.le_refl _, fun _ _ => rfl⟩⟩
    · have hltI : ¬ ((k : Int) + 1 < (n : Int)) := by omega
      have hyes : ascB l = true := by
        unfold ascB
        simp only [decide_eq_true_eq]
        intro i hi
        exact HA.out i (by rw [← HN.out] at hi; omega)
      have HF := Lib.hid hyes
      clear hyes hc
      go_wp2
      go_ret
      exact ⟨ret_bool HF.out.symm, hB⟩
end Go.Proofs.YtaiffofmhfflkaaGreat
namespace Go.Proofs.YtaiffofmhfflkaaGreat
open Go.ChangeShapes Go.WideShapes Go.ChangeAt Go.RowKit Go.BigFrame Go.Joins
set_option linter.unusedVariables false
set_option maxRecDepth 100000

theorem nums_t {v : Value} {l : List Int} {most : Int} {b : Bool} (w : World) (h : RdI w v l) (H : Hid ((decide ((l.length : Int) ≤ most) && numsB l) = b)) :
    Calls Tryz.prog 209 #[v, .int .i64 most] w fun e w' => e = .returned (.bool b) ∧ Below w.heap.size w w' := H.out ▸ nums_any v l most w h
theorem asc_t {v : Value} {l : List Int} {b : Bool} (w : World) (h : RdI w v l) (H : Hid (ascB l = b)) :
    Calls Tryz.prog 210 #[v] w fun e w' => e = .returned (.bool b) ∧ Below w.heap.size w w' := H.out ▸ asc_any v l w h
theorem within_t {n lo hi : Int} {b : Bool} (w : World) (H : Hid (inB n lo hi = b)) : Calls Tryz.prog 63 #[.int .i64 n, .int .i64 lo, .int .i64 hi] w fun e w' => e = .returned (.bool b) ∧ w = w' := H.out ▸ within_any n lo hi w
theorem iaok_any (pv cv : Value) (p c : List Int) (pr bw : Int) (w : World) (hp : RdI w pv p) (hc : RdI w cv c) :
    Calls Tryz.prog 195 #[.agg #[pv, .int .i64 pr, cv, .int .i64 bw]] w fun e w' => e = .returned (.bool (aokB p pr c bw)) ∧ Below w.heap.size w w' := by
  obtain ⟨c0, c1, c2, c3, lt, B0⟩ := box4 w pv (.int .i64 pr) cv (.int .i64 bw) 133
  have hp1 := hp.alloc (.cells #[pv, .int .i64 pr, cv, .int .i64 bw] 133)
  have hc1 := hc.alloc (.cells #[pv, .int .i64 pr, cv, .int .i64 bw] 133)
  have hE : aokB p pr c bw = ((decide ((p.length : Int) ≤ 8) && numsB p) && inB pr 0 1000 && inB bw 0 1000 && (decide ((c.length : Int) ≤ 4) && numsB c) && ascB c) := by
    have q8 : decide ((p.length : Int) ≤ 8) = decide (p.length ≤ 8) := by congr 1; simp; omega
    have q4 : decide ((c.length : Int) ≤ 4) = decide (c.length ≤ 4) := by congr 1; simp; omega
    unfold aokB
    rw [q8, q4]
  rw [hE]
  clear hE
  cases h0 : (decide ((p.length : Int) ≤ 8) && numsB p)
  · rw [show (false && inB pr 0 1000 && inB bw 0 1000 && (decide ((c.length : Int) ≤ 4) && numsB c) && ascB c) = false from rfl]
    have H0 := Lib.hid h0
    clear h0
    go_enter Tryz.func195, Tryz.ntmps195
    go_wp2_with fail
    refine (nums_t _ hp1 H0).mono ?_
    rintro e w1 ⟨rfl, hb⟩
    replace c0 := cell_keep hb lt c0
    replace c1 := cell_keep hb lt c1
    replace c2 := cell_keep hb lt c2
    replace c3 := cell_keep hb lt c3
    replace lt := Nat.lt_of_lt_of_le lt hb.size
    replace hp1 := hp1.keep hb
    replace hc1 := hc1.keep hb
    replace B0 := below_step B0 hb
    clear hb
    go_wp2
    go_ret
    exact ⟨rfl, B0⟩
  · rw [show (true && inB pr 0 1000 && inB bw 0 1000 && (decide ((c.length : Int) ≤ 4) && numsB c) && ascB c) = (inB pr 0 1000 && inB bw 0 1000 && (decide ((c.length : Int) ≤ 4) && numsB c) && ascB c) from rfl]
    have H0 := Lib.hid h0
    clear h0
    cases h1 : inB pr 0 1000
    · rw [show (false && inB bw 0 1000 && (decide ((c.length : Int) ≤ 4) && numsB c) && ascB c) = false from rfl]
      have H1 := Lib.hid h1
      clear h1
      go_enter Tryz.func195, Tryz.ntmps195
      go_wp2_with fail
      refine (nums_t _ hp1 H0).mono ?_
      rintro e w1 ⟨rfl, hb⟩
      replace c0 := cell_keep hb lt c0
      replace c1 := cell_keep hb lt c1
      replace c2 := cell_keep hb lt c2
      replace c3 := cell_keep hb lt c3
      replace lt := Nat.lt_of_lt_of_le lt hb.size
      replace hp1 := hp1.keep hb
      replace hc1 := hc1.keep hb
      replace B0 := below_step B0 hb
      clear hb
      go_wp2_with fail
      refine (within_t _ H1).mono ?_
      rintro e w2 ⟨rfl, rfl⟩
      go_wp2
      go_ret
      exact ⟨rfl, B0⟩
    · rw [show (true && inB bw 0 1000 && (decide ((c.length : Int) ≤ 4) && numsB c) && ascB c) = (inB bw 0 1000 && (decide ((c.length : Int) ≤ 4) && numsB c) && ascB c) from rfl]
      have H1 := Lib.hid h1
      clear h1
      cases h2 : inB bw 0 1000
      · rw [show (false && (decide ((c.length : Int) ≤ 4) && numsB c) && ascB c) = false from rfl]
        have H2 := Lib.hid h2
        clear h2
        go_enter Tryz.func195, Tryz.ntmps195
        go_wp2_with fail
        refine (nums_t _ hp1 H0).mono ?_
        rintro e w1 ⟨rfl, hb⟩
        replace c0 := cell_keep hb lt c0
        replace c1 := cell_keep hb lt c1
        replace c2 := cell_keep hb lt c2
        replace c3 := cell_keep hb lt c3
        replace lt := Nat.lt_of_lt_of_le lt hb.size
        replace hp1 := hp1.keep hb
        replace hc1 := hc1.keep hb
        replace B0 := below_step B0 hb
        clear hb
        go_wp2_with fail
        refine (within_t _ H1).mono ?_
        rintro e w2 ⟨rfl, rfl⟩
        go_wp2_with fail
        refine (within_t _ H2).mono ?_
        rintro e w3 ⟨rfl, rfl⟩
        go_wp2
        go_ret
        exact ⟨rfl, B0⟩
      · rw [show (true && (decide ((c.length : Int) ≤ 4) && numsB c) && ascB c) = ((decide ((c.length : Int) ≤ 4) && numsB c) && ascB c) from rfl]
        have H2 := Lib.hid h2
        clear h2
        cases h3 : (decide ((c.length : Int) ≤ 4) && numsB c)
        · rw [show (false && ascB c) = false from rfl]
          have H3 := Lib.hid h3
          clear h3
          go_enter Tryz.func195, Tryz.ntmps195
          go_wp2_with fail
          refine (nums_t _ hp1 H0).mono ?_
          rintro e w1 ⟨rfl, hb⟩
          replace c0 := cell_keep hb lt c0
          replace c1 := cell_keep hb lt c1
          replace c2 := cell_keep hb lt c2
          replace c3 := cell_keep hb lt c3
          replace lt := Nat.lt_of_lt_of_le lt hb.size
          replace hp1 := hp1.keep hb
          replace hc1 := hc1.keep hb
          replace B0 := below_step B0 hb
          clear hb
          go_wp2_with fail
          refine (within_t _ H1).mono ?_
          rintro e w2 ⟨rfl, rfl⟩
          go_wp2_with fail
          refine (within_t _ H2).mono ?_
          rintro e w3 ⟨rfl, rfl⟩
          go_wp2_with fail
          refine (nums_t _ hc1 H3).mono ?_
          rintro e w4 ⟨rfl, hb⟩
          replace c0 := cell_keep hb lt c0
          replace c1 := cell_keep hb lt c1
          replace c2 := cell_keep hb lt c2
          replace c3 := cell_keep hb lt c3
          replace lt := Nat.lt_of_lt_of_le lt hb.size
          replace hp1 := hp1.keep hb
          replace hc1 := hc1.keep hb
          replace B0 := below_step B0 hb
          clear hb
          go_wp2
          go_ret
          exact ⟨rfl, B0⟩
        · rw [show (true && ascB c) = (ascB c) from rfl]
          have H3 := Lib.hid h3
          clear h3
          cases h4 : ascB c
          · have H4 := Lib.hid h4
            clear h4
            go_enter Tryz.func195, Tryz.ntmps195
            go_wp2_with fail
            refine (nums_t _ hp1 H0).mono ?_
            rintro e w1 ⟨rfl, hb⟩
            replace c0 := cell_keep hb lt c0
            replace c1 := cell_keep hb lt c1
            replace c2 := cell_keep hb lt c2
            replace c3 := cell_keep hb lt c3
            replace lt := Nat.lt_of_lt_of_le lt hb.size
            replace hp1 := hp1.keep hb
            replace hc1 := hc1.keep hb
            replace B0 := below_step B0 hb
            clear hb
            go_wp2_with fail
            refine (within_t _ H1).mono ?_
            rintro e w2 ⟨rfl, rfl⟩
            go_wp2_with fail
            refine (within_t _ H2).mono ?_
            rintro e w3 ⟨rfl, rfl⟩
            go_wp2_with fail
            refine (nums_t _ hc1 H3).mono ?_
            rintro e w4 ⟨rfl, hb⟩
            replace c0 := cell_keep hb lt c0
            replace c1 := cell_keep hb lt c1
            replace c2 := cell_keep hb lt c2
            replace c3 := cell_keep hb lt c3
            replace lt := Nat.lt_of_lt_of_le lt hb.size
            replace hp1 := hp1.keep hb
            replace hc1 := hc1.keep hb
            replace B0 := below_step B0 hb
            clear hb
            go_wp2_with fail
            refine (asc_t _ hc1 H4).mono ?_
            rintro e w5 ⟨rfl, hb⟩
            replace c0 := cell_keep hb lt c0
            replace c1 := cell_keep hb lt c1
            replace c2 := cell_keep hb lt c2
            replace c3 := cell_keep hb lt c3
            replace lt := Nat.lt_of_lt_of_le lt hb.size
            replace hp1 := hp1.keep hb
            replace hc1 := hc1.keep hb
            replace B0 := below_step B0 hb
            clear hb
            go_wp2
            go_ret
            exact ⟨rfl, B0⟩
          · have H4 := Lib.hid h4
            clear h4
            go_enter Tryz.func195, Tryz.ntmps195
            go_wp2_with fail
            refine (nums_t _ hp1 H0).mono ?_
            rintro e w1 ⟨rfl, hb⟩
            replace c0 := cell_keep hb lt c0
            replace c1 := cell_keep hb lt c1
            replace c2 := cell_keep hb lt c2
            replace c3 := cell_keep hb lt c3
            replace lt := Nat.lt_of_lt_of_le lt hb.size
            replace hp1 := hp1.keep hb
            replace hc1 := hc1.keep hb
            replace B0 := below_step B0 hb
            clear hb
            go_wp2_with fail
            refine (within_t _ H1).mono ?_
            rintro e w2 ⟨rfl, rfl⟩
            go_wp2_with fail
            refine (within_t _ H2).mono ?_
            rintro e w3 ⟨rfl, rfl⟩
            go_wp2_with fail
            refine (nums_t _ hc1 H3).mono ?_
            rintro e w4 ⟨rfl, hb⟩
            replace c0 := cell_keep hb lt c0
            replace c1 := cell_keep hb lt c1
            replace c2 := cell_keep hb lt c2
            replace c3 := cell_keep hb lt c3
            replace lt := Nat.lt_of_lt_of_le lt hb.size
            replace hp1 := hp1.keep hb
            replace hc1 := hc1.keep hb
            replace B0 := below_step B0 hb
            clear hb
            go_wp2_with fail
            refine (asc_t _ hc1 H4).mono ?_
            rintro e w5 ⟨rfl, hb⟩
            replace c0 := cell_keep hb lt c0
            replace c1 := cell_keep hb lt c1
            replace c2 := cell_keep hb lt c2
            replace c3 := cell_keep hb lt c3
            replace lt := Nat.lt_of_lt_of_le lt hb.size
            replace hp1 := hp1.keep hb
            replace hc1 := hc1.keep hb
            replace B0 := below_step B0 hb
            clear hb
            go_wp2
            go_ret
            exact ⟨rfl, B0⟩
end Go.Proofs.YtaiffofmhfflkaaGreat
namespace Go.Proofs.YtaiffofmhfflkaaGreat
open Go.ChangeShapes Go.WideShapes Go.ChangeAt Go.RowKit Go.BigFrame Go.Joins
set_option linter.unusedVariables false
set_option maxRecDepth 100000

theorem nums_no {l : List Int} {k : Nat} {x : Int} (hk : k < l.length) (hx : l.getD k 0 = x) (h : asB x = false) : numsB l = false := by
  unfold numsB
  simp only [decide_eq_false_iff_not]
  intro g
  have := g k hk
  rw [hx, h] at this
  cases this
theorem nums_yes {l : List Int} {n : Nat} (hn : n = l.length) (h : ∀ i, i < n → asB (l.getD i 0) = true) : numsB l = true := by
  unfold numsB
  simp only [decide_eq_true_eq]
  intro i hi
  exact h i (by omega)
theorem asc_no {l : List Int} {k : Nat} {x y : Int} (hk : k + 1 < l.length) (hx : l.getD k 0 = x) (hy : l.getD (k + 1) 0 = y) (h : ¬ x < y) : ascB l = false := by
  unfold ascB
  simp only [decide_eq_false_iff_not]
  intro g
  have := g k (by omega)
  rw [hx, hy] at this
  exact h this
theorem asc_yes {l : List Int} {n : Nat} (hn : n = l.length) (h : ∀ i, i + 1 < n → l.getD i 0 < l.getD (i + 1) 0) : ascB l = true := by
  unfold ascB
  simp only [decide_eq_true_eq]
  intro i hi
  exact h i (by omega)
theorem all_succ {l : List Int} {k : Nat} {x : Int} (h : ∀ i, i < k → asB (l.getD i 0) = true) (hx : l.getD k 0 = x) (hs : asB x = true) : ∀ i, i < k + 1 → asB (l.getD i 0) = true := by
  intro i hi
  by_cases e : i = k
  · rw [e, hx]; exact hs
  · exact h i (by omega)
theorem sas_t {n : Int} {b : Bool} (w : World) (H : Hid (asB n = b)) : Calls Tryz.prog 102 #[.int .i64 n] w fun e w' => e = .returned (.bool b) ∧ w = w' := H.out ▸ sas_any n w
theorem aok_eq {p c : List Int} {pr bw : Int} (h1 : p.length ≤ 8) (h2 : c.length ≤ 4) (h3 : 0 ≤ pr) (h4 : pr ≤ 1000) (h5 : 0 ≤ bw) (h6 : bw ≤ 1000) : aokB p pr c bw = (numsB p && (numsB c && ascB c)) := by
  simp [aokB, inB, h1, h2, h3, h4, h5, h6, Bool.and_assoc]

set_option maxHeartbeats 1000000 in
theorem saok_any (pv cv : Value) (p c : List Int) (pr bw : Int) (w : World) (hp : RdI w pv p) (hc : RdI w cv c) :
    Calls Tryz.prog 174 #[.agg #[pv, .int .i64 pr, cv, .int .i64 bw]] w fun e w' => e = .returned (.bool (aokB p pr c bw)) ∧ Below w.heap.size w w' := by
  have hp1 := hp.alloc (.cells #[pv, .int .i64 pr, cv, .int .i64 bw] 133)
  have hc1 := hc.alloc (.cells #[pv, .int .i64 pr, cv, .int .i64 bw] 133)
  have hpm := hp.2.1
  have hcm := hc.2.1
  unfold maxLen at hpm hcm
  have pb := getD_bd_I hp.1
  have cb := getD_bd_I hc.1
  obtain ⟨pa, pc, rfl, hpe⟩ := hp1.el
  obtain ⟨ca, cc, rfl, hce⟩ := hc1.el
  obtain ⟨c0, c1, c2, c3, lt, B0⟩ := box4 w (.slice pa p.length pc) (.int .i64 pr) (.slice ca c.length cc) (.int .i64 bw) 133
  clear hp hc hp1 hc1
  by_cases h0 : p.length ≤ 8
  · have g0 : ¬ ((8 : Int) < (p.length : Int)) := by omega
    by_cases h1 : c.length ≤ 4
    · have g1 : ¬ ((4 : Int) < (c.length : Int)) := by omega
      by_cases h2 : 0 ≤ pr
      · have g2 : ¬ (pr < 0) := by omega
        by_cases h3 : pr ≤ 1000
        · have g3 : ¬ (1000 < pr) := by omega
          by_cases h4 : 0 ≤ bw
          · have g4 : ¬ (bw < 0) := by omega
            by_cases h5 : bw ≤ 1000
            · have g5 : ¬ (1000 < bw) := by omega
              rw [aok_eq h0 h1 h2 h3 h4 h5]
              clear h2 h3 h4 h5
              obtain ⟨n, hn⟩ : ∃ n, n = p.length := ⟨_, rfl⟩
              obtain ⟨m, hm⟩ : ∃ m, m = c.length := ⟨_, rfl⟩
              rw [← hn] at hpe hpm c0 c1 c2 c3 g0 h0 lt B0 ⊢
              rw [← hm] at hce hcm c0 c1 c2 c3 g1 h1 lt B0 hpe ⊢
              rw [← hn] at hce
              have HN := Lib.hid hn
              have HM := Lib.hid hm
              clear hn hm
              go_enter Tryz.func174, Tryz.ntmps174
              go_wp2
              clear g0 g1 g2 g3 g4 g5
              go_loop [3] (fun q => ∃ k : Nat, k ≤ n ∧ q = .int .i64 k ∧ ∀ i, i < k → asB (p.getD i 0) = true) (fun q => n - (intOf q).toNat)
              case atStart => exact ⟨0, Nat.zero_le _, rfl, fun i hi => by omega⟩
              case round =>
                obtain ⟨k, hk, rfl, hall⟩ := hrel
                have HA := Lib.hid hall
                clear hall
                by_cases hlt : k < n
                · have hltI : (k : Int) < (n : Int) := by omega
                  obtain ⟨b, o, rfl, e1⟩ := hpe k hlt
                  obtain ⟨x, hx⟩ : ∃ x, p.getD k 0 = x := ⟨_, rfl⟩
                  rw [hx] at e1
                  have HX := Lib.hid hx
                  clear hx hpe hce pb cb
                  cases has : asB x
                  · have HF := Lib.hid (nums_no (by rw [← HN.out]; exact hlt) HX.out has)
                    have HS := Lib.hid has
                    clear has
                    go_wp2_with fail
                    refine (sas_any x _).mono ?_
                    rintro e w1 ⟨rfl, rfl⟩
                    rw [HS.out]
                    go_wp2
                    go_ret
                    exact ⟨ret_bool (by rw [HF.out]; rfl), B0⟩
                  · have HS := Lib.hid has
                    clear has
                    go_wp2_with fail
                    refine (sas_any x _).mono ?_
                    rintro e w1 ⟨rfl, rfl⟩
                    rw [HS.out]
                    go_wp2
                    go_round
                    case rel => exact ⟨k + 1, by omega, by go_num, all_succ HA.out HX.out HS.out⟩
                    case measure => simp [intOf]; omega
                · have hkn : k = n := by omega
                  have hyes := nums_yes HN.out (by rw [← hkn]; exact HA.out)
                  have HY := Lib.hid hyes
                  clear hyes hkn hpe pb HA
                  go_wp2
                  go_loopw [4] (fun q wr => ∃ j : Nat, j ≤ m ∧ q = .int .i64 j ∧ (∀ i, i < j → asB (c.getD i 0) = true) ∧ (∀ i, i + 1 < j → c.getD i 0 < c.getD (i + 1) 0) ∧ wr.cell? ⟨w.heap.size, 2, none⟩ = some (.slice ca m cc) ∧ Over (w.alloc (.cells #[.slice pa n pc, .int .i64 pr, .slice ca m cc, .int .i64 bw] 133)) wr) (fun q _ => m - (intOf q).toNat)
                  case atStart => exact ⟨0, Nat.zero_le _, rfl, fun i hi => by omega, fun i hi => by omega, c2, over_refl _⟩
                  case round =>
                    obtain ⟨j, hj, rfl, hall, hasc, d2, hB⟩ := hrel
                    have HA := Lib.hid hall
                    have HB := Lib.hid hasc
                    clear hall hasc
                    by_cases hlt2 : j < m
                    · have hltJ : (j : Int) < (m : Int) := by omega
                      obtain ⟨b, o, hca, e1⟩ := hce j hlt2
                      obtain ⟨x, hx⟩ : ∃ x, c.getD j 0 = x := ⟨_, rfl⟩
                      rw [hx] at e1
                      replace e1 := over_cell hB (World.block_lt_of_cell? _ _ e1) e1
                      have HX := Lib.hid hx
                      clear hx cb
                      cases has : asB x
                      · have HF := Lib.hid (nums_no (by rw [← HM.out]; exact hlt2) HX.out has)
                        have HS := Lib.hid has
                        clear has hce
                        subst hca
                        go_wp2_with fail
                        go_quiet ((go_at_call 102; exact q_of (sas_t _ HS)))
                        go_wp2
                        go_ret
                        exact ⟨ret_bool (by rw [HY.out, HF.out]; rfl), below_step B0 (below_drewN hB _)⟩
                      · have HS := Lib.hid has
                        clear has
                        by_cases hj0 : j = 0
                        · have hnj : ¬ 0 < j := by omega
                          have HJ := Lib.hid hj0
                          clear hce hj0
                          subst hca
                          go_wp2_with fail
                          go_quiet ((go_at_call 102; exact q_of (sas_t _ HS)))
                          go_wp2
                          go_roundw
                          case rel => exact ⟨j + 1, by omega, by go_num, all_succ HA.out HX.out HS.out, fun i hi => by have := HJ.out; omega, d2, below_drewN hB _⟩
                          case measure => simp [intOf]; omega
                        · obtain ⟨i, rfl⟩ : ∃ i, j = i + 1 := ⟨j - 1, by omega⟩
                          obtain ⟨b', o', hca', e2⟩ := hce i (by omega)
                          obtain ⟨y, hy⟩ : ∃ y, c.getD i 0 = y := ⟨_, rfl⟩
                          rw [hy] at e2
                          have HV := Lib.hid hy
                          replace e2 := over_cell hB (World.block_lt_of_cell? _ _ e2) e2
                          rw [hca] at hca'
                          injection hca' with hca'
                          injection hca' with hb1 ho1
                          clear hce hy
                          subst hb1 ho1 hca
                          have hj1 : ((i + 1 : Nat) : Int) - 1 = (i : Int) := by omega
                          have hj2 : (0 : Int) < ((i + 1 : Nat) : Int) := by omega
                          by_cases hyx : y < x
                          · have hge : decide (x ≤ y) = false := by simp; omega
                            have hge2 : ¬ x ≤ y := by omega
                            have HL := Lib.hid hyx
                            clear hyx
                            go_wp2_with fail
                            go_quiet ((go_at_call 102; exact q_of (sas_t _ HS)))
                            go_wp2
                            go_roundw
                            case rel => exact ⟨i + 1 + 1, by omega, by go_num, all_succ HA.out HX.out HS.out, fun t ht => by
                              by_cases e : t = i
                              · rw [e, HV.out, HX.out]; exact HL.out
                              · exact HB.out t (by omega), d2, below_drewN hB _⟩
                            case measure => simp [intOf]; omega
                          · have hge : decide (x ≤ y) = true := by simp; omega
                            have hge2 : x ≤ y := by omega
                            have HF := Lib.hid (asc_no (by rw [← HM.out]; exact hlt2) HV.out HX.out hyx)
                            clear hyx
                            go_wp2_with fail
                            go_quiet ((go_at_call 102; exact q_of (sas_t _ HS)))
                            go_wp2
                            go_ret
                            exact ⟨ret_bool (by rw [HY.out, HF.out, Bool.and_false]; rfl), below_step B0 (below_drewN hB _)⟩
                    · have hkn : j = m := by omega
                      have hyes := nums_yes HM.out (by rw [← hkn]; exact HA.out)
                      have hasc := asc_yes HM.out (by rw [← hkn]; exact HB.out)
                      have HZ := Lib.hid hyes
                      have HW := Lib.hid hasc
                      clear hyes hasc hkn hce cb HA HB
                      go_wp2
                      go_ret
                      exact ⟨ret_bool (by rw [HY.out, HZ.out, HW.out]; rfl), below_step B0 hB⟩
            · have e : aokB p pr c bw = false := by simp [aokB, inB, h5]
              rw [e]
              have g5 : 1000 < bw := by omega
              clear e hpe hce h5 pb cb
              go_enter Tryz.func174, Tryz.ntmps174
              go_wp2
              go_ret
              exact ⟨rfl, B0⟩
          · have e : aokB p pr c bw = false := by simp [aokB, inB, h4]
            rw [e]
            have g4 : bw < 0 := by omega
            clear e hpe hce h4 pb cb
            go_enter Tryz.func174, Tryz.ntmps174
            go_wp2
            go_ret
            exact ⟨rfl, B0⟩
        · have e : aokB p pr c bw = false := by simp [aokB, inB, h3]
          rw [e]
          have g3 : 1000 < pr := by omega
          clear e hpe hce h3 pb cb
          go_enter Tryz.func174, Tryz.ntmps174
          go_wp2
          go_ret
          exact ⟨rfl, B0⟩
      · have e : aokB p pr c bw = false := by simp [aokB, inB, h2]
        rw [e]
        have g2 : pr < 0 := by omega
        clear e hpe hce h2 pb cb
        go_enter Tryz.func174, Tryz.ntmps174
        go_wp2
        go_ret
        exact ⟨rfl, B0⟩
    · have e : aokB p pr c bw = false := by simp [aokB, inB, h1]
      rw [e]
      have g1 : (4 : Int) < (c.length : Int) := by omega
      clear e hpe hce h1 pb cb
      go_enter Tryz.func174, Tryz.ntmps174
      go_wp2
      go_ret
      exact ⟨rfl, B0⟩
  · have e : aokB p pr c bw = false := by simp [aokB, inB, h0]
    rw [e]
    have g0 : (8 : Int) < (p.length : Int) := by omega
    clear e hpe hce h0 pb cb
    go_enter Tryz.func174, Tryz.ntmps174
    go_wp2
    go_ret
    exact ⟨rfl, B0⟩
end Go.Proofs.YtaiffofmhfflkaaGreat
namespace Go.Proofs.YtaiffofmhfflkaaGreat
open Go.ChangeShapes Go.WideShapes Go.ChangeAt Go.RowKit Go.BigFrame Go.Joins
set_option linter.unusedVariables false
set_option maxRecDepth 100000

/-- append(s, x...): s is the call's own, x reads as m -/
theorem wp_appI {ops : Array Oper} {rest : List Oper} {o : Oper} {a : Act} {Q : Exit → Act → World → Prop} {w : World} (hgd : o.guard = none) (s x : Operand)
    (ho : o.op = .call { callee := .builtin .append, args := #[s, x], argTypes := #[112, 112] })
    (base : Nat) (v u : Value) (l m : List Int) (hs : a.eval s = v) (hx : a.eval x = u) (hown : OwnI w base v l) (hu : RdI w u m) (hlen : l.length + m.length ≤ 4294967296) (hbase : base ≤ w.heap.size)
    (h : ∀ v' w', OwnI w' base v' (l ++ m) → w.grownBy w' v.ownBlock → wpList Tryz.prog ops Q rest (a.put o.dst v') w') : wpList Tryz.prog ops Q (o :: rest) a w := by
  obtain ⟨i0, hi, hz0, hz1, hz2⟩ := info_parts infoB_I
  have hmap : l.map (Value.int .i64) ++ m.map (Value.int .i64) = (l ++ m).map (Value.int .i64) := by simp
  have hl2 : (l ++ m).length = l.length + m.length := by simp
  have done : ∀ (ad : Addr) (c : Nat), u = .slice (some ad) m.length c → (∀ j y, (m.map (Value.int .i64))[j]? = some y → w.cell? (ad.add j) = some y) → wpList Tryz.prog ops Q (o :: rest) a w := by
    intro ad c hv hc
    refine wpList_append_own w hgd s x 112 ho base IT i0 (.int .i64 0) 1 8 Tryz.underlying112 hi hz0 hz1 hz2 rfl (by decide) v l.length (l.map (Value.int .i64)) hs hown ad m.length c (m.map (Value.int .i64)) (hx.trans hv) (by simp) hc (by simp [Value.oneCell']) (by unfold maxLen; omega) (by omega) hbase ?_
    intro v' w' ho' hg' _
    refine h v' w' ?_ hg'
    unfold OwnI
    rw [hl2, ← hmap]
    exact ho'
  obtain ⟨hb, hm, ⟨p, c, hv, rfl, hac⟩ | ⟨b, off, c, hv, hp, hc⟩⟩ := hu
  · cases p with
    | none =>
      have hc0 := hac rfl
      subst hc0
      refine wpList_append_own_none hgd s x 112 ho base IT i0 1 Tryz.underlying112 hi v l.length (l.map (Value.int .i64)) hs hown (hx.trans hv) ?_
      exact h v w (by simpa using hown) ⟨rfl, rfl, rfl, Nat.le_refl _, fun _ _ _ => rfl⟩
    | some ad => exact done ad c hv (by simp)
  · refine done ⟨b, off, none⟩ c hv (fun j y hy => ?_)
    have hj : j < m.length := by
      have := (List.getElem?_eq_some_iff.1 hy).1
      simpa using this
    have hadd : (⟨b, off, none⟩ : Addr).add j = ⟨b, off + j, none⟩ := by unfold Addr.add; split <;> simp_all
    rw [hadd, hc j hj]
    simpa [List.getD, hj] using hy

theorem own_empty_I (w : World) (base g : Nat) (hg : g = w.heap.size) (hb : base ≤ g) : OwnI (w.alloc (.cells #[] IT)) base (.slice (some ⟨g, 0, none⟩) 0 0) [] := by
  subst hg; exact OwnI.lit w #[] [] hb (by simp) (by simp)
theorem own_lit1_I (w : World) (z : Int) (g : Nat) (hg : g = w.heap.size) : OwnI (w.alloc (.cells #[.int .i64 z] IT)) g (.slice (some ⟨g, 0, none⟩) 1 1) [z] := by
  subst hg; exact OwnI.lit w #[.int .i64 z] [z] (Nat.le_refl _) (by simp [maxLen]) (by simp)
theorem sown_any (pv cv : Value) (p c : List Int) (pr bw : Int) (w : World) (hp : RdI w pv p) (hc : RdI w cv c) (h0 : p.length ≤ 1048576) (h1 : c.length ≤ 1048576) :
    Calls Tryz.prog 164 #[.agg #[pv, .int .i64 pr, cv, .int .i64 bw]] w (NewA w p pr c bw) := by
  obtain ⟨pa, pd, rfl⟩ := hp.len
  obtain ⟨ca, cd, rfl⟩ := hc.len
  have E0 : Below w.heap.size w w := Below.refl _ _
  have bA := Bx.new (w) (.slice pa p.length pd) (.int .i64 pr) (.slice ca c.length cd) (.int .i64 bw) 133 (w.heap.size) rfl
  replace E0 := E0.alloc (Nat.le_refl _) (.cells #[.slice pa p.length pd, .int .i64 pr, .slice ca c.length cd, .int .i64 bw] 133)
  have zR : ((w).alloc (.cells #[.slice pa p.length pd, .int .i64 pr, .slice ca c.length cd, .int .i64 bw] 133)).heap.size = w.heap.size + 1 := by simp
  have bR := Bx.new ((w).alloc (.cells #[.slice pa p.length pd, .int .i64 pr, .slice ca c.length cd, .int .i64 bw] 133)) (.slice none 0 0) (.int .i64 0) (.slice none 0 0) (.int .i64 0) 133 (w.heap.size + 1) zR.symm
  replace bA := bA.alloc (.cells #[.slice none 0 0, .int .i64 0, .slice none 0 0, .int .i64 0] 133)
  replace E0 := E0.alloc (by rw [zR]; omega) (.cells #[.slice none 0 0, .int .i64 0, .slice none 0 0, .int .i64 0] 133)
  clear zR
  have zz : (((w).alloc (.cells #[.slice pa p.length pd, .int .i64 pr, .slice ca c.length cd, .int .i64 bw] 133)).alloc (.cells #[.slice none 0 0, .int .i64 0, .slice none 0 0, .int .i64 0] 133)).heap.size = w.heap.size + 1 + 1 := by simp
  have hp1 := hp.keep E0
  go_enter Tryz.func164, Tryz.ntmps164
  go_wp2_with (at_builtin; refine Hid.out ?_)
  obtain ⟨E, eE⟩ : ∃ E, E = w.heap.size + 1 + 1 := ⟨_, rfl⟩
  try rw [← eE]
  obtain ⟨A, eA⟩ : ∃ A, A = w.heap.size := ⟨_, rfl⟩
  rw [← eA] at bA
  obtain ⟨R, eR⟩ : ∃ R, R = w.heap.size + 1 := ⟨_, rfl⟩
  rw [← eR] at bR
  try rw [← eR]
  try rw [← eA]
  have hwA : w.heap.size ≤ A := by omega
  have htA : A < w.heap.size + 1 + 1 := by omega
  have nAR : A ≠ R := by omega
  have hwR : w.heap.size ≤ R := by omega
  have htR : R < w.heap.size + 1 + 1 := by omega
  have nRA : R ≠ A := by omega
  clear eA eR
  have hE := own_empty_I (((w).alloc (.cells #[.slice pa p.length pd, .int .i64 pr, .slice ca c.length cd, .int .i64 bw] 133)).alloc (.cells #[.slice none 0 0, .int .i64 0, .slice none 0 0, .int .i64 0] 133)) E E (eE.trans zz.symm) (Nat.le_refl _)
  replace bA := bA.alloc (.cells #[] IT)
  replace bR := bR.alloc (.cells #[] IT)
  replace E0 := E0.alloc (by rw [zz]; omega) (.cells #[] IT)
  replace hp1 := hp1.alloc (.cells #[] IT)
  have hle : E ≤ ((((w).alloc (.cells #[.slice pa p.length pd, .int .i64 pr, .slice ca c.length cd, .int .i64 bw] 133)).alloc (.cells #[.slice none 0 0, .int .i64 0, .slice none 0 0, .int .i64 0] 133)).alloc (.cells #[] IT)).heap.size := by rw [eE]; simp
  have hw2 : w.heap.size ≤ E := by omega
  have hAE : A < E := by omega
  have hRE : R < E := by omega
  have nAE : A ≠ E := by omega
  have nRE : R ≠ E := by omega
  refine Lib.hid ?_
  refine wp_appI rfl (.tmp 3) (.tmp 5) rfl E (.slice (some ⟨E, 0, none⟩) 0 0) (.slice pa p.length pd) [] p rfl rfl hE hp1 (by simp; omega) hle ?_
  intro v1 w1 ho1 hg1
  rw [List.nil_append] at ho1
  obtain ⟨a1, d1, rfl⟩ := ho1.len
  replace bA := bA.grown hg1 (by show some A ≠ some E; simp; exact nAE)
  replace bR := bR.grown hg1 (by show some R ≠ some E; simp; exact nRE)
  have hs1 := hg1.size
  replace E0 := Below.grown E0 hg1 (Nat.le_trans hw2 hle) (fun k hk => Nat.le_trans hw2 (World.ownsRow.lt hE k hk).1)
  have hE1 : E ≤ w1.heap.size := Nat.le_trans hle hs1
  clear hE hp1 hg1 hs1 hle zz
  have lA := bA.lt
  have kA0 := bA.c0
  have qA0 := bA.f0
  have kA1 := bA.c1
  have qA1 := bA.f1
  have kA2 := bA.c2
  have qA2 := bA.f2
  have kA3 := bA.c3
  have qA3 := bA.f3
  have lR := bR.lt
  have kR0 := bR.c0
  have qR0 := bR.f0
  have kR1 := bR.c1
  have qR1 := bR.f1
  have kR2 := bR.c2
  have qR2 := bR.f2
  have kR3 := bR.c3
  have qR3 := bR.f3
  go_wp2_with (at_builtin; refine Hid.out ?_)
  clear kA0 qA0 kA1 qA1 kA2 qA2 kA3 qA3 kR0 qR0 kR1 qR1 kR2 qR2 kR3 qR3 lA lR
  replace bA := bA.set0 (u := .slice a1 p.length d1)
  replace bR := bR.far (C := A) (o := 0) (u := .slice a1 p.length d1) nRA
  replace ho1 := ho1.far (B := A) (o := 0) (u := .slice a1 p.length d1) hAE
  replace E0 := E0.setCell (p := ⟨A, 0, none⟩) hwA (.slice a1 p.length d1)
  have hsz : (w1.setCell ⟨A, 0, none⟩ (.slice a1 p.length d1)).heap.size = w1.heap.size := by simp [World.setCell]
  generalize w1.setCell ⟨A, 0, none⟩ (.slice a1 p.length d1) = wS at *
  obtain ⟨F, eF⟩ : ∃ F, F = w1.heap.size := ⟨_, rfl⟩
  try rw [← eF]
  have eG : F = wS.heap.size := eF.trans hsz.symm
  have hEF : E ≤ F := by omega
  have hF1 : ∀ k, (Value.slice a1 p.length d1).ownBlock = some k → k < F := fun k hk => by have := (World.ownsRow.lt ho1 k hk).2; omega
  have ho1' := ho1
  have hF := own_empty_I wS F F eG (Nat.le_refl _)
  have hle2 : F ≤ (wS.alloc (.cells #[] IT)).heap.size := by rw [eG]; simp
  replace bA := bA.alloc (.cells #[] IT)
  replace bR := bR.alloc (.cells #[] IT)
  replace ho1 := ho1.alloc (.cells #[] IT)
  replace E0 := E0.alloc E0.size (.cells #[] IT)
  have hAF : A < F := by omega
  have hRF : R < F := by omega
  have nAF : A ≠ F := by omega
  have nRF : R ≠ F := by omega
  refine Lib.hid ?_
  refine wp_appI rfl (.tmp 8) (.tmp 10) rfl F (.slice (some ⟨F, 0, none⟩) 0 0) (.slice ca c.length cd) [] c rfl rfl hF (hc.keep E0) (by simp; omega) hle2 ?_
  intro v2 w2 ho2 hg2
  rw [List.nil_append] at ho2
  obtain ⟨a2, d2, rfl⟩ := ho2.len
  have hap := apartI ho1' ho2 (by omega)
  replace bA := bA.grown hg2 (by show some A ≠ some F; simp; exact nAF)
  replace bR := bR.grown hg2 (by show some R ≠ some F; simp; exact nRF)
  replace ho1 := ho1.kept hg2 (by
    cases hv : (Value.slice a1 p.length d1).ownBlock with
    | none => exact .inl rfl
    | some k => exact .inr (by show some k ≠ some F; have := hF1 k hv; simp; omega))
  replace E0 := Below.grown E0 hg2 (by omega) (fun k hk => Nat.le_trans (Nat.le_trans hw2 hEF) (World.ownsRow.lt hF k hk).1)
  clear ho1' hF hg2 hF1 hle2 eG hsz eF
  have lA := bA.lt
  have kA0 := bA.c0
  have qA0 := bA.f0
  have kA1 := bA.c1
  have qA1 := bA.f1
  have kA2 := bA.c2
  have qA2 := bA.f2
  have kA3 := bA.c3
  have qA3 := bA.f3
  have lR := bR.lt
  have kR0 := bR.c0
  have qR0 := bR.f0
  have kR1 := bR.c1
  have qR1 := bR.f1
  have kR2 := bR.c2
  have qR2 := bR.f2
  have kR3 := bR.c3
  have qR3 := bR.f3
  go_wp2_with fail
  clear kA0 qA0 kA1 qA1 kA2 qA2 kA3 qA3 kR0 qR0 kR1 qR1 kR2 qR2 kR3 qR3 lA lR
  have bE := ((bR.far (C := A) (o := 2) (u := .slice a2 c.length d2) nRA)).all (y0 := .slice a1 p.length d1) (y1 := .int .i64 pr) (y2 := .slice a2 c.length d2) (y3 := .int .i64 bw)
  have e0 := bE.c0
  have e1 := bE.c1
  have e2 := bE.c2
  have e3 := bE.c3
  exact bodyPost_ret (v := .agg #[.slice a1 p.length d1, .int .i64 pr, .slice a2 c.length d2, .int .i64 bw]) (by simp [results, Tryz.results164, go_sem, e0, e1, e2, e3]) rfl
    ⟨a1, d1, a2, d2, rfl, OwnI.mono (((((ho1.far (o := 2) hAE).far (o := 0) hRE).far (o := 1) hRE).far (o := 2) hRE).far (o := 3) hRE) hw2, OwnI.mono (((((ho2.far (o := 2) hAF).far (o := 0) hRF).far (o := 1) hRF).far (o := 2) hRF).far (o := 3) hRF) (Nat.le_trans hw2 hEF), hap,
      ((((E0.setCell (p := ⟨A, 2, none⟩) hwA _).setCell (p := ⟨R, 0, none⟩) hwR _).setCell (p := ⟨R, 1, none⟩) hwR _).setCell (p := ⟨R, 2, none⟩) hwR _).setCell (p := ⟨R, 3, none⟩) hwR _⟩
theorem icopy_any (pv cv : Value) (p c : List Int) (pr bw : Int) (w : World) (hp : RdI w pv p) (hc : RdI w cv c) (h0 : p.length ≤ 1048576) (h1 : c.length ≤ 1048576) :
    Calls Tryz.prog 189 #[.agg #[pv, .int .i64 pr, cv, .int .i64 bw]] w (NewA w p pr c bw) := by
  obtain ⟨pa, pd, rfl⟩ := hp.len
  obtain ⟨ca, cd, rfl⟩ := hc.len
  have E0 : Below w.heap.size w w := Below.refl _ _
  have bA := Bx.new (w) (.slice pa p.length pd) (.int .i64 pr) (.slice ca c.length cd) (.int .i64 bw) 133 (w.heap.size) rfl
  replace E0 := E0.alloc (Nat.le_refl _) (.cells #[.slice pa p.length pd, .int .i64 pr, .slice ca c.length cd, .int .i64 bw] 133)
  have zR : ((w).alloc (.cells #[.slice pa p.length pd, .int .i64 pr, .slice ca c.length cd, .int .i64 bw] 133)).heap.size = w.heap.size + 1 := by simp
  have bR := Bx.new ((w).alloc (.cells #[.slice pa p.length pd, .int .i64 pr, .slice ca c.length cd, .int .i64 bw] 133)) (.slice none 0 0) (.int .i64 0) (.slice none 0 0) (.int .i64 0) 133 (w.heap.size + 1) zR.symm
  replace bA := bA.alloc (.cells #[.slice none 0 0, .int .i64 0, .slice none 0 0, .int .i64 0] 133)
  replace E0 := E0.alloc (by rw [zR]; omega) (.cells #[.slice none 0 0, .int .i64 0, .slice none 0 0, .int .i64 0] 133)
  clear zR
  have zz : (((w).alloc (.cells #[.slice pa p.length pd, .int .i64 pr, .slice ca c.length cd, .int .i64 bw] 133)).alloc (.cells #[.slice none 0 0, .int .i64 0, .slice none 0 0, .int .i64 0] 133)).heap.size = w.heap.size + 1 + 1 := by simp
  have hp1 := hp.keep E0
  go_enter Tryz.func189, Tryz.ntmps189
  go_wp2_with (at_builtin; refine Hid.out ?_)
  obtain ⟨E, eE⟩ : ∃ E, E = w.heap.size + 1 + 1 := ⟨_, rfl⟩
  try rw [← eE]
  obtain ⟨A, eA⟩ : ∃ A, A = w.heap.size := ⟨_, rfl⟩
  rw [← eA] at bA
  obtain ⟨R, eR⟩ : ∃ R, R = w.heap.size + 1 := ⟨_, rfl⟩
  rw [← eR] at bR
  try rw [← eR]
  try rw [← eA]
  have hwA : w.heap.size ≤ A := by omega
  have htA : A < w.heap.size + 1 + 1 := by omega
  have nAR : A ≠ R := by omega
  have hwR : w.heap.size ≤ R := by omega
  have htR : R < w.heap.size + 1 + 1 := by omega
  have nRA : R ≠ A := by omega
  clear eA eR
  have hE : OwnI (((w).alloc (.cells #[.slice pa p.length pd, .int .i64 pr, .slice ca c.length cd, .int .i64 bw] 133)).alloc (.cells #[.slice none 0 0, .int .i64 0, .slice none 0 0, .int .i64 0] 133)) E (.slice none 0 0) [] := World.ownsRow_nil _ _ _ _
  have hle : E ≤ (((w).alloc (.cells #[.slice pa p.length pd, .int .i64 pr, .slice ca c.length cd, .int .i64 bw] 133)).alloc (.cells #[.slice none 0 0, .int .i64 0, .slice none 0 0, .int .i64 0] 133)).heap.size := by rw [zz]; omega
  have hw2 : w.heap.size ≤ E := by omega
  have hAE : A < E := by omega
  have hRE : R < E := by omega
  have nAE : A ≠ E := by omega
  have nRE : R ≠ E := by omega
  refine Lib.hid ?_
  refine wp_appI rfl (.const (.slice none 0 0)) (.tmp 4) rfl E (.slice none 0 0) (.slice pa p.length pd) [] p rfl rfl hE hp1 (by simp; omega) hle ?_
  intro v1 w1 ho1 hg1
  rw [List.nil_append] at ho1
  obtain ⟨a1, d1, rfl⟩ := ho1.len
  replace bA := bA.grown hg1 (by show some A ≠ none; simp)
  replace bR := bR.grown hg1 (by show some R ≠ none; simp)
  have hs1 := hg1.size
  replace E0 := Below.grown E0 hg1 (Nat.le_trans hw2 hle) (fun k hk => Nat.le_trans hw2 (World.ownsRow.lt hE k hk).1)
  have hE1 : E ≤ w1.heap.size := Nat.le_trans hle hs1
  clear hE hp1 hg1 hs1 hle zz
  have lA := bA.lt
  have kA0 := bA.c0
  have qA0 := bA.f0
  have kA1 := bA.c1
  have qA1 := bA.f1
  have kA2 := bA.c2
  have qA2 := bA.f2
  have kA3 := bA.c3
  have qA3 := bA.f3
  have lR := bR.lt
  have kR0 := bR.c0
  have qR0 := bR.f0
  have kR1 := bR.c1
  have qR1 := bR.f1
  have kR2 := bR.c2
  have qR2 := bR.f2
  have kR3 := bR.c3
  have qR3 := bR.f3
  go_wp2_with (at_builtin; refine Hid.out ?_)
  clear kA0 qA0 kA1 qA1 kA2 qA2 kA3 qA3 kR0 qR0 kR1 qR1 kR2 qR2 kR3 qR3 lA lR
  replace bA := bA.set0 (u := .slice a1 p.length d1)
  replace bR := bR.far (C := A) (o := 0) (u := .slice a1 p.length d1) nRA
  replace ho1 := ho1.far (B := A) (o := 0) (u := .slice a1 p.length d1) hAE
  replace E0 := E0.setCell (p := ⟨A, 0, none⟩) hwA (.slice a1 p.length d1)
  have hsz : (w1.setCell ⟨A, 0, none⟩ (.slice a1 p.length d1)).heap.size = w1.heap.size := by simp [World.setCell]
  generalize w1.setCell ⟨A, 0, none⟩ (.slice a1 p.length d1) = wS at *
  obtain ⟨F, eF⟩ : ∃ F, F = w1.heap.size := ⟨_, rfl⟩
  try rw [← eF]
  have eG : F = wS.heap.size := eF.trans hsz.symm
  have hEF : E ≤ F := by omega
  have hF1 : ∀ k, (Value.slice a1 p.length d1).ownBlock = some k → k < F := fun k hk => by have := (World.ownsRow.lt ho1 k hk).2; omega
  have ho1' := ho1
  have hF : OwnI wS F (.slice none 0 0) [] := World.ownsRow_nil _ _ _ _
  have hle2 : F ≤ wS.heap.size := by omega
  have hAF : A < F := by omega
  have hRF : R < F := by omega
  have nAF : A ≠ F := by omega
  have nRF : R ≠ F := by omega
  refine Lib.hid ?_
  refine wp_appI rfl (.const (.slice none 0 0)) (.tmp 8) rfl F (.slice none 0 0) (.slice ca c.length cd) [] c rfl rfl hF (hc.keep E0) (by simp; omega) hle2 ?_
  intro v2 w2 ho2 hg2
  rw [List.nil_append] at ho2
  obtain ⟨a2, d2, rfl⟩ := ho2.len
  have hap := apartI ho1' ho2 (by omega)
  replace bA := bA.grown hg2 (by show some A ≠ none; simp)
  replace bR := bR.grown hg2 (by show some R ≠ none; simp)
  replace ho1 := ho1.kept hg2 (by
    cases hv : (Value.slice a1 p.length d1).ownBlock with
    | none => exact .inl rfl
    | some k => exact .inr (by show some k ≠ none; have := hF1 k hv; simp))
  replace E0 := Below.grown E0 hg2 (by omega) (fun k hk => Nat.le_trans (Nat.le_trans hw2 hEF) (World.ownsRow.lt hF k hk).1)
  clear ho1' hF hg2 hF1 hle2 eG hsz eF
  have lA := bA.lt
  have kA0 := bA.c0
  have qA0 := bA.f0
  have kA1 := bA.c1
  have qA1 := bA.f1
  have kA2 := bA.c2
  have qA2 := bA.f2
  have kA3 := bA.c3
  have qA3 := bA.f3
  have lR := bR.lt
  have kR0 := bR.c0
  have qR0 := bR.f0
  have kR1 := bR.c1
  have qR1 := bR.f1
  have kR2 := bR.c2
  have qR2 := bR.f2
  have kR3 := bR.c3
  have qR3 := bR.f3
  go_wp2_with fail
  clear kA0 qA0 kA1 qA1 kA2 qA2 kA3 qA3 kR0 qR0 kR1 qR1 kR2 qR2 kR3 qR3 lA lR
  have bE := ((bR.far (C := A) (o := 2) (u := .slice a2 c.length d2) nRA)).all (y0 := .slice a1 p.length d1) (y1 := .int .i64 pr) (y2 := .slice a2 c.length d2) (y3 := .int .i64 bw)
  have e0 := bE.c0
  have e1 := bE.c1
  have e2 := bE.c2
  have e3 := bE.c3
  exact bodyPost_ret (v := .agg #[.slice a1 p.length d1, .int .i64 pr, .slice a2 c.length d2, .int .i64 bw]) (by simp [results, Tryz.results189, go_sem, e0, e1, e2, e3]) rfl
    ⟨a1, d1, a2, d2, rfl, OwnI.mono (((((ho1.far (o := 2) hAE).far (o := 0) hRE).far (o := 1) hRE).far (o := 2) hRE).far (o := 3) hRE) hw2, OwnI.mono (((((ho2.far (o := 2) hAF).far (o := 0) hRF).far (o := 1) hRF).far (o := 2) hRF).far (o := 3) hRF) (Nat.le_trans hw2 hEF), hap,
      ((((E0.setCell (p := ⟨A, 2, none⟩) hwA _).setCell (p := ⟨R, 0, none⟩) hwR _).setCell (p := ⟨R, 1, none⟩) hwR _).setCell (p := ⟨R, 2, none⟩) hwR _).setCell (p := ⟨R, 3, none⟩) hwR _⟩
end Go.Proofs.YtaiffofmhfflkaaGreat
namespace Go.Proofs.YtaiffofmhfflkaaGreat
open Go.ChangeShapes Go.WideShapes Go.ChangeAt Go.RowKit Go.BigFrame Go.Joins
set_option linter.unusedVariables false
set_option maxRecDepth 100000
set_option linter.unusedSimpArgs false
set_option maxRecDepth 100000

/-- an entry beside the values of its two slices -/
structure ET where
  E : Ent
  u : Value
  v : Value
def cellsT (t : ET) : List Value := [.int .i64 t.E.a, .int .i64 t.E.n, .int .i64 t.E.pe, t.u, .int .i64 t.E.pr, t.v, .int .i64 t.E.bw]
def flatT (T : List ET) : List Value := T.flatMap cellsT
theorem flatT_len (T : List ET) : (flatT T).length = T.length * 7 := by
  induction T with
  | nil => rfl
  | cons t T ih => simp only [flatT, List.flatMap_cons, List.length_append, List.length_cons] at ih ⊢; rw [ih]; simp [cellsT]; omega
theorem flatT_append (S T : List ET) : flatT (S ++ T) = flatT S ++ flatT T := by simp [flatT]
theorem flatT_get (T : List ET) (i j : Nat) (hi : i < T.length) (hj : j < 7) : (flatT T)[i * 7 + j]? = (cellsT (T[i]'hi))[j]? := by
  induction T generalizing i with
  | nil => simp at hi
  | cons t T ih =>
    have e : flatT (t :: T) = cellsT t ++ flatT T := by simp [flatT]
    rw [e]
    cases i with
    | zero =>
      rw [Nat.zero_mul, Nat.zero_add, List.getElem?_append_left (by simp [cellsT]; omega)]
      rfl
    | succ i =>
      rw [List.getElem?_append_right (by simp [cellsT]; omega), show (i + 1) * 7 + j - (cellsT t).length = i * 7 + j by simp [cellsT]; omega, ih i (by simpa using hi)]
      rfl
/-- all their rows -/
def rowsT (T : List ET) : List Value := T.flatMap fun t => [t.u, t.v]
theorem rowsT_append (S T : List ET) : rowsT (S ++ T) = rowsT S ++ rowsT T := by simp [rowsT]
theorem rowsT_mem {T : List ET} {x : Value} (h : x ∈ rowsT T) : ∃ t ∈ T, x = t.u ∨ x = t.v := by
  simp only [rowsT, List.mem_flatMap, List.mem_cons, List.not_mem_nil, or_false] at h
  exact h
def entT (T : List ET) : List Ent := T.map (·.E)
theorem entT_len (T : List ET) : (entT T).length = T.length := by simp [entT]
theorem entT_append (S T : List ET) : entT (S ++ T) = entT S ++ entT T := by simp [entT]
theorem entT_get {T : List ET} {i : Nat} (hi : i < T.length) : (entT T).getD i e0 = (T[i]'hi).E := by simp [entT, List.getD, hi]
/-- a row of entries of the call's own; their slices are rows of its own too, all apart -/
structure OwnT (w : World) (base : Nat) (v : Value) (T : List ET) : Prop where
  row : w.ownsRow base EI 7 v T.length (flatT T)
  own : ∀ t ∈ T, OwnI w base t.u t.E.p ∧ OwnI w base t.v t.E.c
  len : ∀ t ∈ T, (∃ a c, t.u = .slice a t.E.p.length c) ∧ ∃ a c, t.v = .slice a t.E.c.length c
  sep : ∀ t ∈ T, (t.u.ownBlock = none ∨ t.u.ownBlock ≠ v.ownBlock) ∧ (t.v.ownBlock = none ∨ t.v.ownBlock ≠ v.ownBlock)
  apart : (rowsT T).Pairwise Apart
theorem OwnT.nil (w : World) (base : Nat) : OwnT w base (.slice none 0 0) [] := ⟨World.ownsRow_nil _ _ _ _, by simp, by simp, by simp, by simp [rowsT]⟩
theorem OwnT.kept {w w' : World} {base : Nat} {v : Value} {T : List ET} {row : Option Nat} (h : OwnT w base v T) (hg : w.grownBy w' row) (h1 : v.ownBlock = none ∨ v.ownBlock ≠ row) (h2 : ∀ t ∈ T, (t.u.ownBlock = none ∨ t.u.ownBlock ≠ row) ∧ (t.v.ownBlock = none ∨ t.v.ownBlock ≠ row)) : OwnT w' base v T :=
  ⟨World.ownsRow.kept h.row hg h1, fun t ht => ⟨(h.own t ht).1.kept hg (h2 t ht).1, (h.own t ht).2.kept hg (h2 t ht).2⟩, h.len, h.sep, h.apart⟩
theorem OwnT.keep {w w' : World} {base : Nat} {v : Value} {T : List ET} (h : OwnT w base v T) (hb : Below w.heap.size w w') : OwnT w' base v T :=
  ⟨World.ownsRow.kept (row := none) h.row ⟨hb.os, hb.tape, hb.output, hb.size, fun k hk _ => hb.block k hk⟩ (by cases v.ownBlock <;> simp), fun t ht => ⟨(h.own t ht).1.keep hb, (h.own t ht).2.keep hb⟩, h.len, h.sep, h.apart⟩
theorem OwnT.lenV {w : World} {base : Nat} {v : Value} {T : List ET} (h : OwnT w base v T) : ∃ a c, v = .slice a T.length c := by
  rcases h.row.2 with ⟨hv, hn⟩ | ⟨g, cap, cur, hv, _⟩
  · exact ⟨none, 0, by rw [hv, hn]⟩
  · exact ⟨_, cap, hv⟩
theorem OwnT.lt {w : World} {base : Nat} {v : Value} {T : List ET} (h : OwnT w base v T) : ∀ t ∈ T, (∀ k, t.u.ownBlock = some k → base ≤ k ∧ k < w.heap.size) ∧ ∀ k, t.v.ownBlock = some k → base ≤ k ∧ k < w.heap.size :=
  fun t ht => ⟨fun k hk => World.ownsRow.lt (h.own t ht).1 k hk, fun k hk => World.ownsRow.lt (h.own t ht).2 k hk⟩
theorem OwnT.far {w : World} {base : Nat} {v u : Value} {T : List ET} {B o : Nat} (h : OwnT w base v T) (hB : B < base) : OwnT (w.setCell ⟨B, o, none⟩ u) base v T := by
  have ne : ∀ {x : Value}, (∀ k, x.ownBlock = some k → base ≤ k) → x.ownBlock = none ∨ x.ownBlock ≠ some B := fun {x} hx => by
    cases hv : x.ownBlock with
    | none => exact .inl rfl
    | some k => exact .inr (by have := hx k hv; intro e; cases e; omega)
  exact h.kept (grown_set w B o u) (ne fun k hk => (World.ownsRow.lt h.row k hk).1) fun t ht => ⟨ne fun k hk => ((h.lt t ht).1 k hk).1, ne fun k hk => ((h.lt t ht).2 k hk).1⟩
theorem OwnT.mono {w : World} {base base' : Nat} {v : Value} {T : List ET} (h : OwnT w base v T) (hb : base' ≤ base) : OwnT w base' v T := by
  refine ⟨⟨h.row.1, ?_⟩, fun t ht => ⟨(h.own t ht).1.mono hb, (h.own t ht).2.mono hb⟩, h.len, h.sep, h.apart⟩
  rcases h.row.2 with hn | ⟨g, cap, cur, hv, hg, rest⟩
  · exact .inl hn
  · exact .inr ⟨g, cap, cur, hv, by omega, rest⟩
/-- it reads as its entries -/
theorem OwnT.rd {w : World} {base : Nat} {v : Value} {T : List ET} (h : OwnT w base v T) (hd : ∀ t ∈ T, BdE t.E) : RdE w v (entT T) := by
  rcases h.row.2 with ⟨rfl, hn⟩ | ⟨g, cap, cur, rfl, hb, hg, hnc, hcm, hcs, htake⟩
  · have hT : T = [] := List.eq_nil_of_length_eq_zero hn
    subst hT
    exact RdE.nil w
  · rw [← entT_len]
    refine ⟨by rw [entT_len]; unfold maxLen at hcm; omega, ?_⟩
    by_cases hz : T.length = 0
    · exact .inl ⟨some ⟨g, 0, none⟩, cap, by rw [entT_len, hz], List.eq_nil_of_length_eq_zero (by rw [entT_len, hz]), fun h => by cases h⟩
    · refine .inr ⟨g, 0, cap, rfl, by rw [entT_len]; omega, fun i hi => ?_⟩
      rw [entT_len] at hi
      have hm : T[i] ∈ T := List.getElem_mem hi
      rw [entT_get hi]
      have hc : ∀ j, j < 7 → w.cell? ⟨g, 0 + i * 7 + j, none⟩ = (cellsT T[i])[j]? := fun j hj => by
        rw [Nat.zero_add, h.row.cellAt (i * 7 + j) (by omega), flatT_get T i j hi hj]
      exact ⟨T[i].u, T[i].v, (h.own _ hm).1.rd (hd _ hm).1, (h.own _ hm).2.rd (hd _ hm).2, hc 0 (by omega), hc 1 (by omega), hc 2 (by omega), hc 3 (by omega), hc 4 (by omega), hc 5 (by omega), hc 6 (by omega)⟩
theorem infoE2 : (Tryz.prog.info? EI).map (fun i => (i.zero, i.size, i.bytes)) = some (some (.agg #[.int .i64 0, .int .i64 0, .int .i64 0, .slice none 0 0, .int .i64 0, .slice none 0 0, .int .i64 0]), 7, 88) := by kernel_rfl
/-- one entry more -/
theorem own_appT {w w' : World} {base : Nat} {v v' : Value} {T : List ET} {t : ET} (h : OwnT w base v T) (hb : base ≤ w.heap.size) (ht : OwnI w base t.u t.E.p ∧ OwnI w base t.v t.E.c) (hl : (∃ a c, t.u = .slice a t.E.p.length c) ∧ ∃ a c, t.v = .slice a t.E.c.length c)
    (hap : Apart t.u t.v) (hnew : ∀ s ∈ T, Apart s.u t.u ∧ Apart s.u t.v ∧ Apart s.v t.u ∧ Apart s.v t.v) (hsv : (t.u.ownBlock = none ∨ t.u.ownBlock ≠ v.ownBlock) ∧ (t.v.ownBlock = none ∨ t.v.ownBlock ≠ v.ownBlock))
    (hrow : w'.ownsRow base EI 7 v' (T.length + 1) (flatT T ++ cellsT t)) (hg : w.grownBy w' v.ownBlock) (hor : v'.ownBlock = v.ownBlock ∨ v'.ownBlock = some w.heap.size) : OwnT w' base v' (T ++ [t]) := by
  have hu : ∀ {x : Value}, (x.ownBlock = none ∨ x.ownBlock ≠ v.ownBlock) → (∀ k, x.ownBlock = some k → k < w.heap.size) → x.ownBlock = none ∨ x.ownBlock ≠ v'.ownBlock := fun {x} h1 h2 => by
    rcases h1 with h1 | h1
    · exact .inl h1
    · rcases hor with e | e
      · exact .inr (by rw [e]; exact h1)
      · cases hx : x.ownBlock with
        | none => exact .inl rfl
        | some k => exact .inr (by rw [e]; have := h2 k hx; intro q; cases q; omega)
  have hto := fun k hk => (World.ownsRow.lt ht.1 k hk).2
  have hto2 := fun k hk => (World.ownsRow.lt ht.2 k hk).2
  refine ⟨?_, fun s hs => ?_, fun s hs => ?_, fun s hs => ?_, ?_⟩
  · rw [List.length_append, flatT_append, show flatT [t] = cellsT t by simp [flatT]]
    exact hrow
  · rcases List.mem_append.1 hs with q | q
    · exact ⟨(h.own s q).1.kept hg (h.sep s q).1, (h.own s q).2.kept hg (h.sep s q).2⟩
    · rw [List.mem_singleton.1 q]
      exact ⟨ht.1.kept hg hsv.1, ht.2.kept hg hsv.2⟩
  · rcases List.mem_append.1 hs with q | q
    · exact h.len s q
    · rw [List.mem_singleton.1 q]; exact hl
  · rcases List.mem_append.1 hs with q | q
    · exact ⟨hu (h.sep s q).1 fun k hk => ((h.lt s q).1 k hk).2, hu (h.sep s q).2 fun k hk => ((h.lt s q).2 k hk).2⟩
    · rw [List.mem_singleton.1 q]
      exact ⟨hu hsv.1 hto, hu hsv.2 hto2⟩
  · rw [rowsT_append, List.pairwise_append]
    refine ⟨h.apart, by simp [rowsT]; exact hap, fun x hx y hy => ?_⟩
    obtain ⟨s, hs, hx⟩ := rowsT_mem hx
    obtain ⟨n1, n2, n3, n4⟩ := hnew s hs
    simp [rowsT] at hy
    rcases hx with rfl | rfl <;> rcases hy with rfl | rfl <;> assumption
end Go.Proofs.YtaiffofmhfflkaaGreat
namespace Go.Proofs.YtaiffofmhfflkaaGreat
open Go.ChangeShapes Go.WideShapes Go.ChangeAt Go.RowKit Go.BigFrame Go.Joins
set_option linter.unusedVariables false
set_option maxRecDepth 100000
set_option linter.unusedSimpArgs false
set_option maxRecDepth 100000

theorem ice_any (pv cv : Value) (p c : List Int) (a n pe pr bw : Int) (w : World) (hp : RdI w pv p) (hc : RdI w cv c) (h0 : p.length ≤ 1048576) (h1 : c.length ≤ 1048576) :
    Calls Tryz.prog 166 #[.agg #[.int .i64 a, .int .i64 n, .int .i64 pe, pv, .int .i64 pr, cv, .int .i64 bw]] w (NewEnt w p c a n pe pr bw) := by
  obtain ⟨bA, bR, B1, z⟩ := two w [.int .i64 a, .int .i64 n, .int .i64 pe, pv, .int .i64 pr, cv, .int .i64 bw] [.int .i64 0, .int .i64 0, .int .i64 0, .slice none 0 0, .int .i64 0, .slice none 0 0, .int .i64 0] EI EI
  have hp1 := hp.keep B1
  have hc1 := hc.keep B1
  have a0 := bA.c 0 rfl
  have a1 := bA.c 1 rfl
  have a2 := bA.c 2 rfl
  have a3 := bA.c 3 rfl
  have a4 := bA.c 4 rfl
  have a5 := bA.c 5 rfl
  have a6 := bA.c 6 rfl
  go_enter Tryz.func166, Tryz.ntmps166
  go_wp2_with fail
  clear a0 a1 a2 a3 a4 a5 a6
  obtain ⟨V, hV⟩ : ∃ V, V = (w.alloc (.cells #[.int .i64 a, .int .i64 n, .int .i64 pe, pv, .int .i64 pr, cv, .int .i64 bw] EI)).alloc (.cells #[.int .i64 0, .int .i64 0, .int .i64 0, .slice none 0 0, .int .i64 0, .slice none 0 0, .int .i64 0] EI) := ⟨_, rfl⟩
  rw [← hV] at bA bR B1 z hp1 hc1 ⊢
  refine (icopy_any pv cv p c pr bw V hp1 hc1 h0 h1).mono ?_
  rintro e w1 ⟨x, y, f, g, rfl, o1, o2, ap, B2⟩
  have bAs := ((((bA.keep B2).set 3 (.slice x p.length y)).set 4 (.int .i64 pr)).set 5 (.slice f c.length g)).set 6 (.int .i64 bw)
  have bA1 := bA.keep B2
  have bR1 := bR.keep B2
  obtain ⟨A, hA⟩ : ∃ A, A = w.heap.size := ⟨_, rfl⟩
  obtain ⟨R, hR⟩ : ∃ R, R = w.heap.size + 1 := ⟨_, rfl⟩
  rw [← hA] at bA1
  rw [← hR] at bR1
  try rw [← hR]
  try rw [← hA]
  have hAR : A ≠ R := by omega
  have hwA : w.heap.size ≤ A := by omega
  have hwR : w.heap.size ≤ R := by omega
  have hAV : A < V.heap.size := by rw [z]; omega
  have hRV : R < V.heap.size := by rw [z]; omega
  have hwV : w.heap.size ≤ V.heap.size := by rw [z]; omega
  clear bAs bA bR
  clear hA hR hV hp1 hc1
  have B3 := below_step B1 B2
  have k0 := bA1.c 0 rfl
  have k1 := bA1.c 1 rfl
  have k2 := bA1.c 2 rfl
  have k3 := bA1.c 3 rfl
  have k4 := bA1.c 4 rfl
  have k5 := bA1.c 5 rfl
  have k6 := bA1.c 6 rfl
  have kf0 := bA1.f 0 rfl
  have kf1 := bA1.f 1 rfl
  have kf2 := bA1.f 2 rfl
  have kf3 := bA1.f 3 rfl
  have kf4 := bA1.f 4 rfl
  have kf5 := bA1.f 5 rfl
  have kf6 := bA1.f 6 rfl
  have r0 := bR1.c 0 rfl
  have rf0 := bR1.f 0 rfl
  have r1 := bR1.c 1 rfl
  have rf1 := bR1.f 1 rfl
  have r2 := bR1.c 2 rfl
  have rf2 := bR1.f 2 rfl
  have r3 := bR1.c 3 rfl
  have rf3 := bR1.f 3 rfl
  have r4 := bR1.c 4 rfl
  have rf4 := bR1.f 4 rfl
  have r5 := bR1.c 5 rfl
  have rf5 := bR1.f 5 rfl
  have r6 := bR1.c 6 rfl
  have rf6 := bR1.f 6 rfl
  have lA := bA1.lt
  have lR := bR1.lt
  go_wp2_with fail
  have bE := (((((((((((bR1.far (o := 3) (u := .slice x p.length y) hAR.symm).far (o := 4) (u := .int .i64 pr) hAR.symm).far (o := 5) (u := .slice f c.length g) hAR.symm).far (o := 6) (u := .int .i64 bw) hAR.symm).set 0 (.int .i64 a)).set 1 (.int .i64 n)).set 2 (.int .i64 pe)).set 3 (.slice x p.length y)).set 4 (.int .i64 pr)).set 5 (.slice f c.length g)).set 6 (.int .i64 bw))
  have e0 := bE.c 0 rfl
  have e1 := bE.c 1 rfl
  have e2 := bE.c 2 rfl
  have e3 := bE.c 3 rfl
  have e4 := bE.c 4 rfl
  have e5 := bE.c 5 rfl
  have e6 := bE.c 6 rfl
  exact bodyPost_ret (v := .agg #[.int .i64 a, .int .i64 n, .int .i64 pe, .slice x p.length y, .int .i64 pr, .slice f c.length g, .int .i64 bw]) (by simp [results, Tryz.results166, go_sem, e0, e1, e2, e3, e4, e5, e6]) rfl
    ⟨x, y, f, g, rfl, (((((((((((o1.far (o := 3) (u := .slice x p.length y) hAV).far (o := 4) (u := .int .i64 pr) hAV).far (o := 5) (u := .slice f c.length g) hAV).far (o := 6) (u := .int .i64 bw) hAV).far (o := 0) (u := .int .i64 a) hRV).far (o := 1) (u := .int .i64 n) hRV).far (o := 2) (u := .int .i64 pe) hRV).far (o := 3) (u := .slice x p.length y) hRV).far (o := 4) (u := .int .i64 pr) hRV).far (o := 5) (u := .slice f c.length g) hRV).far (o := 6) (u := .int .i64 bw) hRV).mono hwV, (((((((((((o2.far (o := 3) (u := .slice x p.length y) hAV).far (o := 4) (u := .int .i64 pr) hAV).far (o := 5) (u := .slice f c.length g) hAV).far (o := 6) (u := .int .i64 bw) hAV).far (o := 0) (u := .int .i64 a) hRV).far (o := 1) (u := .int .i64 n) hRV).far (o := 2) (u := .int .i64 pe) hRV).far (o := 3) (u := .slice x p.length y) hRV).far (o := 4) (u := .int .i64 pr) hRV).far (o := 5) (u := .slice f c.length g) hRV).far (o := 6) (u := .int .i64 bw) hRV).mono hwV, ap, (((((((((((B3.setCell (p := ⟨A, 3, none⟩) hwA _).setCell (p := ⟨A, 4, none⟩) hwA _).setCell (p := ⟨A, 5, none⟩) hwA _).setCell (p := ⟨A, 6, none⟩) hwA _).setCell (p := ⟨R, 0, none⟩) hwR _).setCell (p := ⟨R, 1, none⟩) hwR _).setCell (p := ⟨R, 2, none⟩) hwR _).setCell (p := ⟨R, 3, none⟩) hwR _).setCell (p := ⟨R, 4, none⟩) hwR _).setCell (p := ⟨R, 5, none⟩) hwR _).setCell (p := ⟨R, 6, none⟩) hwR _)⟩
/-- append(s, E): the slice it is handed over in has been made just now -/
theorem wp_appE {ops : Array Oper} {rest : List Oper} {o : Oper} {a : Act} {Q : Exit → Act → World → Prop} {w : World} (hgd : o.guard = none) (s x : Operand)
    (ho : o.op = .call { callee := .builtin .append, args := #[s, x], argTypes := #[30, 30] })
    (base g c : Nat) (v : Value) (n : Nat) (xs : List Value) (ys : List Value) (hs : a.eval s = v) (hx : a.eval x = .slice (some ⟨g, 0, none⟩) 1 c) (hown : w.ownsRow base EI 7 v n xs)
    (h0 : Bl w g ys) (h7 : ys.length = 7) (h1 : ∀ u ∈ ys, u.oneCell' = true) (hlen : n + 1 ≤ 4294967296) (hbase : base ≤ w.heap.size)
    (h : ∀ v' w', w'.ownsRow base EI 7 v' (n + 1) (xs ++ ys) → w.grownBy w' v.ownBlock → (v'.ownBlock = v.ownBlock ∨ v'.ownBlock = some w.heap.size) → wpList Tryz.prog ops Q rest (a.put o.dst v') w') : wpList Tryz.prog ops Q (o :: rest) a w := by
  obtain ⟨i0, hi, hz0, hz1, hz2⟩ := info_parts infoE2
  refine wpList_append_own_at (w := w) hgd s x 30 ho base EI i0 (.agg #[.int .i64 0, .int .i64 0, .int .i64 0, .slice none 0 0, .int .i64 0, .slice none 0 0, .int .i64 0]) 7 88 Tryz.underlying30 hi hz0 hz1 hz2 rfl (by decide) v n xs hs hown ⟨g, 0, none⟩ 1 c ys hx (by omega) (fun j y hy => ?_) h1 (by unfold maxLen; omega) (by omega) hbase fun v' w' ho' hg' _ hor => h v' w' ho' hg' hor
  have hadd : ∀ j, (⟨g, 0, none⟩ : Addr).add j = ⟨g, j, none⟩ := fun j => by unfold Addr.add; split <;> simp_all
  rw [hadd]
  exact h0.c j hy
theorem step_appE {ops : Array Oper} {o : Oper} {a : Act} {K : Act → World → Prop} {Q : Exit → Act → World → Prop} {E : Prop} {w : World} (hgd : o.guard = none) (s x : Operand)
    (ho : o.op = .call { callee := .builtin .append, args := #[s, x], argTypes := #[30, 30] })
    (base g c : Nat) (v : Value) (n : Nat) (xs : List Value) (ys : List Value) (hs : a.eval s = v) (hx : a.eval x = .slice (some ⟨g, 0, none⟩) 1 c) (hown : w.ownsRow base EI 7 v n xs)
    (h0 : Bl w g ys) (h7 : ys.length = 7) (h1 : ∀ u ∈ ys, u.oneCell' = true) (hlen : n + 1 ≤ 4294967296) (hbase : base ≤ w.heap.size)
    (h : ∀ v' w', w'.ownsRow base EI 7 v' (n + 1) (xs ++ ys) → w.grownBy w' v.ownBlock → (v'.ownBlock = v.ownBlock ∨ v'.ownBlock = some w.heap.size) → K (a.put o.dst v') w') : if Region.wanted o (yielded ops a.tmps) = true then Oper.wp Tryz.prog o a w K Q else E := by
  have hw : Region.wanted o (yielded ops a.tmps) = true := by simp [Region.wanted, hgd]
  rw [if_pos hw]
  obtain ⟨i0, hi, hz0, hz1, hz2⟩ := info_parts infoE2
  obtain ⟨v', w', hr, h2, h3, -, h5⟩ := run_append_own_at (P := Tryz.prog) w base 30 o.type EI i0 (.agg #[.int .i64 0, .int .i64 0, .int .i64 0, .slice none 0 0, .int .i64 0, .slice none 0 0, .int .i64 0]) 7 88 Tryz.underlying30 hi hz0 hz1 hz2 rfl (by decide) v n xs hown ⟨g, 0, none⟩ 1 c ys (by omega) (fun j y hy => by
    have hadd : ∀ j, (⟨g, 0, none⟩ : Addr).add j = ⟨g, j, none⟩ := fun j => by unfold Addr.add; split <;> simp_all
    rw [hadd]
    exact h0.c j hy) h1 (by unfold maxLen; omega) (by omega) hbase
  unfold Oper.wp execOp
  simp only [ho, resolve, invoke, builtin, Sem.run_bind, Sem.run_pure, Result.andThen_ok, List.map_toArray, List.map_cons, List.map_nil, hs, hx, hr]
  exact h v' w' h2 h3 h5
end Go.Proofs.YtaiffofmhfflkaaGreat
