/-
  Entries: what a slice of them reads as; contracts of the laws' own functions that size, copy and compare them. Conditions: those in each contract.
  Switches: what an argument that is one reads as; contracts of the laws' own functions that size, copy and compare them. Conditions: those in each contract.
  A table's cells and rows are marked: what else lies in memory stays as it was. Conditions: those in each contract.
  Copies of switches, of the laws: where their blocks lie; comparison of switches. Conditions: those in each contract.
  Messages: what an argument that is one reads as; contracts of the laws' own functions that size, copy and compare them. Conditions: those in each contract.
-/
import Derived.Test.YtkodnipmogdgkabGreatFCa
namespace Go.Proofs.YtkodnipmogdgkabGreat
open Go.ChangeShapes Go.WideShapes Go.ChangeAt Go.RowKit Go.BigFrame Go.Joins
set_option linter.unusedVariables false
set_option maxRecDepth 100000
set_option maxRecDepth 100000
set_option linter.unusedSimpArgs false

abbrev EI : TypeId := 95
abbrev EL : TypeId := 172
structure Ent where
  a : Int
  n : Int
  pe : Int
  p : List Int
  pr : Int
  c : List Int
  bw : Int
def e0 : Ent := ⟨0, 0, 0, [], 0, [], 0⟩
instance : Inhabited Ent := ⟨e0⟩
/-- the cells of block b from o on hold the entry -/
def EntAt (w : World) (b o : Nat) (E : Ent) : Prop :=
  ∃ pv cv, RdI w pv E.p ∧ RdI w cv E.c ∧ w.cell? ⟨b, o, none⟩ = some (.int .i64 E.a) ∧ w.cell? ⟨b, o + 1, none⟩ = some (.int .i64 E.n) ∧ w.cell? ⟨b, o + 2, none⟩ = some (.int .i64 E.pe) ∧ w.cell? ⟨b, o + 3, none⟩ = some (pv) ∧ w.cell? ⟨b, o + 4, none⟩ = some (.int .i64 E.pr) ∧ w.cell? ⟨b, o + 5, none⟩ = some (cv) ∧ w.cell? ⟨b, o + 6, none⟩ = some (.int .i64 E.bw)
theorem EntAt.keep {w w' : World} {b o : Nat} {E : Ent} (h : EntAt w b o E) (hb : Below w.heap.size w w') : EntAt w' b o E := by
  obtain ⟨pv, cv, hp, hc, k0, k1, k2, k3, k4, k5, k6⟩ := h
  exact ⟨pv, cv, hp.keep hb, hc.keep hb, cell_keep hb (World.block_lt_of_cell? w _ k0) k0, cell_keep hb (World.block_lt_of_cell? w _ k1) k1, cell_keep hb (World.block_lt_of_cell? w _ k2) k2, cell_keep hb (World.block_lt_of_cell? w _ k3) k3, cell_keep hb (World.block_lt_of_cell? w _ k4) k4, cell_keep hb (World.block_lt_of_cell? w _ k5) k5, cell_keep hb (World.block_lt_of_cell? w _ k6) k6⟩
/-- the slice value v reads as the entries L -/
def RdE (w : World) (v : Value) (L : List Ent) : Prop :=
  L.length ≤ 9223372036854775807 ∧
  ((∃ a c, v = .slice a 0 c ∧ L = [] ∧ (a = none → c = 0)) ∨
   ∃ b o c, v = .slice (some ⟨b, o, none⟩) L.length c ∧ 0 < L.length ∧ ∀ i, i < L.length → EntAt w b (o + i * 7) (L.getD i e0))
theorem RdE.keep {w w' : World} {v : Value} {L : List Ent} (h : RdE w v L) (hb : Below w.heap.size w w') : RdE w' v L := by
  obtain ⟨h2, h3⟩ := h; refine ⟨h2, ?_⟩
  rcases h3 with h3 | ⟨b, o, c, hv, hp, hc⟩
  · exact .inl h3
  · exact .inr ⟨b, o, c, hv, hp, fun i hi => (hc i hi).keep hb⟩
theorem RdE.len {w : World} {v : Value} {L : List Ent} (h : RdE w v L) : ∃ a c, v = .slice a L.length c := by
  rcases h.2 with ⟨a, c, rfl, rfl, hac⟩ | ⟨b, o, c, rfl, _⟩
  · exact ⟨a, c, rfl⟩
  · exact ⟨_, c, rfl⟩
theorem RdE.el {w : World} {v : Value} {L : List Ent} (h : RdE w v L) : ∃ a c, v = .slice a L.length c ∧ ∀ i, i < L.length → ∃ b o, a = some ⟨b, o, none⟩ ∧ EntAt w b (o + i * 7) (L.getD i e0) := by
  rcases h.2 with ⟨a, c, rfl, rfl, -⟩ | ⟨b, o, c, rfl, -, hc⟩
  · exact ⟨a, c, rfl, fun i hi => absurd hi (by simp)⟩
  · exact ⟨_, c, rfl, fun i hi => ⟨b, o, rfl, hc i hi⟩⟩
theorem RdE.alloc {w : World} {v : Value} {L : List Ent} (h : RdE w v L) (o : Obj) : RdE (w.alloc o) v L := h.keep ((Below.refl _ _).alloc (Nat.le_refl _) _)
theorem RdE.nil (w : World) : RdE w (.slice none 0 0) [] := ⟨by simp, .inl ⟨none, 0, rfl, rfl, fun _ => rfl⟩⟩
/-- the numbers of its slices are numbers -/
def BdE (E : Ent) : Prop := (∀ x ∈ E.p, -9223372036854775808 ≤ x ∧ x ≤ 9223372036854775807) ∧ ∀ x ∈ E.c, -9223372036854775808 ≤ x ∧ x ≤ 9223372036854775807
theorem RdE.bd {w : World} {v : Value} {L : List Ent} (h : RdE w v L) : ∀ i, i < L.length → BdE (L.getD i e0) := by
  obtain ⟨a, c, rfl, hc⟩ := h.el; intro i hi; obtain ⟨b, o, -, pv, cv, hp, hq, -⟩ := hc i hi
  exact ⟨hp.1, hq.1⟩

theorem list7 {α : Type} {xs : List α} (h : xs.length = 7) : ∃ c0 c1 c2 c3 c4 c5 c6, xs = [c0, c1, c2, c3, c4, c5, c6] := by
  match xs, h with
  | [c0, c1, c2, c3, c4, c5, c6], _ => exact ⟨c0, c1, c2, c3, c4, c5, c6, rfl⟩
section
variable {H : Type} {enc : TypeId × Value → H} {W : World} {base : Nat} {d : DataW H} {p : List MemPlace} {v : Value}
theorem cellsE7 : Tryz.prog.cellsOf EL = 7 := by kernel_rfl
theorem cellsI1e : Tryz.prog.cellsOf 3 = 1 := by kernel_rfl
theorem cellsIS1e : Tryz.prog.cellsOf 91 = 1 := by kernel_rfl
theorem cellsPx2 : Tryz.prog.cellsOf 143 = 2 := by kernel_rfl
theorem cellsES1 : Tryz.prog.cellsOf 56 = 1 := by kernel_rfl
theorem ent_trod {fuel : Nat} {x0 x1 x2 x3 x4 x5 x6 : Value} {y : DataW H × List MemPlace} (h : DataW.trod enc Tryz.prog W 0 (fun _ => true) true fuel EL [x0, x1, x2, x3, x4, x5, x6] = some y) :
    ∃ E : Ent, x0 = .int .i64 E.a ∧ x1 = .int .i64 E.n ∧ x2 = .int .i64 E.pe ∧ RdI W x3 E.p ∧ x4 = .int .i64 E.pr ∧ RdI W x5 E.c ∧ x6 = .int .i64 E.bw := by
  obtain ⟨ys, n, _, hx, hl, hlen, hf⟩ := DataW.trod_struct Tryz.underlying172 h
  match ys, hlen with
  | [y0, y1, y2], _ =>
    have h0 := hf 0 _ rfl; have h1 := hf 1 _ rfl; have h2 := hf 2 _ rfl; clear hf
    simp [cellsI1e, cellsPx2, cellsA] at h0 h1 h2
    obtain ⟨z0, z1, n2, -, -, g0, g1⟩ := trod_struct2 Tryz.underlying143 h0; obtain ⟨u0, u1, u2, u3, n3, -, -, t0, t1, t2, t3⟩ := trod_struct4 Tryz.underlying132 h2
    simp [cellsI1e, cellsIS1e] at g0 g1 t0 t1 t2 t3
    obtain ⟨q0, r0, -, -⟩ := DataW.trod_int Tryz.underlying3 g0; obtain ⟨q1, r1, -, -⟩ := DataW.trod_int Tryz.underlying3 g1; obtain ⟨q2, r2, -, -⟩ := DataW.trod_int Tryz.underlying3 h1; obtain ⟨q4, r4, -, -⟩ := DataW.trod_int Tryz.underlying3 t1; obtain ⟨q6, r6, -, -⟩ := DataW.trod_int Tryz.underlying3 t3; obtain ⟨l0, hl0⟩ := rdI_trod t0; obtain ⟨l2, hl2⟩ := rdI_trod t2
    simp at r0 r1 r2 r4 r6
    exact ⟨⟨q0, q1, q2, l0, q4, l2, q6⟩, r0, r1, r2, hl0, r4, hl2, r6⟩
theorem rdE_trod {fuel : Nat} {y : DataW H × List MemPlace} (h : DataW.trod enc Tryz.prog W 0 (fun _ => true) true fuel 56 [v] = some y) : ∃ L, RdE W v L := by
  rcases Deep.open_slice Tryz.underlying56 h with ⟨hcs, _⟩ | ⟨a, len, cap, m, n, D, Pl, hcs, _, hl, hm, hmm, _, hx⟩
  · obtain ⟨rfl, -⟩ := List.cons.inj hcs
    exact ⟨[], RdE.nil W⟩
  · obtain ⟨rfl, -⟩ := List.cons.inj hcs
    have hlm : len ≤ m := by rw [hmm]; split <;> omega
    obtain ⟨b, off, spot⟩ := a
    by_cases h0 : len = 0
    · subst h0
      exact ⟨[], by simp, .inl ⟨_, cap, rfl, rfl, fun h => by cases h⟩⟩
    · have hspot : spot = none := by
        obtain ⟨cs', h1, _⟩ := hx 0 (by omega); rw [cellsE7] at h1; obtain ⟨_, hlen, hcell⟩ := World.cells?_some h1; have h2 := hcell 0 (by omega); rw [List.getElem?_eq_getElem (by omega)] at h2
        simpa [Addr.add] using World.cell?_spot h2
      subst hspot; have hadd : ∀ o k, (⟨b, o, none⟩ : Addr).add k = ⟨b, o + k, none⟩ := fun o k => by unfold Addr.add; split <;> simp_all
      have hex : ∀ i, i < len → ∃ E : Ent, EntAt W b (off + i * 7) E := by
        intro i hi; obtain ⟨cs', h1, h2⟩ := hx i (by omega); rw [cellsE7] at h1; obtain ⟨_, hlen, hcell⟩ := World.cells?_some h1; obtain ⟨x0, x1, x2, x3, x4, x5, x6, rfl⟩ := list7 hlen; obtain ⟨E, rfl, rfl, rfl, g3, rfl, g5, rfl⟩ := ent_trod h2; have e0 := hcell 0 (by omega); have e1 := hcell 1 (by omega); have e2 := hcell 2 (by omega); have e3 := hcell 3 (by omega); have e4 := hcell 4 (by omega); have e5 := hcell 5 (by omega); have e6 := hcell 6 (by omega); simp only [hadd] at e0 e1 e2 e3 e4 e5 e6
        exact ⟨E, x3, x5, g3, g5, e0, e1, e2, e3, e4, e5, e6⟩
      obtain ⟨f, hf⟩ := Deep.choose_lt hex; refine ⟨(List.range len).map f, by simp; unfold maxLen at hm; omega, .inr ⟨b, off, cap, by simp, by simp; omega, fun i hi => ?_⟩⟩; have hi : i < len := by simpa using hi
      rw [show ((List.range len).map f).getD i e0 = f i by simp [List.getD, hi]]
      exact hf i hi
theorem cellsRb : Tryz.prog.cellsOf 58 = 1 := by kernel_rfl
end
/-- what a table weighs -/
def wtE (L : List Ent) : Nat := (L.map fun E => E.p.length + E.c.length).sum
theorem wt_take {L : List Ent} {k : Nat} (h : k < L.length) : wtE (L.take (k + 1)) = wtE (L.take k) + ((L.getD k e0).p.length + (L.getD k e0).c.length) := by
  unfold wtE; rw [List.take_succ_eq_append_getElem h, List.map_append, List.sum_append]; have e : L.getD k e0 = L[k] := by simp [List.getD, h]
  rw [e]
  simp
theorem wt_le (L : List Ent) (k : Nat) : wtE (L.take k) ≤ wtE L := by
  conv => rhs; rw [← List.take_append_drop k L]
  unfold wtE; rw [List.map_append, List.sum_append]
  omega
theorem wt_at {L : List Ent} {k : Nat} (h : k < L.length) : (L.getD k e0).p.length + (L.getD k e0).c.length ≤ wtE L := by
  have h1 := wt_take h; have h2 := wt_le L (k + 1)
  omega
theorem szA_eq {left : Int} {p c : List Int} (h : ¬ szA left p c < 0) : szA left p c = left - (p.length + c.length : Nat) := by
  unfold szA szN at h ⊢
  split at h
  · exact absurd (by decide) h
  · split at h
    · exact absurd (by decide) h
    · rename_i h1 h2
      rw [if_neg h1, if_neg h2]
      omega
theorem szA_neg {left : Int} {p c : List Int} (h0 : 0 ≤ left) (h : szA left p c < 0) : szA left p c = -1 := by
  unfold szA szN at h ⊢
  split at h
  · rename_i h1; rw [if_pos h1]
  · split at h
    · rename_i h1 h2; rw [if_neg h1, if_pos h2]
    · omega
theorem szEnt_any (pv cv : Value) (p c : List Int) (a n pe pr bw left : Int) (w : World) (hp : RdI w pv p) (hc : RdI w cv c) (h0 : 0 ≤ left) (h1 : left ≤ 1048576) :
    Calls Tryz.prog 105 #[.agg #[.int .i64 a, .int .i64 n, .int .i64 pe, pv, .int .i64 pr, cv, .int .i64 bw], .int .i64 left] w fun e w' => e = .returned (.int .i64 (szA left p c)) ∧ Below w.heap.size w w' := by
  obtain ⟨bA, B0, z⟩ := one w [.int .i64 a, .int .i64 n, .int .i64 pe, pv, .int .i64 pr, cv, .int .i64 bw] EL; replace hp := hp.keep B0; replace hc := hc.keep B0; clear z; have a3 := bA.c 3 rfl; have a4 := bA.c 4 rfl; have a5 := bA.c 5 rfl; have a6 := bA.c 6 rfl; obtain ⟨r, hr⟩ : ∃ r, szA left p c = r := ⟨_, rfl⟩; have HR := Lib.hid hr
  by_cases hneg : r < 0
  · have hr1 : r = -1 := by rw [← hr] at hneg ⊢; exact szA_neg h0 hneg
    subst hr1; rw [hr]; clear hr
    go_enter Tryz.func105, Tryz.ntmps105
    go_wp2_with fail; refine (szA_any _ _ p c _ _ _ _ hp hc h0 h1).mono ?_; rw [HR.out]; rintro e w1 ⟨rfl, hb⟩; replace B0 := below_step B0 hb; clear hb; go_wp2
    go_ret
    exact ⟨rfl, B0⟩
  · rw [hr]
    clear hr
    go_enter Tryz.func105, Tryz.ntmps105
    go_wp2_with fail; refine (szA_any _ _ p c _ _ _ _ hp hc h0 h1).mono ?_; rw [HR.out]; rintro e w1 ⟨rfl, hb⟩; replace B0 := below_step B0 hb; clear hb; go_wp2
    go_ret
    exact ⟨rfl, B0⟩
/-- a fresh entry -/
def NewEnt (w : World) (p c : List Int) (a n pe pr bw : Int) (e : Ending) (w' : World) : Prop :=
  ∃ pa px ma mx, e = .returned (.agg #[.int .i64 a, .int .i64 n, .int .i64 pe, .slice pa p.length px, .int .i64 pr, .slice ma c.length mx, .int .i64 bw]) ∧ OwnI w' w.heap.size (.slice pa p.length px) p ∧ OwnI w' w.heap.size (.slice ma c.length mx) c ∧ Apart (.slice pa p.length px) (.slice ma c.length mx) ∧ Below w.heap.size w w'
set_option maxHeartbeats 1000000 in
theorem toEnt_any (pv cv : Value) (p c : List Int) (a n pe pr bw : Int) (w : World) (hp : RdI w pv p) (hc : RdI w cv c) (h2 : p.length ≤ 1048576) (h3 : c.length ≤ 1048576) :
    Calls Tryz.prog 108 #[.agg #[.int .i64 a, .int .i64 n, .int .i64 pe, pv, .int .i64 pr, cv, .int .i64 bw]] w (NewEnt w p c a n pe pr bw) := by
  obtain ⟨bA, bR, bO, B1, z⟩ := three w [.int .i64 a, .int .i64 n, .int .i64 pe, pv, .int .i64 pr, cv, .int .i64 bw] [.int .i64 0, .int .i64 0, .int .i64 0, .slice none 0 0, .int .i64 0, .slice none 0 0, .int .i64 0] [.int .i64 0, .int .i64 0, .int .i64 0, .slice none 0 0, .int .i64 0, .slice none 0 0, .int .i64 0] EL EI EI
  go_enter Tryz.func108, Tryz.ntmps108
  go_wp2_with fail; refine (to_any a n _).mono ?_; rintro e w1 ⟨rfl, hb⟩; have hs := hb.size; rw [z] at hs; replace bA := bA.keep hb; replace bR := bR.keep hb; replace bO := bO.keep hb; replace B1 := below_step B1 hb; clear z hb; obtain ⟨A, hA⟩ : ∃ A, A = w.heap.size := ⟨_, rfl⟩; obtain ⟨R, hR⟩ : ∃ R, R = w.heap.size + 1 := ⟨_, rfl⟩; obtain ⟨O, hO⟩ : ∃ O, O = w.heap.size + 1 + 1 := ⟨_, rfl⟩; rw [← hA] at bA; rw [← hR] at bR; rw [← hO] at bO; rw [← hO, ← hR, ← hA]; have hO3 : O < w.heap.size + 3 := by omega
  have hRO : R ≠ O := by omega
  have hR3 : R < w.heap.size + 3 := by omega
  have hAO : A ≠ O := by omega
  have hwO : w.heap.size ≤ O := by omega
  have hwR : w.heap.size ≤ R := by omega
  clear hA hR hO; have a2 := bA.c 2 rfl; have a3 := bA.c 3 rfl; have a4 := bA.c 4 rfl; have a5 := bA.c 5 rfl; have a6 := bA.c 6 rfl; have o0 := bO.c 0 rfl; have of0 := bO.f 0 rfl; have o1 := bO.c 1 rfl; have of1 := bO.f 1 rfl; have o2 := bO.c 2 rfl; have of2 := bO.f 2 rfl; go_wp2_with fail; clear a2 a3 a4 a5 a6 o0 of0 o1 of1 o2 of2; have hs1 := hs; replace hs1 := Nat.le_trans hs1 (grown_set (w1) O 0 (.int .i64 a)).size; replace bA := bA.far (o := 0) (u := .int .i64 a) hAO; replace bR := bR.far (o := 0) (u := .int .i64 a) hRO; replace bO := bO.set 0 (.int .i64 a); replace B1 := B1.setCell (p := ⟨O, 0, none⟩) hwO (.int .i64 a); replace hs1 := Nat.le_trans hs1 (grown_set ((w1).setCell ⟨O, 0, none⟩ (.int .i64 a)) O 1 (.int .i64 n)).size; replace bA := bA.far (o := 1) (u := .int .i64 n) hAO; replace bR := bR.far (o := 1) (u := .int .i64 n) hRO; replace bO := bO.set 1 (.int .i64 n); replace B1 := B1.setCell (p := ⟨O, 1, none⟩) hwO (.int .i64 n); replace hs1 := Nat.le_trans hs1 (grown_set (((w1).setCell ⟨O, 0, none⟩ (.int .i64 a)).setCell ⟨O, 1, none⟩ (.int .i64 n)) O 2 (.int .i64 pe)).size; replace bA := bA.far (o := 2) (u := .int .i64 pe) hAO; replace bR := bR.far (o := 2) (u := .int .i64 pe) hRO; replace bO := bO.set 2 (.int .i64 pe); replace B1 := B1.setCell (p := ⟨O, 2, none⟩) hwO (.int .i64 pe); refine (toA_any pv cv p c pr bw _ (hp.keep B1) (hc.keep B1) h2 h3).mono ?_; rintro e w3 ⟨pa, px, ma, mx, rfl, hP, hM, apPM, hb⟩; replace hP := hP.mono hs1; replace hM := hM.mono hs1; replace bA := bA.keep hb; replace bR := bR.keep hb; replace bO := bO.keep hb; replace B1 := below_step B1 hb; clear hb hs1 hs; have o0 := bO.c 0 rfl; have of0 := bO.f 0 rfl; have o1 := bO.c 1 rfl; have of1 := bO.f 1 rfl; have o2 := bO.c 2 rfl; have of2 := bO.f 2 rfl; have o3 := bO.c 3 rfl; have of3 := bO.f 3 rfl; have o4 := bO.c 4 rfl; have of4 := bO.f 4 rfl; have o5 := bO.c 5 rfl; have of5 := bO.f 5 rfl; have o6 := bO.c 6 rfl; have of6 := bO.f 6 rfl; have r0 := bR.c 0 rfl; have rf0 := bR.f 0 rfl; have r1 := bR.c 1 rfl; have rf1 := bR.f 1 rfl; have r2 := bR.c 2 rfl; have rf2 := bR.f 2 rfl; have r3 := bR.c 3 rfl; have rf3 := bR.f 3 rfl; have r4 := bR.c 4 rfl; have rf4 := bR.f 4 rfl; have r5 := bR.c 5 rfl; have rf5 := bR.f 5 rfl; have r6 := bR.c 6 rfl; have rf6 := bR.f 6 rfl; go_wp2_with fail; have bE := (((((((((((bR.far (o := 3) (u := .slice pa p.length px) hRO).far (o := 4) (u := .int .i64 pr) hRO).far (o := 5) (u := .slice ma c.length mx) hRO).far (o := 6) (u := .int .i64 bw) hRO).set 0 (.int .i64 a)).set 1 (.int .i64 n)).set 2 (.int .i64 pe)).set 3 (.slice pa p.length px)).set 4 (.int .i64 pr)).set 5 (.slice ma c.length mx)).set 6 (.int .i64 bw)); have e0 := bE.c 0 rfl; have e1 := bE.c 1 rfl; have e2 := bE.c 2 rfl; have e3 := bE.c 3 rfl; have e4 := bE.c 4 rfl; have e5 := bE.c 5 rfl; have e6 := bE.c 6 rfl
  exact bodyPost_ret (v := .agg #[.int .i64 a, .int .i64 n, .int .i64 pe, .slice pa p.length px, .int .i64 pr, .slice ma c.length mx, .int .i64 bw]) (by simp [results, Tryz.results108, go_sem, e0, e1, e2, e3, e4, e5, e6]) rfl
    ⟨pa, px, ma, mx, rfl, ((((((((((((hP.far (o := 3) hO3).far (o := 4) hO3).far (o := 5) hO3).far (o := 6) hO3).far (o := 0) hR3).far (o := 1) hR3).far (o := 2) hR3).far (o := 3) hR3).far (o := 4) hR3).far (o := 5) hR3).far (o := 6) hR3).mono (by omega)), ((((((((((((hM.far (o := 3) hO3).far (o := 4) hO3).far (o := 5) hO3).far (o := 6) hO3).far (o := 0) hR3).far (o := 1) hR3).far (o := 2) hR3).far (o := 3) hR3).far (o := 4) hR3).far (o := 5) hR3).far (o := 6) hR3).mono (by omega)), apPM, (((((((((((B1.setCell (p := ⟨O, 3, none⟩) hwO (.slice pa p.length px)).setCell (p := ⟨O, 4, none⟩) hwO (.int .i64 pr)).setCell (p := ⟨O, 5, none⟩) hwO (.slice ma c.length mx)).setCell (p := ⟨O, 6, none⟩) hwO (.int .i64 bw)).setCell (p := ⟨R, 0, none⟩) hwR (.int .i64 a)).setCell (p := ⟨R, 1, none⟩) hwR (.int .i64 n)).setCell (p := ⟨R, 2, none⟩) hwR (.int .i64 pe)).setCell (p := ⟨R, 3, none⟩) hwR (.slice pa p.length px)).setCell (p := ⟨R, 4, none⟩) hwR (.int .i64 pr)).setCell (p := ⟨R, 5, none⟩) hwR (.slice ma c.length mx)).setCell (p := ⟨R, 6, none⟩) hwR (.int .i64 bw))⟩
/-- element i of the cells xs is the entry E, its slices rows of one's own -/
def EntX (xs : List Value) (w : World) (base i : Nat) (E : Ent) : Prop :=
  ∃ u1 u2, OwnI w base u1 E.p ∧ OwnI w base u2 E.c ∧ xs[i * 7]? = some (.int .i64 E.a) ∧ xs[i * 7 + 1]? = some (.int .i64 E.n) ∧ xs[i * 7 + 2]? = some (.int .i64 E.pe) ∧ xs[i * 7 + 3]? = some (u1) ∧ xs[i * 7 + 4]? = some (.int .i64 E.pr) ∧ xs[i * 7 + 5]? = some (u2) ∧ xs[i * 7 + 6]? = some (.int .i64 E.bw)
def MadeE (w : World) (B n k : Nat) (L : List Ent) : Prop := ∃ xs : List Value, xs.length = n * 7 ∧ Bl w B xs ∧ ∀ i, i < k → EntX xs w (B + 1) i (L.getD i e0)
theorem MadeE.keep {w w' : World} {B n k : Nat} {L : List Ent} (h : MadeE w B n k L) (hb : Below w.heap.size w w') : MadeE w' B n k L := by
  obtain ⟨xs, hl, hB, hx⟩ := h; refine ⟨xs, hl, hB.keep hb, fun i hi => ?_⟩; obtain ⟨u1, u2, h1, h2, h3⟩ := hx i hi
  exact ⟨u1, u2, h1.keep hb, h2.keep hb, h3⟩
theorem MadeE.cell {w : World} {B n k : Nat} {L : List Ent} (h : MadeE w B n k L) (j : Nat) (hj : j < n * 7) : ∃ x, w.cell? ⟨B, j, none⟩ = some x ∧ w.frozen? ⟨B, j, none⟩ = false := by
  obtain ⟨xs, hl, hB, hx⟩ := h
  exact ⟨_, hB.c j (List.getElem?_eq_getElem (by omega)), hB.f j (List.getElem?_eq_getElem (by omega))⟩
theorem MadeE.step {w : World} {B n k : Nat} {L : List Ent} (h : MadeE w B n k L) (hk : k < n) {u1 u2 : Value} {E : Ent} (hE : L.getD k e0 = E) (h1 : OwnI w (B + 1) u1 E.p) (h2 : OwnI w (B + 1) u2 E.c) :
    MadeE (((((((w.setCell ⟨B, k * 7, none⟩ (.int .i64 E.a)).setCell ⟨B, k * 7 + 1, none⟩ (.int .i64 E.n)).setCell ⟨B, k * 7 + 2, none⟩ (.int .i64 E.pe)).setCell ⟨B, k * 7 + 3, none⟩ (u1)).setCell ⟨B, k * 7 + 4, none⟩ (.int .i64 E.pr)).setCell ⟨B, k * 7 + 5, none⟩ (u2)).setCell ⟨B, k * 7 + 6, none⟩ (.int .i64 E.bw)) B n (k + 1) L := by
  obtain ⟨xs, hl, hB, hx⟩ := h; refine ⟨(((((((xs.set (k * 7) (.int .i64 E.a)).set (k * 7 + 1) (.int .i64 E.n)).set (k * 7 + 2) (.int .i64 E.pe)).set (k * 7 + 3) (u1)).set (k * 7 + 4) (.int .i64 E.pr)).set (k * 7 + 5) (u2)).set (k * 7 + 6) (.int .i64 E.bw)), by simpa using hl, (((((((hB.set (k * 7) (.int .i64 E.a)).set (k * 7 + 1) (.int .i64 E.n)).set (k * 7 + 2) (.int .i64 E.pe)).set (k * 7 + 3) (u1)).set (k * 7 + 4) (.int .i64 E.pr)).set (k * 7 + 5) (u2)).set (k * 7 + 6) (.int .i64 E.bw)), fun i hi => ?_⟩
  by_cases e : i = k
  · have e' := e.symm
    subst e'; rw [hE]; refine ⟨u1, u2, (OwnI.far (o := k * 7 + 6) (u := .int .i64 E.bw) (OwnI.far (o := k * 7 + 5) (u := u2) (OwnI.far (o := k * 7 + 4) (u := .int .i64 E.pr) (OwnI.far (o := k * 7 + 3) (u := u1) (OwnI.far (o := k * 7 + 2) (u := .int .i64 E.pe) (OwnI.far (o := k * 7 + 1) (u := .int .i64 E.n) (OwnI.far (o := k * 7) (u := .int .i64 E.a) h1 (Nat.lt_succ_self B)) (Nat.lt_succ_self B)) (Nat.lt_succ_self B)) (Nat.lt_succ_self B)) (Nat.lt_succ_self B)) (Nat.lt_succ_self B)) (Nat.lt_succ_self B)), (OwnI.far (o := k * 7 + 6) (u := .int .i64 E.bw) (OwnI.far (o := k * 7 + 5) (u := u2) (OwnI.far (o := k * 7 + 4) (u := .int .i64 E.pr) (OwnI.far (o := k * 7 + 3) (u := u1) (OwnI.far (o := k * 7 + 2) (u := .int .i64 E.pe) (OwnI.far (o := k * 7 + 1) (u := .int .i64 E.n) (OwnI.far (o := k * 7) (u := .int .i64 E.a) h2 (Nat.lt_succ_self B)) (Nat.lt_succ_self B)) (Nat.lt_succ_self B)) (Nat.lt_succ_self B)) (Nat.lt_succ_self B)) (Nat.lt_succ_self B)) (Nat.lt_succ_self B)), ?_, ?_, ?_, ?_, ?_, ?_, ?_⟩
    all_goals simp only [List.getElem?_set, List.length_set]
    all_goals simp (disch := omega) [hl]
    all_goals omega
  · obtain ⟨v1, v2, g1, g2, c0, c1, c2, c3, c4, c5, c6⟩ := hx i (by omega)
    refine ⟨v1, v2, (OwnI.far (o := k * 7 + 6) (u := .int .i64 E.bw) (OwnI.far (o := k * 7 + 5) (u := u2) (OwnI.far (o := k * 7 + 4) (u := .int .i64 E.pr) (OwnI.far (o := k * 7 + 3) (u := u1) (OwnI.far (o := k * 7 + 2) (u := .int .i64 E.pe) (OwnI.far (o := k * 7 + 1) (u := .int .i64 E.n) (OwnI.far (o := k * 7) (u := .int .i64 E.a) g1 (Nat.lt_succ_self B)) (Nat.lt_succ_self B)) (Nat.lt_succ_self B)) (Nat.lt_succ_self B)) (Nat.lt_succ_self B)) (Nat.lt_succ_self B)) (Nat.lt_succ_self B)), (OwnI.far (o := k * 7 + 6) (u := .int .i64 E.bw) (OwnI.far (o := k * 7 + 5) (u := u2) (OwnI.far (o := k * 7 + 4) (u := .int .i64 E.pr) (OwnI.far (o := k * 7 + 3) (u := u1) (OwnI.far (o := k * 7 + 2) (u := .int .i64 E.pe) (OwnI.far (o := k * 7 + 1) (u := .int .i64 E.n) (OwnI.far (o := k * 7) (u := .int .i64 E.a) g2 (Nat.lt_succ_self B)) (Nat.lt_succ_self B)) (Nat.lt_succ_self B)) (Nat.lt_succ_self B)) (Nat.lt_succ_self B)) (Nat.lt_succ_self B)) (Nat.lt_succ_self B)), ?_, ?_, ?_, ?_, ?_, ?_, ?_⟩
    all_goals (repeat rw [List.getElem?_set_ne (by omega)])
    all_goals assumption
/-- a row of entries of one's own -/
def OwnE (w : World) (base : Nat) (v : Value) (L : List Ent) : Prop := ∃ B, v = .slice (some ⟨B, 0, none⟩) L.length L.length ∧ base ≤ B ∧ MadeE w B L.length L.length L
theorem OwnE.keep {w w' : World} {base : Nat} {v : Value} {L : List Ent} (h : OwnE w base v L) (hb : Below w.heap.size w w') : OwnE w' base v L := by
  obtain ⟨B, rfl, h1, h2⟩ := h
  exact ⟨B, rfl, h1, h2.keep hb⟩
theorem OwnE.mono {w : World} {base base' : Nat} {v : Value} {L : List Ent} (h : OwnE w base v L) (hb : base' ≤ base) : OwnE w base' v L := by
  obtain ⟨B, rfl, h1, h2⟩ := h
  exact ⟨B, rfl, Nat.le_trans hb h1, h2⟩
theorem OwnE.rd {w : World} {base : Nat} {v : Value} {L : List Ent} (h : OwnE w base v L) (hd : ∀ i, i < L.length → BdE (L.getD i e0)) (hn : L.length ≤ 1048576) : RdE w v L := by
  obtain ⟨B, rfl, h1, xs, hl, hB, hx⟩ := h; refine ⟨by omega, ?_⟩
  by_cases h0 : L.length = 0
  · refine .inl ⟨some ⟨B, 0, none⟩, 0, by rw [h0], List.eq_nil_of_length_eq_zero h0, fun h => by cases h⟩
  · refine .inr ⟨B, 0, L.length, rfl, by omega, fun i hi => ?_⟩
    obtain ⟨u1, u2, g1, g2, c0, c1, c2, c3, c4, c5, c6⟩ := hx i hi; refine ⟨u1, u2, g1.rd (hd i hi).1, g2.rd (hd i hi).2, ?_⟩; simp only [Nat.zero_add]
    exact ⟨hB.c _ c0, hB.c _ c1, hB.c _ c2, hB.c _ c3, hB.c _ c4, hB.c _ c5, hB.c _ c6⟩
theorem infoE : (Tryz.prog.info? EI).map (fun i => (i.zero, i.size, i.bytes)) = some (some (.agg #[.int .i64 0, .int .i64 0, .int .i64 0, .slice none 0 0, .int .i64 0, .slice none 0 0, .int .i64 0]), 7, 88) := by kernel_rfl
theorem make_E (t : TypeId) (ht : Tryz.prog.underlying t = some (.slice EI)) (n : Nat) (hn : n ≤ 1048576) (w : World) :
    (Instr.makeSlice t (.int .i64 (n : Int)) (.int .i64 (n : Int))).run Tryz.prog w = .ok (.slice (some ⟨w.heap.size, 0, none⟩) n n) (w.alloc (.cells (madeCells #[Value.int .i64 0, Value.int .i64 0, Value.int .i64 0, Value.slice none 0 0, Value.int .i64 0, Value.slice none 0 0, Value.int .i64 0] (n * 7)) EI)) := by
  obtain ⟨i, hi, hzz⟩ := Option.map_eq_some_iff.1 infoE; simp only [Prod.mk.injEq] at hzz; obtain ⟨hz, hs, hb⟩ := hzz; have hr := run_make (P := Tryz.prog) w t EI i _ ht hi hz .i64 .i64 n n (by omega) (Int.le_refl _) (by rw [hb]; omega) (by omega)
  simpa only [Int.toNat_natCast, hs, Value.cells] using hr
theorem made_start (w : World) (n : Nat) (L : List Ent) : MadeE (w.alloc (.cells (madeCells #[Value.int .i64 0, Value.int .i64 0, Value.int .i64 0, Value.slice none 0 0, Value.int .i64 0, Value.slice none 0 0, Value.int .i64 0] (n * 7)) EI)) w.heap.size n 0 L := by
  refine ⟨(madeCells #[Value.int .i64 0, Value.int .i64 0, Value.int .i64 0, Value.slice none 0 0, Value.int .i64 0, Value.slice none 0 0, Value.int .i64 0] (n * 7)).toList, by simp [size_madeCells], ?_, fun i hi => absurd hi (Nat.not_lt_zero _)⟩; have := Bl.new w (madeCells #[Value.int .i64 0, Value.int .i64 0, Value.int .i64 0, Value.slice none 0 0, Value.int .i64 0, Value.slice none 0 0, Value.int .i64 0] (n * 7)).toList EI w.heap.size rfl
  simpa using this
set_option maxHeartbeats 1000000 in
theorem toES_any (v : Value) (L : List Ent) (w : World) (h : RdE w v L) (hn : L.length + wtE L ≤ 1048576) :
    Calls Tryz.prog 82 #[v] w fun e w' => ∃ u, e = .returned u ∧ OwnE w' w.heap.size u L ∧ Below w.heap.size w w' := by
  have hmk := fun W => make_E 67 Tryz.underlying67 L.length (by omega) W
  obtain ⟨a, c, rfl, hc⟩ := h.el; obtain ⟨n, hn'⟩ : ∃ n, n = L.length := ⟨_, rfl⟩; rw [← hn'] at hc hn hmk ⊢; have hnn : n ≤ 1048576 := by omega
  have HN := Lib.hid hn'; have HW := Lib.hid hn; clear hn' h hn; obtain ⟨B, hBB⟩ : ∃ B, B = w.heap.size := ⟨_, rfl⟩; have hst := made_start w n L; rw [← hBB] at hst; have HS := Lib.hid hst; have HBB := Lib.hid hBB; have hwB : w.heap.size ≤ B := by omega
  clear hst
  go_enter Tryz.func82, Tryz.ntmps82
  go_wp2; rw [← hBB]; clear hmk hBB
  go_loopw [4] (fun i wr => ∃ k : Nat, k ≤ n ∧ i = .int .i64 k ∧ MadeE wr B n k L ∧ Below w.heap.size w wr) (fun i _ => n - (intOf i).toNat)
  case atStart => exact ⟨0, Nat.zero_le _, rfl, HS.out, (Below.refl _ _).alloc (Nat.le_refl _) _⟩
  case round =>
    obtain ⟨k, hk, rfl, hM, hB⟩ := hrel
    by_cases hlt : k < n
    · have hltI : (k : Int) < (n : Int) := by omega
      obtain ⟨b, o, rfl, hE⟩ := hc k hlt; obtain ⟨E, hx⟩ : ∃ E, L.getD k e0 = E := ⟨_, rfl⟩; rw [hx] at hE; obtain ⟨pv, cv, hp, hq, k0, k1, k2, k3, k4, k5, k6⟩ := hE.keep hB; have HX := Lib.hid hx; have HCC := Lib.hid hc; clear hx hc hE
      have hpl : E.p.length ≤ 1048576 := by
        have h1 := wt_at (L := L) (k := k) (by rw [← HN.out]; exact hlt); rw [HX.out] at h1; have := HW.out
        omega
      have hcl : E.c.length ≤ 1048576 := by
        have h1 := wt_at (L := L) (k := k) (by rw [← HN.out]; exact hlt); rw [HX.out] at h1; have := HW.out
        omega
      have hBW : B < wr.heap.size := by
        obtain ⟨xs, hl, hBl, -⟩ := hM
        exact hBl.lt
      go_wp2_with fail; refine (toEnt_any pv cv E.p E.c _ _ _ _ _ _ hp hq hpl hcl).mono ?_; rintro e w2 ⟨pa, px, ma, mx, rfl, h1, h2, ap, hb⟩; have hM2 := hM.keep hb; have hB2 := below_step hB hb; replace h1 := h1.mono (Nat.succ_le_of_lt hBW); replace h2 := h2.mono (Nat.succ_le_of_lt hBW); clear hM hB hb k0 k1 k2 k3 k4 k5 k6 hp hq ap hpl hcl hBW; obtain ⟨p0, g0, f0⟩ := hM2.cell (k * 7) (by omega); obtain ⟨p1, g1, f1⟩ := hM2.cell (k * 7 + 1) (by omega); obtain ⟨p2, g2, f2⟩ := hM2.cell (k * 7 + 2) (by omega); obtain ⟨p3, g3, f3⟩ := hM2.cell (k * 7 + 3) (by omega); obtain ⟨p4, g4, f4⟩ := hM2.cell (k * 7 + 4) (by omega); obtain ⟨p5, g5, f5⟩ := hM2.cell (k * 7 + 5) (by omega); obtain ⟨p6, g6, f6⟩ := hM2.cell (k * 7 + 6) (by omega); have HM := Lib.hid (hM2.step hlt HX.out h1 h2); have hB3 := (((((((hB2.setCell (p := ⟨B, k * 7, none⟩) hwB (.int .i64 E.a)).setCell (p := ⟨B, k * 7 + 1, none⟩) hwB (.int .i64 E.n)).setCell (p := ⟨B, k * 7 + 2, none⟩) hwB (.int .i64 E.pe)).setCell (p := ⟨B, k * 7 + 3, none⟩) hwB ((.slice pa E.p.length px))).setCell (p := ⟨B, k * 7 + 4, none⟩) hwB (.int .i64 E.pr)).setCell (p := ⟨B, k * 7 + 5, none⟩) hwB ((.slice ma E.c.length mx))).setCell (p := ⟨B, k * 7 + 6, none⟩) hwB (.int .i64 E.bw)); clear hM2 hB2 h1 h2; go_wp2
      go_roundw
      case rel => exact ⟨k + 1, by omega, by go_num, HM.out, hB3⟩
      case measure => simp [intOf]; omega
    · have hkn : k = n := by omega
      subst hkn; clear hc; go_wp2
      go_ret
      exact ⟨.slice (some ⟨B, 0, none⟩) k k, rfl, ⟨B, by rw [← HN.out], hwB, by rw [← HN.out]; exact hM⟩, hB⟩
theorem toRb_any (v : Value) (L : List Ent) (w : World) (h : RdE w v L) (hn : L.length + wtE L ≤ 1048576) :
    Calls Tryz.prog 54 #[.agg #[v]] w fun e w' => ∃ u, e = .returned (.agg #[u]) ∧ OwnE w' w.heap.size u L ∧ Below w.heap.size w w' := by
  obtain ⟨bA, bR, bO, B1, z⟩ := three w [v] [.slice none 0 0] [.slice none 0 0] 58 69 69; have h1 := h.keep B1
  go_enter Tryz.func54, Tryz.ntmps54
  go_wp2_with fail; refine (toES_any _ L _ h1 hn).mono ?_; rintro e w1 ⟨u, rfl, ho, hb⟩; replace bA := bA.keep hb; replace bR := bR.keep hb; replace bO := bO.keep hb; have hs := hb.size; replace B1 := below_step B1 hb; rw [z] at ho hs; clear z hb h1; obtain ⟨A, hA⟩ : ∃ A, A = w.heap.size := ⟨_, rfl⟩; obtain ⟨R, hR⟩ : ∃ R, R = w.heap.size + 1 := ⟨_, rfl⟩; obtain ⟨O, hO⟩ : ∃ O, O = w.heap.size + 1 + 1 := ⟨_, rfl⟩; rw [← hA] at bA; rw [← hR] at bR; rw [← hO] at bO; rw [← hO, ← hR]
  try rw [← hA]
  have hO3 : O < w.heap.size + 3 := by omega
  have hRO : R ≠ O := by omega
  have hR3 : R < w.heap.size + 3 := by omega
  have hwO : w.heap.size ≤ O := by omega
  have hwR : w.heap.size ≤ R := by omega
  clear hA hR hO; obtain ⟨B, rfl, hBb, hM⟩ := ho; have o0 := bO.c 0 rfl; have of0 := bO.f 0 rfl; have r0 := bR.c 0 rfl; have rf0 := bR.f 0 rfl; go_wp2_with fail; have bE := (bR.far (o := 0) (u := .slice (some ⟨B, 0, none⟩) L.length L.length) hRO).set 0 (.slice (some ⟨B, 0, none⟩) L.length L.length); have e0 := bE.c 0 rfl
  have hM2 : MadeE ((w1.setCell ⟨O, 0, none⟩ (.slice (some ⟨B, 0, none⟩) L.length L.length)).setCell ⟨R, 0, none⟩ (.slice (some ⟨B, 0, none⟩) L.length L.length)) B L.length L.length L := by
    obtain ⟨xs, hl, hBl, hx⟩ := hM; refine ⟨xs, hl, (hBl.far (by omega)).far (by omega), fun i hi => ?_⟩; obtain ⟨u1, u2, g1, g2, g3⟩ := hx i hi
    exact ⟨u1, u2, (g1.far (by omega)).far (by omega), (g2.far (by omega)).far (by omega), g3⟩
  exact bodyPost_ret (v := .agg #[.slice (some ⟨B, 0, none⟩) L.length L.length]) (by simp [results, Tryz.results54, go_sem, e0]) rfl
    ⟨_, rfl, ⟨B, rfl, by omega, hM2⟩, (B1.setCell (p := ⟨O, 0, none⟩) hwO _).setCell (p := ⟨R, 0, none⟩) hwR _⟩
theorem eqPx_same (a n : Int) (w : World) : Calls Tryz.prog 102 #[.agg #[.int .i64 a, .int .i64 n], .agg #[.int .i64 a, .int .i64 n]] w fun e w' => e = .returned (.bool true) ∧ Below w.heap.size w w' := by
  have := eqPx_any a n a n w
  simpa using this
theorem eqEnt_same (pv cv pv2 cv2 : Value) (p c : List Int) (a n pe pr bw : Int) (w : World) (hp : RdI w pv p) (hc : RdI w cv c) (hp2 : RdI w pv2 p) (hc2 : RdI w cv2 c) :
    Calls Tryz.prog 138 #[.agg #[.int .i64 a, .int .i64 n, .int .i64 pe, pv, .int .i64 pr, cv, .int .i64 bw], .agg #[.int .i64 a, .int .i64 n, .int .i64 pe, pv2, .int .i64 pr, cv2, .int .i64 bw]] w fun e w' => e = .returned (.bool true) ∧ Below w.heap.size w w' := by
  obtain ⟨bA, bB, B1, z⟩ := two w [.int .i64 a, .int .i64 n, .int .i64 pe, pv, .int .i64 pr, cv, .int .i64 bw] [.int .i64 a, .int .i64 n, .int .i64 pe, pv2, .int .i64 pr, cv2, .int .i64 bw] EI EI; replace hp := hp.keep B1; replace hc := hc.keep B1; replace hp2 := hp2.keep B1; replace hc2 := hc2.keep B1; clear z; have q0 : (pe != pe) = false := by simp
  go_enter Tryz.func138, Tryz.ntmps138
  go_wp2_with fail; refine (eqPx_same a n _).mono ?_; rintro e w1 ⟨rfl, hb⟩; replace bA := bA.keep hb; replace bB := bB.keep hb; replace hp := hp.keep hb; replace hc := hc.keep hb; replace hp2 := hp2.keep hb; replace hc2 := hc2.keep hb; replace B1 := below_step B1 hb; clear hb; have a2 := bA.c 2 rfl; have a3 := bA.c 3 rfl; have a4 := bA.c 4 rfl; have a5 := bA.c 5 rfl; have a6 := bA.c 6 rfl; have b2 := bB.c 2 rfl; have b3 := bB.c 3 rfl; have b4 := bB.c 4 rfl; have b5 := bB.c 5 rfl; have b6 := bB.c 6 rfl; go_wp2_with fail; refine (eqA_same _ _ _ _ p c pr bw _ hp hc hp2 hc2).mono ?_; rintro e w3 ⟨rfl, hb⟩; replace B1 := below_step B1 hb; clear hb; go_wp2
  go_ret
  exact ⟨rfl, B1⟩
set_option maxHeartbeats 1000000 in
theorem eqES_same (v u : Value) (L : List Ent) (w : World) (h1 : RdE w v L) (h2 : RdE w u L) :
    Calls Tryz.prog 103 #[v, u] w fun e w' => e = .returned (.bool true) ∧ Below w.heap.size w w' := by
  have hm1 := h1.1; obtain ⟨a, c, rfl, hc⟩ := h1.el; obtain ⟨a', c', rfl, hc'⟩ := h2.el; obtain ⟨n, hn⟩ : ∃ n, n = L.length := ⟨_, rfl⟩; rw [← hn] at hc hc' hm1 ⊢; have HN := Lib.hid hn; clear hn h1 h2; have hnn : ((n : Int) != (n : Int)) = false := by simp
  go_enter Tryz.func103, Tryz.ntmps103
  go_wp2
  go_loopw [5] (fun i wr => ∃ k : Nat, k ≤ n ∧ i = .int .i64 k ∧ Below w.heap.size w wr) (fun i _ => n - (intOf i).toNat)
  case atStart => exact ⟨0, Nat.zero_le _, rfl, Below.refl _ _⟩
  case round =>
    obtain ⟨k, hk, rfl, hB⟩ := hrel
    by_cases hlt : k < n
    · have hltI : (k : Int) < (n : Int) := by omega
      obtain ⟨b, o, rfl, hE⟩ := hc k hlt; obtain ⟨b', o', rfl, hE'⟩ := hc' k hlt; obtain ⟨E, hx⟩ : ∃ E, L.getD k e0 = E := ⟨_, rfl⟩; rw [hx] at hE hE'; obtain ⟨pv, cv, hp, hq, k0, k1, k2, k3, k4, k5, k6⟩ := hE.keep hB; obtain ⟨pv2, cv2, hp2, hq2, m0, m1, m2, m3, m4, m5, m6⟩ := hE'.keep hB; clear hx hc hc' hE hE'; go_wp2
      go_region_held3 (fun w' => Over wr w' ∧ w'.cell? ⟨b, o + k * 7, none⟩ = some (.int .i64 E.a) ∧ w'.cell? ⟨b, o + k * 7 + 1, none⟩ = some (.int .i64 E.n) ∧ w'.cell? ⟨b, o + k * 7 + 2, none⟩ = some (.int .i64 E.pe) ∧ w'.cell? ⟨b, o + k * 7 + 3, none⟩ = some (pv) ∧ w'.cell? ⟨b, o + k * 7 + 4, none⟩ = some (.int .i64 E.pr) ∧ w'.cell? ⟨b, o + k * 7 + 5, none⟩ = some (cv) ∧ w'.cell? ⟨b, o + k * 7 + 6, none⟩ = some (.int .i64 E.bw) ∧ w'.cell? ⟨b', o' + k * 7, none⟩ = some (.int .i64 E.a) ∧ w'.cell? ⟨b', o' + k * 7 + 1, none⟩ = some (.int .i64 E.n) ∧ w'.cell? ⟨b', o' + k * 7 + 2, none⟩ = some (.int .i64 E.pe) ∧ w'.cell? ⟨b', o' + k * 7 + 3, none⟩ = some (pv2) ∧ w'.cell? ⟨b', o' + k * 7 + 4, none⟩ = some (.int .i64 E.pr) ∧ w'.cell? ⟨b', o' + k * 7 + 5, none⟩ = some (cv2) ∧ w'.cell? ⟨b', o' + k * 7 + 6, none⟩ = some (.int .i64 E.bw))
        ((first | exact ⟨over_drew _, k0, k1, k2, k3, k4, k5, k6, m0, m1, m2, m3, m4, m5, m6⟩ | exact (fun o => ⟨o, over_cell o (World.block_lt_of_cell? wr _ k0) k0, over_cell o (World.block_lt_of_cell? wr _ k1) k1, over_cell o (World.block_lt_of_cell? wr _ k2) k2, over_cell o (World.block_lt_of_cell? wr _ k3) k3, over_cell o (World.block_lt_of_cell? wr _ k4) k4, over_cell o (World.block_lt_of_cell? wr _ k5) k5, over_cell o (World.block_lt_of_cell? wr _ k6) k6, over_cell o (World.block_lt_of_cell? wr _ m0) m0, over_cell o (World.block_lt_of_cell? wr _ m1) m1, over_cell o (World.block_lt_of_cell? wr _ m2) m2, over_cell o (World.block_lt_of_cell? wr _ m3) m3, over_cell o (World.block_lt_of_cell? wr _ m4) m4, over_cell o (World.block_lt_of_cell? wr _ m5) m5, over_cell o (World.block_lt_of_cell? wr _ m6) m6⟩) (over_step (by assumption : Over wr _ ∧ _).1 (by assumption))))
        ((first | (go_at_call 138; refine (eqEnt_same pv cv pv2 cv2 E.p E.c _ _ _ _ _ _ (rdI_over hp (‹Over wr _ ∧ _›).1) (rdI_over hq (‹Over wr _ ∧ _›).1) (rdI_over hp2 (‹Over wr _ ∧ _›).1) (rdI_over hq2 (‹Over wr _ ∧ _›).1)).mono ?_; rintro e w6 ⟨rfl, hbb⟩)))
      rename_i hH
      replace hB := below_step hB hH.1; clear hH hbb k0 k1 k2 k3 k4 k5 k6 m0 m1 m2 m3 m4 m5 m6 hp hq hp2 hq2; go_wp2
      go_roundw
      case rel => exact ⟨k + 1, by omega, by go_num, hB⟩
      case measure => simp [intOf]; omega
    · have hkn : k = n := by omega
      clear hc hc'; go_wp2
      go_ret
      exact ⟨rfl, hB⟩
theorem eqRb_same (v u : Value) (L : List Ent) (w : World) (h1 : RdE w v L) (h2 : RdE w u L) :
    Calls Tryz.prog 68 #[.agg #[v], .agg #[u]] w fun e w' => e = .returned (.bool true) ∧ Below w.heap.size w w' := by
  obtain ⟨bA, bB, B1, z⟩ := two w [v] [u] 69 69; replace h1 := h1.keep B1; replace h2 := h2.keep B1; clear z
  go_enter Tryz.func68, Tryz.ntmps68
  go_wp2_with fail; refine (eqES_same _ _ L _ h1 h2).mono ?_; rintro e w1 ⟨rfl, hb⟩; replace B1 := below_step B1 hb; clear hb; go_wp2
  go_ret
  exact ⟨rfl, B1⟩
end Go.Proofs.YtkodnipmogdgkabGreat
namespace Go.Proofs.YtkodnipmogdgkabGreat
open Go.ChangeShapes Go.WideShapes Go.ChangeAt Go.RowKit Go.BigFrame Go.Joins
set_option linter.unusedVariables false
set_option maxRecDepth 100000
set_option linter.unusedSimpArgs false
set_option maxRecDepth 100000

theorem szES_l (v : Value) (L : List Ent) (left : Int) (w : World) (h : RdE w v L) (hl0 : 0 ≤ left) (hl1 : left ≤ 1048576) :
    Calls Tryz.prog 70 #[v, .int .i64 left] w fun e w' => ∃ r : Int, e = .returned (.int .i64 r) ∧ (¬ r < 0 → r = left - (L.length : Nat) - (wtE L : Nat)) ∧ (r < 0 → r = -1) ∧ Below w.heap.size w w' := by
  have hm := h.1; obtain ⟨a, c, rfl, hc⟩ := h.el; obtain ⟨n, hn⟩ : ∃ n, n = L.length := ⟨_, rfl⟩; rw [← hn] at hc hm ⊢; have HN := Lib.hid hn; clear h hn
  by_cases hbig : left - n < 0
  · go_enter Tryz.func70, Tryz.ntmps70
    have hw1 : IntKind.i64.wrap (left - (n : Int)) = left - (n : Int) := wrap64_in _ (by omega) (by omega); go_wp2
    go_ret
    exact ⟨-1, rfl, fun h => by omega, fun _ => rfl, Below.refl _ _⟩
  · have hnn : (n : Int) ≤ 1048576 := by omega
    have hw1 : IntKind.i64.wrap (left - (n : Int)) = left - (n : Int) := wrap64_in _ (by omega) (by omega)
    go_enter Tryz.func70, Tryz.ntmps70
    go_wp2
    go_loopw [1, 5] (fun q i wr => ∃ k : Nat, k ≤ n ∧ i = .int .i64 k ∧ (∃ l : Int, q = .int .i64 l ∧ 0 ≤ l ∧ l = left - (n : Int) - (wtE (L.take k) : Nat)) ∧ Below w.heap.size w wr) (fun _ i _ => n - (intOf i).toNat)
    case atStart => exact ⟨0, Nat.zero_le _, rfl, ⟨_, rfl, by omega, by simp [wtE]⟩, Below.refl _ _⟩
    case round =>
      obtain ⟨k, hk, rfl, ⟨l, rfl, hl0, hl⟩, hB⟩ := hrel; have HL := Lib.hid hl; have hl1 : l ≤ 1048576 := by omega
      clear hl
      by_cases hlt : k < n
      · have hltI : (k : Int) < (n : Int) := by omega
        obtain ⟨b, o, rfl, hE⟩ := hc k hlt; obtain ⟨E, hx⟩ : ∃ E, L.getD k e0 = E := ⟨_, rfl⟩; rw [hx] at hE; obtain ⟨pv, cv, hp, hq, k0, k1, k2, k3, k4, k5, k6⟩ := hE.keep hB; have HX := Lib.hid hx; have HCC := Lib.hid hc; clear hx hc hE; obtain ⟨r, hr⟩ : ∃ r, szA l E.p E.c = r := ⟨_, rfl⟩; have HR := Lib.hid hr; have hneg1 : r < 0 → r = -1 := fun hneg => by rw [← hr] at hneg ⊢; exact szA_neg hl0 hneg
        have HN1 := Lib.hid hneg1; clear hr hneg1
        by_cases hneg : r < 0
        · go_wp2_with fail
          refine (szEnt_any pv cv E.p E.c _ _ _ _ _ _ _ hp hq hl0 hl1).mono ?_; rw [HR.out]; rintro e w1 ⟨rfl, hb⟩; have hB2 := below_step hB hb; clear hb hB k0 k1 k2 k3 k4 k5 k6 hp hq; go_wp2
          go_ret
          exact ⟨-1, rfl, fun h => by omega, fun _ => rfl, hB2⟩
        · go_wp2_with fail
          refine (szEnt_any pv cv E.p E.c _ _ _ _ _ _ _ hp hq hl0 hl1).mono ?_; rw [HR.out]; rintro e w1 ⟨rfl, hb⟩; have hB2 := below_step hB hb; clear hb hB k0 k1 k2 k3 k4 k5 k6 hp hq; go_wp2
          go_roundw
          case rel =>
            refine ⟨k + 1, by omega, by go_num, ⟨r, rfl, by omega, ?_⟩, hB2⟩; have h1 := wt_take (L := L) (k := k) (by rw [← HN.out]; exact hlt); rw [HX.out] at h1; have h2 := szA_eq (left := l) (p := E.p) (c := E.c) (by rw [HR.out]; omega); rw [HR.out] at h2; have h3 := HL.out
            omega
          case measure => simp [intOf]; omega
      · have hkn : k = n := by omega
        subst hkn; have hw : wtE (L.take k) = wtE L := by rw [List.take_of_length_le (by rw [HN.out]; exact Nat.le_refl _)]
        clear hc; go_wp2
        go_ret
        refine ⟨l, rfl, fun _ => ?_, fun h => by omega, hB⟩; have h3 := HL.out; rw [hw] at h3
        exact h3
theorem szRb_l (v : Value) (L : List Ent) (left : Int) (w : World) (h : RdE w v L) (hl0 : 0 ≤ left) (hl1 : left ≤ 1048576) :
    Calls Tryz.prog 42 #[.agg #[v], .int .i64 left] w fun e w' => ∃ r : Int, e = .returned (.int .i64 r) ∧ (¬ r < 0 → r = left - (L.length : Nat) - (wtE L : Nat)) ∧ Below w.heap.size w w' := by
  obtain ⟨bA, B0, z⟩ := one w [v] 58; replace h := h.keep B0; clear z
  go_enter Tryz.func42, Tryz.ntmps42
  go_wp2_with fail; refine (szES_l _ L left _ h hl0 hl1).mono ?_; rintro e w1 ⟨r, rfl, h1, h2, hb⟩; replace B0 := below_step B0 hb; have H1 := Lib.hid h1; have H2 := Lib.hid h2; clear hb h1 h2
  by_cases hneg : r < 0
  · go_wp2
    go_ret
    exact ⟨_, rfl, fun h => by omega, B0⟩
  · go_wp2
    go_ret
    exact ⟨r, rfl, H1.out, B0⟩
structure Nd where
  an : Int
  own : List (Int × Int)
  bw : Int
  dr : Bool
  rib : List Ent
  sent : List Ent
/-- the values of the slices of a switch read as they should -/
def RdN (w : World) (ov rv sv : Value) (N : Nd) : Prop := RdP w ov N.own ∧ RdE w rv N.rib ∧ RdE w sv N.sent
theorem RdN.keep {w w' : World} {ov rv sv : Value} {N : Nd} (h : RdN w ov rv sv N) (hb : Below w.heap.size w w') : RdN w' ov rv sv N := ⟨h.1.keep hb, h.2.1.keep hb, h.2.2.keep hb⟩
def wtN (N : Nd) : Nat := N.own.length + (N.rib.length + wtE N.rib) + (N.sent.length + wtE N.sent)
theorem list6 {α : Type} {xs : List α} (h : xs.length = 6) : ∃ c0 c1 c2 c3 c4 c5, xs = [c0, c1, c2, c3, c4, c5] := by
  match xs, h with
  | [c0, c1, c2, c3, c4, c5], _ => exact ⟨c0, c1, c2, c3, c4, c5, rfl⟩
section
variable {H : Type} {enc : TypeId × Value → H} {W : World} {base : Nat} {d : DataW H} {p : List MemPlace} {v : Value}
theorem cellsB1n : Tryz.prog.cellsOf 4 = 1 := by kernel_rfl
theorem cellsPS1n : Tryz.prog.cellsOf 55 = 1 := by kernel_rfl
theorem rib_trod {fuel : Nat} {x : Value} {y : DataW H × List MemPlace} (h : DataW.trod enc Tryz.prog W 0 (fun _ => true) true fuel 58 [x] = some y) : ∃ L, RdE W x L := by
  obtain ⟨xs, n, _, hx, hl, hlen, hf⟩ := DataW.trod_struct Tryz.underlying58 h; have h0 := hf 0 _ rfl
  match xs, hlen with
  | [y0], _ => exact rdE_trod (W := W) (v := x) (fuel := n) (y := y0) (by simpa [Value.cells, cellsES1] using h0)
end
end Go.Proofs.YtkodnipmogdgkabGreat
namespace Go.Proofs.YtkodnipmogdgkabGreat
open Go.ChangeShapes Go.WideShapes Go.ChangeAt Go.RowKit Go.BigFrame Go.Joins
set_option linter.unusedVariables false
set_option maxRecDepth 100000
set_option linter.unusedSimpArgs false
set_option maxRecDepth 100000

/-- blocks from base to hi may have turned, no other; what was there is there, what could be written can be written -/
structure Soft (base hi : Nat) (w w' : World) : Prop where
  os : w'.os = w.os
  tape : w'.tape = w.tape
  output : w'.output = w.output
  size : w.heap.size ≤ w'.heap.size
  block : ∀ i, i < w.heap.size → (i < base ∨ hi ≤ i) → w'.heap[i]? = w.heap[i]?
  ex : ∀ b o : Nat, (w.cell? ⟨b, o, none⟩).isSome = true → (w'.cell? ⟨b, o, none⟩).isSome = true
  fz : ∀ b o : Nat, (w.cell? ⟨b, o, none⟩).isSome = true → w'.frozen? ⟨b, o, none⟩ = w.frozen? ⟨b, o, none⟩
theorem Soft.refl (base hi : Nat) (w : World) : Soft base hi w w := ⟨rfl, rfl, rfl, Nat.le_refl _, fun _ _ _ => rfl, fun _ _ h => h, fun _ _ _ => rfl⟩
theorem Soft.trans {base hi : Nat} {a b c : World} (h : Soft base hi a b) (k : Soft base hi b c) : Soft base hi a c :=
  ⟨k.os.trans h.os, k.tape.trans h.tape, k.output.trans h.output, Nat.le_trans h.size k.size, fun i hi' hc => (k.block i (Nat.lt_of_lt_of_le hi' h.size) hc).trans (h.block i hi' hc), fun b o q => k.ex b o (h.ex b o q), fun b o q => (k.fz b o (h.ex b o q)).trans (h.fz b o q)⟩
theorem Soft.mono {base base' hi : Nat} {w w' : World} (h : Soft base hi w w') (hb : base' ≤ base) : Soft base' hi w w' :=
  ⟨h.os, h.tape, h.output, h.size, fun i hi' hc => h.block i hi' (by omega), h.ex, h.fz⟩
theorem some_setF {w : World} {a b : Addr} {u : Value} (h : (w.cell? b).isSome = true) : ((w.setCell a u).cell? b).isSome = true := by
  by_cases hne : a = b
  · subst hne
    rw [World.cell?_setCell_same' _ _ _ h]; rfl
  · rw [World.cell?_setCell_other _ _ _ _ hne]; exact h
theorem Soft.set {base hi : Nat} {w w' : World} (h : Soft base hi w w') {B o : Nat} (u : Value) (h1 : base ≤ B) (h2 : B < hi) : Soft base hi w (w'.setCell ⟨B, o, none⟩ u) := by
  refine h.trans ⟨(grown_set w' B o u).os, (grown_set w' B o u).tape, (grown_set w' B o u).output, (grown_set w' B o u).size, fun i hi' hc => (grown_set w' B o u).block i hi' (fun e => by cases e; omega), fun b o q => some_setF q, fun b o _ => World.frozen?_setCell _ _ _ _⟩
theorem Soft.below {base hi : Nat} {w w' : World} (h : Soft base hi w w') (hb : base ≤ w.heap.size) : Below base w w' :=
  ⟨h.os, h.tape, h.output, h.size, fun i hi' => h.block i (by omega) (.inl hi')⟩
/-- a row that may be written, in blocks from base to hi -/
def Wr (w : World) (base hi : Nat) (v : Value) (n : Nat) : Prop := ∃ a c, v = .slice a n c ∧ ∀ i, i < n → ∃ g, a = some ⟨g, 0, none⟩ ∧ base ≤ g ∧ g < hi ∧ (w.cell? ⟨g, i, none⟩).isSome = true ∧ w.frozen? ⟨g, i, none⟩ = false
theorem Wr.soft {w w' : World} {b1 h1 base hi : Nat} {v : Value} {n : Nat} (h : Wr w base hi v n) (s : Soft b1 h1 w w') : Wr w' base hi v n := by
  obtain ⟨a, c, rfl, hc⟩ := h; refine ⟨a, c, rfl, fun i hi' => ?_⟩; obtain ⟨g, e, h2, h3, h4, h5⟩ := hc i hi'
  exact ⟨g, e, h2, h3, s.ex _ _ h4, (s.fz _ _ h4).trans h5⟩
theorem OwnI.wr {w : World} {base hi : Nat} {v : Value} {l : List Int} (h : OwnI w base v l) (hh : w.heap.size ≤ hi) : Wr w base hi v l.length := by
  have h0 := h; unfold OwnI at h0
  rcases h.2 with ⟨rfl, hn⟩ | ⟨g, cap, cur, rfl, hb, hg, hnc, hcm, hcs, htake⟩
  · exact ⟨none, 0, by rw [hn], fun i hi' => by omega⟩
  · refine ⟨_, cap, rfl, fun i hi' => ⟨g, rfl, hb, Nat.lt_of_lt_of_le (World.ownsRow.lt h g rfl).2 hh, ?_, h0.frozenAt i⟩⟩
    rw [h0.cellAt i (by omega)]
    simp [hi']
/-- the rows of element i may be written, and its slices lie where they lay -/
def EW (w : World) (B hi i : Nat) (E : Ent) : Prop := ∃ u1 u2, w.cell? ⟨B, i * 7 + 3, none⟩ = some u1 ∧ w.cell? ⟨B, i * 7 + 5, none⟩ = some u2 ∧ Wr w (B + 1) hi u1 E.p.length ∧ Wr w (B + 1) hi u2 E.c.length
theorem soft1 (w : World) (B o : Nat) (u : Value) : Soft B (B + 1) w (w.setCell ⟨B, o, none⟩ u) := (Soft.refl _ _ _).set u (Nat.le_refl _) (Nat.lt_succ_self B)
theorem EW.set {w : World} {B hi i o : Nat} {E : Ent} {u : Value} (h : EW w B hi i E) (h1 : o ≠ i * 7 + 3) (h2 : o ≠ i * 7 + 5) : EW (w.setCell ⟨B, o, none⟩ u) B hi i E := by
  obtain ⟨u1, u2, e1, e2, r1, r2⟩ := h
  exact ⟨u1, u2, set_other (fun q => by injection q with q1 q2; exact h1 q2) e1, set_other (fun q => by injection q with q1 q2; exact h2 q2) e2, r1.soft (soft1 w B o u), r2.soft (soft1 w B o u)⟩
theorem EW.soft {w w' : World} {B hi i : Nat} {E : Ent} (h : EW w B hi i E) (s : Soft (B + 1) hi w w') (hB : B + 1 ≤ w.heap.size) : EW w' B hi i E := by
  obtain ⟨u1, u2, e1, e2, r1, r2⟩ := h
  exact ⟨u1, u2, cell_keep (s.below hB) (Nat.lt_succ_self B) e1, cell_keep (s.below hB) (Nat.lt_succ_self B) e2, r1.soft s, r2.soft s⟩
/-- a table that is being marked -/
def MkE (w0 w : World) (base B hi n : Nat) (L : List Ent) : Prop :=
  Soft base hi w0 w ∧ (∀ j, j < n * 7 → (w.cell? ⟨B, j, none⟩).isSome = true ∧ w.frozen? ⟨B, j, none⟩ = false) ∧ (∀ i, i < n → EW w B hi i (L.getD i e0)) ∧ base ≤ B ∧ B < hi ∧ B + 1 ≤ w.heap.size
theorem MkE.set {w0 w : World} {base B hi n : Nat} {L : List Ent} (h : MkE w0 w base B hi n L) (o : Nat) (u : Value) (ho : ∀ i, o ≠ i * 7 + 3 ∧ o ≠ i * 7 + 5) : MkE w0 (w.setCell ⟨B, o, none⟩ u) base B hi n L := by
  obtain ⟨s, c, e, h1, h2, h3⟩ := h
  exact ⟨s.set u h1 h2, fun j hj => ⟨some_setF (c j hj).1, by rw [World.frozen?_setCell]; exact (c j hj).2⟩, fun i hi' => (e i hi').set (ho i).1 (ho i).2, h1, h2, Nat.le_trans h3 (grown_set w B o u).size⟩
theorem MkE.soft {w0 w w' : World} {base B hi n : Nat} {L : List Ent} (h : MkE w0 w base B hi n L) (s : Soft (B + 1) hi w w') : MkE w0 w' base B hi n L := by
  obtain ⟨s0, c, e, h1, h2, h3⟩ := h
  exact ⟨s0.trans (s.mono (by omega)), fun j hj => ⟨s.ex _ _ (c j hj).1, (s.fz _ _ (c j hj).1).trans (c j hj).2⟩, fun i hi' => (e i hi').soft s h3, h1, h2, Nat.le_trans h3 s.size⟩
theorem MkE.cell {w0 w : World} {base B hi n : Nat} {L : List Ent} (h : MkE w0 w base B hi n L) (j : Nat) (hj : j < n * 7) : ∃ x, w.cell? ⟨B, j, none⟩ = some x ∧ w.frozen? ⟨B, j, none⟩ = false := by
  obtain ⟨x, hx⟩ := Option.isSome_iff_exists.1 (h.2.1 j hj).1
  exact ⟨x, hx, (h.2.1 j hj).2⟩
theorem OwnE.mk {w : World} {base : Nat} {v : Value} {L : List Ent} (h : OwnE w base v L) : ∃ B, v = .slice (some ⟨B, 0, none⟩) L.length L.length ∧ MkE w w base B w.heap.size L.length L := by
  obtain ⟨B, rfl, h1, xs, hl, hB, hx⟩ := h; refine ⟨B, rfl, Soft.refl _ _ _, fun j hj => ⟨by rw [hB.c j (List.getElem?_eq_getElem (by omega))]; rfl, hB.f j (List.getElem?_eq_getElem (by omega))⟩, fun i hi' => ?_, h1, hB.lt, hB.lt⟩; obtain ⟨u1, u2, g1, g2, c0, c1, c2, c3, c4, c5, c6⟩ := hx i hi'
  exact ⟨u1, u2, hB.c _ c3, hB.c _ c5, g1.wr (Nat.le_refl _), g2.wr (Nat.le_refl _)⟩
theorem Soft.of_below {w w' : World} (base hi : Nat) (B0 : Below w.heap.size w w') : Soft base hi w w' :=
  ⟨B0.os, B0.tape, B0.output, B0.size, fun i hi' _ => B0.block i hi', fun b o ha => by
    obtain ⟨x, hx⟩ := Option.isSome_iff_exists.1 ha; rw [cell_keep B0 (World.block_lt_of_cell? w _ hx) hx]
    rfl, fun b o ha => by
    obtain ⟨x, hx⟩ := Option.isSome_iff_exists.1 ha; have hl := World.block_lt_of_cell? w _ hx
    exact World.frozen?_of_block (B0.block b hl)⟩
end Go.Proofs.YtkodnipmogdgkabGreat
namespace Go.Proofs.YtkodnipmogdgkabGreat
open Go.ChangeShapes Go.WideShapes Go.ChangeAt Go.RowKit Go.BigFrame Go.Joins
set_option linter.unusedVariables false
set_option maxRecDepth 100000
set_option linter.unusedSimpArgs false
set_option maxRecDepth 100000

/-- a table that may be marked: its block and its rows lie in base .. hi -/
def MkR (w : World) (base hi : Nat) (u : Value) (L : List Ent) : Prop := ∃ B, u = .slice (some ⟨B, 0, none⟩) L.length L.length ∧ MkE w w base B hi L.length L
theorem MkR.other {w w' : World} {base hi b0 h0 : Nat} {u : Value} {L : List Ent} (h : MkR w base hi u L) (s : Soft b0 h0 w w') (hd : h0 ≤ base ∨ hi ≤ b0) : MkR w' base hi u L := by
  obtain ⟨B, e, s0, c, ew, h1, h2, h3⟩ := h; have hblk : w'.heap[B]? = w.heap[B]? := s.block B (by omega) (by omega); refine ⟨B, e, Soft.refl _ _ _, fun j hj => ⟨s.ex _ _ (c j hj).1, (s.fz _ _ (c j hj).1).trans (c j hj).2⟩, fun i hi' => ?_, h1, h2, Nat.le_trans h3 s.size⟩; obtain ⟨u1, u2, e1, e2, r1, r2⟩ := ew i hi'
  exact ⟨u1, u2, (World.cell?_of_block hblk).trans e1, (World.cell?_of_block hblk).trans e2, r1.soft s, r2.soft s⟩
theorem MkR.keep {w w' : World} {base hi : Nat} {u : Value} {L : List Ent} (h : MkR w base hi u L) (hb : Below w.heap.size w w') : MkR w' base hi u L := h.other (Soft.of_below hi hi hb) (.inr (Nat.le_refl _))
theorem MkR.far {w : World} {base hi C o : Nat} {u x : Value} {L : List Ent} (h : MkR w base hi u L) (hC : C < base) : MkR (w.setCell ⟨C, o, none⟩ x) base hi u L := h.other (soft1 w C o x) (.inl hC)
theorem OwnE.mkR {w : World} {base : Nat} {u : Value} {L : List Ent} (h : OwnE w base u L) : MkR w base w.heap.size u L := h.mk
theorem OwnE.far {w : World} {base C o : Nat} {v x : Value} {L : List Ent} (h : OwnE w base v L) (hC : C < base) : OwnE (w.setCell ⟨C, o, none⟩ x) base v L := by
  obtain ⟨B, rfl, hb, xs, hl, hBl, hx⟩ := h; refine ⟨B, rfl, hb, xs, hl, hBl.far (by omega), fun i hi => ?_⟩; obtain ⟨u1, u2, g1, g2, g3⟩ := hx i hi
  exact ⟨u1, u2, g1.far (by omega), g2.far (by omega), g3⟩
/-- a fresh switch: its list, its table and what was sent lie behind one another -/
def NewNd (w : World) (N : Nd) (e : Ending) (w' : World) : Prop :=
  ∃ ov ru su h1 h2, e = .returned (.agg #[.int .i64 N.an, ov, .int .i64 N.bw, .bool N.dr, ru, su]) ∧ OwnP w' w.heap.size ov N.own ∧ (∀ k, ov.ownBlock = some k → k < h1) ∧ OwnE w' h1 ru N.rib ∧ MkR w' h1 h2 ru N.rib ∧ OwnE w' h2 su N.sent ∧ MkR w' h2 w'.heap.size su N.sent ∧ w.heap.size ≤ h1 ∧ h1 ≤ h2 ∧ h2 ≤ w'.heap.size ∧ Below w.heap.size w w'
set_option maxHeartbeats 2000000 in
theorem toNd_any (ov rv sv : Value) (N : Nd) (w : World) (h : RdN w ov rv sv N) (hn : wtN N ≤ 1048576) :
    Calls Tryz.prog 25 #[.agg #[.int .i64 N.an, ov, .int .i64 N.bw, .bool N.dr, rv, sv]] w (NewNd w N) := by
  have hl1 : N.own.length ≤ 1048576 := by unfold wtN at hn; omega
  have hl2 : N.rib.length + wtE N.rib ≤ 1048576 := by unfold wtN at hn; omega
  have hl3 : N.sent.length + wtE N.sent ≤ 1048576 := by unfold wtN at hn; omega
  obtain ⟨bA, bR, bO, B1, z⟩ := three w [.int .i64 N.an, ov, .int .i64 N.bw, .bool N.dr, rv, sv] [.int .i64 0, .slice none 0 0, .int .i64 0, .bool false, .slice none 0 0, .slice none 0 0] [.int .i64 N.an, .slice none 0 0, .int .i64 0, .bool false, .slice none 0 0, .slice none 0 0] 60 71 71; clear hn
  go_enter Tryz.func25, Tryz.ntmps25
  go_wp2_with fail; refine (toP_any ov N.own _ (h.keep B1).1 hl1).mono ?_; rintro e w1 ⟨oa, oc, rfl, ho, hb⟩; have hs := hb.size; rw [z] at ho hs; replace bA := bA.keep hb; replace bR := bR.keep hb; replace bO := bO.keep hb; replace B1 := below_step B1 hb; clear z hb; obtain ⟨A, hA⟩ : ∃ A, A = w.heap.size := ⟨_, rfl⟩; obtain ⟨R, hR⟩ : ∃ R, R = w.heap.size + 1 := ⟨_, rfl⟩; obtain ⟨O, hO⟩ : ∃ O, O = w.heap.size + 1 + 1 := ⟨_, rfl⟩; rw [← hA] at bA; rw [← hR] at bR; rw [← hO] at bO; rw [← hO, ← hR, ← hA]; have hO3 : O < w.heap.size + 3 := by omega
  have hR3 : R < w.heap.size + 3 := by omega
  have hRO : R ≠ O := by omega
  have hAO : A ≠ O := by omega
  have hwO : w.heap.size ≤ O := by omega
  have hwR : w.heap.size ≤ R := by omega
  have hw3 : w.heap.size ≤ w.heap.size + 3 := by omega
  clear hA hR hO; obtain ⟨X, hX⟩ : ∃ X, X = w.heap.size + 3 := ⟨_, rfl⟩; rw [← hX] at ho hs hO3 hR3 hw3; clear hX; have a2 := bA.c 2 rfl; have a3 := bA.c 3 rfl; have a4 := bA.c 4 rfl; have o1 := bO.c 1 rfl; have of1 := bO.f 1 rfl; have o2 := bO.c 2 rfl; have of2 := bO.f 2 rfl; have o3 := bO.c 3 rfl; have of3 := bO.f 3 rfl; go_wp2_with fail; clear a2 a3 a4 o1 of1 o2 of2 o3 of3; replace bO := ((bO.set 1 (.slice oa N.own.length oc)).set 2 (.int .i64 N.bw)).set 3 (.bool N.dr); replace bA := ((bA.far (o := 1) (u := .slice oa N.own.length oc) hAO).far (o := 2) (u := .int .i64 N.bw) hAO).far (o := 3) (u := .bool N.dr) hAO; replace bR := ((bR.far (o := 1) (u := .slice oa N.own.length oc) hRO).far (o := 2) (u := .int .i64 N.bw) hRO).far (o := 3) (u := .bool N.dr) hRO; replace ho := ((ho.far (o := 1) (u := .slice oa N.own.length oc) hO3).far (o := 2) (u := .int .i64 N.bw) hO3).far (o := 3) (u := .bool N.dr) hO3; replace B1 := ((B1.setCell (p := ⟨O, 1, none⟩) hwO (.slice oa N.own.length oc)).setCell (p := ⟨O, 2, none⟩) hwO (.int .i64 N.bw)).setCell (p := ⟨O, 3, none⟩) hwO (.bool N.dr); obtain ⟨V, hV⟩ : ∃ V, V = ((w1.setCell ⟨O, 1, none⟩ (.slice oa N.own.length oc)).setCell ⟨O, 2, none⟩ (.int .i64 N.bw)).setCell ⟨O, 3, none⟩ (.bool N.dr) := ⟨_, rfl⟩; have hXV : X ≤ V.heap.size := by rw [hV]; simpa using hs
  rw [← hV] at bO bA bR ho B1 ⊢; clear hV hs; have hok : ∀ k, (Value.slice oa N.own.length oc).ownBlock = some k → k < V.heap.size := fun k hk => (World.ownsRow.lt ho k hk).2
  have HOK := Lib.hid hok; clear hok; simp only [List.set_cons_zero, List.set_cons_succ] at bO; refine (toRb_any rv N.rib V (h.keep B1).2.1 hl2).mono ?_; rintro e w2 ⟨ru, rfl, h1, hb⟩; have hs := hb.size; replace bA := bA.keep hb; replace bR := bR.keep hb; replace bO := bO.keep hb; replace ho := ho.keep hb; replace B1 := below_step B1 hb; have m1 := h1.mkR; clear hb; obtain ⟨B, e1, -⟩ := m1; have m1 := h1.mkR; subst e1; have a5 := bA.c 5 rfl; have o4 := bO.c 4 rfl; have of4 := bO.f 4 rfl; go_wp2_with fail; clear a5 o4 of4; replace bO := bO.set 4 (.slice (some ⟨B, 0, none⟩) N.rib.length N.rib.length); replace bR := bR.far (o := 4) (u := .slice (some ⟨B, 0, none⟩) N.rib.length N.rib.length) hRO; replace ho := ho.far (o := 4) (u := .slice (some ⟨B, 0, none⟩) N.rib.length N.rib.length) hO3; have hOV : O < V.heap.size := by omega
  have hRV : R < V.heap.size := by omega
  replace h1 := h1.far (o := 4) (x := .slice (some ⟨B, 0, none⟩) N.rib.length N.rib.length) hOV; replace m1 := m1.far (o := 4) (x := .slice (some ⟨B, 0, none⟩) N.rib.length N.rib.length) hOV; replace B1 := B1.setCell (p := ⟨O, 4, none⟩) hwO (.slice (some ⟨B, 0, none⟩) N.rib.length N.rib.length); obtain ⟨V2, hV⟩ : ∃ V2, V2 = w2.setCell ⟨O, 4, none⟩ (.slice (some ⟨B, 0, none⟩) N.rib.length N.rib.length) := ⟨_, rfl⟩; have hs2 : w2.heap.size = V2.heap.size := by rw [hV]; simp
  rw [← hV] at bO bR ho h1 m1 B1 ⊢; rw [hs2] at m1 hs; clear hV hs2 bA; simp only [List.set_cons_zero, List.set_cons_succ] at bO; refine (toRb_any sv N.sent V2 (h.keep B1).2.2 hl3).mono ?_; rintro e w3 ⟨su, rfl, h2, hb⟩; have hs2 := hb.size; replace bR := bR.keep hb; replace bO := bO.keep hb; replace ho := ho.keep hb; replace h1 := h1.keep hb; replace m1 := m1.keep hb; replace B1 := below_step B1 hb; have m2 := h2.mkR; clear hb h; obtain ⟨C, e2, -⟩ := m2; have m2 := h2.mkR; subst e2; have o0 := bO.c 0 rfl; have o1 := bO.c 1 rfl; have o2 := bO.c 2 rfl; have o3 := bO.c 3 rfl; have o4 := bO.c 4 rfl; have o5 := bO.c 5 rfl; have of5 := bO.f 5 rfl; have r0 := bR.c 0 rfl; have rf0 := bR.f 0 rfl; have r1 := bR.c 1 rfl; have rf1 := bR.f 1 rfl; have r2 := bR.c 2 rfl; have rf2 := bR.f 2 rfl; have r3 := bR.c 3 rfl; have rf3 := bR.f 3 rfl; have r4 := bR.c 4 rfl; have rf4 := bR.f 4 rfl; have r5 := bR.c 5 rfl; have rf5 := bR.f 5 rfl; go_wp2_with fail; have bE := (((((((bR.far (o := 5) (u := .slice (some ⟨C, 0, none⟩) N.sent.length N.sent.length) hRO).set 0 (.int .i64 N.an)).set 1 (.slice oa N.own.length oc)).set 2 (.int .i64 N.bw)).set 3 (.bool N.dr)).set 4 (.slice (some ⟨B, 0, none⟩) N.rib.length N.rib.length)).set 5 (.slice (some ⟨C, 0, none⟩) N.sent.length N.sent.length)); have e0 := bE.c 0 rfl; have e1 := bE.c 1 rfl; have e2 := bE.c 2 rfl; have e3 := bE.c 3 rfl; have e4 := bE.c 4 rfl; have e5 := bE.c 5 rfl; have hO2 : O < V2.heap.size := by omega
  have hR2 : R < V2.heap.size := by omega
  have hwX : w.heap.size ≤ X := by omega
  exact bodyPost_ret (v := .agg #[.int .i64 N.an, .slice oa N.own.length oc, .int .i64 N.bw, .bool N.dr, .slice (some ⟨B, 0, none⟩) N.rib.length N.rib.length, .slice (some ⟨C, 0, none⟩) N.sent.length N.sent.length]) (by simp [results, Tryz.results25, go_sem, e0, e1, e2, e3, e4, e5]) rfl
    ⟨_, _, _, V.heap.size, V2.heap.size, rfl, (((((((ho.far (o := 5) (u := .slice (some ⟨C, 0, none⟩) N.sent.length N.sent.length) hO3).far (o := 0) (u := .int .i64 N.an) hR3).far (o := 1) (u := .slice oa N.own.length oc) hR3).far (o := 2) (u := .int .i64 N.bw) hR3).far (o := 3) (u := .bool N.dr) hR3).far (o := 4) (u := .slice (some ⟨B, 0, none⟩) N.rib.length N.rib.length) hR3).far (o := 5) (u := .slice (some ⟨C, 0, none⟩) N.sent.length N.sent.length) hR3).mono hwX, HOK.out, (((((((h1.far (o := 5) (x := .slice (some ⟨C, 0, none⟩) N.sent.length N.sent.length) hOV).far (o := 0) (x := .int .i64 N.an) hRV).far (o := 1) (x := .slice oa N.own.length oc) hRV).far (o := 2) (x := .int .i64 N.bw) hRV).far (o := 3) (x := .bool N.dr) hRV).far (o := 4) (x := .slice (some ⟨B, 0, none⟩) N.rib.length N.rib.length) hRV).far (o := 5) (x := .slice (some ⟨C, 0, none⟩) N.sent.length N.sent.length) hRV), (((((((m1.far (o := 5) (x := .slice (some ⟨C, 0, none⟩) N.sent.length N.sent.length) hOV).far (o := 0) (x := .int .i64 N.an) hRV).far (o := 1) (x := .slice oa N.own.length oc) hRV).far (o := 2) (x := .int .i64 N.bw) hRV).far (o := 3) (x := .bool N.dr) hRV).far (o := 4) (x := .slice (some ⟨B, 0, none⟩) N.rib.length N.rib.length) hRV).far (o := 5) (x := .slice (some ⟨C, 0, none⟩) N.sent.length N.sent.length) hRV), (((((((h2.far (o := 5) (x := .slice (some ⟨C, 0, none⟩) N.sent.length N.sent.length) hO2).far (o := 0) (x := .int .i64 N.an) hR2).far (o := 1) (x := .slice oa N.own.length oc) hR2).far (o := 2) (x := .int .i64 N.bw) hR2).far (o := 3) (x := .bool N.dr) hR2).far (o := 4) (x := .slice (some ⟨B, 0, none⟩) N.rib.length N.rib.length) hR2).far (o := 5) (x := .slice (some ⟨C, 0, none⟩) N.sent.length N.sent.length) hR2), by simpa using (((((((m2.far (o := 5) (x := .slice (some ⟨C, 0, none⟩) N.sent.length N.sent.length) hO2).far (o := 0) (x := .int .i64 N.an) hR2).far (o := 1) (x := .slice oa N.own.length oc) hR2).far (o := 2) (x := .int .i64 N.bw) hR2).far (o := 3) (x := .bool N.dr) hR2).far (o := 4) (x := .slice (some ⟨B, 0, none⟩) N.rib.length N.rib.length) hR2).far (o := 5) (x := .slice (some ⟨C, 0, none⟩) N.sent.length N.sent.length) hR2), by omega, by omega, by simpa using hs2, (((((((B1.setCell (p := ⟨O, 5, none⟩) hwO (.slice (some ⟨C, 0, none⟩) N.sent.length N.sent.length)).setCell (p := ⟨R, 0, none⟩) hwR (.int .i64 N.an)).setCell (p := ⟨R, 1, none⟩) hwR (.slice oa N.own.length oc)).setCell (p := ⟨R, 2, none⟩) hwR (.int .i64 N.bw)).setCell (p := ⟨R, 3, none⟩) hwR (.bool N.dr)).setCell (p := ⟨R, 4, none⟩) hwR (.slice (some ⟨B, 0, none⟩) N.rib.length N.rib.length)).setCell (p := ⟨R, 5, none⟩) hwR (.slice (some ⟨C, 0, none⟩) N.sent.length N.sent.length))⟩
theorem eqNd_same (ov rv sv ov2 rv2 sv2 : Value) (N : Nd) (w : World) (h : RdN w ov rv sv N) (h2 : RdN w ov2 rv2 sv2 N) :
    Calls Tryz.prog 39 #[.agg #[.int .i64 N.an, ov, .int .i64 N.bw, .bool N.dr, rv, sv], .agg #[.int .i64 N.an, ov2, .int .i64 N.bw, .bool N.dr, rv2, sv2]] w fun e w' => e = .returned (.bool true) ∧ Below w.heap.size w w' := by
  obtain ⟨bA, bB, B1, z⟩ := two w [.int .i64 N.an, ov, .int .i64 N.bw, .bool N.dr, rv, sv] [.int .i64 N.an, ov2, .int .i64 N.bw, .bool N.dr, rv2, sv2] 71 71; replace h := h.keep B1; replace h2 := h2.keep B1; clear z; have q0 : (N.an != N.an) = false := by simp
  have q2 : (N.bw != N.bw) = false := by simp
  have q3 : (N.dr != N.dr) = false := by simp
  have a1 := bA.c 1 rfl; have b1 := bB.c 1 rfl
  go_enter Tryz.func39, Tryz.ntmps39
  go_wp2_with fail; refine (eqPS_same _ _ N.own _ h.1 h2.1).mono ?_; rintro e w1 ⟨rfl, hb⟩; replace bA := bA.keep hb; replace bB := bB.keep hb; replace h := h.keep hb; replace h2 := h2.keep hb; replace B1 := below_step B1 hb; clear hb a1 b1; have a2 := bA.c 2 rfl; have b2 := bB.c 2 rfl; have a3 := bA.c 3 rfl; have b3 := bB.c 3 rfl; have a4 := bA.c 4 rfl; have b4 := bB.c 4 rfl; go_wp2_with fail; refine (eqRb_same _ _ N.rib _ h.2.1 h2.2.1).mono ?_; rintro e w2 ⟨rfl, hb⟩; replace bA := bA.keep hb; replace bB := bB.keep hb; replace h := h.keep hb; replace h2 := h2.keep hb; replace B1 := below_step B1 hb; clear hb a2 b2 a3 b3 a4 b4; have a5 := bA.c 5 rfl; have b5 := bB.c 5 rfl; go_wp2_with fail; refine (eqRb_same _ _ N.sent _ h.2.2 h2.2.2).mono ?_; rintro e w3 ⟨rfl, hb⟩; replace B1 := below_step B1 hb; clear hb; go_wp2
  go_ret
  exact ⟨rfl, B1⟩
end Go.Proofs.YtkodnipmogdgkabGreat
namespace Go.Proofs.YtkodnipmogdgkabGreat
open Go.ChangeShapes Go.WideShapes Go.ChangeAt Go.RowKit Go.BigFrame Go.Joins
set_option linter.unusedVariables false
set_option maxRecDepth 100000
set_option linter.unusedSimpArgs false

theorem list8 {α : Type} {xs : List α} (h : xs.length = 8) : ∃ c0 c1 c2 c3 c4 c5 c6 c7, xs = [c0, c1, c2, c3, c4, c5, c6, c7] := by
  match xs, h with
  | [c0, c1, c2, c3, c4, c5, c6, c7], _ => exact ⟨c0, c1, c2, c3, c4, c5, c6, c7, rfl⟩
section
variable {H : Type} {enc : TypeId × Value → H} {W : World} {base : Nat} {d : DataW H} {p : List MemPlace} {v : Value}
theorem cellsI1 : Tryz.prog.cellsOf 3 = 1 := by kernel_rfl
theorem cellsP1 : Tryz.prog.cellsOf 55 = 1 := by kernel_rfl
theorem cellsIS1 : Tryz.prog.cellsOf 91 = 1 := by kernel_rfl
end
/-- a fresh message: four rows of its own, apart -/
def NewM (w : World) (gs cs : List (Int × Int)) (ps ms : List Int) (kn sa ho ix pr bw er : Int) (e : Ending) (w' : World) : Prop :=
  ∃ ga gx ca cx pa px ma mx, e = .returned (.agg #[.int .i64 kn, .int .i64 sa, .int .i64 ho, .int .i64 ix, .slice ga gs.length gx, .slice ca cs.length cx, .slice pa ps.length px, .int .i64 pr, .slice ma ms.length mx, .int .i64 bw, .int .i64 er]) ∧ OwnP w' w.heap.size (.slice ga gs.length gx) gs ∧ OwnP w' w.heap.size (.slice ca cs.length cx) cs ∧ OwnI w' w.heap.size (.slice pa ps.length px) ps ∧ OwnI w' w.heap.size (.slice ma ms.length mx) ms ∧
    Apart (.slice ga gs.length gx) (.slice ca cs.length cx) ∧ Apart (.slice ga gs.length gx) (.slice pa ps.length px) ∧ Apart (.slice ga gs.length gx) (.slice ma ms.length mx) ∧ Apart (.slice ca cs.length cx) (.slice pa ps.length px) ∧ Apart (.slice ca cs.length cx) (.slice ma ms.length mx) ∧ Apart (.slice pa ps.length px) (.slice ma ms.length mx) ∧ Below w.heap.size w w'
theorem apartL {w w' : World} {b1 b2 n1 n2 : Nat} {t1 t2 : TypeId} {s1 s2 : Nat} {v u : Value} {l m : List Value} (h1 : w.ownsRow b1 t1 n1 v s1 l) (h2 : w'.ownsRow b2 t2 n2 u s2 m) (h : w.heap.size ≤ b2) : Apart v u := by
  have a : v.ownBlock = none ∨ v.ownBlock ≠ u.ownBlock := by
    cases hv : v.ownBlock with
    | none => exact .inl rfl
    | some k =>
      refine .inr (fun e => ?_); have a1 := (World.ownsRow.lt h1 k hv).2; have a2 := (World.ownsRow.lt h2 k e.symm).1
      omega
  refine ⟨a, ?_⟩
  rcases a with h0 | h0
  · cases hu : u.ownBlock with
    | none => exact .inl rfl
    | some k => exact .inr (by rw [h0]; simp)
  · exact .inr (Ne.symm h0)
set_option maxHeartbeats 1000000 in
theorem toM_any (gv cv pv mv : Value) (gs cs : List (Int × Int)) (ps ms : List Int) (kn sa ho ix pr bw er : Int) (w : World) (hg : RdP w gv gs) (hc : RdP w cv cs) (hp : RdI w pv ps) (hm : RdI w mv ms) (h0 : gs.length ≤ 1048576) (h1 : cs.length ≤ 1048576) (h2 : ps.length ≤ 1048576) (h3 : ms.length ≤ 1048576) :
    Calls Tryz.prog 83 #[.agg #[.int .i64 kn, .int .i64 sa, .int .i64 ho, .int .i64 ix, gv, cv, pv, .int .i64 pr, mv, .int .i64 bw, .int .i64 er]] w (NewM w gs cs ps ms kn sa ho ix pr bw er) := by
  obtain ⟨bA, bR, bO, B1, z⟩ := three w [.int .i64 kn, .int .i64 sa, .int .i64 ho, .int .i64 ix, gv, cv, pv, .int .i64 pr, mv, .int .i64 bw, .int .i64 er] [.int .i64 0, .int .i64 0, .int .i64 0, .int .i64 0, .slice none 0 0, .slice none 0 0, .slice none 0 0, .int .i64 0, .slice none 0 0, .int .i64 0, .int .i64 0] [.int .i64 kn, .int .i64 sa, .int .i64 ho, .int .i64 ix, .slice none 0 0, .slice none 0 0, .slice none 0 0, .int .i64 0, .slice none 0 0, .int .i64 0, .int .i64 0] 134 102 102
  go_enter Tryz.func83, Tryz.ntmps83
  go_wp2_with fail; refine (toP_any gv gs _ (hg.keep B1) h0).mono ?_; rintro e w1 ⟨ga, gx, rfl, hG, hb⟩; have hs := hb.size; rw [z] at hG hs; replace bA := bA.keep hb; replace bR := bR.keep hb; replace bO := bO.keep hb; replace B1 := below_step B1 hb; clear z hb; obtain ⟨A, hA⟩ : ∃ A, A = w.heap.size := ⟨_, rfl⟩; obtain ⟨R, hR⟩ : ∃ R, R = w.heap.size + 1 := ⟨_, rfl⟩; obtain ⟨O, hO⟩ : ∃ O, O = w.heap.size + 1 + 1 := ⟨_, rfl⟩; rw [← hA] at bA; rw [← hR] at bR; rw [← hO] at bO; rw [← hO, ← hR, ← hA]; have hO3 : O < w.heap.size + 3 := by omega
  have hRO : R ≠ O := by omega
  have hR3 : R < w.heap.size + 3 := by omega
  have hAO : A ≠ O := by omega
  have hwO : w.heap.size ≤ O := by omega
  have hwR : w.heap.size ≤ R := by omega
  clear hA hR hO; have a5 := bA.c 5 rfl; have o4 := bO.c 4 rfl; have of4 := bO.f 4 rfl; go_wp2_with fail; clear a5 o4 of4; have hs' := Nat.le_trans hs (grown_set w1 O 4 (.slice ga gs.length gx)).size; replace bA := bA.far (o := 4) (u := .slice ga gs.length gx) hAO; replace bR := bR.far (o := 4) (u := .slice ga gs.length gx) hRO; replace bO := bO.set 4 (.slice ga gs.length gx); replace hG := hG.far (o := 4) (u := .slice ga gs.length gx) hO3; replace B1 := B1.setCell (p := ⟨O, 4, none⟩) hwO (.slice ga gs.length gx); refine (toP_any cv cs _ (hc.keep B1) h1).mono ?_; rintro e w2 ⟨ca, cx, rfl, hC, hb⟩; have apGC := apartL hG hC (Nat.le_refl _); replace hC := hC.mono hs'; have hs2 := Nat.le_trans hs' hb.size; replace bA := bA.keep hb; replace bR := bR.keep hb; replace bO := bO.keep hb; replace hG := hG.keep hb; replace B1 := below_step B1 hb; clear hb hs hs'; have a6 := bA.c 6 rfl; have a7 := bA.c 7 rfl; have a8 := bA.c 8 rfl; have a9 := bA.c 9 rfl; have o5 := bO.c 5 rfl; have of5 := bO.f 5 rfl; go_wp2_with fail; clear a6 a7 a8 a9 o5 of5; have hs' := Nat.le_trans hs2 (grown_set w2 O 5 (.slice ca cs.length cx)).size; replace bA := bA.far (o := 5) (u := .slice ca cs.length cx) hAO; replace bR := bR.far (o := 5) (u := .slice ca cs.length cx) hRO; replace bO := bO.set 5 (.slice ca cs.length cx); replace hG := hG.far (o := 5) (u := .slice ca cs.length cx) hO3; replace hC := hC.far (o := 5) (u := .slice ca cs.length cx) hO3; replace B1 := B1.setCell (p := ⟨O, 5, none⟩) hwO (.slice ca cs.length cx); refine (toA_any pv mv ps ms pr bw _ (hp.keep B1) (hm.keep B1) h2 h3).mono ?_; rintro e w3 ⟨pa, px, ma, mx, rfl, hP, hM, apPM, hb⟩; have apGP := apartL hG hP (Nat.le_refl _); have apGM := apartL hG hM (Nat.le_refl _); have apCP := apartL hC hP (Nat.le_refl _); have apCM := apartL hC hM (Nat.le_refl _); replace hP := hP.mono hs'; replace hM := hM.mono hs'; replace bA := bA.keep hb; replace bR := bR.keep hb; replace bO := bO.keep hb; replace hG := hG.keep hb; replace hC := hC.keep hb; replace B1 := below_step B1 hb; clear hb hs2 hs'; have a10 := bA.c 10 rfl; have o0 := bO.c 0 rfl; have o1 := bO.c 1 rfl; have o2 := bO.c 2 rfl; have o3 := bO.c 3 rfl; have o4 := bO.c 4 rfl; have o5 := bO.c 5 rfl; have o6 := bO.c 6 rfl; have o7 := bO.c 7 rfl; have o8 := bO.c 8 rfl; have o9 := bO.c 9 rfl; have o10 := bO.c 10 rfl; have of0 := bO.f 0 rfl; have of1 := bO.f 1 rfl; have of2 := bO.f 2 rfl; have of3 := bO.f 3 rfl; have of4 := bO.f 4 rfl; have of5 := bO.f 5 rfl; have of6 := bO.f 6 rfl; have of7 := bO.f 7 rfl; have of8 := bO.f 8 rfl; have of9 := bO.f 9 rfl; have of10 := bO.f 10 rfl; have r0 := bR.c 0 rfl; have r1 := bR.c 1 rfl; have r2 := bR.c 2 rfl; have r3 := bR.c 3 rfl; have r4 := bR.c 4 rfl; have r5 := bR.c 5 rfl; have r6 := bR.c 6 rfl; have r7 := bR.c 7 rfl; have r8 := bR.c 8 rfl; have r9 := bR.c 9 rfl; have r10 := bR.c 10 rfl; have rf0 := bR.f 0 rfl; have rf1 := bR.f 1 rfl; have rf2 := bR.f 2 rfl; have rf3 := bR.f 3 rfl; have rf4 := bR.f 4 rfl; have rf5 := bR.f 5 rfl; have rf6 := bR.f 6 rfl; have rf7 := bR.f 7 rfl; have rf8 := bR.f 8 rfl; have rf9 := bR.f 9 rfl; have rf10 := bR.f 10 rfl; go_wp2_with fail; have bE := ((((((((((((((((bR.far (o := 6) (u := .slice pa ps.length px) hRO).far (o := 7) (u := .int .i64 pr) hRO).far (o := 8) (u := .slice ma ms.length mx) hRO).far (o := 9) (u := .int .i64 bw) hRO).far (o := 10) (u := .int .i64 er) hRO).set 0 (.int .i64 kn)).set 1 (.int .i64 sa)).set 2 (.int .i64 ho)).set 3 (.int .i64 ix)).set 4 (.slice ga gs.length gx)).set 5 (.slice ca cs.length cx)).set 6 (.slice pa ps.length px)).set 7 (.int .i64 pr)).set 8 (.slice ma ms.length mx)).set 9 (.int .i64 bw)).set 10 (.int .i64 er)); have e0 := bE.c 0 rfl; have e1 := bE.c 1 rfl; have e2 := bE.c 2 rfl; have e3 := bE.c 3 rfl; have e4 := bE.c 4 rfl; have e5 := bE.c 5 rfl; have e6 := bE.c 6 rfl; have e7 := bE.c 7 rfl; have e8 := bE.c 8 rfl; have e9 := bE.c 9 rfl; have e10 := bE.c 10 rfl
  exact bodyPost_ret (v := .agg #[.int .i64 kn, .int .i64 sa, .int .i64 ho, .int .i64 ix, .slice ga gs.length gx, .slice ca cs.length cx, .slice pa ps.length px, .int .i64 pr, .slice ma ms.length mx, .int .i64 bw, .int .i64 er]) (by simp [results, Tryz.results83, go_sem, e0, e1, e2, e3, e4, e5, e6, e7, e8, e9, e10]) rfl
    ⟨ga, gx, ca, cx, pa, px, ma, mx, rfl, (((((((((((((((((hG.far (o := 6) hO3).far (o := 7) hO3).far (o := 8) hO3).far (o := 9) hO3).far (o := 10) hO3).far (o := 0) hR3).far (o := 1) hR3).far (o := 2) hR3).far (o := 3) hR3).far (o := 4) hR3).far (o := 5) hR3).far (o := 6) hR3).far (o := 7) hR3).far (o := 8) hR3).far (o := 9) hR3).far (o := 10) hR3)).mono (by omega), (((((((((((((((((hC.far (o := 6) hO3).far (o := 7) hO3).far (o := 8) hO3).far (o := 9) hO3).far (o := 10) hO3).far (o := 0) hR3).far (o := 1) hR3).far (o := 2) hR3).far (o := 3) hR3).far (o := 4) hR3).far (o := 5) hR3).far (o := 6) hR3).far (o := 7) hR3).far (o := 8) hR3).far (o := 9) hR3).far (o := 10) hR3)).mono (by omega), (((((((((((((((((hP.far (o := 6) hO3).far (o := 7) hO3).far (o := 8) hO3).far (o := 9) hO3).far (o := 10) hO3).far (o := 0) hR3).far (o := 1) hR3).far (o := 2) hR3).far (o := 3) hR3).far (o := 4) hR3).far (o := 5) hR3).far (o := 6) hR3).far (o := 7) hR3).far (o := 8) hR3).far (o := 9) hR3).far (o := 10) hR3)).mono (by omega), (((((((((((((((((hM.far (o := 6) hO3).far (o := 7) hO3).far (o := 8) hO3).far (o := 9) hO3).far (o := 10) hO3).far (o := 0) hR3).far (o := 1) hR3).far (o := 2) hR3).far (o := 3) hR3).far (o := 4) hR3).far (o := 5) hR3).far (o := 6) hR3).far (o := 7) hR3).far (o := 8) hR3).far (o := 9) hR3).far (o := 10) hR3)).mono (by omega), apGC, apGP, apGM, apCP, apCM, apPM, ((((((((((((((((B1.setCell (p := ⟨O, 6, none⟩) hwO _).setCell (p := ⟨O, 7, none⟩) hwO _).setCell (p := ⟨O, 8, none⟩) hwO _).setCell (p := ⟨O, 9, none⟩) hwO _).setCell (p := ⟨O, 10, none⟩) hwO _).setCell (p := ⟨R, 0, none⟩) hwR _).setCell (p := ⟨R, 1, none⟩) hwR _).setCell (p := ⟨R, 2, none⟩) hwR _).setCell (p := ⟨R, 3, none⟩) hwR _).setCell (p := ⟨R, 4, none⟩) hwR _).setCell (p := ⟨R, 5, none⟩) hwR _).setCell (p := ⟨R, 6, none⟩) hwR _).setCell (p := ⟨R, 7, none⟩) hwR _).setCell (p := ⟨R, 8, none⟩) hwR _).setCell (p := ⟨R, 9, none⟩) hwR _).setCell (p := ⟨R, 10, none⟩) hwR _)⟩
/-- two messages that read alike -/
theorem eqM_same (gv cv pv mv : Value) (gs cs : List (Int × Int)) (ps ms : List Int) (kn sa ho ix pr bw er : Int) (gv2 cv2 pv2 mv2 : Value) (w : World) (hg : RdP w gv gs) (hc : RdP w cv cs) (hp : RdI w pv ps) (hm : RdI w mv ms) (hg2 : RdP w gv2 gs) (hc2 : RdP w cv2 cs) (hp2 : RdI w pv2 ps) (hm2 : RdI w mv2 ms) :
    Calls Tryz.prog 104 #[.agg #[.int .i64 kn, .int .i64 sa, .int .i64 ho, .int .i64 ix, gv, cv, pv, .int .i64 pr, mv, .int .i64 bw, .int .i64 er], .agg #[.int .i64 kn, .int .i64 sa, .int .i64 ho, .int .i64 ix, gv2, cv2, pv2, .int .i64 pr, mv2, .int .i64 bw, .int .i64 er]] w fun e w' => e = .returned (.bool true) ∧ Below w.heap.size w w' := by
  obtain ⟨bA, bB, B1, z⟩ := two w [.int .i64 kn, .int .i64 sa, .int .i64 ho, .int .i64 ix, gv, cv, pv, .int .i64 pr, mv, .int .i64 bw, .int .i64 er] [.int .i64 kn, .int .i64 sa, .int .i64 ho, .int .i64 ix, gv2, cv2, pv2, .int .i64 pr, mv2, .int .i64 bw, .int .i64 er] 102 102; replace hg := hg.keep B1; replace hc := hc.keep B1; replace hp := hp.keep B1; replace hm := hm.keep B1; replace hg2 := hg2.keep B1; replace hc2 := hc2.keep B1; replace hp2 := hp2.keep B1; replace hm2 := hm2.keep B1; clear z; have q0 : (kn != kn) = false := by simp
  have q1 : (sa != sa) = false := by simp
  have q2 : (ho != ho) = false := by simp
  have q3 : (ix != ix) = false := by simp
  have q4 : (er != er) = false := by simp
  go_enter Tryz.func104, Tryz.ntmps104
  go_wp2_with fail; refine (eqPS_same _ _ gs _ hg hg2).mono ?_; rintro e w1 ⟨rfl, hb⟩; replace bA := bA.keep hb; replace bB := bB.keep hb; replace hg := hg.keep hb; replace hc := hc.keep hb; replace hp := hp.keep hb; replace hm := hm.keep hb; replace hg2 := hg2.keep hb; replace hc2 := hc2.keep hb; replace hp2 := hp2.keep hb; replace hm2 := hm2.keep hb; replace B1 := below_step B1 hb; clear hb; have a5 := bA.c 5 rfl; have b5 := bB.c 5 rfl; go_wp2_with fail; clear a5 b5; refine (eqPS_same _ _ cs _ hc hc2).mono ?_; rintro e w2 ⟨rfl, hb⟩; replace bA := bA.keep hb; replace bB := bB.keep hb; replace hg := hg.keep hb; replace hc := hc.keep hb; replace hp := hp.keep hb; replace hm := hm.keep hb; replace hg2 := hg2.keep hb; replace hc2 := hc2.keep hb; replace hp2 := hp2.keep hb; replace hm2 := hm2.keep hb; replace B1 := below_step B1 hb; clear hb; have a6 := bA.c 6 rfl; have b6 := bB.c 6 rfl; have a7 := bA.c 7 rfl; have b7 := bB.c 7 rfl; have a8 := bA.c 8 rfl; have b8 := bB.c 8 rfl; have a9 := bA.c 9 rfl; have b9 := bB.c 9 rfl; go_wp2_with fail; clear a6 a7 a8 a9 b6 b7 b8 b9; refine (eqA_same _ _ _ _ ps ms pr bw _ hp hm hp2 hm2).mono ?_; rintro e w3 ⟨rfl, hb⟩; replace bA := bA.keep hb; replace bB := bB.keep hb; replace hg := hg.keep hb; replace hc := hc.keep hb; replace hp := hp.keep hb; replace hm := hm.keep hb; replace hg2 := hg2.keep hb; replace hc2 := hc2.keep hb; replace hp2 := hp2.keep hb; replace hm2 := hm2.keep hb; replace B1 := below_step B1 hb; clear hb; have a10 := bA.c 10 rfl; have b10 := bB.c 10 rfl; go_wp2
  go_ret
  exact ⟨rfl, B1⟩
end Go.Proofs.YtkodnipmogdgkabGreat
