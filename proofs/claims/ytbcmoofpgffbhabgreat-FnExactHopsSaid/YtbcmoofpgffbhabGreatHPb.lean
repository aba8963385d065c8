/-
  Entries: what a slice of them reads as; contracts of the laws' own functions that size, copy and compare them. Conditions: those in each contract.
  Validity of attributes, of the program and of the model. Conditions: those in each contract.
  AttrOk, of the program and of the model. Conditions: those in each contract.
  AttrOk of the model. Conditions: those in each contract.
  Contracts of PrefixCmp of the program and of the model. Conditions: those in each contract.
  Lists of prefixes: contracts of the program's and the model's test that they are valid and ascending, of the program's comparison of two lists. Conditions: those in each contract.
  Membership: the model's own loop and the library's search, of the program and of the model. Conditions: those in each contract.
  Ints appended to a slice that the call made; copies of attributes. Conditions: those in each statement.
  PathHas and Shut, of the program and of the model. Conditions: those in each contract.
-/
import Derived.Test.YtbcmoofpgffbhabGreatHPa
import Derived.StillTailTactics
import Derived.LoopN
import Derived.Test.YtbcmoofpgffbhabGreatShelf
import Derived.Shelf.SlicesG.SearchI
import Derived.Laws.AppendOwnNone
namespace Go.Proofs.YtbcmoofpgffbhabGreat
open Go.ChangeShapes Go.WideShapes Go.ChangeAt Go.RowKit Go.BigFrame Go.Joins
set_option linter.unusedVariables false
set_option maxRecDepth 100000
set_option maxRecDepth 100000
set_option linter.unusedSimpArgs false

abbrev EI : TypeId := 95
abbrev EL : TypeId := 215
structure Ent where
 a : Int
 n : Int
 pe : Int
 p : List Int
 pr : Int
 c : List Int
 bw : Int
def e0 : Ent := ⟨0, 0, 0, [], 0, [], 0⟩
instance : Inhabited Ent := ⟨e0⟩
/-- the cells of block b from o on hold the entry -/
def EntAt (w : World) (b o : Nat) (E : Ent) : Prop :=
 ∃ pv cv, RdI w pv E.p ∧ RdI w cv E.c ∧ w.cell? ⟨b, o, none⟩ = some (.int .i64 E.a) ∧ w.cell? ⟨b, o + 1, none⟩ = some (.int .i64 E.n) ∧ w.cell? ⟨b, o + 2, none⟩ = some (.int .i64 E.pe) ∧ w.cell? ⟨b, o + 3, none⟩ = some (pv) ∧ w.cell? ⟨b, o + 4, none⟩ = some (.int .i64 E.pr) ∧ w.cell? ⟨b, o + 5, none⟩ = some (cv) ∧ w.cell? ⟨b, o + 6, none⟩ = some (.int .i64 E.bw)
theorem EntAt.keep {w w' : World} {b o : Nat} {E : Ent} (h : EntAt w b o E) (hb : Below w.heap.size w w') : EntAt w' b o E := by
 obtain ⟨pv, cv, hp, hc, k0, k1, k2, k3, k4, k5, k6⟩ := h
 exact ⟨pv, cv, hp.keep hb, hc.keep hb, cell_keep hb (World.block_lt_of_cell? w _ k0) k0, cell_keep hb (World.block_lt_of_cell? w _ k1) k1, cell_keep hb (World.block_lt_of_cell? w _ k2) k2, cell_keep hb (World.block_lt_of_cell? w _ k3) k3, cell_keep hb (World.block_lt_of_cell? w _ k4) k4, cell_keep hb (World.block_lt_of_cell? w _ k5) k5, cell_keep hb (World.block_lt_of_cell? w _ k6) k6⟩
/-- the slice value v reads as the entries L -/
def RdE (w : World) (v : Value) (L : List Ent) : Prop :=
 L.length ≤ 9223372036854775807 ∧
 ((∃ a c, v = .slice a 0 c ∧ L = [] ∧ (a = none → c = 0)) ∨
  ∃ b o c, v = .slice (some ⟨b, o, none⟩) L.length c ∧ 0 < L.length ∧ ∀ i, i < L.length → EntAt w b (o + i * 7) (L.getD i e0))
theorem RdE.keep {w w' : World} {v : Value} {L : List Ent} (h : RdE w v L) (hb : Below w.heap.size w w') : RdE w' v L := by
 obtain ⟨h2, h3⟩ := h; refine ⟨h2, ?_⟩
 rcases h3 with h3 | ⟨b, o, c, hv, hp, hc⟩
 ·exact .inl h3
 ·exact .inr ⟨b, o, c, hv, hp, fun i hi => (hc i hi).keep hb⟩
theorem RdE.len {w : World} {v : Value} {L : List Ent} (h : RdE w v L) : ∃ a c, v = .slice a L.length c := by
 rcases h.2 with ⟨a, c, rfl, rfl, hac⟩ | ⟨b, o, c, rfl, _⟩
 ·exact ⟨a, c, rfl⟩
 ·exact ⟨_, c, rfl⟩
theorem RdE.el {w : World} {v : Value} {L : List Ent} (h : RdE w v L) : ∃ a c, v = .slice a L.length c ∧ ∀ i, i < L.length → ∃ b o, a = some ⟨b, o, none⟩ ∧ EntAt w b (o + i * 7) (L.getD i e0) := by
 rcases h.2 with ⟨a, c, rfl, rfl, -⟩ | ⟨b, o, c, rfl, -, hc⟩
 ·exact ⟨a, c, rfl, fun i hi => absurd hi (by simp)⟩
 ·exact ⟨_, c, rfl, fun i hi => ⟨b, o, rfl, hc i hi⟩⟩
theorem RdE.alloc {w : World} {v : Value} {L : List Ent} (h : RdE w v L) (o : Obj) : RdE (w.alloc o) v L := h.keep ((Below.refl _ _).alloc (Nat.le_refl _) _)
theorem RdE.nil (w : World) : RdE w (.slice none 0 0) [] := ⟨by simp, .inl ⟨none, 0, rfl, rfl, fun _ => rfl⟩⟩
/-- the numbers of its slices are numbers -/
def BdE (E : Ent) : Prop := (∀ x ∈ E.p, -9223372036854775808 ≤ x ∧ x ≤ 9223372036854775807) ∧ ∀ x ∈ E.c, -9223372036854775808 ≤ x ∧ x ≤ 9223372036854775807
theorem RdE.bd {w : World} {v : Value} {L : List Ent} (h : RdE w v L) : ∀ i, i < L.length → BdE (L.getD i e0) := by
 obtain ⟨a, c, rfl, hc⟩ := h.el; intro i hi; obtain ⟨b, o, -, pv, cv, hp, hq, -⟩ := hc i hi
 exact ⟨hp.1, hq.1⟩

theorem list7 {α : Type} {xs : List α} (h : xs.length = 7) : ∃ c0 c1 c2 c3 c4 c5 c6, xs = [c0, c1, c2, c3, c4, c5, c6] := by
 match xs, h with
 | [c0, c1, c2, c3, c4, c5, c6], _ => exact ⟨c0, c1, c2, c3, c4, c5, c6, rfl⟩
section
variable {H : Type} {enc : TypeId × Value → H} {W : World} {base : Nat} {d : DataW H} {p : List MemPlace} {v : Value}
theorem cellsE7 : Tryz.prog.cellsOf EL = 7 := by kernel_rfl
theorem cellsI1e : Tryz.prog.cellsOf 3 = 1 := by kernel_rfl
theorem cellsIS1e : Tryz.prog.cellsOf 42 = 1 := by kernel_rfl
theorem cellsPx2 : Tryz.prog.cellsOf 164 = 2 := by kernel_rfl
theorem cellsES1 : Tryz.prog.cellsOf 23 = 1 := by kernel_rfl
theorem ent_trod {fuel : Nat} {x0 x1 x2 x3 x4 x5 x6 : Value} {y : DataW H × List MemPlace} (h : DataW.trod enc Tryz.prog W 0 (fun _ => true) true fuel EL [x0, x1, x2, x3, x4, x5, x6] = some y) :
  ∃ E : Ent, x0 = .int .i64 E.a ∧ x1 = .int .i64 E.n ∧ x2 = .int .i64 E.pe ∧ RdI W x3 E.p ∧ x4 = .int .i64 E.pr ∧ RdI W x5 E.c ∧ x6 = .int .i64 E.bw := by
 obtain ⟨ys, n, _, hx, hl, hlen, hf⟩ := DataW.trod_struct Tryz.underlying215 h
 match ys, hlen with
 | [y0, y1, y2], _ =>
  have h0 := hf 0 _ rfl; have h1 := hf 1 _ rfl; have h2 := hf 2 _ rfl; clear hf
  simp [cellsI1e, cellsPx2, cellsA] at h0 h1 h2
  obtain ⟨z0, z1, n2, -, -, g0, g1⟩ := trod_struct2 Tryz.underlying164 h0; obtain ⟨u0, u1, u2, u3, n3, -, -, t0, t1, t2, t3⟩ := trod_struct4 Tryz.underlying44 h2
  simp [cellsI1e, cellsIS1e] at g0 g1 t0 t1 t2 t3
  obtain ⟨q0, r0, -, -⟩ := DataW.trod_int Tryz.underlying3 g0; obtain ⟨q1, r1, -, -⟩ := DataW.trod_int Tryz.underlying3 g1; obtain ⟨q2, r2, -, -⟩ := DataW.trod_int Tryz.underlying3 h1; obtain ⟨q4, r4, -, -⟩ := DataW.trod_int Tryz.underlying3 t1; obtain ⟨q6, r6, -, -⟩ := DataW.trod_int Tryz.underlying3 t3; obtain ⟨l0, hl0⟩ := rdI_trod t0; obtain ⟨l2, hl2⟩ := rdI_trod t2
  simp at r0 r1 r2 r4 r6
  exact ⟨⟨q0, q1, q2, l0, q4, l2, q6⟩, r0, r1, r2, hl0, r4, hl2, r6⟩
theorem rdE_trod {fuel : Nat} {y : DataW H × List MemPlace} (h : DataW.trod enc Tryz.prog W 0 (fun _ => true) true fuel 23 [v] = some y) : ∃ L, RdE W v L := by
 rcases Deep.open_slice Tryz.underlying23 h with ⟨hcs, _⟩ | ⟨a, len, cap, m, n, D, Pl, hcs, _, hl, hm, hmm, _, hx⟩
 ·obtain ⟨rfl, -⟩ := List.cons.inj hcs
  exact ⟨[], RdE.nil W⟩
 ·obtain ⟨rfl, -⟩ := List.cons.inj hcs
  have hlm : len ≤ m := by rw [hmm]; split <;> omega
  obtain ⟨b, off, spot⟩ := a
  by_cases h0 : len = 0
  ·subst h0
   exact ⟨[], by simp, .inl ⟨_, cap, rfl, rfl, fun h => by cases h⟩⟩
  ·have hspot : spot = none := by
    obtain ⟨cs', h1, _⟩ := hx 0 (by omega); rw [cellsE7] at h1; obtain ⟨_, hlen, hcell⟩ := World.cells?_some h1; have h2 := hcell 0 (by omega); rw [List.getElem?_eq_getElem (by omega)] at h2
    simpa [Addr.add] using World.cell?_spot h2
   subst hspot; have hadd : ∀ o k, (⟨b, o, none⟩ : Addr).add k = ⟨b, o + k, none⟩ := fun o k => by unfold Addr.add; split <;> simp_all
   have hex : ∀ i, i < len → ∃ E : Ent, EntAt W b (off + i * 7) E := by
    intro i hi; obtain ⟨cs', h1, h2⟩ := hx i (by omega); rw [cellsE7] at h1; obtain ⟨_, hlen, hcell⟩ := World.cells?_some h1; obtain ⟨x0, x1, x2, x3, x4, x5, x6, rfl⟩ := list7 hlen; obtain ⟨E, rfl, rfl, rfl, g3, rfl, g5, rfl⟩ := ent_trod h2; have e0 := hcell 0 (by omega); have e1 := hcell 1 (by omega); have e2 := hcell 2 (by omega); have e3 := hcell 3 (by omega); have e4 := hcell 4 (by omega); have e5 := hcell 5 (by omega); have e6 := hcell 6 (by omega); simp only [hadd] at e0 e1 e2 e3 e4 e5 e6
    exact ⟨E, x3, x5, g3, g5, e0, e1, e2, e3, e4, e5, e6⟩
   obtain ⟨f, hf⟩ := Deep.choose_lt hex; refine ⟨(List.range len).map f, by simp; unfold maxLen at hm; omega, .inr ⟨b, off, cap, by simp, by simp; omega, fun i hi => ?_⟩⟩; have hi : i < len := by simpa using hi
   rw [show ((List.range len).map f).getD i e0 = f i by simp [List.getD, hi]]
   exact hf i hi
theorem cellsRb : Tryz.prog.cellsOf 25 = 1 := by kernel_rfl
end
/-- what a table weighs -/
def wtE (L : List Ent) : Nat := (L.map fun E => E.p.length + E.c.length).sum
theorem wt_take {L : List Ent} {k : Nat} (h : k < L.length) : wtE (L.take (k + 1)) = wtE (L.take k) + ((L.getD k e0).p.length + (L.getD k e0).c.length) := by
 unfold wtE; rw [List.take_succ_eq_append_getElem h, List.map_append, List.sum_append]; have e : L.getD k e0 = L[k] := by simp [List.getD, h]
 rw [e]
 simp
theorem wt_le (L : List Ent) (k : Nat) : wtE (L.take k) ≤ wtE L := by
 conv => rhs; rw [← List.take_append_drop k L]
 unfold wtE; rw [List.map_append, List.sum_append]
 omega
theorem wt_at {L : List Ent} {k : Nat} (h : k < L.length) : (L.getD k e0).p.length + (L.getD k e0).c.length ≤ wtE L := by
 have h1 := wt_take h; have h2 := wt_le L (k + 1)
 omega
theorem szA_eq {left : Int} {p c : List Int} (h : ¬ szA left p c < 0) : szA left p c = left - (p.length + c.length : Nat) := by
 unfold szA szN at h ⊢
 split at h
 ·exact absurd (by decide) h
 ·split at h
  ·exact absurd (by decide) h
  ·rename_i h1 h2
   rw [if_neg h1, if_neg h2]
   omega
theorem szA_neg {left : Int} {p c : List Int} (h0 : 0 ≤ left) (h : szA left p c < 0) : szA left p c = -1 := by
 unfold szA szN at h ⊢
 split at h
 ·rename_i h1; rw [if_pos h1]
 ·split at h
  ·rename_i h1 h2; rw [if_neg h1, if_pos h2]
  ·omega
theorem szEnt_any (pv cv : Value) (p c : List Int) (a n pe pr bw left : Int) (w : World) (hp : RdI w pv p) (hc : RdI w cv c) (h0 : 0 ≤ left) (h1 : left ≤ 1048576) :
  Calls Tryz.prog 189 #[.agg #[.int .i64 a, .int .i64 n, .int .i64 pe, pv, .int .i64 pr, cv, .int .i64 bw], .int .i64 left] w fun e w' => e = .returned (.int .i64 (szA left p c)) ∧ Below w.heap.size w w' := by
 obtain ⟨bA, B0, z⟩ := one w [.int .i64 a, .int .i64 n, .int .i64 pe, pv, .int .i64 pr, cv, .int .i64 bw] EL; replace hp := hp.keep B0; replace hc := hc.keep B0; clear z; have a3 := bA.c 3 rfl; have a4 := bA.c 4 rfl; have a5 := bA.c 5 rfl; have a6 := bA.c 6 rfl; obtain ⟨r, hr⟩ : ∃ r, szA left p c = r := ⟨_, rfl⟩; have HR := Lib.hid hr
 by_cases hneg : r < 0
 ·have hr1 : r = -1 := by rw [← hr] at hneg ⊢; exact szA_neg h0 hneg
  subst hr1; rw [hr]; clear hr
  go_enter Tryz.func189, Tryz.ntmps189
  go_wp2_with fail; refine (szA_any _ _ p c _ _ _ _ hp hc h0 h1).mono ?_; rw [HR.out]; rintro e w1 ⟨rfl, hb⟩; replace B0 := below_step B0 hb; clear hb; go_wp2
  go_ret
  exact ⟨rfl, B0⟩
 ·rw [hr]
  clear hr
  go_enter Tryz.func189, Tryz.ntmps189
  go_wp2_with fail; refine (szA_any _ _ p c _ _ _ _ hp hc h0 h1).mono ?_; rw [HR.out]; rintro e w1 ⟨rfl, hb⟩; replace B0 := below_step B0 hb; clear hb; go_wp2
  go_ret
  exact ⟨rfl, B0⟩
/-- a fresh entry -/
def NewEnt (w : World) (p c : List Int) (a n pe pr bw : Int) (e : Ending) (w' : World) : Prop :=
 ∃ pa px ma mx, e = .returned (.agg #[.int .i64 a, .int .i64 n, .int .i64 pe, .slice pa p.length px, .int .i64 pr, .slice ma c.length mx, .int .i64 bw]) ∧ OwnI w' w.heap.size (.slice pa p.length px) p ∧ OwnI w' w.heap.size (.slice ma c.length mx) c ∧ Apart (.slice pa p.length px) (.slice ma c.length mx) ∧ Below w.heap.size w w'
set_option maxHeartbeats 1000000 in
theorem toEnt_any (pv cv : Value) (p c : List Int) (a n pe pr bw : Int) (w : World) (hp : RdI w pv p) (hc : RdI w cv c) (h2 : p.length ≤ 1048576) (h3 : c.length ≤ 1048576) :
  Calls Tryz.prog 198 #[.agg #[.int .i64 a, .int .i64 n, .int .i64 pe, pv, .int .i64 pr, cv, .int .i64 bw]] w (NewEnt w p c a n pe pr bw) := by
 obtain ⟨bA, bR, bO, B1, z⟩ := three w [.int .i64 a, .int .i64 n, .int .i64 pe, pv, .int .i64 pr, cv, .int .i64 bw] [.int .i64 0, .int .i64 0, .int .i64 0, .slice none 0 0, .int .i64 0, .slice none 0 0, .int .i64 0] [.int .i64 0, .int .i64 0, .int .i64 0, .slice none 0 0, .int .i64 0, .slice none 0 0, .int .i64 0] EL EI EI
 go_enter Tryz.func198, Tryz.ntmps198
 go_wp2_with fail; refine (to_any a n _).mono ?_; rintro e w1 ⟨rfl, hb⟩; have hs := hb.size; rw [z] at hs; replace bA := bA.keep hb; replace bR := bR.keep hb; replace bO := bO.keep hb; replace B1 := below_step B1 hb; clear z hb; obtain ⟨A, hA⟩ : ∃ A, A = w.heap.size := ⟨_, rfl⟩; obtain ⟨R, hR⟩ : ∃ R, R = w.heap.size + 1 := ⟨_, rfl⟩; obtain ⟨O, hO⟩ : ∃ O, O = w.heap.size + 1 + 1 := ⟨_, rfl⟩; rw [← hA] at bA; rw [← hR] at bR; rw [← hO] at bO; rw [← hO, ← hR, ← hA]; have hO3 : O < w.heap.size + 3 := by omega
 have hRO : R ≠ O := by omega
 have hR3 : R < w.heap.size + 3 := by omega
 have hAO : A ≠ O := by omega
 have hwO : w.heap.size ≤ O := by omega
 have hwR : w.heap.size ≤ R := by omega
 clear hA hR hO; have a2 := bA.c 2 rfl; have a3 := bA.c 3 rfl; have a4 := bA.c 4 rfl; have a5 := bA.c 5 rfl; have a6 := bA.c 6 rfl; have o0 := bO.c 0 rfl; have of0 := bO.f 0 rfl; have o1 := bO.c 1 rfl; have of1 := bO.f 1 rfl; have o2 := bO.c 2 rfl; have of2 := bO.f 2 rfl; go_wp2_with fail; clear a2 a3 a4 a5 a6 o0 of0 o1 of1 o2 of2; have hs1 := hs; replace hs1 := Nat.le_trans hs1 (grown_set (w1) O 0 (.int .i64 a)).size; replace bA := bA.far (o := 0) (u := .int .i64 a) hAO; replace bR := bR.far (o := 0) (u := .int .i64 a) hRO; replace bO := bO.set 0 (.int .i64 a); replace B1 := B1.setCell (p := ⟨O, 0, none⟩) hwO (.int .i64 a); replace hs1 := Nat.le_trans hs1 (grown_set ((w1).setCell ⟨O, 0, none⟩ (.int .i64 a)) O 1 (.int .i64 n)).size; replace bA := bA.far (o := 1) (u := .int .i64 n) hAO; replace bR := bR.far (o := 1) (u := .int .i64 n) hRO; replace bO := bO.set 1 (.int .i64 n); replace B1 := B1.setCell (p := ⟨O, 1, none⟩) hwO (.int .i64 n); replace hs1 := Nat.le_trans hs1 (grown_set (((w1).setCell ⟨O, 0, none⟩ (.int .i64 a)).setCell ⟨O, 1, none⟩ (.int .i64 n)) O 2 (.int .i64 pe)).size; replace bA := bA.far (o := 2) (u := .int .i64 pe) hAO; replace bR := bR.far (o := 2) (u := .int .i64 pe) hRO; replace bO := bO.set 2 (.int .i64 pe); replace B1 := B1.setCell (p := ⟨O, 2, none⟩) hwO (.int .i64 pe); refine (toA_any pv cv p c pr bw _ (hp.keep B1) (hc.keep B1) h2 h3).mono ?_; rintro e w3 ⟨pa, px, ma, mx, rfl, hP, hM, apPM, hb⟩; replace hP := hP.mono hs1; replace hM := hM.mono hs1; replace bA := bA.keep hb; replace bR := bR.keep hb; replace bO := bO.keep hb; replace B1 := below_step B1 hb; clear hb hs1 hs; have o0 := bO.c 0 rfl; have of0 := bO.f 0 rfl; have o1 := bO.c 1 rfl; have of1 := bO.f 1 rfl; have o2 := bO.c 2 rfl; have of2 := bO.f 2 rfl; have o3 := bO.c 3 rfl; have of3 := bO.f 3 rfl; have o4 := bO.c 4 rfl; have of4 := bO.f 4 rfl; have o5 := bO.c 5 rfl; have of5 := bO.f 5 rfl; have o6 := bO.c 6 rfl; have of6 := bO.f 6 rfl; have r0 := bR.c 0 rfl; have rf0 := bR.f 0 rfl; have r1 := bR.c 1 rfl; have rf1 := bR.f 1 rfl; have r2 := bR.c 2 rfl; have rf2 := bR.f 2 rfl; have r3 := bR.c 3 rfl; have rf3 := bR.f 3 rfl; have r4 := bR.c 4 rfl; have rf4 := bR.f 4 rfl; have r5 := bR.c 5 rfl; have rf5 := bR.f 5 rfl; have r6 := bR.c 6 rfl; have rf6 := bR.f 6 rfl; go_wp2_with fail; have bE := (((((((((((bR.far (o := 3) (u := .slice pa p.length px) hRO).far (o := 4) (u := .int .i64 pr) hRO).far (o := 5) (u := .slice ma c.length mx) hRO).far (o := 6) (u := .int .i64 bw) hRO).set 0 (.int .i64 a)).set 1 (.int .i64 n)).set 2 (.int .i64 pe)).set 3 (.slice pa p.length px)).set 4 (.int .i64 pr)).set 5 (.slice ma c.length mx)).set 6 (.int .i64 bw)); have e0 := bE.c 0 rfl; have e1 := bE.c 1 rfl; have e2 := bE.c 2 rfl; have e3 := bE.c 3 rfl; have e4 := bE.c 4 rfl; have e5 := bE.c 5 rfl; have e6 := bE.c 6 rfl
 exact bodyPost_ret (v := .agg #[.int .i64 a, .int .i64 n, .int .i64 pe, .slice pa p.length px, .int .i64 pr, .slice ma c.length mx, .int .i64 bw]) (by simp [results, Tryz.results198, go_sem, e0, e1, e2, e3, e4, e5, e6]) rfl
  ⟨pa, px, ma, mx, rfl, ((((((((((((hP.far (o := 3) hO3).far (o := 4) hO3).far (o := 5) hO3).far (o := 6) hO3).far (o := 0) hR3).far (o := 1) hR3).far (o := 2) hR3).far (o := 3) hR3).far (o := 4) hR3).far (o := 5) hR3).far (o := 6) hR3).mono (by omega)), ((((((((((((hM.far (o := 3) hO3).far (o := 4) hO3).far (o := 5) hO3).far (o := 6) hO3).far (o := 0) hR3).far (o := 1) hR3).far (o := 2) hR3).far (o := 3) hR3).far (o := 4) hR3).far (o := 5) hR3).far (o := 6) hR3).mono (by omega)), apPM, (((((((((((B1.setCell (p := ⟨O, 3, none⟩) hwO (.slice pa p.length px)).setCell (p := ⟨O, 4, none⟩) hwO (.int .i64 pr)).setCell (p := ⟨O, 5, none⟩) hwO (.slice ma c.length mx)).setCell (p := ⟨O, 6, none⟩) hwO (.int .i64 bw)).setCell (p := ⟨R, 0, none⟩) hwR (.int .i64 a)).setCell (p := ⟨R, 1, none⟩) hwR (.int .i64 n)).setCell (p := ⟨R, 2, none⟩) hwR (.int .i64 pe)).setCell (p := ⟨R, 3, none⟩) hwR (.slice pa p.length px)).setCell (p := ⟨R, 4, none⟩) hwR (.int .i64 pr)).setCell (p := ⟨R, 5, none⟩) hwR (.slice ma c.length mx)).setCell (p := ⟨R, 6, none⟩) hwR (.int .i64 bw))⟩
/-- element i of the cells xs is the entry E, its slices rows of one's own -/
def EntX (xs : List Value) (w : World) (base i : Nat) (E : Ent) : Prop :=
 ∃ u1 u2, OwnI w base u1 E.p ∧ OwnI w base u2 E.c ∧ xs[i * 7]? = some (.int .i64 E.a) ∧ xs[i * 7 + 1]? = some (.int .i64 E.n) ∧ xs[i * 7 + 2]? = some (.int .i64 E.pe) ∧ xs[i * 7 + 3]? = some (u1) ∧ xs[i * 7 + 4]? = some (.int .i64 E.pr) ∧ xs[i * 7 + 5]? = some (u2) ∧ xs[i * 7 + 6]? = some (.int .i64 E.bw)
def MadeE (w : World) (B n k : Nat) (L : List Ent) : Prop := ∃ xs : List Value, xs.length = n * 7 ∧ Bl w B xs ∧ ∀ i, i < k → EntX xs w (B + 1) i (L.getD i e0)
theorem MadeE.keep {w w' : World} {B n k : Nat} {L : List Ent} (h : MadeE w B n k L) (hb : Below w.heap.size w w') : MadeE w' B n k L := by
 obtain ⟨xs, hl, hB, hx⟩ := h; refine ⟨xs, hl, hB.keep hb, fun i hi => ?_⟩; obtain ⟨u1, u2, h1, h2, h3⟩ := hx i hi
 exact ⟨u1, u2, h1.keep hb, h2.keep hb, h3⟩
theorem MadeE.cell {w : World} {B n k : Nat} {L : List Ent} (h : MadeE w B n k L) (j : Nat) (hj : j < n * 7) : ∃ x, w.cell? ⟨B, j, none⟩ = some x ∧ w.frozen? ⟨B, j, none⟩ = false := by
 obtain ⟨xs, hl, hB, hx⟩ := h
 exact ⟨_, hB.c j (List.getElem?_eq_getElem (by omega)), hB.f j (List.getElem?_eq_getElem (by omega))⟩
theorem MadeE.step {w : World} {B n k : Nat} {L : List Ent} (h : MadeE w B n k L) (hk : k < n) {u1 u2 : Value} {E : Ent} (hE : L.getD k e0 = E) (h1 : OwnI w (B + 1) u1 E.p) (h2 : OwnI w (B + 1) u2 E.c) :
  MadeE (((((((w.setCell ⟨B, k * 7, none⟩ (.int .i64 E.a)).setCell ⟨B, k * 7 + 1, none⟩ (.int .i64 E.n)).setCell ⟨B, k * 7 + 2, none⟩ (.int .i64 E.pe)).setCell ⟨B, k * 7 + 3, none⟩ (u1)).setCell ⟨B, k * 7 + 4, none⟩ (.int .i64 E.pr)).setCell ⟨B, k * 7 + 5, none⟩ (u2)).setCell ⟨B, k * 7 + 6, none⟩ (.int .i64 E.bw)) B n (k + 1) L := by
 obtain ⟨xs, hl, hB, hx⟩ := h; refine ⟨(((((((xs.set (k * 7) (.int .i64 E.a)).set (k * 7 + 1) (.int .i64 E.n)).set (k * 7 + 2) (.int .i64 E.pe)).set (k * 7 + 3) (u1)).set (k * 7 + 4) (.int .i64 E.pr)).set (k * 7 + 5) (u2)).set (k * 7 + 6) (.int .i64 E.bw)), by simpa using hl, (((((((hB.set (k * 7) (.int .i64 E.a)).set (k * 7 + 1) (.int .i64 E.n)).set (k * 7 + 2) (.int .i64 E.pe)).set (k * 7 + 3) (u1)).set (k * 7 + 4) (.int .i64 E.pr)).set (k * 7 + 5) (u2)).set (k * 7 + 6) (.int .i64 E.bw)), fun i hi => ?_⟩
 by_cases e : i = k
 ·have e' := e.symm
  subst e'; rw [hE]; refine ⟨u1, u2, (OwnI.far (o := k * 7 + 6) (u := .int .i64 E.bw) (OwnI.far (o := k * 7 + 5) (u := u2) (OwnI.far (o := k * 7 + 4) (u := .int .i64 E.pr) (OwnI.far (o := k * 7 + 3) (u := u1) (OwnI.far (o := k * 7 + 2) (u := .int .i64 E.pe) (OwnI.far (o := k * 7 + 1) (u := .int .i64 E.n) (OwnI.far (o := k * 7) (u := .int .i64 E.a) h1 (Nat.lt_succ_self B)) (Nat.lt_succ_self B)) (Nat.lt_succ_self B)) (Nat.lt_succ_self B)) (Nat.lt_succ_self B)) (Nat.lt_succ_self B)) (Nat.lt_succ_self B)), (OwnI.far (o := k * 7 + 6) (u := .int .i64 E.bw) (OwnI.far (o := k * 7 + 5) (u := u2) (OwnI.far (o := k * 7 + 4) (u := .int .i64 E.pr) (OwnI.far (o := k * 7 + 3) (u := u1) (OwnI.far (o := k * 7 + 2) (u := .int .i64 E.pe) (OwnI.far (o := k * 7 + 1) (u := .int .i64 E.n) (OwnI.far (o := k * 7) (u := .int .i64 E.a) h2 (Nat.lt_succ_self B)) (Nat.lt_succ_self B)) (Nat.lt_succ_self B)) (Nat.lt_succ_self B)) (Nat.lt_succ_self B)) (Nat.lt_succ_self B)) (Nat.lt_succ_self B)), ?_, ?_, ?_, ?_, ?_, ?_, ?_⟩
  all_goals simp only [List.getElem?_set, List.length_set]
  all_goals simp (disch := omega) [hl]
  all_goals omega
 ·obtain ⟨v1, v2, g1, g2, c0, c1, c2, c3, c4, c5, c6⟩ := hx i (by omega)
  refine ⟨v1, v2, (OwnI.far (o := k * 7 + 6) (u := .int .i64 E.bw) (OwnI.far (o := k * 7 + 5) (u := u2) (OwnI.far (o := k * 7 + 4) (u := .int .i64 E.pr) (OwnI.far (o := k * 7 + 3) (u := u1) (OwnI.far (o := k * 7 + 2) (u := .int .i64 E.pe) (OwnI.far (o := k * 7 + 1) (u := .int .i64 E.n) (OwnI.far (o := k * 7) (u := .int .i64 E.a) g1 (Nat.lt_succ_self B)) (Nat.lt_succ_self B)) (Nat.lt_succ_self B)) (Nat.lt_succ_self B)) (Nat.lt_succ_self B)) (Nat.lt_succ_self B)) (Nat.lt_succ_self B)), (OwnI.far (o := k * 7 + 6) (u := .int .i64 E.bw) (OwnI.far (o := k * 7 + 5) (u := u2) (OwnI.far (o := k * 7 + 4) (u := .int .i64 E.pr) (OwnI.far (o := k * 7 + 3) (u := u1) (OwnI.far (o := k * 7 + 2) (u := .int .i64 E.pe) (OwnI.far (o := k * 7 + 1) (u := .int .i64 E.n) (OwnI.far (o := k * 7) (u := .int .i64 E.a) g2 (Nat.lt_succ_self B)) (Nat.lt_succ_self B)) (Nat.lt_succ_self B)) (Nat.lt_succ_self B)) (Nat.lt_succ_self B)) (Nat.lt_succ_self B)) (Nat.lt_succ_self B)), ?_, ?_, ?_, ?_, ?_, ?_, ?_⟩
  all_goals (repeat rw [List.getElem?_set_ne (by omega)])
  all_goals assumption
/-- a row of entries of one's own -/
def OwnE (w : World) (base : Nat) (v : Value) (L : List Ent) : Prop := ∃ B, v = .slice (some ⟨B, 0, none⟩) L.length L.length ∧ base ≤ B ∧ MadeE w B L.length L.length L
theorem OwnE.keep {w w' : World} {base : Nat} {v : Value} {L : List Ent} (h : OwnE w base v L) (hb : Below w.heap.size w w') : OwnE w' base v L := by
 obtain ⟨B, rfl, h1, h2⟩ := h
 exact ⟨B, rfl, h1, h2.keep hb⟩
theorem OwnE.mono {w : World} {base base' : Nat} {v : Value} {L : List Ent} (h : OwnE w base v L) (hb : base' ≤ base) : OwnE w base' v L := by
 obtain ⟨B, rfl, h1, h2⟩ := h
 exact ⟨B, rfl, Nat.le_trans hb h1, h2⟩
theorem OwnE.rd {w : World} {base : Nat} {v : Value} {L : List Ent} (h : OwnE w base v L) (hd : ∀ i, i < L.length → BdE (L.getD i e0)) (hn : L.length ≤ 1048576) : RdE w v L := by
 obtain ⟨B, rfl, h1, xs, hl, hB, hx⟩ := h; refine ⟨by omega, ?_⟩
 by_cases h0 : L.length = 0
 ·refine .inl ⟨some ⟨B, 0, none⟩, 0, by rw [h0], List.eq_nil_of_length_eq_zero h0, fun h => by cases h⟩
 ·refine .inr ⟨B, 0, L.length, rfl, by omega, fun i hi => ?_⟩
  obtain ⟨u1, u2, g1, g2, c0, c1, c2, c3, c4, c5, c6⟩ := hx i hi; refine ⟨u1, u2, g1.rd (hd i hi).1, g2.rd (hd i hi).2, ?_⟩; simp only [Nat.zero_add]
  exact ⟨hB.c _ c0, hB.c _ c1, hB.c _ c2, hB.c _ c3, hB.c _ c4, hB.c _ c5, hB.c _ c6⟩
theorem infoE : (Tryz.prog.info? EI).map (fun i => (i.zero, i.size, i.bytes)) = some (some (.agg #[.int .i64 0, .int .i64 0, .int .i64 0, .slice none 0 0, .int .i64 0, .slice none 0 0, .int .i64 0]), 7, 88) := by kernel_rfl
theorem make_E (t : TypeId) (ht : Tryz.prog.underlying t = some (.slice EI)) (n : Nat) (hn : n ≤ 1048576) (w : World) :
  (Instr.makeSlice t (.int .i64 (n : Int)) (.int .i64 (n : Int))).run Tryz.prog w = .ok (.slice (some ⟨w.heap.size, 0, none⟩) n n) (w.alloc (.cells (madeCells #[Value.int .i64 0, Value.int .i64 0, Value.int .i64 0, Value.slice none 0 0, Value.int .i64 0, Value.slice none 0 0, Value.int .i64 0] (n * 7)) EI)) := by
 obtain ⟨i, hi, hzz⟩ := Option.map_eq_some_iff.1 infoE; simp only [Prod.mk.injEq] at hzz; obtain ⟨hz, hs, hb⟩ := hzz; have hr := run_make (P := Tryz.prog) w t EI i _ ht hi hz .i64 .i64 n n (by omega) (Int.le_refl _) (by rw [hb]; omega) (by omega)
 simpa only [Int.toNat_natCast, hs, Value.cells] using hr
theorem made_start (w : World) (n : Nat) (L : List Ent) : MadeE (w.alloc (.cells (madeCells #[Value.int .i64 0, Value.int .i64 0, Value.int .i64 0, Value.slice none 0 0, Value.int .i64 0, Value.slice none 0 0, Value.int .i64 0] (n * 7)) EI)) w.heap.size n 0 L := by
 refine ⟨(madeCells #[Value.int .i64 0, Value.int .i64 0, Value.int .i64 0, Value.slice none 0 0, Value.int .i64 0, Value.slice none 0 0, Value.int .i64 0] (n * 7)).toList, by simp [size_madeCells], ?_, fun i hi => absurd hi (Nat.not_lt_zero _)⟩; have := Bl.new w (madeCells #[Value.int .i64 0, Value.int .i64 0, Value.int .i64 0, Value.slice none 0 0, Value.int .i64 0, Value.slice none 0 0, Value.int .i64 0] (n * 7)).toList EI w.heap.size rfl
 simpa using this
set_option maxHeartbeats 1000000 in
theorem toES_any (v : Value) (L : List Ent) (w : World) (h : RdE w v L) (hn : L.length + wtE L ≤ 1048576) :
  Calls Tryz.prog 125 #[v] w fun e w' => ∃ u, e = .returned u ∧ OwnE w' w.heap.size u L ∧ Below w.heap.size w w' := by
 have hmk := fun W => make_E 29 Tryz.underlying29 L.length (by omega) W
 obtain ⟨a, c, rfl, hc⟩ := h.el; obtain ⟨n, hn'⟩ : ∃ n, n = L.length := ⟨_, rfl⟩; rw [← hn'] at hc hn hmk ⊢; have hnn : n ≤ 1048576 := by omega
 have HN := Lib.hid hn'; have HW := Lib.hid hn; clear hn' h hn; obtain ⟨B, hBB⟩ : ∃ B, B = w.heap.size := ⟨_, rfl⟩; have hst := made_start w n L; rw [← hBB] at hst; have HS := Lib.hid hst; have HBB := Lib.hid hBB; have hwB : w.heap.size ≤ B := by omega
 clear hst
 go_enter Tryz.func125, Tryz.ntmps125
 go_wp2; rw [← hBB]; clear hmk hBB
 go_loopw [4] (fun i wr => ∃ k : Nat, k ≤ n ∧ i = .int .i64 k ∧ MadeE wr B n k L ∧ Below w.heap.size w wr) (fun i _ => n - (intOf i).toNat)
 case atStart => exact ⟨0, Nat.zero_le _, rfl, HS.out, (Below.refl _ _).alloc (Nat.le_refl _) _⟩
 case round =>
  obtain ⟨k, hk, rfl, hM, hB⟩ := hrel
  by_cases hlt : k < n
  ·have hltI : (k : Int) < (n : Int) := by omega
   obtain ⟨b, o, rfl, hE⟩ := hc k hlt; obtain ⟨E, hx⟩ : ∃ E, L.getD k e0 = E := ⟨_, rfl⟩; rw [hx] at hE; obtain ⟨pv, cv, hp, hq, k0, k1, k2, k3, k4, k5, k6⟩ := hE.keep hB; have HX := Lib.hid hx; have HCC := Lib.hid hc; clear hx hc hE
   have hpl : E.p.length ≤ 1048576 := by
    have h1 := wt_at (L := L) (k := k) (by rw [← HN.out]; exact hlt); rw [HX.out] at h1; have := HW.out
    omega
   have hcl : E.c.length ≤ 1048576 := by
    have h1 := wt_at (L := L) (k := k) (by rw [← HN.out]; exact hlt); rw [HX.out] at h1; have := HW.out
    omega
   have hBW : B < wr.heap.size := by
    obtain ⟨xs, hl, hBl, -⟩ := hM
    exact hBl.lt
   go_wp2_with fail; refine (toEnt_any pv cv E.p E.c _ _ _ _ _ _ hp hq hpl hcl).mono ?_; rintro e w2 ⟨pa, px, ma, mx, rfl, h1, h2, ap, hb⟩; have hM2 := hM.keep hb; have hB2 := below_step hB hb; replace h1 := h1.mono (Nat.succ_le_of_lt hBW); replace h2 := h2.mono (Nat.succ_le_of_lt hBW); clear hM hB hb k0 k1 k2 k3 k4 k5 k6 hp hq ap hpl hcl hBW; obtain ⟨p0, g0, f0⟩ := hM2.cell (k * 7) (by omega); obtain ⟨p1, g1, f1⟩ := hM2.cell (k * 7 + 1) (by omega); obtain ⟨p2, g2, f2⟩ := hM2.cell (k * 7 + 2) (by omega); obtain ⟨p3, g3, f3⟩ := hM2.cell (k * 7 + 3) (by omega); obtain ⟨p4, g4, f4⟩ := hM2.cell (k * 7 + 4) (by omega); obtain ⟨p5, g5, f5⟩ := hM2.cell (k * 7 + 5) (by omega); obtain ⟨p6, g6, f6⟩ := hM2.cell (k * 7 + 6) (by omega); have HM := Lib.hid (hM2.step hlt HX.out h1 h2); have hB3 := (((((((hB2.setCell (p := ⟨B, k * 7, none⟩) hwB (.int .i64 E.a)).setCell (p := ⟨B, k * 7 + 1, none⟩) hwB (.int .i64 E.n)).setCell (p := ⟨B, k * 7 + 2, none⟩) hwB (.int .i64 E.pe)).setCell (p := ⟨B, k * 7 + 3, none⟩) hwB ((.slice pa E.p.length px))).setCell (p := ⟨B, k * 7 + 4, none⟩) hwB (.int .i64 E.pr)).setCell (p := ⟨B, k * 7 + 5, none⟩) hwB ((.slice ma E.c.length mx))).setCell (p := ⟨B, k * 7 + 6, none⟩) hwB (.int .i64 E.bw)); clear hM2 hB2 h1 h2; go_wp2
   go_roundw
   case rel => exact ⟨k + 1, by omega, by go_num, HM.out, hB3⟩
   case measure => simp [intOf]; omega
  ·have hkn : k = n := by omega
   subst hkn; clear hc; go_wp2
   go_ret
   exact ⟨.slice (some ⟨B, 0, none⟩) k k, rfl, ⟨B, by rw [← HN.out], hwB, by rw [← HN.out]; exact hM⟩, hB⟩
theorem toRb_any (v : Value) (L : List Ent) (w : World) (h : RdE w v L) (hn : L.length + wtE L ≤ 1048576) :
  Calls Tryz.prog 48 #[.agg #[v]] w fun e w' => ∃ u, e = .returned (.agg #[u]) ∧ OwnE w' w.heap.size u L ∧ Below w.heap.size w w' := by
 obtain ⟨bA, bR, bO, B1, z⟩ := three w [v] [.slice none 0 0] [.slice none 0 0] 25 33 33; have h1 := h.keep B1
 go_enter Tryz.func48, Tryz.ntmps48
 go_wp2_with fail; refine (toES_any _ L _ h1 hn).mono ?_; rintro e w1 ⟨u, rfl, ho, hb⟩; replace bA := bA.keep hb; replace bR := bR.keep hb; replace bO := bO.keep hb; have hs := hb.size; replace B1 := below_step B1 hb; rw [z] at ho hs; clear z hb h1; obtain ⟨A, hA⟩ : ∃ A, A = w.heap.size := ⟨_, rfl⟩; obtain ⟨R, hR⟩ : ∃ R, R = w.heap.size + 1 := ⟨_, rfl⟩; obtain ⟨O, hO⟩ : ∃ O, O = w.heap.size + 1 + 1 := ⟨_, rfl⟩; rw [← hA] at bA; rw [← hR] at bR; rw [← hO] at bO; rw [← hO, ← hR]
 try rw [← hA]
 have hO3 : O < w.heap.size + 3 := by omega
 have hRO : R ≠ O := by omega
 have hR3 : R < w.heap.size + 3 := by omega
 have hwO : w.heap.size ≤ O := by omega
 have hwR : w.heap.size ≤ R := by omega
 clear hA hR hO; obtain ⟨B, rfl, hBb, hM⟩ := ho; have o0 := bO.c 0 rfl; have of0 := bO.f 0 rfl; have r0 := bR.c 0 rfl; have rf0 := bR.f 0 rfl; go_wp2_with fail; have bE := (bR.far (o := 0) (u := .slice (some ⟨B, 0, none⟩) L.length L.length) hRO).set 0 (.slice (some ⟨B, 0, none⟩) L.length L.length); have e0 := bE.c 0 rfl
 have hM2 : MadeE ((w1.setCell ⟨O, 0, none⟩ (.slice (some ⟨B, 0, none⟩) L.length L.length)).setCell ⟨R, 0, none⟩ (.slice (some ⟨B, 0, none⟩) L.length L.length)) B L.length L.length L := by
  obtain ⟨xs, hl, hBl, hx⟩ := hM; refine ⟨xs, hl, (hBl.far (by omega)).far (by omega), fun i hi => ?_⟩; obtain ⟨u1, u2, g1, g2, g3⟩ := hx i hi
  exact ⟨u1, u2, (g1.far (by omega)).far (by omega), (g2.far (by omega)).far (by omega), g3⟩
 exact bodyPost_ret (v := .agg #[.slice (some ⟨B, 0, none⟩) L.length L.length]) (by simp [results, Tryz.results48, go_sem, e0]) rfl
  ⟨_, rfl, ⟨B, rfl, by omega, hM2⟩, (B1.setCell (p := ⟨O, 0, none⟩) hwO _).setCell (p := ⟨R, 0, none⟩) hwR _⟩
theorem eqPx_same (a n : Int) (w : World) : Calls Tryz.prog 133 #[.agg #[.int .i64 a, .int .i64 n], .agg #[.int .i64 a, .int .i64 n]] w fun e w' => e = .returned (.bool true) ∧ Below w.heap.size w w' := by
 have := eqPx_any a n a n w
 simpa using this
theorem eqEnt_same (pv cv pv2 cv2 : Value) (p c : List Int) (a n pe pr bw : Int) (w : World) (hp : RdI w pv p) (hc : RdI w cv c) (hp2 : RdI w pv2 p) (hc2 : RdI w cv2 c) :
  Calls Tryz.prog 54 #[.agg #[.int .i64 a, .int .i64 n, .int .i64 pe, pv, .int .i64 pr, cv, .int .i64 bw], .agg #[.int .i64 a, .int .i64 n, .int .i64 pe, pv2, .int .i64 pr, cv2, .int .i64 bw]] w fun e w' => e = .returned (.bool true) ∧ Below w.heap.size w w' := by
 obtain ⟨bA, bB, B1, z⟩ := two w [.int .i64 a, .int .i64 n, .int .i64 pe, pv, .int .i64 pr, cv, .int .i64 bw] [.int .i64 a, .int .i64 n, .int .i64 pe, pv2, .int .i64 pr, cv2, .int .i64 bw] EI EI; replace hp := hp.keep B1; replace hc := hc.keep B1; replace hp2 := hp2.keep B1; replace hc2 := hc2.keep B1; clear z; have q0 : (pe != pe) = false := by simp
 go_enter Tryz.func54, Tryz.ntmps54
 go_wp2_with fail; refine (eqPx_same a n _).mono ?_; rintro e w1 ⟨rfl, hb⟩; replace bA := bA.keep hb; replace bB := bB.keep hb; replace hp := hp.keep hb; replace hc := hc.keep hb; replace hp2 := hp2.keep hb; replace hc2 := hc2.keep hb; replace B1 := below_step B1 hb; clear hb; have a2 := bA.c 2 rfl; have a3 := bA.c 3 rfl; have a4 := bA.c 4 rfl; have a5 := bA.c 5 rfl; have a6 := bA.c 6 rfl; have b2 := bB.c 2 rfl; have b3 := bB.c 3 rfl; have b4 := bB.c 4 rfl; have b5 := bB.c 5 rfl; have b6 := bB.c 6 rfl; go_wp2_with fail; refine (eqA_same _ _ _ _ p c pr bw _ hp hc hp2 hc2).mono ?_; rintro e w3 ⟨rfl, hb⟩; replace B1 := below_step B1 hb; clear hb; go_wp2
 go_ret
 exact ⟨rfl, B1⟩
set_option maxHeartbeats 1000000 in
theorem eqES_same (v u : Value) (L : List Ent) (w : World) (h1 : RdE w v L) (h2 : RdE w u L) :
  Calls Tryz.prog 13 #[v, u] w fun e w' => e = .returned (.bool true) ∧ Below w.heap.size w w' := by
 have hm1 := h1.1; obtain ⟨a, c, rfl, hc⟩ := h1.el; obtain ⟨a', c', rfl, hc'⟩ := h2.el; obtain ⟨n, hn⟩ : ∃ n, n = L.length := ⟨_, rfl⟩; rw [← hn] at hc hc' hm1 ⊢; have HN := Lib.hid hn; clear hn h1 h2; have hnn : ((n : Int) != (n : Int)) = false := by simp
 go_enter Tryz.func13, Tryz.ntmps13
 go_wp2
 go_loopw [5] (fun i wr => ∃ k : Nat, k ≤ n ∧ i = .int .i64 k ∧ Below w.heap.size w wr) (fun i _ => n - (intOf i).toNat)
 case atStart => exact ⟨0, Nat.zero_le _, rfl, Below.refl _ _⟩
 case round =>
  obtain ⟨k, hk, rfl, hB⟩ := hrel
  by_cases hlt : k < n
  ·have hltI : (k : Int) < (n : Int) := by omega
   obtain ⟨b, o, rfl, hE⟩ := hc k hlt; obtain ⟨b', o', rfl, hE'⟩ := hc' k hlt; obtain ⟨E, hx⟩ : ∃ E, L.getD k e0 = E := ⟨_, rfl⟩; rw [hx] at hE hE'; obtain ⟨pv, cv, hp, hq, k0, k1, k2, k3, k4, k5, k6⟩ := hE.keep hB; obtain ⟨pv2, cv2, hp2, hq2, m0, m1, m2, m3, m4, m5, m6⟩ := hE'.keep hB; clear hx hc hc' hE hE'; go_wp2
   go_region_held3 (fun w' => Over wr w' ∧ w'.cell? ⟨b, o + k * 7, none⟩ = some (.int .i64 E.a) ∧ w'.cell? ⟨b, o + k * 7 + 1, none⟩ = some (.int .i64 E.n) ∧ w'.cell? ⟨b, o + k * 7 + 2, none⟩ = some (.int .i64 E.pe) ∧ w'.cell? ⟨b, o + k * 7 + 3, none⟩ = some (pv) ∧ w'.cell? ⟨b, o + k * 7 + 4, none⟩ = some (.int .i64 E.pr) ∧ w'.cell? ⟨b, o + k * 7 + 5, none⟩ = some (cv) ∧ w'.cell? ⟨b, o + k * 7 + 6, none⟩ = some (.int .i64 E.bw) ∧ w'.cell? ⟨b', o' + k * 7, none⟩ = some (.int .i64 E.a) ∧ w'.cell? ⟨b', o' + k * 7 + 1, none⟩ = some (.int .i64 E.n) ∧ w'.cell? ⟨b', o' + k * 7 + 2, none⟩ = some (.int .i64 E.pe) ∧ w'.cell? ⟨b', o' + k * 7 + 3, none⟩ = some (pv2) ∧ w'.cell? ⟨b', o' + k * 7 + 4, none⟩ = some (.int .i64 E.pr) ∧ w'.cell? ⟨b', o' + k * 7 + 5, none⟩ = some (cv2) ∧ w'.cell? ⟨b', o' + k * 7 + 6, none⟩ = some (.int .i64 E.bw))
    ((first | exact ⟨over_drew _, k0, k1, k2, k3, k4, k5, k6, m0, m1, m2, m3, m4, m5, m6⟩ | exact (fun o => ⟨o, over_cell o (World.block_lt_of_cell? wr _ k0) k0, over_cell o (World.block_lt_of_cell? wr _ k1) k1, over_cell o (World.block_lt_of_cell? wr _ k2) k2, over_cell o (World.block_lt_of_cell? wr _ k3) k3, over_cell o (World.block_lt_of_cell? wr _ k4) k4, over_cell o (World.block_lt_of_cell? wr _ k5) k5, over_cell o (World.block_lt_of_cell? wr _ k6) k6, over_cell o (World.block_lt_of_cell? wr _ m0) m0, over_cell o (World.block_lt_of_cell? wr _ m1) m1, over_cell o (World.block_lt_of_cell? wr _ m2) m2, over_cell o (World.block_lt_of_cell? wr _ m3) m3, over_cell o (World.block_lt_of_cell? wr _ m4) m4, over_cell o (World.block_lt_of_cell? wr _ m5) m5, over_cell o (World.block_lt_of_cell? wr _ m6) m6⟩) (over_step (by assumption : Over wr _ ∧ _).1 (by assumption))))
    ((first | (go_at_call 54; refine (eqEnt_same pv cv pv2 cv2 E.p E.c _ _ _ _ _ _ (rdI_over hp (‹Over wr _ ∧ _›).1) (rdI_over hq (‹Over wr _ ∧ _›).1) (rdI_over hp2 (‹Over wr _ ∧ _›).1) (rdI_over hq2 (‹Over wr _ ∧ _›).1)).mono ?_; rintro e w6 ⟨rfl, hbb⟩)))
   rename_i hH
   replace hB := below_step hB hH.1; clear hH hbb k0 k1 k2 k3 k4 k5 k6 m0 m1 m2 m3 m4 m5 m6 hp hq hp2 hq2; go_wp2
   go_roundw
   case rel => exact ⟨k + 1, by omega, by go_num, hB⟩
   case measure => simp [intOf]; omega
  ·have hkn : k = n := by omega
   clear hc hc'; go_wp2
   go_ret
   exact ⟨rfl, hB⟩
theorem eqRb_same (v u : Value) (L : List Ent) (w : World) (h1 : RdE w v L) (h2 : RdE w u L) :
  Calls Tryz.prog 56 #[.agg #[v], .agg #[u]] w fun e w' => e = .returned (.bool true) ∧ Below w.heap.size w w' := by
 obtain ⟨bA, bB, B1, z⟩ := two w [v] [u] 33 33; replace h1 := h1.keep B1; replace h2 := h2.keep B1; clear z
 go_enter Tryz.func56, Tryz.ntmps56
 go_wp2_with fail; refine (eqES_same _ _ L _ h1 h2).mono ?_; rintro e w1 ⟨rfl, hb⟩; replace B1 := below_step B1 hb; clear hb; go_wp2
 go_ret
 exact ⟨rfl, B1⟩
end Go.Proofs.YtbcmoofpgffbhabGreat
namespace Go.Proofs.YtbcmoofpgffbhabGreat
open Go.ChangeShapes Go.WideShapes Go.ChangeAt Go.RowKit Go.BigFrame Go.Joins
set_option linter.unusedVariables false
set_option maxRecDepth 100000

/-- a slice of ints: its length, and its elements where there are any -/
theorem RdI.el {w : World} {v : Value} {l : List Int} (h : RdI w v l) : ∃ a c, v = .slice a l.length c ∧ ∀ i, i < l.length → ∃ b o, a = some ⟨b, o, none⟩ ∧ w.cell? ⟨b, o + i, none⟩ = some (.int .i64 (l.getD i 0)) := by
 rcases h.2.2 with ⟨a, c, rfl, rfl, hac⟩ | ⟨b, o, c, rfl, hp, hc⟩
 ·exact ⟨a, c, rfl, fun i hi => by simp at hi⟩
 ·exact ⟨_, c, rfl, fun i hi => ⟨b, o, rfl, hc i hi⟩⟩
def inB (n lo hi : Int) : Bool := decide (lo ≤ n ∧ n ≤ hi)
def asB (n : Int) : Bool := inB n 1 65535
def numsB (l : List Int) : Bool := decide (∀ i, i < l.length → asB (l.getD i 0) = true)
def ascB (l : List Int) : Bool := decide (∀ i, i < l.length - 1 → l.getD i 0 < l.getD (i + 1) 0)
def aokB (p : List Int) (pr : Int) (c : List Int) (bw : Int) : Bool :=
 decide (p.length ≤ 8) && numsB p && inB pr 0 1000 && inB bw 0 1000 && (decide (c.length ≤ 4) && numsB c) && ascB c

theorem within_any (n lo hi : Int) (w : World) : Calls Tryz.prog 75 #[.int .i64 n, .int .i64 lo, .int .i64 hi] w fun e w' => e = .returned (.bool (inB n lo hi)) ∧ w = w' := by
 by_cases h0 : lo ≤ n
 all_goals
  go_enter Tryz.func75, Tryz.ntmps75
  go_wp2
  go_ret
  exact ⟨ret_bool (by unfold inB; first | (congr 1; simp; omega) | (simp; omega)), rfl⟩
theorem sas_any (n : Int) (w : World) : Calls Tryz.prog 112 #[.int .i64 n] w fun e w' => e = .returned (.bool (asB n)) ∧ w = w' := by
 by_cases h0 : 1 ≤ n
 all_goals
  go_enter Tryz.func112, Tryz.ntmps112
  go_wp2
  go_ret
  exact ⟨ret_bool (by unfold asB inB; first | (congr 1; simp; omega) | (simp; omega)), rfl⟩
theorem numok_any (n : Int) (w : World) : Calls Tryz.prog 139 #[.int .i64 n] w fun e w' => e = .returned (.bool (asB n)) ∧ w = w' := by
 go_enter Tryz.func139, Tryz.ntmps139
 go_wp2_with fail; refine (within_any n 1 65535 _).mono ?_; rintro e w1 ⟨rfl, rfl⟩; go_wp2
 go_ret
 exact ⟨rfl, rfl⟩
theorem nums_any (v : Value) (l : List Int) (most : Int) (w : World) (h : RdI w v l) :
  Calls Tryz.prog 243 #[v, .int .i64 most] w fun e w' => e = .returned (.bool (decide ((l.length : Int) ≤ most) && numsB l)) ∧ Below w.heap.size w w' := by
 have hm := h.2.1; unfold maxLen at hm; obtain ⟨a, c, rfl, hc⟩ := h.el; have hb := getD_bd_I h.1; obtain ⟨n, hn⟩ : ∃ n, n = l.length := ⟨_, rfl⟩; rw [← hn] at hc hm ⊢; have HN := Lib.hid hn; clear h hn
 by_cases hmost : (n : Int) ≤ most
 ·have e : decide ((n : Int) ≤ most) = true := by simp [hmost]
  rw [e, Bool.true_and]; clear e
  go_enter Tryz.func243, Tryz.ntmps243
  go_wp2
  go_loop [13] (fun q => ∃ k : Nat, k ≤ n ∧ q = .int .i64 k ∧ ∀ i, i < k → asB (l.getD i 0) = true) (fun q => n - (intOf q).toNat)
  case atStart => exact ⟨0, Nat.zero_le _, rfl, fun i hi => by omega⟩
  case round =>
   obtain ⟨k, hk, rfl, hall⟩ := hrel; have HA := Lib.hid hall; clear hall
   by_cases hlt : k < n
   ·have hltI : (k : Int) < (n : Int) := by omega
    obtain ⟨b, o, rfl, e1⟩ := hc k hlt; obtain ⟨x, hx⟩ : ∃ x, l.getD k 0 = x := ⟨_, rfl⟩; rw [hx] at e1; have HX := Lib.hid hx; clear hx hc hb; cases has : asB x
    ·have hno : numsB l = false := by
      unfold numsB; simp only [decide_eq_false_iff_not]; intro h; have := h k (by rw [← HN.out]; exact hlt); rw [HX.out, has] at this; cases this
     have HF := Lib.hid hno; have HS := Lib.hid has; clear hno has; go_wp2_with fail; refine (numok_any x _).mono ?_; rintro e w1 ⟨rfl, rfl⟩; rw [HS.out]; go_wp2
     go_ret
     exact ⟨ret_bool HF.out.symm, Below.refl _ _⟩
    ·have HS := Lib.hid has
     clear has; go_wp2_with fail; refine (numok_any x _).mono ?_; rintro e w1 ⟨rfl, rfl⟩; rw [HS.out]; go_wp2
     go_round
     case rel => exact ⟨k + 1, by omega, by go_num, fun i hi => by
      by_cases e : i = k
      ·rw [e, HX.out]; exact HS.out
      ·exact HA.out i (by omega)⟩
     case measure => simp [intOf]; omega
   ·have hkn : k = n := by omega
    have hyes : numsB l = true := by
     unfold numsB; simp only [decide_eq_true_eq]; intro i hi
     exact HA.out i (by rw [hkn, HN.out]; exact hi)
    have HF := Lib.hid hyes; clear hyes hkn hc hb; go_wp2
    go_ret
    exact ⟨ret_bool HF.out.symm, Below.refl _ _⟩
 ·have e : (decide ((n : Int) ≤ most) && numsB l) = false := by simp [hmost]
  rw [e]; clear e
  go_enter Tryz.func243, Tryz.ntmps243
  go_wp2
  go_ret
  exact ⟨rfl, Below.refl _ _⟩
theorem asc_any (v : Value) (l : List Int) (w : World) (h : RdI w v l) :
  Calls Tryz.prog 244 #[v] w fun e w' => e = .returned (.bool (ascB l)) ∧ Below w.heap.size w w' := by
 have hm := h.2.1; unfold maxLen at hm; obtain ⟨a, c, rfl, hc⟩ := h.el; obtain ⟨n, hn⟩ : ∃ n, n = l.length := ⟨_, rfl⟩; rw [← hn] at hc hm ⊢; have HN := Lib.hid hn; clear h hn
 go_enter Tryz.func244, Tryz.ntmps244
 go_wp2
 go_loopw [3] (fun q wr => ∃ k : Nat, (k + 1 ≤ n ∨ k = 0) ∧ q = .int .i64 ((k : Int) + 1) ∧ (∀ i, i < k → l.getD i 0 < l.getD (i + 1) 0) ∧ Below w.heap.size w wr) (fun q _ => n + 1 - (intOf q).toNat)
 case atStart => exact ⟨0, .inr rfl, rfl, fun i hi => by omega, Below.refl _ _⟩
 case round =>
  obtain ⟨k, hk, rfl, hall, hB⟩ := hrel; have HA := Lib.hid hall; clear hall
  by_cases hlt : k + 1 < n
  ·have hltI : (k : Int) + 1 < (n : Int) := by omega
   obtain ⟨b, o, hae, e1⟩ := hc k (by omega); obtain ⟨b', o', hae', e2⟩ := hc (k + 1) hlt; rw [hae] at hae'
   injection hae' with hae'
   injection hae' with hb1 ho1
   subst hb1 ho1 hae; replace e1 := cell_keep hB (World.block_lt_of_cell? w _ e1) e1; replace e2 := cell_keep hB (World.block_lt_of_cell? w _ e2) e2; obtain ⟨x, hx⟩ : ∃ x, l.getD k 0 = x := ⟨_, rfl⟩; obtain ⟨y, hy⟩ : ∃ y, l.getD (k + 1) 0 = y := ⟨_, rfl⟩; rw [hx] at e1; rw [hy] at e2; have HX := Lib.hid hx; have HY := Lib.hid hy; clear hx hy hc
   by_cases hxy : x < y
   ·have hge : decide (y ≤ x) = false := by simp; omega
    have HL := Lib.hid hxy; clear hxy; go_wp2
    go_quiet (fail)
    go_wp2
    go_roundw
    case rel => exact ⟨k + 1, .inl (by omega), by go_num, fun i hi => by
      by_cases e : i = k
      ·rw [e, HX.out, HY.out]; exact HL.out
      ·exact HA.out i (by omega), hB.trans ⟨rfl, rfl, rfl, Nat.le_refl _, fun _ _ => rfl⟩⟩
    case measure => simp [intOf]; omega
   ·have hge : decide (y ≤ x) = true := by simp; omega
    have hno : ascB l = false := by
     unfold ascB; simp only [decide_eq_false_iff_not]; intro h; have := h k (by rw [← HN.out]; omega); rw [HX.out, HY.out] at this
     exact hxy this
    have HF := Lib.hid hno; clear hno hxy; go_wp2
    go_quiet (fail)
    go_wp2
    go_ret
    exact ⟨ret_bool HF.out.symm, hB.trans ⟨rfl, rfl, rfl, Nat.le_refl _, fun _ _ => rfl⟩⟩
  ·have hltI : ¬ ((k : Int) + 1 < (n : Int)) := by omega
   have hyes : ascB l = true := by
    unfold ascB; simp only [decide_eq_true_eq]; intro i hi
    exact HA.out i (by rw [← HN.out] at hi; omega)
   have HF := Lib.hid hyes; clear hyes hc; go_wp2
   go_ret
   exact ⟨ret_bool HF.out.symm, hB⟩
end Go.Proofs.YtbcmoofpgffbhabGreat
namespace Go.Proofs.YtbcmoofpgffbhabGreat
open Go.ChangeShapes Go.WideShapes Go.ChangeAt Go.RowKit Go.BigFrame Go.Joins
set_option linter.unusedVariables false
set_option maxRecDepth 100000

theorem nums_t {v : Value} {l : List Int} {most : Int} {b : Bool} (w : World) (h : RdI w v l) (H : Hid ((decide ((l.length : Int) ≤ most) && numsB l) = b)) :
  Calls Tryz.prog 243 #[v, .int .i64 most] w fun e w' => e = .returned (.bool b) ∧ Below w.heap.size w w' := H.out ▸ nums_any v l most w h
theorem asc_t {v : Value} {l : List Int} {b : Bool} (w : World) (h : RdI w v l) (H : Hid (ascB l = b)) :
  Calls Tryz.prog 244 #[v] w fun e w' => e = .returned (.bool b) ∧ Below w.heap.size w w' := H.out ▸ asc_any v l w h
theorem within_t {n lo hi : Int} {b : Bool} (w : World) (H : Hid (inB n lo hi = b)) : Calls Tryz.prog 75 #[.int .i64 n, .int .i64 lo, .int .i64 hi] w fun e w' => e = .returned (.bool b) ∧ w = w' := H.out ▸ within_any n lo hi w
theorem iaok_any (pv cv : Value) (p c : List Int) (pr bw : Int) (w : World) (hp : RdI w pv p) (hc : RdI w cv c) :
  Calls Tryz.prog 202 #[.agg #[pv, .int .i64 pr, cv, .int .i64 bw]] w fun e w' => e = .returned (.bool (aokB p pr c bw)) ∧ Below w.heap.size w w' := by
 obtain ⟨c0, c1, c2, c3, lt, B0⟩ := box4 w pv (.int .i64 pr) cv (.int .i64 bw) 50; have hp1 := hp.alloc (.cells #[pv, .int .i64 pr, cv, .int .i64 bw] 50); have hc1 := hc.alloc (.cells #[pv, .int .i64 pr, cv, .int .i64 bw] 50)
 have hE : aokB p pr c bw = ((decide ((p.length : Int) ≤ 8) && numsB p) && inB pr 0 1000 && inB bw 0 1000 && (decide ((c.length : Int) ≤ 4) && numsB c) && ascB c) := by
  have q8 : decide ((p.length : Int) ≤ 8) = decide (p.length ≤ 8) := by congr 1; simp; omega
  have q4 : decide ((c.length : Int) ≤ 4) = decide (c.length ≤ 4) := by congr 1; simp; omega
  unfold aokB; rw [q8, q4]
 rw [hE]; clear hE; cases h0 : (decide ((p.length : Int) ≤ 8) && numsB p)
 ·rw [show (false && inB pr 0 1000 && inB bw 0 1000 && (decide ((c.length : Int) ≤ 4) && numsB c) && ascB c) = false from rfl]
  have H0 := Lib.hid h0; clear h0
  go_enter Tryz.func202, Tryz.ntmps202
  go_wp2_with fail; refine (nums_t _ hp1 H0).mono ?_; rintro e w1 ⟨rfl, hb⟩; replace c0 := cell_keep hb lt c0; replace c1 := cell_keep hb lt c1; replace c2 := cell_keep hb lt c2; replace c3 := cell_keep hb lt c3; replace lt := Nat.lt_of_lt_of_le lt hb.size; replace hp1 := hp1.keep hb; replace hc1 := hc1.keep hb; replace B0 := below_step B0 hb; clear hb; go_wp2
  go_ret
  exact ⟨rfl, B0⟩
 ·rw [show (true && inB pr 0 1000 && inB bw 0 1000 && (decide ((c.length : Int) ≤ 4) && numsB c) && ascB c) = (inB pr 0 1000 && inB bw 0 1000 && (decide ((c.length : Int) ≤ 4) && numsB c) && ascB c) from rfl]
  have H0 := Lib.hid h0; clear h0; cases h1 : inB pr 0 1000
  ·rw [show (false && inB bw 0 1000 && (decide ((c.length : Int) ≤ 4) && numsB c) && ascB c) = false from rfl]
   have H1 := Lib.hid h1; clear h1
   go_enter Tryz.func202, Tryz.ntmps202
   go_wp2_with fail; refine (nums_t _ hp1 H0).mono ?_; rintro e w1 ⟨rfl, hb⟩; replace c0 := cell_keep hb lt c0; replace c1 := cell_keep hb lt c1; replace c2 := cell_keep hb lt c2; replace c3 := cell_keep hb lt c3; replace lt := Nat.lt_of_lt_of_le lt hb.size; replace hp1 := hp1.keep hb; replace hc1 := hc1.keep hb; replace B0 := below_step B0 hb; clear hb; go_wp2_with fail; refine (within_t _ H1).mono ?_; rintro e w2 ⟨rfl, rfl⟩; go_wp2
   go_ret
   exact ⟨rfl, B0⟩
  ·rw [show (true && inB bw 0 1000 && (decide ((c.length : Int) ≤ 4) && numsB c) && ascB c) = (inB bw 0 1000 && (decide ((c.length : Int) ≤ 4) && numsB c) && ascB c) from rfl]
   have H1 := Lib.hid h1; clear h1; cases h2 : inB bw 0 1000
   ·rw [show (false && (decide ((c.length : Int) ≤ 4) && numsB c) && ascB c) = false from rfl]
    have H2 := Lib.hid h2; clear h2
    go_enter Tryz.func202, Tryz.ntmps202
    go_wp2_with fail; refine (nums_t _ hp1 H0).mono ?_; rintro e w1 ⟨rfl, hb⟩; replace c0 := cell_keep hb lt c0; replace c1 := cell_keep hb lt c1; replace c2 := cell_keep hb lt c2; replace c3 := cell_keep hb lt c3; replace lt := Nat.lt_of_lt_of_le lt hb.size; replace hp1 := hp1.keep hb; replace hc1 := hc1.keep hb; replace B0 := below_step B0 hb; clear hb; go_wp2_with fail; refine (within_t _ H1).mono ?_; rintro e w2 ⟨rfl, rfl⟩; go_wp2_with fail; refine (within_t _ H2).mono ?_; rintro e w3 ⟨rfl, rfl⟩; go_wp2
    go_ret
    exact ⟨rfl, B0⟩
   ·rw [show (true && (decide ((c.length : Int) ≤ 4) && numsB c) && ascB c) = ((decide ((c.length : Int) ≤ 4) && numsB c) && ascB c) from rfl]
    have H2 := Lib.hid h2; clear h2; cases h3 : (decide ((c.length : Int) ≤ 4) && numsB c)
    ·rw [show (false && ascB c) = false from rfl]
     have H3 := Lib.hid h3; clear h3
     go_enter Tryz.func202, Tryz.ntmps202
     go_wp2_with fail; refine (nums_t _ hp1 H0).mono ?_; rintro e w1 ⟨rfl, hb⟩; replace c0 := cell_keep hb lt c0; replace c1 := cell_keep hb lt c1; replace c2 := cell_keep hb lt c2; replace c3 := cell_keep hb lt c3; replace lt := Nat.lt_of_lt_of_le lt hb.size; replace hp1 := hp1.keep hb; replace hc1 := hc1.keep hb; replace B0 := below_step B0 hb; clear hb; go_wp2_with fail; refine (within_t _ H1).mono ?_; rintro e w2 ⟨rfl, rfl⟩; go_wp2_with fail; refine (within_t _ H2).mono ?_; rintro e w3 ⟨rfl, rfl⟩; go_wp2_with fail; refine (nums_t _ hc1 H3).mono ?_; rintro e w4 ⟨rfl, hb⟩; replace c0 := cell_keep hb lt c0; replace c1 := cell_keep hb lt c1; replace c2 := cell_keep hb lt c2; replace c3 := cell_keep hb lt c3; replace lt := Nat.lt_of_lt_of_le lt hb.size; replace hp1 := hp1.keep hb; replace hc1 := hc1.keep hb; replace B0 := below_step B0 hb; clear hb; go_wp2
     go_ret
     exact ⟨rfl, B0⟩
    ·rw [show (true && ascB c) = (ascB c) from rfl]
     have H3 := Lib.hid h3; clear h3; cases h4 : ascB c
     ·have H4 := Lib.hid h4
      clear h4
      go_enter Tryz.func202, Tryz.ntmps202
      go_wp2_with fail; refine (nums_t _ hp1 H0).mono ?_; rintro e w1 ⟨rfl, hb⟩; replace c0 := cell_keep hb lt c0; replace c1 := cell_keep hb lt c1; replace c2 := cell_keep hb lt c2; replace c3 := cell_keep hb lt c3; replace lt := Nat.lt_of_lt_of_le lt hb.size; replace hp1 := hp1.keep hb; replace hc1 := hc1.keep hb; replace B0 := below_step B0 hb; clear hb; go_wp2_with fail; refine (within_t _ H1).mono ?_; rintro e w2 ⟨rfl, rfl⟩; go_wp2_with fail; refine (within_t _ H2).mono ?_; rintro e w3 ⟨rfl, rfl⟩; go_wp2_with fail; refine (nums_t _ hc1 H3).mono ?_; rintro e w4 ⟨rfl, hb⟩; replace c0 := cell_keep hb lt c0; replace c1 := cell_keep hb lt c1; replace c2 := cell_keep hb lt c2; replace c3 := cell_keep hb lt c3; replace lt := Nat.lt_of_lt_of_le lt hb.size; replace hp1 := hp1.keep hb; replace hc1 := hc1.keep hb; replace B0 := below_step B0 hb; clear hb; go_wp2_with fail; refine (asc_t _ hc1 H4).mono ?_; rintro e w5 ⟨rfl, hb⟩; replace c0 := cell_keep hb lt c0; replace c1 := cell_keep hb lt c1; replace c2 := cell_keep hb lt c2; replace c3 := cell_keep hb lt c3; replace lt := Nat.lt_of_lt_of_le lt hb.size; replace hp1 := hp1.keep hb; replace hc1 := hc1.keep hb; replace B0 := below_step B0 hb; clear hb; go_wp2
      go_ret
      exact ⟨rfl, B0⟩
     ·have H4 := Lib.hid h4
      clear h4
      go_enter Tryz.func202, Tryz.ntmps202
      go_wp2_with fail; refine (nums_t _ hp1 H0).mono ?_; rintro e w1 ⟨rfl, hb⟩; replace c0 := cell_keep hb lt c0; replace c1 := cell_keep hb lt c1; replace c2 := cell_keep hb lt c2; replace c3 := cell_keep hb lt c3; replace lt := Nat.lt_of_lt_of_le lt hb.size; replace hp1 := hp1.keep hb; replace hc1 := hc1.keep hb; replace B0 := below_step B0 hb; clear hb; go_wp2_with fail; refine (within_t _ H1).mono ?_; rintro e w2 ⟨rfl, rfl⟩; go_wp2_with fail; refine (within_t _ H2).mono ?_; rintro e w3 ⟨rfl, rfl⟩; go_wp2_with fail; refine (nums_t _ hc1 H3).mono ?_; rintro e w4 ⟨rfl, hb⟩; replace c0 := cell_keep hb lt c0; replace c1 := cell_keep hb lt c1; replace c2 := cell_keep hb lt c2; replace c3 := cell_keep hb lt c3; replace lt := Nat.lt_of_lt_of_le lt hb.size; replace hp1 := hp1.keep hb; replace hc1 := hc1.keep hb; replace B0 := below_step B0 hb; clear hb; go_wp2_with fail; refine (asc_t _ hc1 H4).mono ?_; rintro e w5 ⟨rfl, hb⟩; replace c0 := cell_keep hb lt c0; replace c1 := cell_keep hb lt c1; replace c2 := cell_keep hb lt c2; replace c3 := cell_keep hb lt c3; replace lt := Nat.lt_of_lt_of_le lt hb.size; replace hp1 := hp1.keep hb; replace hc1 := hc1.keep hb; replace B0 := below_step B0 hb; clear hb; go_wp2
      go_ret
      exact ⟨rfl, B0⟩
end Go.Proofs.YtbcmoofpgffbhabGreat
namespace Go.Proofs.YtbcmoofpgffbhabGreat
open Go.ChangeShapes Go.WideShapes Go.ChangeAt Go.RowKit Go.BigFrame Go.Joins
set_option linter.unusedVariables false
set_option maxRecDepth 100000

theorem nums_no {l : List Int} {k : Nat} {x : Int} (hk : k < l.length) (hx : l.getD k 0 = x) (h : asB x = false) : numsB l = false := by
 unfold numsB; simp only [decide_eq_false_iff_not]; intro g; have := g k hk; rw [hx, h] at this; cases this
theorem nums_yes {l : List Int} {n : Nat} (hn : n = l.length) (h : ∀ i, i < n → asB (l.getD i 0) = true) : numsB l = true := by
 unfold numsB; simp only [decide_eq_true_eq]; intro i hi
 exact h i (by omega)
theorem asc_no {l : List Int} {k : Nat} {x y : Int} (hk : k + 1 < l.length) (hx : l.getD k 0 = x) (hy : l.getD (k + 1) 0 = y) (h : ¬ x < y) : ascB l = false := by
 unfold ascB; simp only [decide_eq_false_iff_not]; intro g; have := g k (by omega); rw [hx, hy] at this
 exact h this
theorem asc_yes {l : List Int} {n : Nat} (hn : n = l.length) (h : ∀ i, i + 1 < n → l.getD i 0 < l.getD (i + 1) 0) : ascB l = true := by
 unfold ascB; simp only [decide_eq_true_eq]; intro i hi
 exact h i (by omega)
theorem all_succ {l : List Int} {k : Nat} {x : Int} (h : ∀ i, i < k → asB (l.getD i 0) = true) (hx : l.getD k 0 = x) (hs : asB x = true) : ∀ i, i < k + 1 → asB (l.getD i 0) = true := by
 intro i hi
 by_cases e : i = k
 ·rw [e, hx]; exact hs
 ·exact h i (by omega)
theorem sas_t {n : Int} {b : Bool} (w : World) (H : Hid (asB n = b)) : Calls Tryz.prog 112 #[.int .i64 n] w fun e w' => e = .returned (.bool b) ∧ w = w' := H.out ▸ sas_any n w
theorem aok_eq {p c : List Int} {pr bw : Int} (h1 : p.length ≤ 8) (h2 : c.length ≤ 4) (h3 : 0 ≤ pr) (h4 : pr ≤ 1000) (h5 : 0 ≤ bw) (h6 : bw ≤ 1000) : aokB p pr c bw = (numsB p && (numsB c && ascB c)) := by
 simp [aokB, inB, h1, h2, h3, h4, h5, h6, Bool.and_assoc]

set_option maxHeartbeats 1000000 in
theorem saok_any (pv cv : Value) (p c : List Int) (pr bw : Int) (w : World) (hp : RdI w pv p) (hc : RdI w cv c) :
  Calls Tryz.prog 136 #[.agg #[pv, .int .i64 pr, cv, .int .i64 bw]] w fun e w' => e = .returned (.bool (aokB p pr c bw)) ∧ Below w.heap.size w w' := by
 have hp1 := hp.alloc (.cells #[pv, .int .i64 pr, cv, .int .i64 bw] 50); have hc1 := hc.alloc (.cells #[pv, .int .i64 pr, cv, .int .i64 bw] 50); have hpm := hp.2.1; have hcm := hc.2.1; unfold maxLen at hpm hcm; have pb := getD_bd_I hp.1; have cb := getD_bd_I hc.1; obtain ⟨pa, pc, rfl, hpe⟩ := hp1.el; obtain ⟨ca, cc, rfl, hce⟩ := hc1.el; obtain ⟨c0, c1, c2, c3, lt, B0⟩ := box4 w (.slice pa p.length pc) (.int .i64 pr) (.slice ca c.length cc) (.int .i64 bw) 50; clear hp hc hp1 hc1
 by_cases h0 : p.length ≤ 8
 ·have g0 : ¬ ((8 : Int) < (p.length : Int)) := by omega
  by_cases h1 : c.length ≤ 4
  ·have g1 : ¬ ((4 : Int) < (c.length : Int)) := by omega
   by_cases h2 : 0 ≤ pr
   ·have g2 : ¬ (pr < 0) := by omega
    by_cases h3 : pr ≤ 1000
    ·have g3 : ¬ (1000 < pr) := by omega
     by_cases h4 : 0 ≤ bw
     ·have g4 : ¬ (bw < 0) := by omega
      by_cases h5 : bw ≤ 1000
      ·have g5 : ¬ (1000 < bw) := by omega
       rw [aok_eq h0 h1 h2 h3 h4 h5]; clear h2 h3 h4 h5; obtain ⟨n, hn⟩ : ∃ n, n = p.length := ⟨_, rfl⟩; obtain ⟨m, hm⟩ : ∃ m, m = c.length := ⟨_, rfl⟩; rw [← hn] at hpe hpm c0 c1 c2 c3 g0 h0 lt B0 ⊢; rw [← hm] at hce hcm c0 c1 c2 c3 g1 h1 lt B0 hpe ⊢; rw [← hn] at hce; have HN := Lib.hid hn; have HM := Lib.hid hm; clear hn hm
       go_enter Tryz.func136, Tryz.ntmps136
       go_wp2; clear g0 g1 g2 g3 g4 g5
       go_loop [3] (fun q => ∃ k : Nat, k ≤ n ∧ q = .int .i64 k ∧ ∀ i, i < k → asB (p.getD i 0) = true) (fun q => n - (intOf q).toNat)
       case atStart => exact ⟨0, Nat.zero_le _, rfl, fun i hi => by omega⟩
       case round =>
        obtain ⟨k, hk, rfl, hall⟩ := hrel; have HA := Lib.hid hall; clear hall
        by_cases hlt : k < n
        ·have hltI : (k : Int) < (n : Int) := by omega
         obtain ⟨b, o, rfl, e1⟩ := hpe k hlt; obtain ⟨x, hx⟩ : ∃ x, p.getD k 0 = x := ⟨_, rfl⟩; rw [hx] at e1; have HX := Lib.hid hx; clear hx hpe hce pb cb; cases has : asB x
         ·have HF := Lib.hid (nums_no (by rw [← HN.out]; exact hlt) HX.out has)
          have HS := Lib.hid has; clear has; go_wp2_with fail; refine (sas_any x _).mono ?_; rintro e w1 ⟨rfl, rfl⟩; rw [HS.out]; go_wp2
          go_ret
          exact ⟨ret_bool (by rw [HF.out]; rfl), B0⟩
         ·have HS := Lib.hid has
          clear has; go_wp2_with fail; refine (sas_any x _).mono ?_; rintro e w1 ⟨rfl, rfl⟩; rw [HS.out]; go_wp2
          go_round
          case rel => exact ⟨k + 1, by omega, by go_num, all_succ HA.out HX.out HS.out⟩
          case measure => simp [intOf]; omega
        ·have hkn : k = n := by omega
         have hyes := nums_yes HN.out (by rw [← hkn]; exact HA.out); have HY := Lib.hid hyes; clear hyes hkn hpe pb HA; go_wp2
         go_loopw [4] (fun q wr => ∃ j : Nat, j ≤ m ∧ q = .int .i64 j ∧ (∀ i, i < j → asB (c.getD i 0) = true) ∧ (∀ i, i + 1 < j → c.getD i 0 < c.getD (i + 1) 0) ∧ wr.cell? ⟨w.heap.size, 2, none⟩ = some (.slice ca m cc) ∧ Over (w.alloc (.cells #[.slice pa n pc, .int .i64 pr, .slice ca m cc, .int .i64 bw] 50)) wr) (fun q _ => m - (intOf q).toNat)
         case atStart => exact ⟨0, Nat.zero_le _, rfl, fun i hi => by omega, fun i hi => by omega, c2, over_refl _⟩
         case round =>
          obtain ⟨j, hj, rfl, hall, hasc, d2, hB⟩ := hrel; have HA := Lib.hid hall; have HB := Lib.hid hasc; clear hall hasc
          by_cases hlt2 : j < m
          ·have hltJ : (j : Int) < (m : Int) := by omega
           obtain ⟨b, o, hca, e1⟩ := hce j hlt2; obtain ⟨x, hx⟩ : ∃ x, c.getD j 0 = x := ⟨_, rfl⟩; rw [hx] at e1; replace e1 := over_cell hB (World.block_lt_of_cell? _ _ e1) e1; have HX := Lib.hid hx; clear hx cb; cases has : asB x
           ·have HF := Lib.hid (nums_no (by rw [← HM.out]; exact hlt2) HX.out has)
            have HS := Lib.hid has; clear has hce; subst hca; go_wp2_with fail
            go_quiet ((go_at_call 112; exact q_of (sas_t _ HS)))
            go_wp2
            go_ret
            exact ⟨ret_bool (by rw [HY.out, HF.out]; rfl), below_step B0 (below_drewN hB _)⟩
           ·have HS := Lib.hid has
            clear has
            by_cases hj0 : j = 0
            ·have hnj : ¬ 0 < j := by omega
             have HJ := Lib.hid hj0; clear hce hj0; subst hca; go_wp2_with fail
             go_quiet ((go_at_call 112; exact q_of (sas_t _ HS)))
             go_wp2
             go_roundw
             case rel => exact ⟨j + 1, by omega, by go_num, all_succ HA.out HX.out HS.out, fun i hi => by have := HJ.out; omega, d2, below_drewN hB _⟩
             case measure => simp [intOf]; omega
            ·obtain ⟨i, rfl⟩ : ∃ i, j = i + 1 := ⟨j - 1, by omega⟩
             obtain ⟨b', o', hca', e2⟩ := hce i (by omega); obtain ⟨y, hy⟩ : ∃ y, c.getD i 0 = y := ⟨_, rfl⟩; rw [hy] at e2; have HV := Lib.hid hy; replace e2 := over_cell hB (World.block_lt_of_cell? _ _ e2) e2; rw [hca] at hca'
             injection hca' with hca'
             injection hca' with hb1 ho1
             clear hce hy; subst hb1 ho1 hca; have hj1 : ((i + 1 : Nat) : Int) - 1 = (i : Int) := by omega
             have hj2 : (0 : Int) < ((i + 1 : Nat) : Int) := by omega
             by_cases hyx : y < x
             ·have hge : decide (x ≤ y) = false := by simp; omega
              have hge2 : ¬ x ≤ y := by omega
              have HL := Lib.hid hyx; clear hyx; go_wp2_with fail
              go_quiet ((go_at_call 112; exact q_of (sas_t _ HS)))
              go_wp2
              go_roundw
              case rel => exact ⟨i + 1 + 1, by omega, by go_num, all_succ HA.out HX.out HS.out, fun t ht => by
               by_cases e : t = i
               ·rw [e, HV.out, HX.out]; exact HL.out
               ·exact HB.out t (by omega), d2, below_drewN hB _⟩
              case measure => simp [intOf]; omega
             ·have hge : decide (x ≤ y) = true := by simp; omega
              have hge2 : x ≤ y := by omega
              have HF := Lib.hid (asc_no (by rw [← HM.out]; exact hlt2) HV.out HX.out hyx); clear hyx; go_wp2_with fail
              go_quiet ((go_at_call 112; exact q_of (sas_t _ HS)))
              go_wp2
              go_ret
              exact ⟨ret_bool (by rw [HY.out, HF.out, Bool.and_false]; rfl), below_step B0 (below_drewN hB _)⟩
          ·have hkn : j = m := by omega
           have hyes := nums_yes HM.out (by rw [← hkn]; exact HA.out); have hasc := asc_yes HM.out (by rw [← hkn]; exact HB.out); have HZ := Lib.hid hyes; have HW := Lib.hid hasc; clear hyes hasc hkn hce cb HA HB; go_wp2
           go_ret
           exact ⟨ret_bool (by rw [HY.out, HZ.out, HW.out]; rfl), below_step B0 hB⟩
      ·have e : aokB p pr c bw = false := by simp [aokB, inB, h5]
       rw [e]; have g5 : 1000 < bw := by omega
       clear e hpe hce h5 pb cb
       go_enter Tryz.func136, Tryz.ntmps136
       go_wp2
       go_ret
       exact ⟨rfl, B0⟩
     ·have e : aokB p pr c bw = false := by simp [aokB, inB, h4]
      rw [e]; have g4 : bw < 0 := by omega
      clear e hpe hce h4 pb cb
      go_enter Tryz.func136, Tryz.ntmps136
      go_wp2
      go_ret
      exact ⟨rfl, B0⟩
    ·have e : aokB p pr c bw = false := by simp [aokB, inB, h3]
     rw [e]; have g3 : 1000 < pr := by omega
     clear e hpe hce h3 pb cb
     go_enter Tryz.func136, Tryz.ntmps136
     go_wp2
     go_ret
     exact ⟨rfl, B0⟩
   ·have e : aokB p pr c bw = false := by simp [aokB, inB, h2]
    rw [e]; have g2 : pr < 0 := by omega
    clear e hpe hce h2 pb cb
    go_enter Tryz.func136, Tryz.ntmps136
    go_wp2
    go_ret
    exact ⟨rfl, B0⟩
  ·have e : aokB p pr c bw = false := by simp [aokB, inB, h1]
   rw [e]; have g1 : (4 : Int) < (c.length : Int) := by omega
   clear e hpe hce h1 pb cb
   go_enter Tryz.func136, Tryz.ntmps136
   go_wp2
   go_ret
   exact ⟨rfl, B0⟩
 ·have e : aokB p pr c bw = false := by simp [aokB, inB, h0]
  rw [e]; have g0 : (8 : Int) < (p.length : Int) := by omega
  clear e hpe hce h0 pb cb
  go_enter Tryz.func136, Tryz.ntmps136
  go_wp2
  go_ret
  exact ⟨rfl, B0⟩
end Go.Proofs.YtbcmoofpgffbhabGreat
namespace Go.Proofs.YtbcmoofpgffbhabGreat
open Go.ChangeShapes Go.WideShapes Go.ChangeAt Go.RowKit Go.BigFrame
set_option linter.unusedVariables false
set_option maxRecDepth 100000

def cmp1 (a b : Int) : Int := if a < b then -1 else if b < a then 1 else 0
def orv (x y : Int) : Int := if x ≠ 0 then x else y
def cmp2 (a n b m : Int) : Int := orv (cmp1 a b) (cmp1 n m)
def pcmp (a n b m : Int) : Int := if pokB a n && pokB b m then cmp2 a n b m else 0
theorem cmp1_lt {a b : Int} (h : a < b) : cmp1 a b = -1 := by simp [cmp1, h]
theorem cmp1_gt {a b : Int} (h : b < a) : cmp1 a b = 1 := by unfold cmp1; rw [if_neg (by omega), if_pos h]
theorem cmp1_eq (a : Int) : cmp1 a a = 0 := by simp [cmp1]

theorem nan_any (a : Int) (w : World) : Calls Tryz.prog 265 #[.int .i64 a] w fun e w' => e = .returned (.bool false) ∧ w = w' := by
 go_enter Tryz.func265, Tryz.ntmps265
 go_wp2
 go_ret
 exact ⟨ret_bool (by simp), rfl⟩
theorem compare_any (a b : Int) (w : World) : Calls Tryz.prog 242 #[.int .i64 a, .int .i64 b] w fun e w' => e = .returned (.int .i64 (cmp1 a b)) ∧ w = w' := by
 rcases Int.lt_trichotomy a b with h | h | h
 ·rw [cmp1_lt h]
  go_enter Tryz.func242, Tryz.ntmps242
  go_wp2_with (go_at_call 265; refine (nan_any _ _).mono ?_; rintro e w' ⟨rfl, rfl⟩)
  go_ret
  exact ⟨rfl, rfl⟩
 ·subst h
  rw [cmp1_eq]
  go_enter Tryz.func242, Tryz.ntmps242
  go_wp2_with (go_at_call 265; refine (nan_any _ _).mono ?_; rintro e w' ⟨rfl, rfl⟩)
  go_ret
  exact ⟨rfl, rfl⟩
 ·rw [cmp1_gt h]
  have h' : ¬ a < b := by omega
  go_enter Tryz.func242, Tryz.ntmps242
  go_wp2_with (go_at_call 265; refine (nan_any _ _).mono ?_; rintro e w' ⟨rfl, rfl⟩)
  go_ret
  exact ⟨rfl, rfl⟩
/-- cmp.Or of two numbers that lie in a row -/
theorem or_any (x y : Int) (g : Nat) (w : World) (c0 : w.cell? ⟨g, 0, none⟩ = some (.int .i64 x)) (c1 : w.cell? ⟨g, 1, none⟩ = some (.int .i64 y)) :
  Calls Tryz.prog 241 #[.slice (some ⟨g, 0, none⟩) 2 2] w fun e w' => e = .returned (.int .i64 (orv x y)) ∧ w = w' := by
 by_cases hx : x = 0
 ·subst hx
  rw [show orv 0 y = y by simp [orv]]
  by_cases hy : y = 0
  ·subst hy
   go_enter Tryz.func241, Tryz.ntmps241
   go_wp2; refine wp_loop_rounds 3 ?_; rw [rounds_succ]; go_wp2; rw [rounds_succ]; go_wp2; rw [rounds_succ]; go_wp2
   go_ret
   exact ⟨rfl, rfl⟩
  ·have hy' : (y == 0) = false := by simp [hy]
   have hy2 : (y != 0) = true := by simp [hy]
   go_enter Tryz.func241, Tryz.ntmps241
   go_wp2; refine wp_loop_rounds 2 ?_; rw [rounds_succ]; go_wp2; rw [rounds_succ]; go_wp2
   go_ret
   exact ⟨rfl, rfl⟩
 ·have hx' : (x == 0) = false := by simp [hx]
  have hx2 : (x != 0) = true := by simp [hx]
  rw [show orv x y = x from if_pos hx]; clear hx
  go_enter Tryz.func241, Tryz.ntmps241
  go_wp2; refine wp_loop_rounds 1 ?_; rw [rounds_succ]; go_wp2
  go_ret
  exact ⟨rfl, rfl⟩

theorem scmp_l (a n b m : Int) (w : World) : Calls Tryz.prog 191 #[.agg #[.int .i64 a, .int .i64 n], .agg #[.int .i64 b, .int .i64 m]] w fun e w' => e = .returned (.int .i64 (cmp2 a n b m)) ∧ Below w.heap.size w w' := by
 rcases Int.lt_trichotomy a b with h | h | h
 ·rw [show cmp2 a n b m = -1 by unfold cmp2; rw [cmp1_lt h]; rfl]
  have hne : (a != b) = true := by simp; omega
  obtain ⟨c0, c1, lt, B0⟩ := box2 w (.int .i64 a) (.int .i64 n) 93; obtain ⟨d0, d1, ld, D0⟩ := box2 (w.alloc (.cells #[.int .i64 a, .int .i64 n] 93)) (.int .i64 b) (.int .i64 m) 93; have lt2 := Nat.lt_of_lt_of_le lt D0.size; have e0 := cell_keep D0 lt c0; have e1 := cell_keep D0 lt c1; have BD := below_step B0 D0; clear c0 c1 lt B0 D0; have q0 : (w.alloc (.cells #[.int .i64 a, .int .i64 n] 93)).heap.size = w.heap.size + 1 := by simp
  rw [q0] at d0 d1 ld; clear q0
  go_enter Tryz.func191, Tryz.ntmps191
  go_wp2
  go_ret
  exact ⟨rfl, BD⟩
 ·subst h
  rcases Int.lt_trichotomy n m with h | h | h
  ·rw [show cmp2 a n a m = -1 by unfold cmp2; rw [cmp1_eq, cmp1_lt h]; rfl]
   obtain ⟨c0, c1, lt, B0⟩ := box2 w (.int .i64 a) (.int .i64 n) 93; obtain ⟨d0, d1, ld, D0⟩ := box2 (w.alloc (.cells #[.int .i64 a, .int .i64 n] 93)) (.int .i64 a) (.int .i64 m) 93; have lt2 := Nat.lt_of_lt_of_le lt D0.size; have e0 := cell_keep D0 lt c0; have e1 := cell_keep D0 lt c1; have BD := below_step B0 D0; clear c0 c1 lt B0 D0; have q0 : (w.alloc (.cells #[.int .i64 a, .int .i64 n] 93)).heap.size = w.heap.size + 1 := by simp
   rw [q0] at d0 d1 ld; clear q0
   go_enter Tryz.func191, Tryz.ntmps191
   go_wp2
   go_ret
   exact ⟨rfl, BD⟩
  ·subst h
   rw [show cmp2 a n a n = 0 by unfold cmp2; rw [cmp1_eq, cmp1_eq]; rfl]; obtain ⟨c0, c1, lt, B0⟩ := box2 w (.int .i64 a) (.int .i64 n) 93; obtain ⟨d0, d1, ld, D0⟩ := box2 (w.alloc (.cells #[.int .i64 a, .int .i64 n] 93)) (.int .i64 a) (.int .i64 n) 93; have lt2 := Nat.lt_of_lt_of_le lt D0.size; have e0 := cell_keep D0 lt c0; have e1 := cell_keep D0 lt c1; have BD := below_step B0 D0; clear c0 c1 lt B0 D0; have q0 : (w.alloc (.cells #[.int .i64 a, .int .i64 n] 93)).heap.size = w.heap.size + 1 := by simp
   rw [q0] at d0 d1 ld; clear q0
   go_enter Tryz.func191, Tryz.ntmps191
   go_wp2
   go_ret
   exact ⟨rfl, BD⟩
  ·rw [show cmp2 a n a m = 1 by unfold cmp2; rw [cmp1_eq, cmp1_gt h]; rfl]
   have h' : ¬ n < m := by omega
   obtain ⟨c0, c1, lt, B0⟩ := box2 w (.int .i64 a) (.int .i64 n) 93; obtain ⟨d0, d1, ld, D0⟩ := box2 (w.alloc (.cells #[.int .i64 a, .int .i64 n] 93)) (.int .i64 a) (.int .i64 m) 93; have lt2 := Nat.lt_of_lt_of_le lt D0.size; have e0 := cell_keep D0 lt c0; have e1 := cell_keep D0 lt c1; have BD := below_step B0 D0; clear c0 c1 lt B0 D0; have q0 : (w.alloc (.cells #[.int .i64 a, .int .i64 n] 93)).heap.size = w.heap.size + 1 := by simp
   rw [q0] at d0 d1 ld; clear q0
   go_enter Tryz.func191, Tryz.ntmps191
   go_wp2
   go_ret
   exact ⟨rfl, BD⟩
 ·rw [show cmp2 a n b m = 1 by unfold cmp2; rw [cmp1_gt h]; rfl]
  have hne : (a != b) = true := by simp; omega
  have h' : ¬ a < b := by omega
  obtain ⟨c0, c1, lt, B0⟩ := box2 w (.int .i64 a) (.int .i64 n) 93; obtain ⟨d0, d1, ld, D0⟩ := box2 (w.alloc (.cells #[.int .i64 a, .int .i64 n] 93)) (.int .i64 b) (.int .i64 m) 93; have lt2 := Nat.lt_of_lt_of_le lt D0.size; have e0 := cell_keep D0 lt c0; have e1 := cell_keep D0 lt c1; have BD := below_step B0 D0; clear c0 c1 lt B0 D0; have q0 : (w.alloc (.cells #[.int .i64 a, .int .i64 n] 93)).heap.size = w.heap.size + 1 := by simp
  rw [q0] at d0 d1 ld; clear q0
  go_enter Tryz.func191, Tryz.ntmps191
  go_wp2
  go_ret
  exact ⟨rfl, BD⟩
set_option maxRecDepth 100000 in
theorem icmp_any (a n b m : Int) (w : World) : Calls Tryz.prog 210 #[.agg #[.int .i64 a, .int .i64 n], .agg #[.int .i64 b, .int .i64 m]] w fun e w' => e = .returned (.int .i64 (pcmp a n b m)) ∧ Below w.heap.size w w' := by
 cases hp : pokB a n
 ·rw [show pcmp a n b m = 0 by simp [pcmp, hp]]
  have H1 := Lib.hid hp; clear hp; obtain ⟨c0, c1, lt, B0⟩ := box2 w (.int .i64 a) (.int .i64 n) 93; obtain ⟨d0, d1, ld, D0⟩ := box2 (w.alloc (.cells #[.int .i64 a, .int .i64 n] 93)) (.int .i64 b) (.int .i64 m) 93; have lt2 := Nat.lt_of_lt_of_le lt D0.size; have e0 := cell_keep D0 lt c0; have e1 := cell_keep D0 lt c1; have BD := below_step B0 D0; clear c0 c1 lt B0 D0; have q0 : (w.alloc (.cells #[.int .i64 a, .int .i64 n] 93)).heap.size = w.heap.size + 1 := by simp
  rw [q0] at d0 d1 ld; clear q0
  go_enter Tryz.func210, Tryz.ntmps210
  go_wp2_with fail; refine (ipok_t _ H1).mono ?_; rintro e w1 ⟨rfl, hb⟩; replace BD := below_step BD hb; clear hb e0 e1 d0 d1; go_wp2_with fail
  go_ret
  exact ⟨rfl, BD⟩
 ·cases hq : pokB b m
  ·rw [show pcmp a n b m = 0 by simp [pcmp, hq]]
   have H1 := Lib.hid hp; have H2 := Lib.hid hq; clear hp hq; obtain ⟨c0, c1, lt, B0⟩ := box2 w (.int .i64 a) (.int .i64 n) 93; obtain ⟨d0, d1, ld, D0⟩ := box2 (w.alloc (.cells #[.int .i64 a, .int .i64 n] 93)) (.int .i64 b) (.int .i64 m) 93; have lt2 := Nat.lt_of_lt_of_le lt D0.size; have e0 := cell_keep D0 lt c0; have e1 := cell_keep D0 lt c1; have BD := below_step B0 D0; clear c0 c1 lt B0 D0; have q0 : (w.alloc (.cells #[.int .i64 a, .int .i64 n] 93)).heap.size = w.heap.size + 1 := by simp
   rw [q0] at d0 d1 ld; clear q0
   go_enter Tryz.func210, Tryz.ntmps210
   go_wp2_with fail; refine (ipok_t _ H1).mono ?_; rintro e w1 ⟨rfl, hb⟩; replace BD := below_step BD hb; replace e0 := cell_keep hb lt2 e0; replace e1 := cell_keep hb lt2 e1; replace d0 := cell_keep hb ld d0; replace d1 := cell_keep hb ld d1; replace lt2 := Nat.lt_of_lt_of_le lt2 hb.size; replace ld := Nat.lt_of_lt_of_le ld hb.size; clear hb; go_wp2_with fail; refine (ipok_t _ H2).mono ?_; rintro e w2 ⟨rfl, hb⟩; replace BD := below_step BD hb; replace e0 := cell_keep hb lt2 e0; replace e1 := cell_keep hb lt2 e1; replace d0 := cell_keep hb ld d0; replace d1 := cell_keep hb ld d1; replace lt2 := Nat.lt_of_lt_of_le lt2 hb.size; replace ld := Nat.lt_of_lt_of_le ld hb.size; clear hb; go_wp2_with fail
   go_ret
   exact ⟨rfl, BD⟩
  ·rw [show pcmp a n b m = cmp2 a n b m by simp [pcmp, hp, hq]]
   have H1 := Lib.hid hp; have H2 := Lib.hid hq; clear hp hq; obtain ⟨c0, c1, lt, B0⟩ := box2 w (.int .i64 a) (.int .i64 n) 93; obtain ⟨d0, d1, ld, D0⟩ := box2 (w.alloc (.cells #[.int .i64 a, .int .i64 n] 93)) (.int .i64 b) (.int .i64 m) 93; have lt2 := Nat.lt_of_lt_of_le lt D0.size; have e0 := cell_keep D0 lt c0; have e1 := cell_keep D0 lt c1; have BD := below_step B0 D0; clear c0 c1 lt B0 D0; have q0 : (w.alloc (.cells #[.int .i64 a, .int .i64 n] 93)).heap.size = w.heap.size + 1 := by simp
   rw [q0] at d0 d1 ld; clear q0
   go_enter Tryz.func210, Tryz.ntmps210
   go_wp2_with fail; refine (ipok_t _ H1).mono ?_; rintro e w1 ⟨rfl, hb⟩; replace BD := below_step BD hb; replace e0 := cell_keep hb lt2 e0; replace e1 := cell_keep hb lt2 e1; replace d0 := cell_keep hb ld d0; replace d1 := cell_keep hb ld d1; replace lt2 := Nat.lt_of_lt_of_le lt2 hb.size; replace ld := Nat.lt_of_lt_of_le ld hb.size; clear hb; go_wp2_with fail; refine (ipok_t _ H2).mono ?_; rintro e w2 ⟨rfl, hb⟩; replace BD := below_step BD hb; replace e0 := cell_keep hb lt2 e0; replace e1 := cell_keep hb lt2 e1; replace d0 := cell_keep hb ld d0; replace d1 := cell_keep hb ld d1; replace lt2 := Nat.lt_of_lt_of_le lt2 hb.size; replace ld := Nat.lt_of_lt_of_le ld hb.size; clear hb; go_wp2_with fail; refine wp_region_still_tail 10 (by kernel_rfl) (by kernel_rfl) ?_; simp only [List.take_succ_cons, List.take_zero, List.drop_succ_cons, List.drop_zero]
   repeat (first | still_step | (refine wpStill_step (fun K hK => ?_); go_simp; refine ⟨_, (compare_any _ _ _).mono (fun _ _ h => ⟨h.1, h.2.symm⟩), hK _ ?_⟩; clear hK K))
   refine wpStill_nil ?_
   change wpList _ _ _ _ _ w2.drew
   have BD2 : Below w.heap.size w w2.drew := BD.drew
   generalize w2.drew = w3 at BD2
   clear e0 e1 d0 d1 BD lt2 ld; go_wp2_with fail; refine (or_any (cmp1 a b) (cmp1 n m) w3.heap.size _ (by simp) (by simp)).mono ?_; rintro e w4 ⟨rfl, rfl⟩; go_wp2_with fail
   go_ret
   exact ⟨rfl, BD2.alloc BD2.size _⟩

end Go.Proofs.YtbcmoofpgffbhabGreat
namespace Go.Proofs.YtbcmoofpgffbhabGreat
open Go.ChangeShapes Go.WideShapes Go.ChangeAt Go.RowKit Go.BigFrame
set_option linter.unusedVariables false
set_option maxRecDepth 100000
set_option linter.unusedSimpArgs false

def okAt (l : List (Int × Int)) (i : Nat) : Prop := pokB (l.getD i (0, 0)).1 (l.getD i (0, 0)).2 = true
def upAt (l : List (Int × Int)) (i : Nat) : Prop := cmp2 (l.getD i (0, 0)).1 (l.getD i (0, 0)).2 (l.getD (i + 1) (0, 0)).1 (l.getD (i + 1) (0, 0)).2 < 0
instance (l : List (Int × Int)) (i : Nat) : Decidable (okAt l i) := by unfold okAt; infer_instance
instance (l : List (Int × Int)) (i : Nat) : Decidable (upAt l i) := by unfold upAt; infer_instance
/-- valid and ascending -/
def pfxB (l : List (Int × Int)) : Bool := decide ((∀ i, i < l.length → okAt l i) ∧ ∀ i, i < l.length - 1 → upAt l i)
theorem pfxB_yes {l : List (Int × Int)} {n : Nat} (hn : n = l.length) (h : ∀ i, i < n → okAt l i) (h2 : ∀ i, i + 1 < n → upAt l i) : pfxB l = true := by
 subst hn; simp only [pfxB, decide_eq_true_eq]
 exact ⟨h, fun i hi => h2 i (by omega)⟩
theorem pfxB_ok {l : List (Int × Int)} {k : Nat} {x y : Int} (hk : k < l.length) (hx : l.getD k (0, 0) = (x, y)) (h : pokB x y = false) : pfxB l = false := by
 simp only [pfxB, decide_eq_false_iff_not]; rintro ⟨h1, -⟩; have := h1 k hk; unfold okAt at this; rw [hx] at this; rw [this] at h; cases h
theorem pfxB_up {l : List (Int × Int)} {k : Nat} {a b x y : Int} (hk : k + 1 < l.length) (ha : l.getD k (0, 0) = (a, b)) (hx : l.getD (k + 1) (0, 0) = (x, y)) (h : ¬ cmp2 a b x y < 0) : pfxB l = false := by
 simp only [pfxB, decide_eq_false_iff_not]; rintro ⟨-, h1⟩; have := h1 k (by omega); unfold upAt at this; rw [ha, hx] at this
 exact h this
theorem icmp_t {a n b m r : Int} (w : World) (h : Hid (pcmp a n b m = r)) : Calls Tryz.prog 210 #[.agg #[.int .i64 a, .int .i64 n], .agg #[.int .i64 b, .int .i64 m]] w fun e w' => e = .returned (.int .i64 r) ∧ Below w.heap.size w w' :=
 h.out ▸ icmp_any a n b m w
theorem scmp_t {a n b m r : Int} (w : World) (h : Hid (cmp2 a n b m = r)) : Calls Tryz.prog 191 #[.agg #[.int .i64 a, .int .i64 n], .agg #[.int .i64 b, .int .i64 m]] w fun e w' => e = .returned (.int .i64 r) ∧ Below w.heap.size w w' :=
 h.out ▸ scmp_l a n b m w
theorem ipfx_any (v : Value) (l : List (Int × Int)) (most : Int) (w : World) (h : RdP w v l) :
  Calls Tryz.prog 140 #[v, .int .i64 most] w fun e w' => e = .returned (.bool (decide ((l.length : Int) ≤ most) && pfxB l)) ∧ Below w.heap.size w w' := by
 have hm := h.1; obtain ⟨a, c, rfl, hc⟩ := h.el; obtain ⟨n, hn⟩ : ∃ n, n = l.length := ⟨_, rfl⟩; rw [← hn] at hc hm ⊢; have HN := Lib.hid hn; clear h hn
 by_cases hmost : (n : Int) ≤ most
 ·have e : decide ((n : Int) ≤ most) = true := by simp [hmost]
  rw [e, Bool.true_and]; clear e
  go_enter Tryz.func140, Tryz.ntmps140
  go_wp2
  go_loopw [13] (fun q wr => ∃ k : Nat, k ≤ n ∧ q = .int .i64 k ∧ (∀ i, i < k → okAt l i) ∧ (∀ i, i + 1 < k → upAt l i) ∧ Below w.heap.size w wr) (fun q _ => n - (intOf q).toNat)
  case atStart => exact ⟨0, Nat.zero_le _, rfl, fun i hi => by omega, fun i hi => by omega, Below.refl _ _⟩
  case round =>
   obtain ⟨k, hk, rfl, hok, hup, hB⟩ := hrel; have HO := Lib.hid hok; have HU := Lib.hid hup; clear hok hup
   by_cases hlt : k < n
   ·have hltI : (k : Int) < (n : Int) := by omega
    obtain ⟨b, o, rfl, d0, d1⟩ := hc k hlt; have e0 := cell_keep hB (World.block_lt_of_cell? w _ d0) d0; have e1 := cell_keep hB (World.block_lt_of_cell? w _ d1) d1; obtain ⟨⟨x, y⟩, hx⟩ : ∃ q, l.getD k (0, 0) = q := ⟨_, rfl⟩; rw [hx] at e0 e1; have HX := Lib.hid hx; have HCC := Lib.hid hc; clear hx hc d0 d1; cases hp : pokB x y
    ·have HP := Lib.hid hp
     have HF := Lib.hid (pfxB_ok (by rw [← HN.out]; exact hlt) HX.out hp); clear hp; have bP := Bl.new wr [.int .i64 x, .int .i64 y] PT wr.heap.size rfl; have hB2 : Below w.heap.size w (wr.alloc (.cells #[.int .i64 x, .int .i64 y] PT)) := hB.alloc hB.size _; go_wp2; refine wp_region_class (C := Over ((wr.alloc (.cells #[.int .i64 x, .int .i64 y] PT)))) (by kernel_rfl) (by kernel_rfl) (over_drew _) ?_
     repeat (first | go_big_quiet_skip | (go_big_quiet_want; go_big_quiet_op; go_big_quiet_on) | (go_big_quiet_want; go_big_quiet_op; apply Exists.intro; refine ⟨fun w' hC => ?_, ?_⟩; ((first | (go_at_call 209; refine (ipok_t _ HP).mono ?_; rintro e w1 ⟨rfl, hb1⟩; exact ⟨rfl, over_step hC hb1⟩))); go_big_quiet_on) | (go_big_quiet_want; apply Exists.intro; refine ⟨fun w' hC => ?_, ?_⟩; (have k0 := over_cell hC bP.lt (bP.c 0 rfl); have k1 := over_cell hC bP.lt (bP.c 1 rfl); simp [Oper.quietAt, Oper.quietUpon, go_sem, k0, k1]; first | done | rfl); go_big_quiet_on; simp only [Act.put, List.setIfInBounds_toArray, List.set_cons_zero, List.set_cons_succ]))
     refine wpQuiet_nil ?_; intro wr hC; have k0 := over_cell hC bP.lt (bP.c 0 rfl); have k1 := over_cell hC bP.lt (bP.c 1 rfl); go_wp2
     go_ret
     exact ⟨ret_bool HF.out.symm, below_step hB2 hC⟩
    ·have HP := Lib.hid hp
     have HOK : Hid (∀ i, i < k + 1 → okAt l i) := Lib.hid fun i hi => by
      by_cases e : i = k
      ·unfold okAt; rw [e, HX.out]; exact hp
      ·exact HO.out i (by omega)
     clear hp
     rcases Nat.eq_zero_or_pos k with rfl | hpos
     ·
      simp only [Nat.zero_mul, Nat.add_zero] at e0 e1; have bP := Bl.new wr [.int .i64 x, .int .i64 y] PT wr.heap.size rfl; have hB2 : Below w.heap.size w (wr.alloc (.cells #[.int .i64 x, .int .i64 y] PT)) := hB.alloc hB.size _; go_wp2; refine wp_region_class (C := Over ((wr.alloc (.cells #[.int .i64 x, .int .i64 y] PT)))) (by kernel_rfl) (by kernel_rfl) (over_drew _) ?_
      repeat (first | go_big_quiet_skip | (go_big_quiet_want; go_big_quiet_op; go_big_quiet_on) | (go_big_quiet_want; go_big_quiet_op; apply Exists.intro; refine ⟨fun w' hC => ?_, ?_⟩; ((first | (go_at_call 209; refine (ipok_t _ HP).mono ?_; rintro e w1 ⟨rfl, hb1⟩; exact ⟨rfl, over_step hC hb1⟩))); go_big_quiet_on) | (go_big_quiet_want; apply Exists.intro; refine ⟨fun w' hC => ?_, ?_⟩; (have k0 := over_cell hC bP.lt (bP.c 0 rfl); have k1 := over_cell hC bP.lt (bP.c 1 rfl); simp [Oper.quietAt, Oper.quietUpon, go_sem, k0, k1]; first | done | rfl); go_big_quiet_on; simp only [Act.put, List.setIfInBounds_toArray, List.set_cons_zero, List.set_cons_succ]))
      refine wpQuiet_nil ?_; intro wr hC; have k0 := over_cell hC bP.lt (bP.c 0 rfl); have k1 := over_cell hC bP.lt (bP.c 1 rfl); go_wp2
      go_roundw
      case rel => exact ⟨0 + 1, by omega, by go_num, HOK.out, fun i hi => by omega, below_step hB2 hC⟩
      case measure => simp [intOf]; omega
     ·obtain ⟨j, rfl⟩ : ∃ j, k = j + 1 := ⟨k - 1, by omega⟩
      obtain ⟨b', o', hbo, d2, d3⟩ := HCC.out j (by omega); obtain ⟨rfl, rfl⟩ : b = b' ∧ o = o' := by simpa using hbo
      clear hbo; obtain ⟨⟨s, t⟩, hs⟩ : ∃ q, l.getD j (0, 0) = q := ⟨_, rfl⟩; rw [hs] at d2 d3; have HS := Lib.hid hs
      have hr0 : pcmp s t x y = cmp2 s t x y := by
       have h1 := HO.out j (by omega); unfold okAt at h1; rw [hs] at h1; unfold pcmp; rw [h1, HP.out]
       rfl
      obtain ⟨r, hr⟩ : ∃ r, pcmp s t x y = r := ⟨_, rfl⟩; have HR := Lib.hid hr; rw [hr] at hr0; have HR0 := Lib.hid hr0; clear hs hr hr0
      by_cases hneg : r < 0
      ·have HUP : Hid (∀ i, i + 1 < j + 1 + 1 → upAt l i) := Lib.hid fun i hi => by
        by_cases e : i = j
        ·unfold upAt; rw [e, HS.out, HX.out, ← HR0.out]; exact hneg
        ·exact HU.out i (by omega)
       have bP := Bl.new wr [.int .i64 x, .int .i64 y] PT wr.heap.size rfl; have hB2 : Below w.heap.size w (wr.alloc (.cells #[.int .i64 x, .int .i64 y] PT)) := hB.alloc hB.size _; have f0 := cell_keep hB2 (World.block_lt_of_cell? w _ d2) d2; have f1 := cell_keep hB2 (World.block_lt_of_cell? w _ d3) d3; clear d2 d3; have hwj : IntKind.i64.wrap (j : Int) = j := wrap64_in _ (by omega) (by omega); have hjI : (j : Int) < (n : Int) := by omega
       have hjN : j < n := by omega
       go_wp2; refine wp_region_class (C := Over ((wr.alloc (.cells #[.int .i64 x, .int .i64 y] PT)))) (by kernel_rfl) (by kernel_rfl) (over_drew _) ?_
       repeat (first | go_big_quiet_skip | (go_big_quiet_want; go_big_quiet_op; go_big_quiet_on) | (go_big_quiet_want; go_big_quiet_op; apply Exists.intro; refine ⟨fun w' hC => ?_, ?_⟩; ((first | (go_at_call 209; refine (ipok_t _ HP).mono ?_; rintro e w1 ⟨rfl, hb1⟩; exact ⟨rfl, over_step hC hb1⟩) | (go_at_call 210; refine (icmp_t _ HR).mono ?_; rintro e w1 ⟨rfl, hb1⟩; exact ⟨rfl, over_step hC hb1⟩))); go_big_quiet_on) | (go_big_quiet_want; apply Exists.intro; refine ⟨fun w' hC => ?_, ?_⟩; (have k0 := over_cell hC bP.lt (bP.c 0 rfl); have k1 := over_cell hC bP.lt (bP.c 1 rfl); have k2 := over_cell hC (World.block_lt_of_cell? _ _ f0) f0; have k3 := over_cell hC (World.block_lt_of_cell? _ _ f1) f1; simp [Oper.quietAt, Oper.quietUpon, go_sem, k0, k1, k2, k3, hwj, hjI, hjN]; first | done | rfl); go_big_quiet_on; simp only [Act.put, List.setIfInBounds_toArray, List.set_cons_zero, List.set_cons_succ]))
       refine wpQuiet_nil ?_; intro wr hC; have k0 := over_cell hC bP.lt (bP.c 0 rfl); have k1 := over_cell hC bP.lt (bP.c 1 rfl); have k2 := over_cell hC (World.block_lt_of_cell? _ _ f0) f0; have k3 := over_cell hC (World.block_lt_of_cell? _ _ f1) f1; go_wp2
       go_roundw
       case rel => exact ⟨j + 1 + 1, by omega, by go_num, HOK.out, HUP.out, below_step hB2 hC⟩
       case measure => simp [intOf]; omega
      ·have HF := Lib.hid (pfxB_up (by rw [← HN.out]; exact hlt) HS.out HX.out (by rw [← HR0.out]; exact hneg))
       have bP := Bl.new wr [.int .i64 x, .int .i64 y] PT wr.heap.size rfl; have hB2 : Below w.heap.size w (wr.alloc (.cells #[.int .i64 x, .int .i64 y] PT)) := hB.alloc hB.size _; have f0 := cell_keep hB2 (World.block_lt_of_cell? w _ d2) d2; have f1 := cell_keep hB2 (World.block_lt_of_cell? w _ d3) d3; clear d2 d3; have hwj : IntKind.i64.wrap (j : Int) = j := wrap64_in _ (by omega) (by omega); have hjI : (j : Int) < (n : Int) := by omega
       have hjN : j < n := by omega
       go_wp2; refine wp_region_class (C := Over ((wr.alloc (.cells #[.int .i64 x, .int .i64 y] PT)))) (by kernel_rfl) (by kernel_rfl) (over_drew _) ?_
       repeat (first | go_big_quiet_skip | (go_big_quiet_want; go_big_quiet_op; go_big_quiet_on) | (go_big_quiet_want; go_big_quiet_op; apply Exists.intro; refine ⟨fun w' hC => ?_, ?_⟩; ((first | (go_at_call 209; refine (ipok_t _ HP).mono ?_; rintro e w1 ⟨rfl, hb1⟩; exact ⟨rfl, over_step hC hb1⟩) | (go_at_call 210; refine (icmp_t _ HR).mono ?_; rintro e w1 ⟨rfl, hb1⟩; exact ⟨rfl, over_step hC hb1⟩))); go_big_quiet_on) | (go_big_quiet_want; apply Exists.intro; refine ⟨fun w' hC => ?_, ?_⟩; (have k0 := over_cell hC bP.lt (bP.c 0 rfl); have k1 := over_cell hC bP.lt (bP.c 1 rfl); have k2 := over_cell hC (World.block_lt_of_cell? _ _ f0) f0; have k3 := over_cell hC (World.block_lt_of_cell? _ _ f1) f1; simp [Oper.quietAt, Oper.quietUpon, go_sem, k0, k1, k2, k3, hwj, hjI, hjN]; first | done | rfl); go_big_quiet_on; simp only [Act.put, List.setIfInBounds_toArray, List.set_cons_zero, List.set_cons_succ]))
       refine wpQuiet_nil ?_; intro wr hC; have k0 := over_cell hC bP.lt (bP.c 0 rfl); have k1 := over_cell hC bP.lt (bP.c 1 rfl); have k2 := over_cell hC (World.block_lt_of_cell? _ _ f0) f0; have k3 := over_cell hC (World.block_lt_of_cell? _ _ f1) f1; go_wp2
       go_ret
       exact ⟨ret_bool HF.out.symm, below_step hB2 hC⟩
   ·have hkn : k = n := by omega
    subst hkn; have HF := Lib.hid (pfxB_yes HN.out HO.out HU.out); clear hc; go_wp2
    go_ret
    exact ⟨ret_bool HF.out.symm, hB⟩
 ·have e : (decide ((n : Int) ≤ most) && pfxB l) = false := by simp [hmost]
  rw [e]; clear e
  go_enter Tryz.func140, Tryz.ntmps140
  go_wp2
  go_ret
  exact ⟨rfl, Below.refl _ _⟩
end Go.Proofs.YtbcmoofpgffbhabGreat
namespace Go.Proofs.YtbcmoofpgffbhabGreat
open Go.ChangeShapes Go.WideShapes Go.ChangeAt Go.RowKit Go.BigFrame Go.Joins
set_option linter.unusedVariables false
set_option maxRecDepth 100000

theorem contains_any (v : Value) (l : List Int) (x : Int) (w : World) (h : RdI w v l) :
  Calls Tryz.prog 181 #[v, .int .i64 x] w fun e w' => e = .returned (.bool (decide (x ∈ l))) ∧ Below w.heap.size w w' := by
 have hm := h.2.1; unfold maxLen at hm
 rcases h.2.2 with ⟨a, c, rfl, rfl, hac⟩ | ⟨b, o, c, rfl, hp, hc⟩
 ·exact (Tryz.slices_Contains_int_empty a c x w).mono fun e w' ⟨he, hw⟩ => ⟨he, hw ▸ Below.refl _ _⟩
 ·have := Tryz.slices_Contains_int b o l.length c l x w (Nat.le_refl _) (by omega) hc
  rw [List.take_length, List.contains_eq_mem] at this
  exact this.mono fun e w' ⟨he, hw⟩ => ⟨he, hw ▸ Below.refl _ _⟩
theorem contains_yes {l : List Int} {k : Nat} {x : Int} (hk : k < l.length) (hx : l.getD k 0 = x) : decide (x ∈ l) = true := by
 have e : l.getD k 0 = l[k] := by simp [List.getD, hk]
 rw [e] at hx; simp only [decide_eq_true_eq]; rw [← hx]
 exact List.getElem_mem hk
theorem contains_no {l : List Int} {n : Nat} {x : Int} (hn : n = l.length) (h : ∀ i, i < n → l.getD i 0 ≠ x) : decide (x ∈ l) = false := by
 cases hc : decide (x ∈ l)
 ·rfl
 ·simp only [decide_eq_true_eq] at hc
  obtain ⟨i, hi, e⟩ := List.mem_iff_getElem.1 hc; have := h i (by omega); have e2 : l.getD i 0 = l[i] := by simp [List.getD, hi]
  rw [e2, e] at this
  exact absurd rfl this
theorem shas_any (v : Value) (l : List Int) (x : Int) (w : World) (h : RdI w v l) :
  Calls Tryz.prog 115 #[v, .int .i64 x] w fun e w' => e = .returned (.bool (decide (x ∈ l))) ∧ Below w.heap.size w w' := by
 have hm := h.2.1; unfold maxLen at hm; obtain ⟨a, c, rfl, hc⟩ := h.el; obtain ⟨n, hn⟩ : ∃ n, n = l.length := ⟨_, rfl⟩; rw [← hn] at hc hm ⊢; have HN := Lib.hid hn; clear h hn
 go_enter Tryz.func115, Tryz.ntmps115
 go_wp2
 go_loopw [5] (fun q wr => ∃ k : Nat, k ≤ n ∧ q = .int .i64 k ∧ (∀ i, i < k → l.getD i 0 ≠ x) ∧ Below w.heap.size w wr) (fun q _ => n - (intOf q).toNat)
 case atStart => exact ⟨0, Nat.zero_le _, rfl, fun i hi => by omega, Below.refl _ _⟩
 case round =>
  obtain ⟨k, hk, rfl, hall, hB⟩ := hrel; have HA := Lib.hid hall; clear hall
  by_cases hlt : k < n
  ·have hltI : (k : Int) < (n : Int) := by omega
   obtain ⟨b, o, rfl, e1⟩ := hc k hlt; replace e1 := cell_keep hB (World.block_lt_of_cell? w _ e1) e1; obtain ⟨y, hy⟩ : ∃ y, l.getD k 0 = y := ⟨_, rfl⟩; rw [hy] at e1; have HX := Lib.hid hy; clear hy hc
   by_cases hyx : y = x
   ·have HF := Lib.hid (contains_yes (by rw [← HN.out]; exact hlt) (HX.out.trans hyx))
    have hq : (y == x) = true := by simp [hyx]
    clear hyx; go_wp2
    first | (go_quiet (fail); go_wp2) | skip
    go_ret
    exact ⟨ret_bool HF.out.symm, by first | exact hB | exact below_drewN hB _⟩
   ·have hq : (y == x) = false := by simp [hyx]
    have HL := Lib.hid hyx; clear hyx; go_wp2
    first | (go_quiet (fail); go_wp2) | skip
    go_roundw
    case rel => exact ⟨k + 1, by omega, by go_num, fun i hi => by
      by_cases e : i = k
      ·rw [e, HX.out]; exact HL.out
      ·exact HA.out i (by omega), by first | exact hB | exact below_drewN hB _⟩
    case measure => simp [intOf]; omega
  ·have hkn : k = n := by omega
   have HF := Lib.hid (contains_no HN.out (by rw [← hkn]; exact HA.out)); clear hkn hc; go_wp2
   go_ret
   exact ⟨ret_bool HF.out.symm, hB⟩
end Go.Proofs.YtbcmoofpgffbhabGreat
namespace Go.Proofs.YtbcmoofpgffbhabGreat
open Go.ChangeShapes Go.WideShapes Go.ChangeAt Go.RowKit Go.BigFrame Go.Joins
set_option linter.unusedVariables false
set_option maxRecDepth 100000

end Go.Proofs.YtbcmoofpgffbhabGreat
namespace Go.Proofs.YtbcmoofpgffbhabGreat
open Go.ChangeShapes Go.WideShapes Go.ChangeAt Go.RowKit Go.BigFrame Go.Joins
set_option linter.unusedVariables false
set_option maxRecDepth 100000

theorem iaok_t {pv cv : Value} {p c : List Int} {pr bw : Int} {b : Bool} (w : World) (hp : RdI w pv p) (hc : RdI w cv c) (H : Hid (aokB p pr c bw = b)) :
  Calls Tryz.prog 202 #[.agg #[pv, .int .i64 pr, cv, .int .i64 bw]] w fun e w' => e = .returned (.bool b) ∧ Below w.heap.size w w' := H.out ▸ iaok_any pv cv p c pr bw w hp hc
theorem saok_t {pv cv : Value} {p c : List Int} {pr bw : Int} {b : Bool} (w : World) (hp : RdI w pv p) (hc : RdI w cv c) (H : Hid (aokB p pr c bw = b)) :
  Calls Tryz.prog 136 #[.agg #[pv, .int .i64 pr, cv, .int .i64 bw]] w fun e w' => e = .returned (.bool b) ∧ Below w.heap.size w w' := H.out ▸ saok_any pv cv p c pr bw w hp hc
theorem ipath_any (pv cv : Value) (p c : List Int) (pr bw an : Int) (w : World) (hp : RdI w pv p) (hc : RdI w cv c) :
  Calls Tryz.prog 215 #[.agg #[pv, .int .i64 pr, cv, .int .i64 bw], .int .i64 an] w fun e w' => e = .returned (.bool (aokB p pr c bw && decide (an ∈ p))) ∧ Below w.heap.size w w' := by
 obtain ⟨c0, c1, c2, c3, lt, B0⟩ := box4 w pv (.int .i64 pr) cv (.int .i64 bw) 50; have hp1 := hp.alloc (.cells #[pv, .int .i64 pr, cv, .int .i64 bw] 50); have hc1 := hc.alloc (.cells #[pv, .int .i64 pr, cv, .int .i64 bw] 50); cases hA : aokB p pr c bw
 ·rw [Bool.false_and]
  have HA := Lib.hid hA; clear hA
  go_enter Tryz.func215, Tryz.ntmps215
  go_wp2_with fail; refine (iaok_t _ hp1 hc1 HA).mono ?_; rintro e w1 ⟨rfl, hb⟩; replace c0 := cell_keep hb lt c0; replace c1 := cell_keep hb lt c1; replace c2 := cell_keep hb lt c2; replace c3 := cell_keep hb lt c3; replace lt := Nat.lt_of_lt_of_le lt hb.size; replace hp1 := hp1.keep hb; replace hc1 := hc1.keep hb; replace B0 := below_step B0 hb; clear hb; go_wp2
  go_ret
  exact ⟨rfl, B0⟩
 ·rw [Bool.true_and]
  have HA := Lib.hid hA; clear hA
  go_enter Tryz.func215, Tryz.ntmps215
  go_wp2_with fail; refine (iaok_t _ hp1 hc1 HA).mono ?_; rintro e w1 ⟨rfl, hb⟩; replace c0 := cell_keep hb lt c0; replace c1 := cell_keep hb lt c1; replace c2 := cell_keep hb lt c2; replace c3 := cell_keep hb lt c3; replace lt := Nat.lt_of_lt_of_le lt hb.size; replace hp1 := hp1.keep hb; replace hc1 := hc1.keep hb; replace B0 := below_step B0 hb; clear hb; go_wp2_with fail; refine (contains_any _ p an _ hp1).mono ?_; rintro e w2 ⟨rfl, hb⟩; replace c0 := cell_keep hb lt c0; replace c1 := cell_keep hb lt c1; replace c2 := cell_keep hb lt c2; replace c3 := cell_keep hb lt c3; replace lt := Nat.lt_of_lt_of_le lt hb.size; replace hp1 := hp1.keep hb; replace hc1 := hc1.keep hb; replace B0 := below_step B0 hb; clear hb; go_wp2
  go_ret
  exact ⟨rfl, B0⟩
end Go.Proofs.YtbcmoofpgffbhabGreat
