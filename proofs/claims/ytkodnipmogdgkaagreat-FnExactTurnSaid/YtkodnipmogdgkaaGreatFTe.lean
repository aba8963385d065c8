/-
  Memory that nobody else has; lists of messages. Conditions: those in each contract.
  Lists of switches. Conditions: those in each contract.
  Links. Conditions: those in each contract.
  Fabrics as arguments. Conditions: those in each contract.
  Rows in ranges of blocks; marks on them. Conditions: those in each contract.
-/
import Derived.Test.YtkodnipmogdgkaaGreatFTb
import Derived.Test.YtkodnipmogdgkaaGreatFTd
import Derived.Deep.RegionHeld
namespace Go.Proofs.YtkodnipmogdgkaaGreat
open Go.ChangeShapes Go.WideShapes Go.ChangeAt Go.RowKit Go.BigFrame Go.Joins
set_option linter.unusedVariables false
set_option maxRecDepth 100000
set_option maxRecDepth 100000
set_option linter.unusedSimpArgs false
set_option maxRecDepth 100000

/-- w' is a later world in which the blocks of w from base on lie as they lay -/
def Agr (base : Nat) (w w' : World) : Prop := w.heap.size ≤ w'.heap.size ∧ ∀ i, base ≤ i → i < w.heap.size → w'.heap[i]? = w.heap[i]?
theorem Agr.refl (b : Nat) (w : World) : Agr b w w := ⟨Nat.le_refl _, fun _ _ _ => rfl⟩
theorem Agr.trans {b : Nat} {w w1 w2 : World} (h : Agr b w w1) (k : Agr b w1 w2) : Agr b w w2 := ⟨Nat.le_trans h.1 k.1, fun i h1 h2 => (k.2 i h1 (Nat.lt_of_lt_of_le h2 h.1)).trans (h.2 i h1 h2)⟩
theorem Agr.of_below {b : Nat} {w w' : World} (h : Below w.heap.size w w') : Agr b w w' := ⟨h.size, fun i _ hi => h.block i hi⟩
theorem Agr.up {b b' : Nat} {w w' : World} (h : Agr b w w') (hb : b ≤ b') : Agr b' w w' := ⟨h.1, fun i h1 h2 => h.2 i (Nat.le_trans hb h1) h2⟩
theorem agr_set {b B o : Nat} (w : World) {u : Value} (h : B < b) : Agr b w (w.setCell ⟨B, o, none⟩ u) := ⟨(grown_set w B o u).size, fun i hi hl => (grown_set w B o u).block i hl (by intro e; cases e; omega)⟩
/-- so it is in w, and in every later world in which the blocks from base on lie as they lay -/
def Fresh (b : Nat) (w : World) (P : World → Prop) : Prop := ∀ w', Agr b w w' → P w'
theorem Fresh.agr {b : Nat} {w w' : World} {P : World → Prop} (h : Fresh b w P) (k : Agr b w w') : Fresh b w' P := fun x q => h x (k.trans q)
theorem Fresh.keep {b : Nat} {w w' : World} {P : World → Prop} (h : Fresh b w P) (k : Below w.heap.size w w') : Fresh b w' P := h.agr (.of_below k)
theorem Fresh.mono {b b' : Nat} {w : World} {P : World → Prop} (h : Fresh b w P) (k : b' ≤ b) : Fresh b' w P := fun x q => h x (q.up k)
theorem Fresh.far {b B o : Nat} {w : World} {u : Value} {P : World → Prop} (h : Fresh b w P) (k : B < b) : Fresh b (w.setCell ⟨B, o, none⟩ u) P := h.agr (agr_set w k)
theorem Fresh.imp {b : Nat} {w : World} {P Q : World → Prop} (h : Fresh b w P) (k : ∀ x, P x → Q x) : Fresh b w Q := fun x q => k x (h x q)
/-- a message -/
structure Mg where
 kn : Int
 sa : Int
 ho : Int
 ix : Int
 gs : List (Int × Int)
 cs : List (Int × Int)
 ps : List Int
 pr : Int
 ms : List Int
 bw : Int
 er : Int
def m0 : Mg := ⟨0, 0, 0, 0, [], [], [], 0, [], 0, 0⟩
instance : Inhabited Mg := ⟨m0⟩
def wtM (x : Mg) : Nat := x.gs.length + x.cs.length + x.ps.length + x.ms.length
def RdM (w : World) (gv cv pv mv : Value) (x : Mg) : Prop := RdP w gv x.gs ∧ RdP w cv x.cs ∧ RdI w pv x.ps ∧ RdI w mv x.ms
theorem RdM.keep {w w' : World} {gv cv pv mv : Value} {x : Mg} (h : RdM w gv cv pv mv x) (hb : Below w.heap.size w w') : RdM w' gv cv pv mv x := by
 obtain ⟨h0, h1, h2, h3⟩ := h
 exact ⟨h0.keep hb, h1.keep hb, h2.keep hb, h3.keep hb⟩
/-- the cells of block b from o on hold it -/
def AtM (w : World) (b o : Nat) (x : Mg) : Prop :=
 ∃ gv cv pv mv, RdM w gv cv pv mv x ∧ w.cell? ⟨b, o, none⟩ = some (.int .i64 x.kn) ∧ w.cell? ⟨b, o + 1, none⟩ = some (.int .i64 x.sa) ∧ w.cell? ⟨b, o + 2, none⟩ = some (.int .i64 x.ho) ∧ w.cell? ⟨b, o + 3, none⟩ = some (.int .i64 x.ix) ∧ w.cell? ⟨b, o + 4, none⟩ = some (gv) ∧ w.cell? ⟨b, o + 5, none⟩ = some (cv) ∧ w.cell? ⟨b, o + 6, none⟩ = some (pv) ∧ w.cell? ⟨b, o + 7, none⟩ = some (.int .i64 x.pr) ∧ w.cell? ⟨b, o + 8, none⟩ = some (mv) ∧ w.cell? ⟨b, o + 9, none⟩ = some (.int .i64 x.bw) ∧ w.cell? ⟨b, o + 10, none⟩ = some (.int .i64 x.er)
theorem AtM.keep {w w' : World} {b o : Nat} {x : Mg} (h : AtM w b o x) (hb : Below w.heap.size w w') : AtM w' b o x := by
 obtain ⟨gv, cv, pv, mv, hr, k0, k1, k2, k3, k4, k5, k6, k7, k8, k9, k10⟩ := h
 exact ⟨gv, cv, pv, mv, hr.keep hb, cell_keep hb (World.block_lt_of_cell? w _ k0) k0, cell_keep hb (World.block_lt_of_cell? w _ k1) k1, cell_keep hb (World.block_lt_of_cell? w _ k2) k2, cell_keep hb (World.block_lt_of_cell? w _ k3) k3, cell_keep hb (World.block_lt_of_cell? w _ k4) k4, cell_keep hb (World.block_lt_of_cell? w _ k5) k5, cell_keep hb (World.block_lt_of_cell? w _ k6) k6, cell_keep hb (World.block_lt_of_cell? w _ k7) k7, cell_keep hb (World.block_lt_of_cell? w _ k8) k8, cell_keep hb (World.block_lt_of_cell? w _ k9) k9, cell_keep hb (World.block_lt_of_cell? w _ k10) k10⟩
def RdMS (w : World) (v : Value) (L : List Mg) : Prop :=
 L.length ≤ 9223372036854775807 ∧
 ((∃ a c, v = .slice a 0 c ∧ L = [] ∧ (a = none → c = 0)) ∨
  ∃ b o c, v = .slice (some ⟨b, o, none⟩) L.length c ∧ 0 < L.length ∧ ∀ i, i < L.length → AtM w b (o + i * 11) (L.getD i m0))
theorem RdMS.keep {w w' : World} {v : Value} {L : List Mg} (h : RdMS w v L) (hb : Below w.heap.size w w') : RdMS w' v L := by
 obtain ⟨h2, h3⟩ := h; refine ⟨h2, ?_⟩
 rcases h3 with h3 | ⟨b, o, c, hv, hp, hc⟩
 ·exact .inl h3
 ·exact .inr ⟨b, o, c, hv, hp, fun i hi => (hc i hi).keep hb⟩
theorem RdMS.len {w : World} {v : Value} {L : List Mg} (h : RdMS w v L) : ∃ a c, v = .slice a L.length c := by
 rcases h.2 with ⟨a, c, rfl, rfl, hac⟩ | ⟨b, o, c, rfl, _⟩
 ·exact ⟨a, c, rfl⟩
 ·exact ⟨_, c, rfl⟩
theorem RdMS.el {w : World} {v : Value} {L : List Mg} (h : RdMS w v L) : ∃ a c, v = .slice a L.length c ∧ ∀ i, i < L.length → ∃ b o, a = some ⟨b, o, none⟩ ∧ AtM w b (o + i * 11) (L.getD i m0) := by
 rcases h.2 with ⟨a, c, rfl, rfl, -⟩ | ⟨b, o, c, rfl, -, hc⟩
 ·exact ⟨a, c, rfl, fun i hi => absurd hi (by simp)⟩
 ·exact ⟨_, c, rfl, fun i hi => ⟨b, o, rfl, hc i hi⟩⟩
theorem RdMS.nil (w : World) : RdMS w (.slice none 0 0) [] := ⟨by simp, .inl ⟨none, 0, rfl, rfl, fun _ => rfl⟩⟩
def wtMS (L : List Mg) : Nat := (L.map wtM).sum
theorem wtM_take {L : List Mg} {j : Nat} (h : j < L.length) : wtMS (L.take (j + 1)) = wtMS (L.take j) + wtM (L.getD j m0) := by
 unfold wtMS; rw [List.take_succ_eq_append_getElem h, List.map_append, List.sum_append]; have e : L.getD j m0 = L[j] := by simp [List.getD, h]
 rw [e]
 simp
theorem wtM_le (L : List Mg) (j : Nat) : wtMS (L.take j) ≤ wtMS L := by
 conv => rhs; rw [← List.take_append_drop j L]
 unfold wtMS; rw [List.map_append, List.sum_append]
 omega
theorem wtM_at {L : List Mg} {j : Nat} (h : j < L.length) : wtM (L.getD j m0) ≤ wtMS L := by
 have h1 := wtM_take h; have h2 := wtM_le L (j + 1)
 omega
section
variable {H : Type} {enc : TypeId × Value → H} {W : World} {base : Nat} {d : DataW H} {p : List MemPlace} {v : Value}
theorem M_trod {fuel : Nat} {x0 x1 x2 x3 x4 x5 x6 x7 x8 x9 x10 : Value} {y : DataW H × List MemPlace} (h : DataW.trod enc Tryz.prog W 0 (fun _ => true) true fuel 188 [x0, x1, x2, x3, x4, x5, x6, x7, x8, x9, x10] = some y) :
  ∃ E : Mg, x0 = .int .i64 E.kn ∧ x1 = .int .i64 E.sa ∧ x2 = .int .i64 E.ho ∧ x3 = .int .i64 E.ix ∧ x7 = .int .i64 E.pr ∧ x9 = .int .i64 E.bw ∧ x10 = .int .i64 E.er ∧ RdM W x4 x5 x6 x8 E := by
 obtain ⟨ys, n, _, hx, hl, hlen, hf⟩ := DataW.trod_struct Tryz.underlying188 h; obtain ⟨y0, y1, y2, y3, y4, y5, y6, y7, rfl⟩ := list8 hlen; clear hlen hl hx; have h0 := hf 0 _ rfl; have h1 := hf 1 _ rfl; have h2 := hf 2 _ rfl; have h3 := hf 3 _ rfl; have h4 := hf 4 _ rfl; have h5 := hf 5 _ rfl; have h6 := hf 6 _ rfl; have h7 := hf 7 _ rfl; clear hf
 simp [cellsI1, cellsP1, cellsA] at h0 h1 h2 h3 h4 h5 h6 h7
 obtain ⟨z0, z1, z2, z3, n2, -, -, g0, g1, g2, g3⟩ := trod_struct4 Tryz.underlying186 h6
 simp [cellsI1, cellsIS1] at g0 g1 g2 g3
 obtain ⟨q0, e0, -, -⟩ := DataW.trod_int Tryz.underlying3 h0; obtain ⟨q1, e1, -, -⟩ := DataW.trod_int Tryz.underlying3 h1; obtain ⟨q2, e2, -, -⟩ := DataW.trod_int Tryz.underlying3 h2; obtain ⟨q3, e3, -, -⟩ := DataW.trod_int Tryz.underlying3 h3; obtain ⟨q7, e7, -, -⟩ := DataW.trod_int Tryz.underlying3 g1; obtain ⟨q9, e9, -, -⟩ := DataW.trod_int Tryz.underlying3 g3; obtain ⟨q10, e10, -, -⟩ := DataW.trod_int Tryz.underlying3 h7; obtain ⟨gs, hg⟩ := rdP_trod h4; obtain ⟨cs, hc⟩ := rdP_trod h5; obtain ⟨ps, hp⟩ := rdI_trod g0; obtain ⟨ms, hm⟩ := rdI_trod g2
 simp at e0 e1 e2 e3 e7 e9 e10
 exact ⟨⟨q0, q1, q2, q3, gs, cs, ps, q7, ms, q9, q10⟩, e0, e1, e2, e3, e7, e9, e10, hg, hc, hp, hm⟩
theorem cellsMS : Tryz.prog.cellsOf 188 = 11 := by kernel_rfl
theorem listM {α : Type} {xs : List α} (h : xs.length = 11) : ∃ c0 c1 c2 c3 c4 c5 c6 c7 c8 c9 c10, xs = [c0, c1, c2, c3, c4, c5, c6, c7, c8, c9, c10] := by
 match xs, h with
 | [c0, c1, c2, c3, c4, c5, c6, c7, c8, c9, c10], _ => exact ⟨c0, c1, c2, c3, c4, c5, c6, c7, c8, c9, c10, rfl⟩
theorem rdMS_trod {fuel : Nat} {y : DataW H × List MemPlace} (h : DataW.trod enc Tryz.prog W 0 (fun _ => true) true fuel 114 [v] = some y) : ∃ L, RdMS W v L := by
 rcases Deep.open_slice Tryz.underlying114 h with ⟨hcs, _⟩ | ⟨a, len, cap, m, n, D, Pl, hcs, _, hl, hm, hmm, _, hx⟩
 ·obtain ⟨rfl, -⟩ := List.cons.inj hcs
  exact ⟨[], RdMS.nil W⟩
 ·obtain ⟨rfl, -⟩ := List.cons.inj hcs
  have hlm : len ≤ m := by rw [hmm]; split <;> omega
  obtain ⟨b, off, spot⟩ := a
  by_cases h0 : len = 0
  ·subst h0
   exact ⟨[], by simp, .inl ⟨_, cap, rfl, rfl, fun h => by cases h⟩⟩
  ·have hspot : spot = none := by
    obtain ⟨cs', h1, _⟩ := hx 0 (by omega); rw [cellsMS] at h1; obtain ⟨_, hlen, hcell⟩ := World.cells?_some h1; have h2 := hcell 0 (by omega); rw [List.getElem?_eq_getElem (by omega)] at h2
    simpa [Addr.add] using World.cell?_spot h2
   subst hspot; have hadd : ∀ o k, (⟨b, o, none⟩ : Addr).add k = ⟨b, o + k, none⟩ := fun o k => by unfold Addr.add; split <;> simp_all
   have hex : ∀ i, i < len → ∃ E : Mg, AtM W b (off + i * 11) E := by
    intro i hi; obtain ⟨cs', h1, h2⟩ := hx i (by omega); rw [cellsMS] at h1; obtain ⟨_, hlen, hcell⟩ := World.cells?_some h1; obtain ⟨x0, x1, x2, x3, x4, x5, x6, x7, x8, x9, x10, rfl⟩ := listM hlen; obtain ⟨E, rfl, rfl, rfl, rfl, rfl, rfl, rfl, hr⟩ := M_trod h2; have e0 := hcell 0 (by omega); have e1 := hcell 1 (by omega); have e2 := hcell 2 (by omega); have e3 := hcell 3 (by omega); have e4 := hcell 4 (by omega); have e5 := hcell 5 (by omega); have e6 := hcell 6 (by omega); have e7 := hcell 7 (by omega); have e8 := hcell 8 (by omega); have e9 := hcell 9 (by omega); have e10 := hcell 10 (by omega); simp only [hadd] at e0 e1 e2 e3 e4 e5 e6 e7 e8 e9 e10
    exact ⟨E, x4, x5, x6, x8, hr, e0, e1, e2, e3, e4, e5, e6, e7, e8, e9, e10⟩
   obtain ⟨f, hf⟩ := Deep.choose_lt hex; refine ⟨(List.range len).map f, by simp; unfold maxLen at hm; omega, .inr ⟨b, off, cap, by simp, by simp; omega, fun i hi => ?_⟩⟩; have hi : i < len := by simpa using hi
   rw [show ((List.range len).map f).getD i m0 = f i by simp [List.getD, hi]]
   exact hf i hi
end
set_option maxHeartbeats 1000000 in
theorem szM_l (gv cv pv mv : Value) (x : Mg) (left : Int) (w : World) (h : RdM w gv cv pv mv x) (hl0 : 0 ≤ left) (hl1 : left ≤ 1048576) :
  Calls Tryz.prog 170 #[.agg #[.int .i64 x.kn, .int .i64 x.sa, .int .i64 x.ho, .int .i64 x.ix, gv, cv, pv, .int .i64 x.pr, mv, .int .i64 x.bw, .int .i64 x.er], .int .i64 left] w fun e w' => ∃ r : Int, e = .returned (.int .i64 r) ∧ (¬ r < 0 → r = left - (wtM x : Nat)) ∧ (r < 0 → r = -1) ∧ Below w.heap.size w w' := by
 obtain ⟨bA, B0, z⟩ := one w [.int .i64 x.kn, .int .i64 x.sa, .int .i64 x.ho, .int .i64 x.ix, gv, cv, pv, .int .i64 x.pr, mv, .int .i64 x.bw, .int .i64 x.er] 188; replace h := h.keep B0; clear z
 by_cases h1 : left < x.gs.length
 ·have HE := Lib.hid (szN_lt h1)
  clear h1
  go_enter Tryz.func170, Tryz.ntmps170
  go_wp2_with fail; refine (szP_any _ x.gs _ _ h.1 hl0 hl1).mono ?_; rintro e w1 ⟨rfl, rfl⟩; rw [HE.out]; go_wp2
  go_ret
  exact ⟨-1, rfl, fun h => by omega, fun _ => rfl, B0⟩
 have h1' := szN_ge h1; obtain ⟨l1, hl1'⟩ : ∃ l1 : Int, left - x.gs.length = l1 := ⟨_, rfl⟩; have hl1a : 0 ≤ l1 := by omega
 have hl1b : l1 ≤ 1048576 := by omega
 have hn1 : ¬ l1 < 0 := by omega
 rw [hl1'] at h1'; have HE1 := Lib.hid h1'; have HL1 := Lib.hid hl1'; clear h1 h1' hl1'
 by_cases h2 : l1 < x.cs.length
 ·have HE2 := Lib.hid (szN_lt h2)
  clear h2
  go_enter Tryz.func170, Tryz.ntmps170
  go_wp2_with fail; refine (szP_any _ x.gs _ _ h.1 hl0 hl1).mono ?_; rintro e w1 ⟨rfl, rfl⟩; rw [HE1.out]; go_wp2_with fail; refine (szP_any _ x.cs _ _ h.2.1 hl1a hl1b).mono ?_; rintro e w1 ⟨rfl, rfl⟩; rw [HE2.out]; go_wp2
  go_ret
  exact ⟨-1, rfl, fun h => by omega, fun _ => rfl, B0⟩
 have h2' := szN_ge h2; obtain ⟨l2, hl2'⟩ : ∃ l2 : Int, l1 - x.cs.length = l2 := ⟨_, rfl⟩; have hl2a : 0 ≤ l2 := by omega
 have hl2b : l2 ≤ 1048576 := by omega
 have hn2 : ¬ l2 < 0 := by omega
 rw [hl2'] at h2'; have HE2 := Lib.hid h2'; have HL2 := Lib.hid hl2'; clear h2 h2' hl2'; obtain ⟨r, hr⟩ : ∃ r, szA l2 x.ps x.ms = r := ⟨_, rfl⟩; have hr1 : r < 0 → r = -1 := fun q => by rw [← hr] at q ⊢; exact szA_neg hl2a q
 have hr2 : ¬ r < 0 → r = l2 - (x.ps.length + x.ms.length : Nat) := fun q => by rw [← hr] at q ⊢; exact szA_eq q
 have HR := Lib.hid hr; have HR1 := Lib.hid hr1; have HR2 := Lib.hid hr2; clear hr hr1 hr2
 by_cases h3 : r < 0
 ·go_enter Tryz.func170, Tryz.ntmps170
  go_wp2_with fail; refine (szP_any _ x.gs _ _ h.1 hl0 hl1).mono ?_; rintro e w1 ⟨rfl, rfl⟩; rw [HE1.out]; go_wp2_with fail; refine (szP_any _ x.cs _ _ h.2.1 hl1a hl1b).mono ?_; rintro e w1 ⟨rfl, rfl⟩; rw [HE2.out]; go_wp2_with fail; refine (szA_any _ _ x.ps x.ms _ _ _ _ h.2.2.1 h.2.2.2 hl2a hl2b).mono ?_; rw [HR.out]; rintro e w1 ⟨rfl, hb⟩; replace B0 := below_step B0 hb; clear hb; go_wp2
  go_ret
  exact ⟨-1, rfl, fun h => by omega, fun _ => rfl, B0⟩
 ·go_enter Tryz.func170, Tryz.ntmps170
  go_wp2_with fail; refine (szP_any _ x.gs _ _ h.1 hl0 hl1).mono ?_; rintro e w1 ⟨rfl, rfl⟩; rw [HE1.out]; go_wp2_with fail; refine (szP_any _ x.cs _ _ h.2.1 hl1a hl1b).mono ?_; rintro e w1 ⟨rfl, rfl⟩; rw [HE2.out]; go_wp2_with fail; refine (szA_any _ _ x.ps x.ms _ _ _ _ h.2.2.1 h.2.2.2 hl2a hl2b).mono ?_; rw [HR.out]; rintro e w1 ⟨rfl, hb⟩; replace B0 := below_step B0 hb; clear hb; go_wp2
  go_ret
  refine ⟨r, rfl, fun h => ?_, fun h => by omega, B0⟩; have a1 := HR2.out h3; have a2 := HL1.out; have a3 := HL2.out; unfold wtM
  omega
theorem eqM_same' (gv cv pv mv gv2 cv2 pv2 mv2 : Value) (x : Mg) (w : World) (h : RdM w gv cv pv mv x) (h2 : RdM w gv2 cv2 pv2 mv2 x) :
  Calls Tryz.prog 183 #[.agg #[.int .i64 x.kn, .int .i64 x.sa, .int .i64 x.ho, .int .i64 x.ix, gv, cv, pv, .int .i64 x.pr, mv, .int .i64 x.bw, .int .i64 x.er], .agg #[.int .i64 x.kn, .int .i64 x.sa, .int .i64 x.ho, .int .i64 x.ix, gv2, cv2, pv2, .int .i64 x.pr, mv2, .int .i64 x.bw, .int .i64 x.er]] w fun e w' => e = .returned (.bool true) ∧ Below w.heap.size w w' :=
 eqM_same gv cv pv mv x.gs x.cs x.ps x.ms x.kn x.sa x.ho x.ix x.pr x.bw x.er gv2 cv2 pv2 mv2 w h.1 h.2.1 h.2.2.1 h.2.2.2 h2.1 h2.2.1 h2.2.2.1 h2.2.2.2
theorem szMS_l (v : Value) (L : List Mg) (left : Int) (w : World) (h : RdMS w v L) (hl0 : 0 ≤ left) (hl1 : left ≤ 1048576) :
  Calls Tryz.prog 119 #[v, .int .i64 left] w fun e w' => ∃ r : Int, e = .returned (.int .i64 r) ∧ (¬ r < 0 → r = left - (L.length : Nat) - (wtMS L : Nat)) ∧ (r < 0 → r = -1) ∧ Below w.heap.size w w' := by
 have hm := h.1; obtain ⟨a, c, rfl, hc⟩ := h.el; obtain ⟨n, hn⟩ : ∃ n, n = L.length := ⟨_, rfl⟩; rw [← hn] at hc hm ⊢; have HN := Lib.hid hn; clear h hn
 by_cases hbig : left - n < 0
 ·go_enter Tryz.func119, Tryz.ntmps119
  have hw1 : IntKind.i64.wrap (left - (n : Int)) = left - (n : Int) := wrap64_in _ (by omega) (by omega); go_wp2
  go_ret
  exact ⟨-1, rfl, fun h => by omega, fun _ => rfl, Below.refl _ _⟩
 ·have hnn : (n : Int) ≤ 1048576 := by omega
  have hw1 : IntKind.i64.wrap (left - (n : Int)) = left - (n : Int) := wrap64_in _ (by omega) (by omega)
  go_enter Tryz.func119, Tryz.ntmps119
  go_wp2
  go_loopw [1, 5] (fun q i wr => ∃ j : Nat, j ≤ n ∧ i = .int .i64 j ∧ (∃ l : Int, q = .int .i64 l ∧ 0 ≤ l ∧ l = left - (n : Int) - (wtMS (L.take j) : Nat)) ∧ Below w.heap.size w wr) (fun _ i _ => n - (intOf i).toNat)
  case atStart => exact ⟨0, Nat.zero_le _, rfl, ⟨_, rfl, by omega, by simp [wtMS]⟩, Below.refl _ _⟩
  case round =>
   obtain ⟨j, hj, rfl, ⟨l, rfl, hl0, hl⟩, hB⟩ := hrel; have HL := Lib.hid hl; have hl1 : l ≤ 1048576 := by omega
   clear hl
   by_cases hlt : j < n
   ·have hltI : (j : Int) < (n : Int) := by omega
    obtain ⟨b, o, rfl, hE⟩ := hc j hlt; obtain ⟨x, hx⟩ : ∃ x, L.getD j m0 = x := ⟨_, rfl⟩; rw [hx] at hE; obtain ⟨gv, cv, pv, mv, hr, k0, k1, k2, k3, k4, k5, k6, k7, k8, k9, k10⟩ := hE.keep hB; have HX := Lib.hid hx; have HCC := Lib.hid hc; clear hx hc hE; go_wp2_with fail; refine (szM_l gv cv pv mv x l _ hr hl0 hl1).mono ?_; rintro e w1 ⟨r, rfl, hr1, hr2, hb⟩; have hB2 := below_step hB hb; have HR1 := Lib.hid hr1; have HR2 := Lib.hid hr2; clear hb hB k0 k1 k2 k3 k4 k5 k6 k7 k8 k9 k10 hr hr1 hr2
    by_cases hneg : r < 0
    ·go_wp2
     go_ret
     exact ⟨-1, rfl, fun h => by omega, fun _ => rfl, hB2⟩
    ·go_wp2
     go_roundw
     case rel =>
      refine ⟨j + 1, by omega, by go_num, ⟨r, rfl, by omega, ?_⟩, hB2⟩; have h1 := wtM_take (L := L) (j := j) (by rw [← HN.out]; exact hlt); rw [HX.out] at h1; have h2 := HR1.out hneg; have h3 := HL.out
      omega
     case measure => simp [intOf]; omega
   ·have hkn : j = n := by omega
    subst hkn; have hw : wtMS (L.take j) = wtMS L := by rw [List.take_of_length_le (by rw [HN.out]; exact Nat.le_refl _)]
    have HW := Lib.hid hw; clear hc hw; go_wp2
    go_ret
    refine ⟨l, rfl, fun _ => ?_, fun h => by omega, hB⟩; have h3 := HL.out; rw [HW.out] at h3
    omega
/-- element i of the cells xs is that, its slices lie in blocks from base on -/
def MX (xs : List Value) (w : World) (base i : Nat) (x : Mg) : Prop :=
 ∃ gv cv pv mv, Fresh base w (fun W => RdM W gv cv pv mv x) ∧ xs[i * 11]? = some (.int .i64 x.kn) ∧ xs[i * 11 + 1]? = some (.int .i64 x.sa) ∧ xs[i * 11 + 2]? = some (.int .i64 x.ho) ∧ xs[i * 11 + 3]? = some (.int .i64 x.ix) ∧ xs[i * 11 + 4]? = some (gv) ∧ xs[i * 11 + 5]? = some (cv) ∧ xs[i * 11 + 6]? = some (pv) ∧ xs[i * 11 + 7]? = some (.int .i64 x.pr) ∧ xs[i * 11 + 8]? = some (mv) ∧ xs[i * 11 + 9]? = some (.int .i64 x.bw) ∧ xs[i * 11 + 10]? = some (.int .i64 x.er)
def MadeM (w : World) (B n k : Nat) (L : List Mg) : Prop := ∃ xs : List Value, xs.length = n * 11 ∧ Bl w B xs ∧ ∀ i, i < k → MX xs w (B + 1) i (L.getD i m0)
theorem MadeM.keep {w w' : World} {B n k : Nat} {L : List Mg} (h : MadeM w B n k L) (hb : Below w.heap.size w w') : MadeM w' B n k L := by
 obtain ⟨xs, hl, hB, hx⟩ := h; refine ⟨xs, hl, hB.keep hb, fun i hi => ?_⟩; obtain ⟨gv, cv, pv, mv, h1, h3⟩ := hx i hi
 exact ⟨gv, cv, pv, mv, h1.agr (.of_below hb), h3⟩
theorem MadeM.cell {w : World} {B n k : Nat} {L : List Mg} (h : MadeM w B n k L) (j : Nat) (hj : j < n * 11) : ∃ x, w.cell? ⟨B, j, none⟩ = some x ∧ w.frozen? ⟨B, j, none⟩ = false := by
 obtain ⟨xs, hl, hB, hx⟩ := h
 exact ⟨_, hB.c j (List.getElem?_eq_getElem (by omega)), hB.f j (List.getElem?_eq_getElem (by omega))⟩
theorem MadeM.step {w : World} {B n j : Nat} {L : List Mg} (h : MadeM w B n j L) (hk : j < n) {gv cv pv mv : Value} {x : Mg} (hE : L.getD j m0 = x) (h1 : Fresh (B + 1) w (fun W => RdM W gv cv pv mv x)) :
  MadeM (((((((((((w.setCell ⟨B, j * 11, none⟩ (.int .i64 x.kn)).setCell ⟨B, j * 11 + 1, none⟩ (.int .i64 x.sa)).setCell ⟨B, j * 11 + 2, none⟩ (.int .i64 x.ho)).setCell ⟨B, j * 11 + 3, none⟩ (.int .i64 x.ix)).setCell ⟨B, j * 11 + 4, none⟩ (gv)).setCell ⟨B, j * 11 + 5, none⟩ (cv)).setCell ⟨B, j * 11 + 6, none⟩ (pv)).setCell ⟨B, j * 11 + 7, none⟩ (.int .i64 x.pr)).setCell ⟨B, j * 11 + 8, none⟩ (mv)).setCell ⟨B, j * 11 + 9, none⟩ (.int .i64 x.bw)).setCell ⟨B, j * 11 + 10, none⟩ (.int .i64 x.er)) B n (j + 1) L := by
 obtain ⟨xs, hl, hB, hx⟩ := h; have ha : Agr (B + 1) w (((((((((((w.setCell ⟨B, j * 11, none⟩ (.int .i64 x.kn)).setCell ⟨B, j * 11 + 1, none⟩ (.int .i64 x.sa)).setCell ⟨B, j * 11 + 2, none⟩ (.int .i64 x.ho)).setCell ⟨B, j * 11 + 3, none⟩ (.int .i64 x.ix)).setCell ⟨B, j * 11 + 4, none⟩ (gv)).setCell ⟨B, j * 11 + 5, none⟩ (cv)).setCell ⟨B, j * 11 + 6, none⟩ (pv)).setCell ⟨B, j * 11 + 7, none⟩ (.int .i64 x.pr)).setCell ⟨B, j * 11 + 8, none⟩ (mv)).setCell ⟨B, j * 11 + 9, none⟩ (.int .i64 x.bw)).setCell ⟨B, j * 11 + 10, none⟩ (.int .i64 x.er)) := (((((((((((Agr.refl _ _).trans (agr_set _ (Nat.lt_succ_self B))).trans (agr_set _ (Nat.lt_succ_self B))).trans (agr_set _ (Nat.lt_succ_self B))).trans (agr_set _ (Nat.lt_succ_self B))).trans (agr_set _ (Nat.lt_succ_self B))).trans (agr_set _ (Nat.lt_succ_self B))).trans (agr_set _ (Nat.lt_succ_self B))).trans (agr_set _ (Nat.lt_succ_self B))).trans (agr_set _ (Nat.lt_succ_self B))).trans (agr_set _ (Nat.lt_succ_self B))).trans (agr_set _ (Nat.lt_succ_self B)); refine ⟨(((((((((((xs.set (j * 11) (.int .i64 x.kn)).set (j * 11 + 1) (.int .i64 x.sa)).set (j * 11 + 2) (.int .i64 x.ho)).set (j * 11 + 3) (.int .i64 x.ix)).set (j * 11 + 4) (gv)).set (j * 11 + 5) (cv)).set (j * 11 + 6) (pv)).set (j * 11 + 7) (.int .i64 x.pr)).set (j * 11 + 8) (mv)).set (j * 11 + 9) (.int .i64 x.bw)).set (j * 11 + 10) (.int .i64 x.er)), by simpa using hl, (((((((((((hB.set (j * 11) (.int .i64 x.kn)).set (j * 11 + 1) (.int .i64 x.sa)).set (j * 11 + 2) (.int .i64 x.ho)).set (j * 11 + 3) (.int .i64 x.ix)).set (j * 11 + 4) (gv)).set (j * 11 + 5) (cv)).set (j * 11 + 6) (pv)).set (j * 11 + 7) (.int .i64 x.pr)).set (j * 11 + 8) (mv)).set (j * 11 + 9) (.int .i64 x.bw)).set (j * 11 + 10) (.int .i64 x.er)), fun i hi => ?_⟩
 by_cases e : i = j
 ·have e' := e.symm
  subst e'; rw [hE]; refine ⟨gv, cv, pv, mv, h1.agr ha, ?_, ?_, ?_, ?_, ?_, ?_, ?_, ?_, ?_, ?_, ?_⟩
  all_goals simp only [List.getElem?_set, List.length_set]
  all_goals simp (disch := omega) [hl]
  all_goals omega
 ·obtain ⟨v0, v1, v2, v3, g1, c0, c1, c2, c3, c4, c5, c6, c7, c8, c9, c10⟩ := hx i (by omega)
  refine ⟨v0, v1, v2, v3, g1.agr ha, ?_, ?_, ?_, ?_, ?_, ?_, ?_, ?_, ?_, ?_, ?_⟩
  all_goals (repeat rw [List.getElem?_set_ne (by omega)])
  all_goals assumption
set_option maxHeartbeats 4000000 in
theorem eqMS_same (v u : Value) (L : List Mg) (w : World) (h1 : RdMS w v L) (h2 : RdMS w u L) :
  Calls Tryz.prog 139 #[v, u] w fun e w' => e = .returned (.bool true) ∧ Below w.heap.size w w' := by
 have hm1 := h1.1; obtain ⟨a, c, rfl, hc⟩ := h1.el; obtain ⟨a', c', rfl, hc'⟩ := h2.el; obtain ⟨n, hn⟩ : ∃ n, n = L.length := ⟨_, rfl⟩; rw [← hn] at hc hc' hm1 ⊢; have HN := Lib.hid hn; clear hn h1 h2; have hnn : ((n : Int) != (n : Int)) = false := by simp
 go_enter Tryz.func139, Tryz.ntmps139
 go_wp2
 go_loopw [5] (fun i wr => ∃ j : Nat, j ≤ n ∧ i = .int .i64 j ∧ Below w.heap.size w wr) (fun i _ => n - (intOf i).toNat)
 case atStart => exact ⟨0, Nat.zero_le _, rfl, Below.refl _ _⟩
 case round =>
  obtain ⟨j, hk, rfl, hB⟩ := hrel
  by_cases hlt : j < n
  ·have hltI : (j : Int) < (n : Int) := by omega
   obtain ⟨b, o, rfl, hE⟩ := hc j hlt; obtain ⟨b', o', rfl, hE'⟩ := hc' j hlt; obtain ⟨x, hx⟩ : ∃ x, L.getD j m0 = x := ⟨_, rfl⟩; rw [hx] at hE hE'; obtain ⟨gv, cv, pv, mv, hr, k0, k1, k2, k3, k4, k5, k6, k7, k8, k9, k10⟩ := hE.keep hB; obtain ⟨gv2, cv2, pv2, mv2, hr2, m0, m1, m2, m3, m4, m5, m6, m7, m8, m9, m10⟩ := hE'.keep hB; clear hx hc hc' hE hE'; go_wp2
   go_region_held3 (fun w' => Over wr w' ∧ w'.cell? ⟨b, o + j * 11, none⟩ = some (.int .i64 x.kn) ∧ w'.cell? ⟨b, o + j * 11 + 1, none⟩ = some (.int .i64 x.sa) ∧ w'.cell? ⟨b, o + j * 11 + 2, none⟩ = some (.int .i64 x.ho) ∧ w'.cell? ⟨b, o + j * 11 + 3, none⟩ = some (.int .i64 x.ix) ∧ w'.cell? ⟨b, o + j * 11 + 4, none⟩ = some (gv) ∧ w'.cell? ⟨b, o + j * 11 + 5, none⟩ = some (cv) ∧ w'.cell? ⟨b, o + j * 11 + 6, none⟩ = some (pv) ∧ w'.cell? ⟨b, o + j * 11 + 7, none⟩ = some (.int .i64 x.pr) ∧ w'.cell? ⟨b, o + j * 11 + 8, none⟩ = some (mv) ∧ w'.cell? ⟨b, o + j * 11 + 9, none⟩ = some (.int .i64 x.bw) ∧ w'.cell? ⟨b, o + j * 11 + 10, none⟩ = some (.int .i64 x.er) ∧ w'.cell? ⟨b', o' + j * 11, none⟩ = some (.int .i64 x.kn) ∧ w'.cell? ⟨b', o' + j * 11 + 1, none⟩ = some (.int .i64 x.sa) ∧ w'.cell? ⟨b', o' + j * 11 + 2, none⟩ = some (.int .i64 x.ho) ∧ w'.cell? ⟨b', o' + j * 11 + 3, none⟩ = some (.int .i64 x.ix) ∧ w'.cell? ⟨b', o' + j * 11 + 4, none⟩ = some (gv2) ∧ w'.cell? ⟨b', o' + j * 11 + 5, none⟩ = some (cv2) ∧ w'.cell? ⟨b', o' + j * 11 + 6, none⟩ = some (pv2) ∧ w'.cell? ⟨b', o' + j * 11 + 7, none⟩ = some (.int .i64 x.pr) ∧ w'.cell? ⟨b', o' + j * 11 + 8, none⟩ = some (mv2) ∧ w'.cell? ⟨b', o' + j * 11 + 9, none⟩ = some (.int .i64 x.bw) ∧ w'.cell? ⟨b', o' + j * 11 + 10, none⟩ = some (.int .i64 x.er))
    ((first | exact ⟨over_drew _, k0, k1, k2, k3, k4, k5, k6, k7, k8, k9, k10, m0, m1, m2, m3, m4, m5, m6, m7, m8, m9, m10⟩ | exact (fun o => ⟨o, over_cell o (World.block_lt_of_cell? wr _ k0) k0, over_cell o (World.block_lt_of_cell? wr _ k1) k1, over_cell o (World.block_lt_of_cell? wr _ k2) k2, over_cell o (World.block_lt_of_cell? wr _ k3) k3, over_cell o (World.block_lt_of_cell? wr _ k4) k4, over_cell o (World.block_lt_of_cell? wr _ k5) k5, over_cell o (World.block_lt_of_cell? wr _ k6) k6, over_cell o (World.block_lt_of_cell? wr _ k7) k7, over_cell o (World.block_lt_of_cell? wr _ k8) k8, over_cell o (World.block_lt_of_cell? wr _ k9) k9, over_cell o (World.block_lt_of_cell? wr _ k10) k10, over_cell o (World.block_lt_of_cell? wr _ m0) m0, over_cell o (World.block_lt_of_cell? wr _ m1) m1, over_cell o (World.block_lt_of_cell? wr _ m2) m2, over_cell o (World.block_lt_of_cell? wr _ m3) m3, over_cell o (World.block_lt_of_cell? wr _ m4) m4, over_cell o (World.block_lt_of_cell? wr _ m5) m5, over_cell o (World.block_lt_of_cell? wr _ m6) m6, over_cell o (World.block_lt_of_cell? wr _ m7) m7, over_cell o (World.block_lt_of_cell? wr _ m8) m8, over_cell o (World.block_lt_of_cell? wr _ m9) m9, over_cell o (World.block_lt_of_cell? wr _ m10) m10⟩) (over_step (by assumption : Over wr _ ∧ _).1 (by assumption))))
    ((first | (go_at_call 183; refine (eqM_same' gv cv pv mv gv2 cv2 pv2 mv2 x _ (hr.keep (‹Over wr _ ∧ _›).1) (hr2.keep (‹Over wr _ ∧ _›).1)).mono ?_; rintro e w6 ⟨rfl, hbb⟩)))
   rename_i hH
   replace hB := below_step hB hH.1; clear hH hbb k0 k1 k2 k3 k4 k5 k6 k7 k8 k9 k10 m0 m1 m2 m3 m4 m5 m6 m7 m8 m9 m10 hr hr2; go_wp2
   go_roundw
   case rel => exact ⟨j + 1, by omega, by go_num, hB⟩
   case measure => simp [intOf]; omega
  ·have hkn : j = n := by omega
   clear hc hc'; go_wp2
   go_ret
   exact ⟨rfl, hB⟩
end Go.Proofs.YtkodnipmogdgkaaGreat
namespace Go.Proofs.YtkodnipmogdgkaaGreat
open Go.ChangeShapes Go.WideShapes Go.ChangeAt Go.RowKit Go.BigFrame Go.Joins
set_option linter.unusedVariables false
set_option maxRecDepth 100000
set_option linter.unusedSimpArgs false
set_option maxRecDepth 100000

def n0 : Nd := ⟨0, [], 0, false, [], []⟩
instance : Inhabited Nd := ⟨n0⟩
/-- the cells of block b from o on hold it -/
def AtN (w : World) (b o : Nat) (x : Nd) : Prop :=
 ∃ ov rv sv, RdN w ov rv sv x ∧ w.cell? ⟨b, o, none⟩ = some (.int .i64 x.an) ∧ w.cell? ⟨b, o + 1, none⟩ = some (ov) ∧ w.cell? ⟨b, o + 2, none⟩ = some (.int .i64 x.bw) ∧ w.cell? ⟨b, o + 3, none⟩ = some (.bool x.dr) ∧ w.cell? ⟨b, o + 4, none⟩ = some (rv) ∧ w.cell? ⟨b, o + 5, none⟩ = some (sv)
theorem AtN.keep {w w' : World} {b o : Nat} {x : Nd} (h : AtN w b o x) (hb : Below w.heap.size w w') : AtN w' b o x := by
 obtain ⟨ov, rv, sv, hr, k0, k1, k2, k3, k4, k5⟩ := h
 exact ⟨ov, rv, sv, hr.keep hb, cell_keep hb (World.block_lt_of_cell? w _ k0) k0, cell_keep hb (World.block_lt_of_cell? w _ k1) k1, cell_keep hb (World.block_lt_of_cell? w _ k2) k2, cell_keep hb (World.block_lt_of_cell? w _ k3) k3, cell_keep hb (World.block_lt_of_cell? w _ k4) k4, cell_keep hb (World.block_lt_of_cell? w _ k5) k5⟩
def RdNS (w : World) (v : Value) (L : List Nd) : Prop :=
 L.length ≤ 9223372036854775807 ∧
 ((∃ a c, v = .slice a 0 c ∧ L = [] ∧ (a = none → c = 0)) ∨
  ∃ b o c, v = .slice (some ⟨b, o, none⟩) L.length c ∧ 0 < L.length ∧ ∀ i, i < L.length → AtN w b (o + i * 6) (L.getD i n0))
theorem RdNS.keep {w w' : World} {v : Value} {L : List Nd} (h : RdNS w v L) (hb : Below w.heap.size w w') : RdNS w' v L := by
 obtain ⟨h2, h3⟩ := h; refine ⟨h2, ?_⟩
 rcases h3 with h3 | ⟨b, o, c, hv, hp, hc⟩
 ·exact .inl h3
 ·exact .inr ⟨b, o, c, hv, hp, fun i hi => (hc i hi).keep hb⟩
theorem RdNS.len {w : World} {v : Value} {L : List Nd} (h : RdNS w v L) : ∃ a c, v = .slice a L.length c := by
 rcases h.2 with ⟨a, c, rfl, rfl, hac⟩ | ⟨b, o, c, rfl, _⟩
 ·exact ⟨a, c, rfl⟩
 ·exact ⟨_, c, rfl⟩
theorem RdNS.el {w : World} {v : Value} {L : List Nd} (h : RdNS w v L) : ∃ a c, v = .slice a L.length c ∧ ∀ i, i < L.length → ∃ b o, a = some ⟨b, o, none⟩ ∧ AtN w b (o + i * 6) (L.getD i n0) := by
 rcases h.2 with ⟨a, c, rfl, rfl, -⟩ | ⟨b, o, c, rfl, -, hc⟩
 ·exact ⟨a, c, rfl, fun i hi => absurd hi (by simp)⟩
 ·exact ⟨_, c, rfl, fun i hi => ⟨b, o, rfl, hc i hi⟩⟩
theorem RdNS.nil (w : World) : RdNS w (.slice none 0 0) [] := ⟨by simp, .inl ⟨none, 0, rfl, rfl, fun _ => rfl⟩⟩
def wtNS (L : List Nd) : Nat := (L.map wtN).sum
theorem wtN_take {L : List Nd} {j : Nat} (h : j < L.length) : wtNS (L.take (j + 1)) = wtNS (L.take j) + wtN (L.getD j n0) := by
 unfold wtNS; rw [List.take_succ_eq_append_getElem h, List.map_append, List.sum_append]; have e : L.getD j n0 = L[j] := by simp [List.getD, h]
 rw [e]
 simp
theorem wtN_le (L : List Nd) (j : Nat) : wtNS (L.take j) ≤ wtNS L := by
 conv => rhs; rw [← List.take_append_drop j L]
 unfold wtNS; rw [List.map_append, List.sum_append]
 omega
theorem wtN_at {L : List Nd} {j : Nat} (h : j < L.length) : wtN (L.getD j n0) ≤ wtNS L := by
 have h1 := wtN_take h; have h2 := wtN_le L (j + 1)
 omega
section
variable {H : Type} {enc : TypeId × Value → H} {W : World} {base : Nat} {d : DataW H} {p : List MemPlace} {v : Value}
theorem N_trod {fuel : Nat} {c0 c1 c2 c3 c4 c5 : Value} {y : DataW H × List MemPlace} (h : DataW.trod enc Tryz.prog W 0 (fun _ => true) true fuel 85 [c0, c1, c2, c3, c4, c5] = some y) :
  ∃ E : Nd, c0 = .int .i64 E.an ∧ c2 = .int .i64 E.bw ∧ c3 = .bool E.dr ∧ RdN W c1 c4 c5 E := by
 obtain ⟨ys, n, _, hx, hl, hlen, hf⟩ := DataW.trod_struct Tryz.underlying85 h; obtain ⟨y0, y1, y2, y3, y4, y5, rfl⟩ := list6 hlen; have h0 := hf 0 _ rfl; have h1 := hf 1 _ rfl; have h2 := hf 2 _ rfl; have h3 := hf 3 _ rfl; have h4 := hf 4 _ rfl; have h5 := hf 5 _ rfl; clear hf
 simp [cellsI1e, cellsPS1n, cellsB1n, cellsRb] at h0 h1 h2 h3 h4 h5
 obtain ⟨x0, e0, -, -⟩ := DataW.trod_int Tryz.underlying3 h0; obtain ⟨x2, e2, -, -⟩ := DataW.trod_int Tryz.underlying3 h2; obtain ⟨x3, e3, -⟩ := DataW.trod_bool Tryz.underlying4 h3; obtain ⟨l1, g1⟩ := rdP_trod h1; obtain ⟨l4, g4⟩ := rib_trod h4; obtain ⟨l5, g5⟩ := rib_trod h5
 simp at e0 e2 e3
 exact ⟨⟨x0, l1, x2, x3, l4, l5⟩, e0, e2, e3, g1, g4, g5⟩
theorem cellsNS : Tryz.prog.cellsOf 85 = 6 := by kernel_rfl
theorem listN {α : Type} {xs : List α} (h : xs.length = 6) : ∃ c0 c1 c2 c3 c4 c5, xs = [c0, c1, c2, c3, c4, c5] := by
 match xs, h with
 | [c0, c1, c2, c3, c4, c5], _ => exact ⟨c0, c1, c2, c3, c4, c5, rfl⟩
theorem rdNS_trod {fuel : Nat} {y : DataW H × List MemPlace} (h : DataW.trod enc Tryz.prog W 0 (fun _ => true) true fuel 22 [v] = some y) : ∃ L, RdNS W v L := by
 rcases Deep.open_slice Tryz.underlying22 h with ⟨hcs, _⟩ | ⟨a, len, cap, m, n, D, Pl, hcs, _, hl, hm, hmm, _, hx⟩
 ·obtain ⟨rfl, -⟩ := List.cons.inj hcs
  exact ⟨[], RdNS.nil W⟩
 ·obtain ⟨rfl, -⟩ := List.cons.inj hcs
  have hlm : len ≤ m := by rw [hmm]; split <;> omega
  obtain ⟨b, off, spot⟩ := a
  by_cases h0 : len = 0
  ·subst h0
   exact ⟨[], by simp, .inl ⟨_, cap, rfl, rfl, fun h => by cases h⟩⟩
  ·have hspot : spot = none := by
    obtain ⟨cs', h1, _⟩ := hx 0 (by omega); rw [cellsNS] at h1; obtain ⟨_, hlen, hcell⟩ := World.cells?_some h1; have h2 := hcell 0 (by omega); rw [List.getElem?_eq_getElem (by omega)] at h2
    simpa [Addr.add] using World.cell?_spot h2
   subst hspot; have hadd : ∀ o k, (⟨b, o, none⟩ : Addr).add k = ⟨b, o + k, none⟩ := fun o k => by unfold Addr.add; split <;> simp_all
   have hex : ∀ i, i < len → ∃ E : Nd, AtN W b (off + i * 6) E := by
    intro i hi; obtain ⟨cs', h1, h2⟩ := hx i (by omega); rw [cellsNS] at h1; obtain ⟨_, hlen, hcell⟩ := World.cells?_some h1; obtain ⟨x0, x1, x2, x3, x4, x5, rfl⟩ := listN hlen; obtain ⟨E, rfl, rfl, rfl, hr⟩ := N_trod h2; have e0 := hcell 0 (by omega); have e1 := hcell 1 (by omega); have e2 := hcell 2 (by omega); have e3 := hcell 3 (by omega); have e4 := hcell 4 (by omega); have e5 := hcell 5 (by omega); simp only [hadd] at e0 e1 e2 e3 e4 e5
    exact ⟨E, x1, x4, x5, hr, e0, e1, e2, e3, e4, e5⟩
   obtain ⟨f, hf⟩ := Deep.choose_lt hex; refine ⟨(List.range len).map f, by simp; unfold maxLen at hm; omega, .inr ⟨b, off, cap, by simp, by simp; omega, fun i hi => ?_⟩⟩; have hi : i < len := by simpa using hi
   rw [show ((List.range len).map f).getD i n0 = f i by simp [List.getD, hi]]
   exact hf i hi
end
theorem szN_l (ov rv sv : Value) (N : Nd) (left : Int) (w : World) (h : RdN w ov rv sv N) (hl0 : 0 ≤ left) (hl1 : left ≤ 1048576) :
  Calls Tryz.prog 46 #[.agg #[.int .i64 N.an, ov, .int .i64 N.bw, .bool N.dr, rv, sv], .int .i64 left] w fun e w' => ∃ r : Int, e = .returned (.int .i64 r) ∧ (¬ r < 0 → r = left - (wtN N : Nat)) ∧ (r < 0 → r = -1) ∧ Below w.heap.size w w' := by
 obtain ⟨bA, B0, z⟩ := one w [.int .i64 N.an, ov, .int .i64 N.bw, .bool N.dr, rv, sv] 85; replace h := h.keep B0; clear z; have a1 := bA.c 1 rfl
 by_cases hlt : left < (N.own.length : Int)
 ·have e := szN_lt hlt
  have HE := Lib.hid e; clear e
  go_enter Tryz.func46, Tryz.ntmps46
  go_wp2_with fail; refine (szP_any ov N.own _ _ h.1 (by omega) (by omega)).mono ?_; rw [HE.out]; rintro e w1 ⟨rfl, rfl⟩; go_wp2
  go_ret
  exact ⟨-1, rfl, fun q => by omega, fun _ => rfl, B0⟩
 ·have e := szN_ge hlt
  obtain ⟨r, hr⟩ : ∃ r : Int, r = left - (N.own.length : Int) := ⟨_, rfl⟩; have hr0 : 0 ≤ r := by omega
  have hr1 : r ≤ 1048576 := by omega
  have hrn : ¬ r < 0 := by omega
  rw [← hr] at e; have HE := Lib.hid e; have HR := Lib.hid hr; clear e hr hlt
  go_enter Tryz.func46, Tryz.ntmps46
  go_wp2_with fail; refine (szP_any ov N.own _ _ h.1 (by omega) (by omega)).mono ?_; rw [HE.out]; rintro e w1 ⟨rfl, rfl⟩; have a4 := bA.c 4 rfl; go_wp2_with fail; refine (szRb_l rv N.rib r _ h.2.1 hr0 hr1).mono ?_; rintro e w2 ⟨q, rfl, hq, hb⟩; replace bA := bA.keep hb; replace h := h.keep hb; replace B0 := below_step B0 hb; have HQ := Lib.hid hq; clear hb hq a4
  by_cases hqn : q < 0
  ·go_wp2_with fail
   go_ret
   exact ⟨-1, rfl, fun q => by omega, fun _ => rfl, B0⟩
  ·have hq1 : q ≤ 1048576 := by have := HQ.out hqn; omega
   have hq0 : 0 ≤ q := by omega
   have a5 := bA.c 5 rfl; go_wp2_with fail; refine (szRb_l sv N.sent q _ h.2.2 hq0 hq1).mono ?_; rintro e w3 ⟨s, rfl, hs, hb⟩; replace B0 := below_step B0 hb; have HS := Lib.hid hs; clear hb hs a5
   by_cases hsn : s < 0
   ·go_wp2_with fail
    go_ret
    exact ⟨-1, rfl, fun q => by omega, fun _ => rfl, B0⟩
   ·go_wp2_with fail
    go_ret
    refine ⟨s, rfl, fun _ => ?_, fun q => by omega, B0⟩; have e1 := HS.out hsn; have e2 := HQ.out hqn; have e3 := HR.out; unfold wtN
    omega
theorem eqN_same (ov rv sv ov2 rv2 sv2 : Value) (x : Nd) (w : World) (h : RdN w ov rv sv x) (h2 : RdN w ov2 rv2 sv2 x) :
  Calls Tryz.prog 53 #[.agg #[.int .i64 x.an, ov, .int .i64 x.bw, .bool x.dr, rv, sv], .agg #[.int .i64 x.an, ov2, .int .i64 x.bw, .bool x.dr, rv2, sv2]] w fun e w' => e = .returned (.bool true) ∧ Below w.heap.size w w' := eqNd_same ov rv sv ov2 rv2 sv2 x w h h2
theorem szNS_l (v : Value) (L : List Nd) (left : Int) (w : World) (h : RdNS w v L) (hl0 : 0 ≤ left) (hl1 : left ≤ 1048576) :
  Calls Tryz.prog 17 #[v, .int .i64 left] w fun e w' => ∃ r : Int, e = .returned (.int .i64 r) ∧ (¬ r < 0 → r = left - (L.length : Nat) - (wtNS L : Nat)) ∧ (r < 0 → r = -1) ∧ Below w.heap.size w w' := by
 have hm := h.1; obtain ⟨a, c, rfl, hc⟩ := h.el; obtain ⟨n, hn⟩ : ∃ n, n = L.length := ⟨_, rfl⟩; rw [← hn] at hc hm ⊢; have HN := Lib.hid hn; clear h hn
 by_cases hbig : left - n < 0
 ·go_enter Tryz.func17, Tryz.ntmps17
  have hw1 : IntKind.i64.wrap (left - (n : Int)) = left - (n : Int) := wrap64_in _ (by omega) (by omega); go_wp2
  go_ret
  exact ⟨-1, rfl, fun h => by omega, fun _ => rfl, Below.refl _ _⟩
 ·have hnn : (n : Int) ≤ 1048576 := by omega
  have hw1 : IntKind.i64.wrap (left - (n : Int)) = left - (n : Int) := wrap64_in _ (by omega) (by omega)
  go_enter Tryz.func17, Tryz.ntmps17
  go_wp2
  go_loopw [1, 5] (fun q i wr => ∃ j : Nat, j ≤ n ∧ i = .int .i64 j ∧ (∃ l : Int, q = .int .i64 l ∧ 0 ≤ l ∧ l = left - (n : Int) - (wtNS (L.take j) : Nat)) ∧ Below w.heap.size w wr) (fun _ i _ => n - (intOf i).toNat)
  case atStart => exact ⟨0, Nat.zero_le _, rfl, ⟨_, rfl, by omega, by simp [wtNS]⟩, Below.refl _ _⟩
  case round =>
   obtain ⟨j, hj, rfl, ⟨l, rfl, hl0, hl⟩, hB⟩ := hrel; have HL := Lib.hid hl; have hl1 : l ≤ 1048576 := by omega
   clear hl
   by_cases hlt : j < n
   ·have hltI : (j : Int) < (n : Int) := by omega
    obtain ⟨b, o, rfl, hE⟩ := hc j hlt; obtain ⟨x, hx⟩ : ∃ x, L.getD j n0 = x := ⟨_, rfl⟩; rw [hx] at hE; obtain ⟨ov, rv, sv, hr, k0, k1, k2, k3, k4, k5⟩ := hE.keep hB; have HX := Lib.hid hx; have HCC := Lib.hid hc; clear hx hc hE; go_wp2_with fail; refine (szN_l ov rv sv x l _ hr hl0 hl1).mono ?_; rintro e w1 ⟨r, rfl, hr1, hr2, hb⟩; have hB2 := below_step hB hb; have HR1 := Lib.hid hr1; have HR2 := Lib.hid hr2; clear hb hB k0 k1 k2 k3 k4 k5 hr hr1 hr2
    by_cases hneg : r < 0
    ·go_wp2
     go_ret
     exact ⟨-1, rfl, fun h => by omega, fun _ => rfl, hB2⟩
    ·go_wp2
     go_roundw
     case rel =>
      refine ⟨j + 1, by omega, by go_num, ⟨r, rfl, by omega, ?_⟩, hB2⟩; have h1 := wtN_take (L := L) (j := j) (by rw [← HN.out]; exact hlt); rw [HX.out] at h1; have h2 := HR1.out hneg; have h3 := HL.out
      omega
     case measure => simp [intOf]; omega
   ·have hkn : j = n := by omega
    subst hkn; have hw : wtNS (L.take j) = wtNS L := by rw [List.take_of_length_le (by rw [HN.out]; exact Nat.le_refl _)]
    have HW := Lib.hid hw; clear hc hw; go_wp2
    go_ret
    refine ⟨l, rfl, fun _ => ?_, fun h => by omega, hB⟩; have h3 := HL.out; rw [HW.out] at h3
    omega
/-- element i of the cells xs is that, its slices lie in blocks from base on -/
def NX (xs : List Value) (w : World) (base i : Nat) (x : Nd) : Prop :=
 ∃ ov rv sv, Fresh base w (fun W => RdN W ov rv sv x) ∧ xs[i * 6]? = some (.int .i64 x.an) ∧ xs[i * 6 + 1]? = some (ov) ∧ xs[i * 6 + 2]? = some (.int .i64 x.bw) ∧ xs[i * 6 + 3]? = some (.bool x.dr) ∧ xs[i * 6 + 4]? = some (rv) ∧ xs[i * 6 + 5]? = some (sv)
def MadeN (w : World) (B n k : Nat) (L : List Nd) : Prop := ∃ xs : List Value, xs.length = n * 6 ∧ Bl w B xs ∧ ∀ i, i < k → NX xs w (B + 1) i (L.getD i n0)
theorem MadeN.keep {w w' : World} {B n k : Nat} {L : List Nd} (h : MadeN w B n k L) (hb : Below w.heap.size w w') : MadeN w' B n k L := by
 obtain ⟨xs, hl, hB, hx⟩ := h; refine ⟨xs, hl, hB.keep hb, fun i hi => ?_⟩; obtain ⟨ov, rv, sv, h1, h3⟩ := hx i hi
 exact ⟨ov, rv, sv, h1.agr (.of_below hb), h3⟩
theorem MadeN.cell {w : World} {B n k : Nat} {L : List Nd} (h : MadeN w B n k L) (j : Nat) (hj : j < n * 6) : ∃ x, w.cell? ⟨B, j, none⟩ = some x ∧ w.frozen? ⟨B, j, none⟩ = false := by
 obtain ⟨xs, hl, hB, hx⟩ := h
 exact ⟨_, hB.c j (List.getElem?_eq_getElem (by omega)), hB.f j (List.getElem?_eq_getElem (by omega))⟩
theorem MadeN.step {w : World} {B n j : Nat} {L : List Nd} (h : MadeN w B n j L) (hk : j < n) {ov rv sv : Value} {x : Nd} (hE : L.getD j n0 = x) (h1 : Fresh (B + 1) w (fun W => RdN W ov rv sv x)) :
  MadeN ((((((w.setCell ⟨B, j * 6, none⟩ (.int .i64 x.an)).setCell ⟨B, j * 6 + 1, none⟩ (ov)).setCell ⟨B, j * 6 + 2, none⟩ (.int .i64 x.bw)).setCell ⟨B, j * 6 + 3, none⟩ (.bool x.dr)).setCell ⟨B, j * 6 + 4, none⟩ (rv)).setCell ⟨B, j * 6 + 5, none⟩ (sv)) B n (j + 1) L := by
 obtain ⟨xs, hl, hB, hx⟩ := h; have ha : Agr (B + 1) w ((((((w.setCell ⟨B, j * 6, none⟩ (.int .i64 x.an)).setCell ⟨B, j * 6 + 1, none⟩ (ov)).setCell ⟨B, j * 6 + 2, none⟩ (.int .i64 x.bw)).setCell ⟨B, j * 6 + 3, none⟩ (.bool x.dr)).setCell ⟨B, j * 6 + 4, none⟩ (rv)).setCell ⟨B, j * 6 + 5, none⟩ (sv)) := ((((((Agr.refl _ _).trans (agr_set _ (Nat.lt_succ_self B))).trans (agr_set _ (Nat.lt_succ_self B))).trans (agr_set _ (Nat.lt_succ_self B))).trans (agr_set _ (Nat.lt_succ_self B))).trans (agr_set _ (Nat.lt_succ_self B))).trans (agr_set _ (Nat.lt_succ_self B)); refine ⟨((((((xs.set (j * 6) (.int .i64 x.an)).set (j * 6 + 1) (ov)).set (j * 6 + 2) (.int .i64 x.bw)).set (j * 6 + 3) (.bool x.dr)).set (j * 6 + 4) (rv)).set (j * 6 + 5) (sv)), by simpa using hl, ((((((hB.set (j * 6) (.int .i64 x.an)).set (j * 6 + 1) (ov)).set (j * 6 + 2) (.int .i64 x.bw)).set (j * 6 + 3) (.bool x.dr)).set (j * 6 + 4) (rv)).set (j * 6 + 5) (sv)), fun i hi => ?_⟩
 by_cases e : i = j
 ·have e' := e.symm
  subst e'; rw [hE]; refine ⟨ov, rv, sv, h1.agr ha, ?_, ?_, ?_, ?_, ?_, ?_⟩
  all_goals simp only [List.getElem?_set, List.length_set]
  all_goals simp (disch := omega) [hl]
  all_goals omega
 ·obtain ⟨v0, v1, v2, g1, c0, c1, c2, c3, c4, c5⟩ := hx i (by omega)
  refine ⟨v0, v1, v2, g1.agr ha, ?_, ?_, ?_, ?_, ?_, ?_⟩
  all_goals (repeat rw [List.getElem?_set_ne (by omega)])
  all_goals assumption
set_option maxHeartbeats 4000000 in
theorem eqNS_same (v u : Value) (L : List Nd) (w : World) (h1 : RdNS w v L) (h2 : RdNS w u L) :
  Calls Tryz.prog 23 #[v, u] w fun e w' => e = .returned (.bool true) ∧ Below w.heap.size w w' := by
 have hm1 := h1.1; obtain ⟨a, c, rfl, hc⟩ := h1.el; obtain ⟨a', c', rfl, hc'⟩ := h2.el; obtain ⟨n, hn⟩ : ∃ n, n = L.length := ⟨_, rfl⟩; rw [← hn] at hc hc' hm1 ⊢; have HN := Lib.hid hn; clear hn h1 h2; have hnn : ((n : Int) != (n : Int)) = false := by simp
 go_enter Tryz.func23, Tryz.ntmps23
 go_wp2
 go_loopw [5] (fun i wr => ∃ j : Nat, j ≤ n ∧ i = .int .i64 j ∧ Below w.heap.size w wr) (fun i _ => n - (intOf i).toNat)
 case atStart => exact ⟨0, Nat.zero_le _, rfl, Below.refl _ _⟩
 case round =>
  obtain ⟨j, hk, rfl, hB⟩ := hrel
  by_cases hlt : j < n
  ·have hltI : (j : Int) < (n : Int) := by omega
   obtain ⟨b, o, rfl, hE⟩ := hc j hlt; obtain ⟨b', o', rfl, hE'⟩ := hc' j hlt; obtain ⟨x, hx⟩ : ∃ x, L.getD j n0 = x := ⟨_, rfl⟩; rw [hx] at hE hE'; obtain ⟨ov, rv, sv, hr, k0, k1, k2, k3, k4, k5⟩ := hE.keep hB; obtain ⟨ov2, rv2, sv2, hr2, m0, m1, m2, m3, m4, m5⟩ := hE'.keep hB; clear hx hc hc' hE hE'; go_wp2
   go_region_held3 (fun w' => Over wr w' ∧ w'.cell? ⟨b, o + j * 6, none⟩ = some (.int .i64 x.an) ∧ w'.cell? ⟨b, o + j * 6 + 1, none⟩ = some (ov) ∧ w'.cell? ⟨b, o + j * 6 + 2, none⟩ = some (.int .i64 x.bw) ∧ w'.cell? ⟨b, o + j * 6 + 3, none⟩ = some (.bool x.dr) ∧ w'.cell? ⟨b, o + j * 6 + 4, none⟩ = some (rv) ∧ w'.cell? ⟨b, o + j * 6 + 5, none⟩ = some (sv) ∧ w'.cell? ⟨b', o' + j * 6, none⟩ = some (.int .i64 x.an) ∧ w'.cell? ⟨b', o' + j * 6 + 1, none⟩ = some (ov2) ∧ w'.cell? ⟨b', o' + j * 6 + 2, none⟩ = some (.int .i64 x.bw) ∧ w'.cell? ⟨b', o' + j * 6 + 3, none⟩ = some (.bool x.dr) ∧ w'.cell? ⟨b', o' + j * 6 + 4, none⟩ = some (rv2) ∧ w'.cell? ⟨b', o' + j * 6 + 5, none⟩ = some (sv2))
    ((first | exact ⟨over_drew _, k0, k1, k2, k3, k4, k5, m0, m1, m2, m3, m4, m5⟩ | exact (fun o => ⟨o, over_cell o (World.block_lt_of_cell? wr _ k0) k0, over_cell o (World.block_lt_of_cell? wr _ k1) k1, over_cell o (World.block_lt_of_cell? wr _ k2) k2, over_cell o (World.block_lt_of_cell? wr _ k3) k3, over_cell o (World.block_lt_of_cell? wr _ k4) k4, over_cell o (World.block_lt_of_cell? wr _ k5) k5, over_cell o (World.block_lt_of_cell? wr _ m0) m0, over_cell o (World.block_lt_of_cell? wr _ m1) m1, over_cell o (World.block_lt_of_cell? wr _ m2) m2, over_cell o (World.block_lt_of_cell? wr _ m3) m3, over_cell o (World.block_lt_of_cell? wr _ m4) m4, over_cell o (World.block_lt_of_cell? wr _ m5) m5⟩) (over_step (by assumption : Over wr _ ∧ _).1 (by assumption))))
    ((first | (go_at_call 53; refine (eqN_same ov rv sv ov2 rv2 sv2 x _ (hr.keep (‹Over wr _ ∧ _›).1) (hr2.keep (‹Over wr _ ∧ _›).1)).mono ?_; rintro e w6 ⟨rfl, hbb⟩)))
   rename_i hH
   replace hB := below_step hB hH.1; clear hH hbb k0 k1 k2 k3 k4 k5 m0 m1 m2 m3 m4 m5 hr hr2; go_wp2
   go_roundw
   case rel => exact ⟨j + 1, by omega, by go_num, hB⟩
   case measure => simp [intOf]; omega
  ·have hkn : j = n := by omega
   clear hc hc'; go_wp2
   go_ret
   exact ⟨rfl, hB⟩
end Go.Proofs.YtkodnipmogdgkaaGreat
namespace Go.Proofs.YtkodnipmogdgkaaGreat
open Go.ChangeShapes Go.WideShapes Go.ChangeAt Go.RowKit Go.BigFrame Go.Joins
set_option linter.unusedVariables false
set_option maxRecDepth 100000
set_option linter.unusedSimpArgs false
set_option maxRecDepth 100000

/-- a link -/
structure Lk where
 a : Int
 ai : Int
 b : Int
 bi : Int
 up : Bool
 ab : List Mg
 ba : List Mg
def l0 : Lk := ⟨0, 0, 0, 0, false, [], []⟩
instance : Inhabited Lk := ⟨l0⟩
def wtL (x : Lk) : Nat := (x.ab.length + wtMS x.ab) + (x.ba.length + wtMS x.ba)
def RdL (w : World) (av bv : Value) (x : Lk) : Prop := RdMS w av x.ab ∧ RdMS w bv x.ba
theorem RdL.keep {w w' : World} {av bv : Value} {x : Lk} (h : RdL w av bv x) (hb : Below w.heap.size w w') : RdL w' av bv x := by
 obtain ⟨h0, h1⟩ := h
 exact ⟨h0.keep hb, h1.keep hb⟩
/-- the cells of block b from o on hold it -/
def AtL (w : World) (b o : Nat) (x : Lk) : Prop :=
 ∃ av bv, RdL w av bv x ∧ w.cell? ⟨b, o, none⟩ = some (.int .i64 x.a) ∧ w.cell? ⟨b, o + 1, none⟩ = some (.int .i64 x.ai) ∧ w.cell? ⟨b, o + 2, none⟩ = some (.int .i64 x.b) ∧ w.cell? ⟨b, o + 3, none⟩ = some (.int .i64 x.bi) ∧ w.cell? ⟨b, o + 4, none⟩ = some (.bool x.up) ∧ w.cell? ⟨b, o + 5, none⟩ = some (av) ∧ w.cell? ⟨b, o + 6, none⟩ = some (bv)
theorem AtL.keep {w w' : World} {b o : Nat} {x : Lk} (h : AtL w b o x) (hb : Below w.heap.size w w') : AtL w' b o x := by
 obtain ⟨av, bv, hr, k0, k1, k2, k3, k4, k5, k6⟩ := h
 exact ⟨av, bv, hr.keep hb, cell_keep hb (World.block_lt_of_cell? w _ k0) k0, cell_keep hb (World.block_lt_of_cell? w _ k1) k1, cell_keep hb (World.block_lt_of_cell? w _ k2) k2, cell_keep hb (World.block_lt_of_cell? w _ k3) k3, cell_keep hb (World.block_lt_of_cell? w _ k4) k4, cell_keep hb (World.block_lt_of_cell? w _ k5) k5, cell_keep hb (World.block_lt_of_cell? w _ k6) k6⟩
def RdLS (w : World) (v : Value) (L : List Lk) : Prop :=
 L.length ≤ 9223372036854775807 ∧
 ((∃ a c, v = .slice a 0 c ∧ L = [] ∧ (a = none → c = 0)) ∨
  ∃ b o c, v = .slice (some ⟨b, o, none⟩) L.length c ∧ 0 < L.length ∧ ∀ i, i < L.length → AtL w b (o + i * 7) (L.getD i l0))
theorem RdLS.keep {w w' : World} {v : Value} {L : List Lk} (h : RdLS w v L) (hb : Below w.heap.size w w') : RdLS w' v L := by
 obtain ⟨h2, h3⟩ := h; refine ⟨h2, ?_⟩
 rcases h3 with h3 | ⟨b, o, c, hv, hp, hc⟩
 ·exact .inl h3
 ·exact .inr ⟨b, o, c, hv, hp, fun i hi => (hc i hi).keep hb⟩
theorem RdLS.len {w : World} {v : Value} {L : List Lk} (h : RdLS w v L) : ∃ a c, v = .slice a L.length c := by
 rcases h.2 with ⟨a, c, rfl, rfl, hac⟩ | ⟨b, o, c, rfl, _⟩
 ·exact ⟨a, c, rfl⟩
 ·exact ⟨_, c, rfl⟩
theorem RdLS.el {w : World} {v : Value} {L : List Lk} (h : RdLS w v L) : ∃ a c, v = .slice a L.length c ∧ ∀ i, i < L.length → ∃ b o, a = some ⟨b, o, none⟩ ∧ AtL w b (o + i * 7) (L.getD i l0) := by
 rcases h.2 with ⟨a, c, rfl, rfl, -⟩ | ⟨b, o, c, rfl, -, hc⟩
 ·exact ⟨a, c, rfl, fun i hi => absurd hi (by simp)⟩
 ·exact ⟨_, c, rfl, fun i hi => ⟨b, o, rfl, hc i hi⟩⟩
theorem RdLS.nil (w : World) : RdLS w (.slice none 0 0) [] := ⟨by simp, .inl ⟨none, 0, rfl, rfl, fun _ => rfl⟩⟩
def wtLS (L : List Lk) : Nat := (L.map wtL).sum
theorem wtL_take {L : List Lk} {j : Nat} (h : j < L.length) : wtLS (L.take (j + 1)) = wtLS (L.take j) + wtL (L.getD j l0) := by
 unfold wtLS; rw [List.take_succ_eq_append_getElem h, List.map_append, List.sum_append]; have e : L.getD j l0 = L[j] := by simp [List.getD, h]
 rw [e]
 simp
theorem wtL_le (L : List Lk) (j : Nat) : wtLS (L.take j) ≤ wtLS L := by
 conv => rhs; rw [← List.take_append_drop j L]
 unfold wtLS; rw [List.map_append, List.sum_append]
 omega
theorem wtL_at {L : List Lk} {j : Nat} (h : j < L.length) : wtL (L.getD j l0) ≤ wtLS L := by
 have h1 := wtL_take h; have h2 := wtL_le L (j + 1)
 omega
section
variable {H : Type} {enc : TypeId × Value → H} {W : World} {base : Nat} {d : DataW H} {p : List MemPlace} {v : Value}
theorem cellsMS1 : Tryz.prog.cellsOf 114 = 1 := by kernel_rfl
theorem L_trod {fuel : Nat} {c0 c1 c2 c3 c4 c5 c6 : Value} {y : DataW H × List MemPlace} (h : DataW.trod enc Tryz.prog W 0 (fun _ => true) true fuel 116 [c0, c1, c2, c3, c4, c5, c6] = some y) :
  ∃ E : Lk, c0 = .int .i64 E.a ∧ c1 = .int .i64 E.ai ∧ c2 = .int .i64 E.b ∧ c3 = .int .i64 E.bi ∧ c4 = .bool E.up ∧ RdL W c5 c6 E := by
 obtain ⟨ys, n, _, hx, hl, hlen, hf⟩ := DataW.trod_struct Tryz.underlying116 h; obtain ⟨y0, y1, y2, y3, y4, y5, y6, rfl⟩ := list7 hlen; have h0 := hf 0 _ rfl; have h1 := hf 1 _ rfl; have h2 := hf 2 _ rfl; have h3 := hf 3 _ rfl; have h4 := hf 4 _ rfl; have h5 := hf 5 _ rfl; have h6 := hf 6 _ rfl; clear hf
 simp [cellsI1e, cellsMS1, cellsB1n] at h0 h1 h2 h3 h4 h5 h6
 obtain ⟨x0, e0, -, -⟩ := DataW.trod_int Tryz.underlying3 h0; obtain ⟨x1, e1, -, -⟩ := DataW.trod_int Tryz.underlying3 h1; obtain ⟨x2, e2, -, -⟩ := DataW.trod_int Tryz.underlying3 h2; obtain ⟨x3, e3, -, -⟩ := DataW.trod_int Tryz.underlying3 h3; obtain ⟨x4, e4, -⟩ := DataW.trod_bool Tryz.underlying4 h4; obtain ⟨l5, g5⟩ := rdMS_trod h5; obtain ⟨l6, g6⟩ := rdMS_trod h6
 simp at e0 e1 e2 e3 e4
 exact ⟨⟨x0, x1, x2, x3, x4, l5, l6⟩, e0, e1, e2, e3, e4, g5, g6⟩
theorem cellsLS : Tryz.prog.cellsOf 116 = 7 := by kernel_rfl
theorem listL {α : Type} {xs : List α} (h : xs.length = 7) : ∃ c0 c1 c2 c3 c4 c5 c6, xs = [c0, c1, c2, c3, c4, c5, c6] := by
 match xs, h with
 | [c0, c1, c2, c3, c4, c5, c6], _ => exact ⟨c0, c1, c2, c3, c4, c5, c6, rfl⟩
theorem rdLS_trod {fuel : Nat} {y : DataW H × List MemPlace} (h : DataW.trod enc Tryz.prog W 0 (fun _ => true) true fuel 23 [v] = some y) : ∃ L, RdLS W v L := by
 rcases Deep.open_slice Tryz.underlying23 h with ⟨hcs, _⟩ | ⟨a, len, cap, m, n, D, Pl, hcs, _, hl, hm, hmm, _, hx⟩
 ·obtain ⟨rfl, -⟩ := List.cons.inj hcs
  exact ⟨[], RdLS.nil W⟩
 ·obtain ⟨rfl, -⟩ := List.cons.inj hcs
  have hlm : len ≤ m := by rw [hmm]; split <;> omega
  obtain ⟨b, off, spot⟩ := a
  by_cases h0 : len = 0
  ·subst h0
   exact ⟨[], by simp, .inl ⟨_, cap, rfl, rfl, fun h => by cases h⟩⟩
  ·have hspot : spot = none := by
    obtain ⟨cs', h1, _⟩ := hx 0 (by omega); rw [cellsLS] at h1; obtain ⟨_, hlen, hcell⟩ := World.cells?_some h1; have h2 := hcell 0 (by omega); rw [List.getElem?_eq_getElem (by omega)] at h2
    simpa [Addr.add] using World.cell?_spot h2
   subst hspot; have hadd : ∀ o k, (⟨b, o, none⟩ : Addr).add k = ⟨b, o + k, none⟩ := fun o k => by unfold Addr.add; split <;> simp_all
   have hex : ∀ i, i < len → ∃ E : Lk, AtL W b (off + i * 7) E := by
    intro i hi; obtain ⟨cs', h1, h2⟩ := hx i (by omega); rw [cellsLS] at h1; obtain ⟨_, hlen, hcell⟩ := World.cells?_some h1; obtain ⟨x0, x1, x2, x3, x4, x5, x6, rfl⟩ := listL hlen; obtain ⟨E, rfl, rfl, rfl, rfl, rfl, hr⟩ := L_trod h2; have e0 := hcell 0 (by omega); have e1 := hcell 1 (by omega); have e2 := hcell 2 (by omega); have e3 := hcell 3 (by omega); have e4 := hcell 4 (by omega); have e5 := hcell 5 (by omega); have e6 := hcell 6 (by omega); simp only [hadd] at e0 e1 e2 e3 e4 e5 e6
    exact ⟨E, x5, x6, hr, e0, e1, e2, e3, e4, e5, e6⟩
   obtain ⟨f, hf⟩ := Deep.choose_lt hex; refine ⟨(List.range len).map f, by simp; unfold maxLen at hm; omega, .inr ⟨b, off, cap, by simp, by simp; omega, fun i hi => ?_⟩⟩; have hi : i < len := by simpa using hi
   rw [show ((List.range len).map f).getD i l0 = f i by simp [List.getD, hi]]
   exact hf i hi
end
set_option maxHeartbeats 1000000 in
theorem szL_l (av bv : Value) (x : Lk) (left : Int) (w : World) (h : RdL w av bv x) (hl0 : 0 ≤ left) (hl1 : left ≤ 1048576) :
  Calls Tryz.prog 72 #[.agg #[.int .i64 x.a, .int .i64 x.ai, .int .i64 x.b, .int .i64 x.bi, .bool x.up, av, bv], .int .i64 left] w fun e w' => ∃ r : Int, e = .returned (.int .i64 r) ∧ (¬ r < 0 → r = left - (wtL x : Nat)) ∧ (r < 0 → r = -1) ∧ Below w.heap.size w w' := by
 obtain ⟨bA, B0, z⟩ := one w [.int .i64 x.a, .int .i64 x.ai, .int .i64 x.b, .int .i64 x.bi, .bool x.up, av, bv] 116; replace h := h.keep B0; clear z; have a0 := bA.c 5 rfl
 go_enter Tryz.func72, Tryz.ntmps72
 go_wp2_with fail; clear a0; refine (szMS_l av x.ab left _ (h.1) hl0 hl1).mono ?_; rintro e w1 ⟨r0, rfl, hr0, hm0, hb⟩; replace bA := bA.keep hb; replace h := h.keep hb; replace B0 := below_step B0 hb; have HR0 := Lib.hid hr0; clear hb hr0 hm0
 by_cases hn0 : r0 < 0
 ·go_wp2
  go_ret
  exact ⟨-1, rfl, fun h => by omega, fun _ => rfl, B0⟩
 ·have hu0 : r0 ≤ 1048576 := by have := HR0.out hn0; omega
  have a1 := bA.c 6 rfl; go_wp2_with fail; clear a1; refine (szMS_l bv x.ba r0 _ (h.2) (by omega) (by omega)).mono ?_; rintro e w2 ⟨r1, rfl, hr1, hm1, hb⟩; replace bA := bA.keep hb; replace h := h.keep hb; replace B0 := below_step B0 hb; have HR1 := Lib.hid hr1; clear hb hr1 hm1
  by_cases hn1 : r1 < 0
  ·go_wp2
   go_ret
   exact ⟨-1, rfl, fun h => by omega, fun _ => rfl, B0⟩
  ·go_wp2
   go_ret
   refine ⟨r1, rfl, fun _ => ?_, fun q => absurd q (by omega), B0⟩; have e0 := HR0.out hn0; have e1 := HR1.out (by omega); unfold wtL
   omega
theorem eqL_same (av bv av2 bv2 : Value) (x : Lk) (w : World) (h : RdL w av bv x) (h2 : RdL w av2 bv2 x) :
  Calls Tryz.prog 82 #[.agg #[.int .i64 x.a, .int .i64 x.ai, .int .i64 x.b, .int .i64 x.bi, .bool x.up, av, bv], .agg #[.int .i64 x.a, .int .i64 x.ai, .int .i64 x.b, .int .i64 x.bi, .bool x.up, av2, bv2]] w fun e w' => e = .returned (.bool true) ∧ Below w.heap.size w w' := by
 obtain ⟨bA, bB, B1, z⟩ := two w [.int .i64 x.a, .int .i64 x.ai, .int .i64 x.b, .int .i64 x.bi, .bool x.up, av, bv] [.int .i64 x.a, .int .i64 x.ai, .int .i64 x.b, .int .i64 x.bi, .bool x.up, av2, bv2] 70 70; replace h := h.keep B1; replace h2 := h2.keep B1; clear z; have q0 : (x.a != x.a) = false := by simp
 have q1 : (x.ai != x.ai) = false := by simp
 have q2 : (x.b != x.b) = false := by simp
 have q3 : (x.bi != x.bi) = false := by simp
 have q4 : (x.up != x.up) = false := by simp
 have a0 := bA.c 0 rfl; have b0 := bB.c 0 rfl; have a1 := bA.c 1 rfl; have b1 := bB.c 1 rfl; have a2 := bA.c 2 rfl; have b2 := bB.c 2 rfl; have a3 := bA.c 3 rfl; have b3 := bB.c 3 rfl; have a4 := bA.c 4 rfl; have b4 := bB.c 4 rfl; have a5 := bA.c 5 rfl; have b5 := bB.c 5 rfl
 go_enter Tryz.func82, Tryz.ntmps82
 go_wp2_with fail; refine (eqMS_same _ _ x.ab _ (h.1) (h2.1)).mono ?_; rintro e w1 ⟨rfl, hb⟩; replace bA := bA.keep hb; replace bB := bB.keep hb; replace h := h.keep hb; replace h2 := h2.keep hb; replace B1 := below_step B1 hb; clear hb a0 b0 a1 b1 a2 b2 a3 b3 a4 b4 a5 b5; have a6 := bA.c 6 rfl; have b6 := bB.c 6 rfl; go_wp2_with fail; refine (eqMS_same _ _ x.ba _ (h.2) (h2.2)).mono ?_; rintro e w2 ⟨rfl, hb⟩; replace bA := bA.keep hb; replace bB := bB.keep hb; replace h := h.keep hb; replace h2 := h2.keep hb; replace B1 := below_step B1 hb; clear hb a6 b6; go_wp2
 go_ret
 exact ⟨rfl, B1⟩
theorem szLS_l (v : Value) (L : List Lk) (left : Int) (w : World) (h : RdLS w v L) (hl0 : 0 ≤ left) (hl1 : left ≤ 1048576) :
  Calls Tryz.prog 31 #[v, .int .i64 left] w fun e w' => ∃ r : Int, e = .returned (.int .i64 r) ∧ (¬ r < 0 → r = left - (L.length : Nat) - (wtLS L : Nat)) ∧ (r < 0 → r = -1) ∧ Below w.heap.size w w' := by
 have hm := h.1; obtain ⟨a, c, rfl, hc⟩ := h.el; obtain ⟨n, hn⟩ : ∃ n, n = L.length := ⟨_, rfl⟩; rw [← hn] at hc hm ⊢; have HN := Lib.hid hn; clear h hn
 by_cases hbig : left - n < 0
 ·go_enter Tryz.func31, Tryz.ntmps31
  have hw1 : IntKind.i64.wrap (left - (n : Int)) = left - (n : Int) := wrap64_in _ (by omega) (by omega); go_wp2
  go_ret
  exact ⟨-1, rfl, fun h => by omega, fun _ => rfl, Below.refl _ _⟩
 ·have hnn : (n : Int) ≤ 1048576 := by omega
  have hw1 : IntKind.i64.wrap (left - (n : Int)) = left - (n : Int) := wrap64_in _ (by omega) (by omega)
  go_enter Tryz.func31, Tryz.ntmps31
  go_wp2
  go_loopw [1, 5] (fun q i wr => ∃ j : Nat, j ≤ n ∧ i = .int .i64 j ∧ (∃ l : Int, q = .int .i64 l ∧ 0 ≤ l ∧ l = left - (n : Int) - (wtLS (L.take j) : Nat)) ∧ Below w.heap.size w wr) (fun _ i _ => n - (intOf i).toNat)
  case atStart => exact ⟨0, Nat.zero_le _, rfl, ⟨_, rfl, by omega, by simp [wtLS]⟩, Below.refl _ _⟩
  case round =>
   obtain ⟨j, hj, rfl, ⟨l, rfl, hl0, hl⟩, hB⟩ := hrel; have HL := Lib.hid hl; have hl1 : l ≤ 1048576 := by omega
   clear hl
   by_cases hlt : j < n
   ·have hltI : (j : Int) < (n : Int) := by omega
    obtain ⟨b, o, rfl, hE⟩ := hc j hlt; obtain ⟨x, hx⟩ : ∃ x, L.getD j l0 = x := ⟨_, rfl⟩; rw [hx] at hE; obtain ⟨av, bv, hr, k0, k1, k2, k3, k4, k5, k6⟩ := hE.keep hB; have HX := Lib.hid hx; have HCC := Lib.hid hc; clear hx hc hE; go_wp2_with fail; refine (szL_l av bv x l _ hr hl0 hl1).mono ?_; rintro e w1 ⟨r, rfl, hr1, hr2, hb⟩; have hB2 := below_step hB hb; have HR1 := Lib.hid hr1; have HR2 := Lib.hid hr2; clear hb hB k0 k1 k2 k3 k4 k5 k6 hr hr1 hr2
    by_cases hneg : r < 0
    ·go_wp2
     go_ret
     exact ⟨-1, rfl, fun h => by omega, fun _ => rfl, hB2⟩
    ·go_wp2
     go_roundw
     case rel =>
      refine ⟨j + 1, by omega, by go_num, ⟨r, rfl, by omega, ?_⟩, hB2⟩; have h1 := wtL_take (L := L) (j := j) (by rw [← HN.out]; exact hlt); rw [HX.out] at h1; have h2 := HR1.out hneg; have h3 := HL.out
      omega
     case measure => simp [intOf]; omega
   ·have hkn : j = n := by omega
    subst hkn; have hw : wtLS (L.take j) = wtLS L := by rw [List.take_of_length_le (by rw [HN.out]; exact Nat.le_refl _)]
    have HW := Lib.hid hw; clear hc hw; go_wp2
    go_ret
    refine ⟨l, rfl, fun _ => ?_, fun h => by omega, hB⟩; have h3 := HL.out; rw [HW.out] at h3
    omega
/-- element i of the cells xs is that, its slices lie in blocks from base on -/
def LX (xs : List Value) (w : World) (base i : Nat) (x : Lk) : Prop :=
 ∃ av bv, Fresh base w (fun W => RdL W av bv x) ∧ xs[i * 7]? = some (.int .i64 x.a) ∧ xs[i * 7 + 1]? = some (.int .i64 x.ai) ∧ xs[i * 7 + 2]? = some (.int .i64 x.b) ∧ xs[i * 7 + 3]? = some (.int .i64 x.bi) ∧ xs[i * 7 + 4]? = some (.bool x.up) ∧ xs[i * 7 + 5]? = some (av) ∧ xs[i * 7 + 6]? = some (bv)
def MadeL (w : World) (B n k : Nat) (L : List Lk) : Prop := ∃ xs : List Value, xs.length = n * 7 ∧ Bl w B xs ∧ ∀ i, i < k → LX xs w (B + 1) i (L.getD i l0)
theorem MadeL.keep {w w' : World} {B n k : Nat} {L : List Lk} (h : MadeL w B n k L) (hb : Below w.heap.size w w') : MadeL w' B n k L := by
 obtain ⟨xs, hl, hB, hx⟩ := h; refine ⟨xs, hl, hB.keep hb, fun i hi => ?_⟩; obtain ⟨av, bv, h1, h3⟩ := hx i hi
 exact ⟨av, bv, h1.agr (.of_below hb), h3⟩
theorem MadeL.cell {w : World} {B n k : Nat} {L : List Lk} (h : MadeL w B n k L) (j : Nat) (hj : j < n * 7) : ∃ x, w.cell? ⟨B, j, none⟩ = some x ∧ w.frozen? ⟨B, j, none⟩ = false := by
 obtain ⟨xs, hl, hB, hx⟩ := h
 exact ⟨_, hB.c j (List.getElem?_eq_getElem (by omega)), hB.f j (List.getElem?_eq_getElem (by omega))⟩
theorem MadeL.step {w : World} {B n j : Nat} {L : List Lk} (h : MadeL w B n j L) (hk : j < n) {av bv : Value} {x : Lk} (hE : L.getD j l0 = x) (h1 : Fresh (B + 1) w (fun W => RdL W av bv x)) :
  MadeL (((((((w.setCell ⟨B, j * 7, none⟩ (.int .i64 x.a)).setCell ⟨B, j * 7 + 1, none⟩ (.int .i64 x.ai)).setCell ⟨B, j * 7 + 2, none⟩ (.int .i64 x.b)).setCell ⟨B, j * 7 + 3, none⟩ (.int .i64 x.bi)).setCell ⟨B, j * 7 + 4, none⟩ (.bool x.up)).setCell ⟨B, j * 7 + 5, none⟩ (av)).setCell ⟨B, j * 7 + 6, none⟩ (bv)) B n (j + 1) L := by
 obtain ⟨xs, hl, hB, hx⟩ := h; have ha : Agr (B + 1) w (((((((w.setCell ⟨B, j * 7, none⟩ (.int .i64 x.a)).setCell ⟨B, j * 7 + 1, none⟩ (.int .i64 x.ai)).setCell ⟨B, j * 7 + 2, none⟩ (.int .i64 x.b)).setCell ⟨B, j * 7 + 3, none⟩ (.int .i64 x.bi)).setCell ⟨B, j * 7 + 4, none⟩ (.bool x.up)).setCell ⟨B, j * 7 + 5, none⟩ (av)).setCell ⟨B, j * 7 + 6, none⟩ (bv)) := (((((((Agr.refl _ _).trans (agr_set _ (Nat.lt_succ_self B))).trans (agr_set _ (Nat.lt_succ_self B))).trans (agr_set _ (Nat.lt_succ_self B))).trans (agr_set _ (Nat.lt_succ_self B))).trans (agr_set _ (Nat.lt_succ_self B))).trans (agr_set _ (Nat.lt_succ_self B))).trans (agr_set _ (Nat.lt_succ_self B)); refine ⟨(((((((xs.set (j * 7) (.int .i64 x.a)).set (j * 7 + 1) (.int .i64 x.ai)).set (j * 7 + 2) (.int .i64 x.b)).set (j * 7 + 3) (.int .i64 x.bi)).set (j * 7 + 4) (.bool x.up)).set (j * 7 + 5) (av)).set (j * 7 + 6) (bv)), by simpa using hl, (((((((hB.set (j * 7) (.int .i64 x.a)).set (j * 7 + 1) (.int .i64 x.ai)).set (j * 7 + 2) (.int .i64 x.b)).set (j * 7 + 3) (.int .i64 x.bi)).set (j * 7 + 4) (.bool x.up)).set (j * 7 + 5) (av)).set (j * 7 + 6) (bv)), fun i hi => ?_⟩
 by_cases e : i = j
 ·have e' := e.symm
  subst e'; rw [hE]; refine ⟨av, bv, h1.agr ha, ?_, ?_, ?_, ?_, ?_, ?_, ?_⟩
  all_goals simp only [List.getElem?_set, List.length_set]
  all_goals simp (disch := omega) [hl]
  all_goals omega
 ·obtain ⟨v0, v1, g1, c0, c1, c2, c3, c4, c5, c6⟩ := hx i (by omega)
  refine ⟨v0, v1, g1.agr ha, ?_, ?_, ?_, ?_, ?_, ?_, ?_⟩
  all_goals (repeat rw [List.getElem?_set_ne (by omega)])
  all_goals assumption
set_option maxHeartbeats 4000000 in
theorem eqLS_same (v u : Value) (L : List Lk) (w : World) (h1 : RdLS w v L) (h2 : RdLS w u L) :
  Calls Tryz.prog 38 #[v, u] w fun e w' => e = .returned (.bool true) ∧ Below w.heap.size w w' := by
 have hm1 := h1.1; obtain ⟨a, c, rfl, hc⟩ := h1.el; obtain ⟨a', c', rfl, hc'⟩ := h2.el; obtain ⟨n, hn⟩ : ∃ n, n = L.length := ⟨_, rfl⟩; rw [← hn] at hc hc' hm1 ⊢; have HN := Lib.hid hn; clear hn h1 h2; have hnn : ((n : Int) != (n : Int)) = false := by simp
 go_enter Tryz.func38, Tryz.ntmps38
 go_wp2
 go_loopw [5] (fun i wr => ∃ j : Nat, j ≤ n ∧ i = .int .i64 j ∧ Below w.heap.size w wr) (fun i _ => n - (intOf i).toNat)
 case atStart => exact ⟨0, Nat.zero_le _, rfl, Below.refl _ _⟩
 case round =>
  obtain ⟨j, hk, rfl, hB⟩ := hrel
  by_cases hlt : j < n
  ·have hltI : (j : Int) < (n : Int) := by omega
   obtain ⟨b, o, rfl, hE⟩ := hc j hlt; obtain ⟨b', o', rfl, hE'⟩ := hc' j hlt; obtain ⟨x, hx⟩ : ∃ x, L.getD j l0 = x := ⟨_, rfl⟩; rw [hx] at hE hE'; obtain ⟨av, bv, hr, k0, k1, k2, k3, k4, k5, k6⟩ := hE.keep hB; obtain ⟨av2, bv2, hr2, m0, m1, m2, m3, m4, m5, m6⟩ := hE'.keep hB; clear hx hc hc' hE hE'; go_wp2
   go_region_held3 (fun w' => Over wr w' ∧ w'.cell? ⟨b, o + j * 7, none⟩ = some (.int .i64 x.a) ∧ w'.cell? ⟨b, o + j * 7 + 1, none⟩ = some (.int .i64 x.ai) ∧ w'.cell? ⟨b, o + j * 7 + 2, none⟩ = some (.int .i64 x.b) ∧ w'.cell? ⟨b, o + j * 7 + 3, none⟩ = some (.int .i64 x.bi) ∧ w'.cell? ⟨b, o + j * 7 + 4, none⟩ = some (.bool x.up) ∧ w'.cell? ⟨b, o + j * 7 + 5, none⟩ = some (av) ∧ w'.cell? ⟨b, o + j * 7 + 6, none⟩ = some (bv) ∧ w'.cell? ⟨b', o' + j * 7, none⟩ = some (.int .i64 x.a) ∧ w'.cell? ⟨b', o' + j * 7 + 1, none⟩ = some (.int .i64 x.ai) ∧ w'.cell? ⟨b', o' + j * 7 + 2, none⟩ = some (.int .i64 x.b) ∧ w'.cell? ⟨b', o' + j * 7 + 3, none⟩ = some (.int .i64 x.bi) ∧ w'.cell? ⟨b', o' + j * 7 + 4, none⟩ = some (.bool x.up) ∧ w'.cell? ⟨b', o' + j * 7 + 5, none⟩ = some (av2) ∧ w'.cell? ⟨b', o' + j * 7 + 6, none⟩ = some (bv2))
    ((first | exact ⟨over_drew _, k0, k1, k2, k3, k4, k5, k6, m0, m1, m2, m3, m4, m5, m6⟩ | exact (fun o => ⟨o, over_cell o (World.block_lt_of_cell? wr _ k0) k0, over_cell o (World.block_lt_of_cell? wr _ k1) k1, over_cell o (World.block_lt_of_cell? wr _ k2) k2, over_cell o (World.block_lt_of_cell? wr _ k3) k3, over_cell o (World.block_lt_of_cell? wr _ k4) k4, over_cell o (World.block_lt_of_cell? wr _ k5) k5, over_cell o (World.block_lt_of_cell? wr _ k6) k6, over_cell o (World.block_lt_of_cell? wr _ m0) m0, over_cell o (World.block_lt_of_cell? wr _ m1) m1, over_cell o (World.block_lt_of_cell? wr _ m2) m2, over_cell o (World.block_lt_of_cell? wr _ m3) m3, over_cell o (World.block_lt_of_cell? wr _ m4) m4, over_cell o (World.block_lt_of_cell? wr _ m5) m5, over_cell o (World.block_lt_of_cell? wr _ m6) m6⟩) (over_step (by assumption : Over wr _ ∧ _).1 (by assumption))))
    ((first | (go_at_call 82; refine (eqL_same av bv av2 bv2 x _ (hr.keep (‹Over wr _ ∧ _›).1) (hr2.keep (‹Over wr _ ∧ _›).1)).mono ?_; rintro e w6 ⟨rfl, hbb⟩)))
   rename_i hH
   replace hB := below_step hB hH.1; clear hH hbb k0 k1 k2 k3 k4 k5 k6 m0 m1 m2 m3 m4 m5 m6 hr hr2; go_wp2
   go_roundw
   case rel => exact ⟨j + 1, by omega, by go_num, hB⟩
   case measure => simp [intOf]; omega
  ·have hkn : j = n := by omega
   clear hc hc'; go_wp2
   go_ret
   exact ⟨rfl, hB⟩
end Go.Proofs.YtkodnipmogdgkaaGreat
namespace Go.Proofs.YtkodnipmogdgkaaGreat
open Go.ChangeShapes Go.WideShapes Go.ChangeAt Go.RowKit Go.BigFrame Go.Joins
set_option linter.unusedVariables false
set_option maxRecDepth 100000
set_option linter.unusedSimpArgs false
set_option maxRecDepth 100000

/-- a fabric -/
structure Fb where
 nodes : List Nd
 links : List Lk
 width : Int
def wtF (x : Fb) : Nat := (x.nodes.length + wtNS x.nodes) + (x.links.length + wtLS x.links)
def RdF (w : World) (nv lv : Value) (x : Fb) : Prop := RdNS w nv x.nodes ∧ RdLS w lv x.links
theorem RdF.keep {w w' : World} {nv lv : Value} {x : Fb} (h : RdF w nv lv x) (hb : Below w.heap.size w w') : RdF w' nv lv x := ⟨h.1.keep hb, h.2.keep hb⟩
def Is_Fabric (W : World) (v : Value) : Prop := ∃ (x : Fb) (nv lv : Value), v = .agg #[nv, lv, .int .i64 x.width] ∧ RdF W nv lv x
theorem array3F {α : Type} {xs : Array α} (h : xs.size = 3) : ∃ c0 c1 c2, xs = #[c0, c1, c2] := by
 obtain ⟨l⟩ := xs
 match l, h with
 | [c0, c1, c2], _ => exact ⟨c0, c1, c2, rfl⟩
theorem list3F {α : Type} {xs : List α} (h : xs.length = 3) : ∃ c0 c1 c2, xs = [c0, c1, c2] := by
 match xs, h with
 | [c0, c1, c2], _ => exact ⟨c0, c1, c2, rfl⟩
section
variable {H : Type} {enc : TypeId × Value → H} {W : World} {base : Nat} {d : DataW H} {p : List MemPlace} {v : Value}
theorem cellsF3 : Tryz.prog.cellsOf 25 = 3 := by kernel_rfl
theorem cellsNS1 : Tryz.prog.cellsOf 22 = 1 := by kernel_rfl
theorem cellsLS1 : Tryz.prog.cellsOf 23 = 1 := by kernel_rfl
theorem is_Fabric (hv : Value.okWide Tryz.prog W .any base 25 v) (h : DataW.Trod enc Tryz.prog W 0 (fun _ => true) true 25 v d p) : Is_Fabric W v := by
 obtain ⟨cs, rfl, hsz⟩ := okWide_struct Tryz.underlying25 hv; rw [cellsF3] at hsz; obtain ⟨c0, c1, c2, rfl⟩ := array3F hsz; obtain ⟨fuel, hf⟩ := h; obtain ⟨ys, n, _, hx, hl, hlen, hf⟩ := DataW.trod_struct Tryz.underlying25 hf; obtain ⟨y0, y1, y2, rfl⟩ := list3F hlen; have h0 := hf 0 _ rfl; have h1 := hf 1 _ rfl; have h2 := hf 2 _ rfl; clear hf
 simp [Value.cells, cellsI1e, cellsNS1, cellsLS1] at h0 h1 h2
 obtain ⟨x2, e2, -, -⟩ := DataW.trod_int Tryz.underlying3 h2; obtain ⟨l0, g0⟩ := rdNS_trod h0; obtain ⟨l1, g1⟩ := rdLS_trod h1
 simp at e2
 subst e2
 exact ⟨⟨l0, l1, x2⟩, c0, c1, rfl, g0, g1⟩
end
set_option maxHeartbeats 1000000 in
theorem szFabric_l (nv lv : Value) (x : Fb) (w : World) (h : RdF w nv lv x) :
  Calls Tryz.prog 8 #[.agg #[nv, lv, .int .i64 x.width], .int .i64 1048576] w fun e w' => ∃ r : Int, e = .returned (.int .i64 r) ∧ (¬ r < 0 → wtF x ≤ 1048576) ∧ Below w.heap.size w w' := by
 obtain ⟨bA, B0, z⟩ := one w [nv, lv, .int .i64 x.width] 25; replace h := h.keep B0; clear z; have a0 := bA.c 0 rfl
 go_enter Tryz.func8, Tryz.ntmps8
 go_wp2_with fail; clear a0; refine (szNS_l nv x.nodes 1048576 _ (h.1) (by omega) (by omega)).mono ?_; rintro e w1 ⟨r0, rfl, hr0, hm0, hb⟩; replace bA := bA.keep hb; replace h := h.keep hb; replace B0 := below_step B0 hb; have HR0 := Lib.hid hr0; clear hb hr0 hm0
 by_cases hn0 : r0 < 0
 ·go_wp2
  go_ret
  exact ⟨-1, rfl, fun h => by omega, B0⟩
 ·have hu0 : r0 ≤ 1048576 := by have := HR0.out hn0; omega
  have a1 := bA.c 1 rfl; go_wp2_with fail; clear a1; refine (szLS_l lv x.links r0 _ (h.2) (by omega) (by omega)).mono ?_; rintro e w2 ⟨r1, rfl, hr1, hm1, hb⟩; replace bA := bA.keep hb; replace h := h.keep hb; replace B0 := below_step B0 hb; have HR1 := Lib.hid hr1; clear hb hr1 hm1
  by_cases hn1 : r1 < 0
  ·go_wp2
   go_ret
   exact ⟨-1, rfl, fun h => by omega, B0⟩
  ·go_wp2
   go_ret
   refine ⟨r1, rfl, fun _ => ?_, B0⟩; have e0 := HR0.out hn0; have e1 := HR1.out (by omega); unfold wtF
   omega
theorem eqF_same (nv lv nv2 lv2 : Value) (x : Fb) (w : World) (h : RdF w nv lv x) (h2 : RdF w nv2 lv2 x) :
  Calls Tryz.prog 12 #[.agg #[nv, lv, .int .i64 x.width], .agg #[nv2, lv2, .int .i64 x.width]] w fun e w' => e = .returned (.bool true) ∧ Below w.heap.size w w' := by
 obtain ⟨bA, bB, B1, z⟩ := two w [nv, lv, .int .i64 x.width] [nv2, lv2, .int .i64 x.width] 30 30; replace h := h.keep B1; replace h2 := h2.keep B1; clear z; have q2 : (x.width != x.width) = false := by simp
 have a0 := bA.c 0 rfl; have b0 := bB.c 0 rfl
 go_enter Tryz.func12, Tryz.ntmps12
 go_wp2_with fail; refine (eqNS_same _ _ x.nodes _ (h.1) (h2.1)).mono ?_; rintro e w1 ⟨rfl, hb⟩; replace bA := bA.keep hb; replace bB := bB.keep hb; replace h := h.keep hb; replace h2 := h2.keep hb; replace B1 := below_step B1 hb; clear hb a0 b0; have a1 := bA.c 1 rfl; have b1 := bB.c 1 rfl; go_wp2_with fail; refine (eqLS_same _ _ x.links _ (h.2) (h2.2)).mono ?_; rintro e w2 ⟨rfl, hb⟩; replace bA := bA.keep hb; replace bB := bB.keep hb; replace h := h.keep hb; replace h2 := h2.keep hb; replace B1 := below_step B1 hb; clear hb a1 b1; have a2 := bA.c 2 rfl; have b2 := bB.c 2 rfl; go_wp2
 go_ret
 exact ⟨rfl, B1⟩
end Go.Proofs.YtkodnipmogdgkaaGreat
namespace Go.Proofs.YtkodnipmogdgkaaGreat
open Go.ChangeShapes Go.WideShapes Go.ChangeAt Go.RowKit Go.BigFrame Go.Joins
set_option linter.unusedVariables false
set_option maxRecDepth 100000
set_option linter.unusedSimpArgs false
set_option maxRecDepth 100000

/-- two sets of blocks that have none in common -/
def Dj (S T : Nat → Prop) : Prop := ∀ i, S i → T i → False
theorem Dj.symm {S T : Nat → Prop} (h : Dj S T) : Dj T S := fun i a b => h i b a
/-- w' is a later world in which the blocks of S lie as they lay -/
def AgrS (S : Nat → Prop) (w w' : World) : Prop := w.heap.size ≤ w'.heap.size ∧ ∀ i, S i → i < w.heap.size → w'.heap[i]? = w.heap[i]?
theorem AgrS.sub {S T : Nat → Prop} {w w' : World} (h : AgrS S w w') (hs : ∀ b, T b → S b) : AgrS T w w' := ⟨h.1, fun i a c => h.2 i (hs i a) c⟩
theorem AgrS.of_below {S : Nat → Prop} {w w' : World} (h : Below w.heap.size w w') : AgrS S w w' := ⟨h.size, fun i _ hi => h.block i hi⟩
theorem agr_setS {S : Nat → Prop} {g o : Nat} (w : World) {u : Value} (h : ¬ S g) : AgrS S w (w.setCell ⟨g, o, none⟩ u) := ⟨(grown_set w g o u).size, fun i h1 hl => (grown_set w g o u).block i hl (by intro e; cases e; exact h h1)⟩
theorem bl_agrS {S : Nat → Prop} {B : Nat} {w w' : World} {xs : List Value} (h : Bl w B xs) (k : AgrS S w w') (h1 : S B) : Bl w' B xs :=
 ⟨Nat.lt_of_lt_of_le h.lt k.1, fun i x e => (World.cell?_of_block (k.2 B h1 h.lt)).trans (h.cs i x e), fun i hi => (World.frozen?_of_block (k.2 B h1 h.lt)).trans (h.fz i hi)⟩
/-- only blocks of S have turned -/
structure MidS (S : Nat → Prop) (w w' : World) : Prop where
 os : w'.os = w.os
 tape : w'.tape = w.tape
 output : w'.output = w.output
 size : w.heap.size ≤ w'.heap.size
 block : ∀ i, i < w.heap.size → ¬ S i → w'.heap[i]? = w.heap[i]?
theorem MidS.refl (S : Nat → Prop) (w : World) : MidS S w w := ⟨rfl, rfl, rfl, Nat.le_refl _, fun _ _ _ => rfl⟩
theorem MidS.trans {S : Nat → Prop} {a b c : World} (h : MidS S a b) (k : MidS S b c) : MidS S a c :=
 ⟨k.os.trans h.os, k.tape.trans h.tape, k.output.trans h.output, Nat.le_trans h.size k.size, fun i hi hc => (k.block i (Nat.lt_of_lt_of_le hi h.size) hc).trans (h.block i hi hc)⟩
theorem MidS.agr {S T : Nat → Prop} {w w' : World} (s : MidS S w w') (h : Dj T S) : AgrS T w w' := ⟨s.size, fun i h1 h3 => s.block i h3 (fun q => h i h1 q)⟩
theorem MidS.bl {S : Nat → Prop} {B : Nat} {w w' : World} {xs : List Value} (s : MidS S w w') (h : Bl w B xs) (hn : ¬ S B) : Bl w' B xs :=
 ⟨Nat.lt_of_lt_of_le h.lt s.size, fun i x e => (World.cell?_of_block (s.block B h.lt hn)).trans (h.cs i x e), fun i hi => (World.frozen?_of_block (s.block B h.lt hn)).trans (h.fz i hi)⟩
theorem MidS.below {S : Nat → Prop} {B : Nat} {w w' : World} (s : MidS S w w') (hB : B ≤ w.heap.size) (h : ∀ b, S b → B ≤ b) : Below B w w' :=
 ⟨s.os, s.tape, s.output, s.size, fun i hi => s.block i (by omega) (fun q => by have := h i q; omega)⟩
theorem MidS.of_grown {w w' : World} {row : Option Nat} {S : Nat → Prop} (h : w.grownBy w' row) (hs : ∀ k, row = some k → S k) : MidS S w w' := ⟨h.os, h.tape, h.output, h.size, fun i hi hc => h.block i hi (fun e => hc (hs i e.symm))⟩
/-- only block g and the blocks of S have turned -/
structure ButS (g : Nat) (S : Nat → Prop) (w w' : World) : Prop where
 os : w'.os = w.os
 tape : w'.tape = w.tape
 output : w'.output = w.output
 size : w.heap.size ≤ w'.heap.size
 block : ∀ i, i < w.heap.size → i ≠ g → ¬ S i → w'.heap[i]? = w.heap[i]?
theorem ButS.refl (g : Nat) (S : Nat → Prop) (w : World) : ButS g S w w := ⟨rfl, rfl, rfl, Nat.le_refl _, fun _ _ _ _ => rfl⟩
theorem ButS.set {g o : Nat} {S : Nat → Prop} {w w' : World} {u : Value} (h : ButS g S w w') : ButS g S w (w'.setCell ⟨g, o, none⟩ u) :=
 ⟨(grown_set w' g o u).os.trans h.os, (grown_set w' g o u).tape.trans h.tape, (grown_set w' g o u).output.trans h.output, Nat.le_trans h.size (grown_set w' g o u).size, fun i hi hg hc => ((grown_set w' g o u).block i (Nat.lt_of_lt_of_le hi h.size) (by intro e; cases e; exact hg rfl)).trans (h.block i hi hg hc)⟩
theorem ButS.mid {g : Nat} {S T : Nat → Prop} {w w1 w' : World} (h : ButS g S w w1) (s : MidS T w1 w') (hs : ∀ b, T b → S b) : ButS g S w w' :=
 ⟨s.os.trans h.os, s.tape.trans h.tape, s.output.trans h.output, Nat.le_trans h.size s.size, fun i hi hg hc => (s.block i (Nat.lt_of_lt_of_le hi h.size) (fun q => hc (hs i q))).trans (h.block i hi hg hc)⟩
theorem ButS.agr {g : Nat} {S T : Nat → Prop} {w w' : World} (h : ButS g S w w') (h1 : ¬ T g) (h2 : Dj T S) : AgrS T w w' := ⟨h.size, fun i a l => h.block i l (fun e => h1 (e ▸ a)) (fun q => h2 i a q)⟩
theorem ButS.midS {g : Nat} {S T : Nat → Prop} {w w' : World} (h : ButS g S w w') (hs : ∀ b, S b → T b) (hg : T g) : MidS T w w' := ⟨h.os, h.tape, h.output, h.size, fun i hi hc => h.block i hi (fun e => hc (e ▸ hg)) (fun q => hc (hs i q))⟩
theorem row_agrS {p e s n : Nat} {S : Nat → Prop} {w w' : World} {v : Value} {xs : List Value} (h : w.ownsRow p e s v n xs) (hq : ∀ k, v.ownBlock = some k → S k) (k : AgrS S w w') : w'.ownsRow p e s v n xs := by
 refine ⟨h.1, ?_⟩
 rcases h.2 with hn | ⟨g, cap, cur, hv, hb, hg, rest⟩
 ·exact .inl hn
 ·exact .inr ⟨g, cap, cur, hv, hb, (k.2 g (hq g (by rw [hv]; rfl)) (Array.getElem?_eq_some_iff.1 hg).1).trans hg, rest⟩
/-- rows of prefixes -/
def OwPr (w : World) (S : Nat → Prop) (v : Value) (l : List (Int × Int)) : Prop := OwnP w 0 v l ∧ (∀ k, v.ownBlock = some k → S k) ∧ l.length ≤ 1048576
theorem OwPr.agr {w w' : World} {S : Nat → Prop} {v : Value} {l : List (Int × Int)} (h : OwPr w S v l) (a : AgrS S w w') : OwPr w' S v l := ⟨row_agrS h.1 h.2.1 a, h.2⟩
theorem OwPr.rd {w : World} {S : Nat → Prop} {v : Value} {l : List (Int × Int)} (h : OwPr w S v l) : RdP w v l := h.1.rd
def cntP (l : List (Int × Int)) : Nat := l.length * 2
def MkP (k : Int) (l : List (Int × Int)) : Prop := MarkP k l.length l
theorem mkPr_any (v : Value) (l : List (Int × Int)) (k : Int) (S : Nat → Prop) (w : World) (h : OwPr w S v l) (hk0 : 0 ≤ k) (hk : k + (cntP l : Nat) ≤ 40000000) :
  Calls Tryz.prog 55 #[v, .int .i64 k] w fun e w' => ∃ l', e = .returned (.int .i64 (k + (cntP l : Nat))) ∧ cntP l' = cntP l ∧ l'.length = l.length ∧ MkP k l' ∧ OwPr w' S v l' ∧ MidS S w w' := by
 unfold cntP at hk; refine (markP_is v l 0 k w h.1 hk0 (by omega)).mono ?_; rintro e w' ⟨rfl, ⟨l', hl, hm, ho⟩, hg⟩
 exact ⟨l', by unfold cntP; congr 2, by unfold cntP; rw [hl], hl, hm, ⟨ho, h.2.1, by rw [hl]; exact h.2.2⟩, .of_grown hg h.2.1⟩
/-- rows of numbers -/
def OwIr (w : World) (S : Nat → Prop) (v : Value) (l : List Int) : Prop := OwnI w 0 v l ∧ (∀ k, v.ownBlock = some k → S k) ∧ l.length ≤ 1048576 ∧ ∀ x ∈ l, -9223372036854775808 ≤ x ∧ x ≤ 9223372036854775807
theorem OwIr.agr {w w' : World} {S : Nat → Prop} {v : Value} {l : List Int} (h : OwIr w S v l) (a : AgrS S w w') : OwIr w' S v l := ⟨row_agrS h.1 h.2.1 a, h.2⟩
theorem OwIr.rd {w : World} {S : Nat → Prop} {v : Value} {l : List Int} (h : OwIr w S v l) : RdI w v l := OwnI.rd h.1 h.2.2.2
def cntI (l : List Int) : Nat := l.length
def MkI (k : Int) (l : List Int) : Prop := l = imarks k l.length
theorem mkIr_any (v : Value) (l : List Int) (k : Int) (S : Nat → Prop) (w : World) (h : OwIr w S v l) (hk0 : 0 ≤ k) (hk : k + (cntI l : Nat) ≤ 40000000) :
  Calls Tryz.prog 57 #[v, .int .i64 k] w fun e w' => ∃ l', e = .returned (.int .i64 (k + (cntI l : Nat))) ∧ cntI l' = cntI l ∧ l'.length = l.length ∧ MkI k l' ∧ OwIr w' S v l' ∧ MidS S w w' := by
 unfold cntI at hk; refine (markB_any_I v l 0 k w h.1 hk0 (by omega)).mono ?_; rintro e w' ⟨rfl, ho, hg⟩
 exact ⟨imarks k l.length, rfl, by unfold cntI; rw [imarks_len], imarks_len _ _, by unfold MkI; rw [imarks_len], ⟨ho, h.2.1, by rw [imarks_len]; exact h.2.2.1, imarks_bd _ _ hk0 (by omega)⟩, .of_grown hg h.2.1⟩
/-- the mark of a truth value -/
def modB (k : Int) : Bool := decide (k % 3 = 0)
theorem heldP_k (v : Value) (l : List (Int × Int)) (k : Int) (w : World) (h : RdP w v l) (hm : MarkP k l.length l) (hn : l.length ≤ 40000000) (hk0 : 0 ≤ k) (hk : k ≤ 40000000) :
  Calls Tryz.prog 84 #[v, .int .i64 k] w fun e w' => e = .returned (.int .i64 (k + l.length * 2)) ∧ Below w.heap.size w w' := by
 obtain ⟨a, c, rfl, hc⟩ := h.el; obtain ⟨n, hn'⟩ : ∃ n, n = l.length := ⟨_, rfl⟩; rw [← hn'] at hc hm hn ⊢; clear hn' h; have HM := Lib.hid hm; clear hm
 go_enter Tryz.func84, Tryz.ntmps84
 go_wp2
 go_loopw [1, 5] (fun q i wr => ∃ j : Nat, j ≤ n ∧ i = .int .i64 j ∧ q = .int .i64 (k + (j : Int) * 2) ∧ Below w.heap.size w wr) (fun _ i _ => n - (intOf i).toNat)
 case atStart => exact ⟨0, Nat.zero_le _, rfl, by simp, Below.refl _ _⟩
 case round =>
  obtain ⟨j, hj, rfl, rfl, hB⟩ := hrel
  by_cases hlt : j < n
  ·have hltI : (j : Int) < (n : Int) := by omega
   obtain ⟨b, o, rfl, g0, g1⟩ := hc j hlt; rw [HM.out j hlt] at g0 g1
   dsimp only at g0 g1
   replace g0 := cell_keep hB (World.block_lt_of_cell? _ _ g0) g0; replace g1 := cell_keep hB (World.block_lt_of_cell? _ _ g1) g1; have hw1 : IntKind.i64.wrap (k + (j : Int) * 2 + 1) = k + (j : Int) * 2 + 1 := wrap64_in _ (by omega) (by omega); have hw2 : IntKind.i64.wrap (k + (j : Int) * 2 + 1 + 1) = k + (j : Int) * 2 + 1 + 1 := wrap64_in _ (by omega) (by omega); have hb0 : (k + (j : Int) * 2 != k + (j : Int) * 2) = false := by simp
   have hb1 : (k + (j : Int) * 2 + 1 != k + (j : Int) * 2 + 1) = false := by simp
   clear hc; go_wp2
   go_roundw
   case rel => exact ⟨j + 1, by omega, by go_num, by congr 1; omega, hB⟩
   case measure => simp [intOf]; omega
  ·have hjn : j = n := by omega
   subst hjn; clear hc; go_wp2
   go_ret
   exact ⟨rfl, hB⟩
theorem hdPr_any (v : Value) (l : List (Int × Int)) (k : Int) (w : World) (h : RdP w v l) (hm : MkP k l) (hk0 : 0 ≤ k) (hk : k + (cntP l : Nat) ≤ 40000000) :
  Calls Tryz.prog 84 #[v, .int .i64 k] w fun e w' => e = .returned (.int .i64 (k + (cntP l : Nat))) ∧ Below w.heap.size w w' := by
 unfold cntP at hk; refine (heldP_k v l k w h hm (by omega) hk0 (by omega)).mono ?_; rintro e w' ⟨rfl, hb⟩
 exact ⟨by unfold cntP; congr 2, hb⟩
theorem hdIr_any (v : Value) (l : List Int) (k : Int) (w : World) (h : RdI w v l) (hm : MkI k l) (hk0 : 0 ≤ k) (hk : k + (cntI l : Nat) ≤ 40000000) :
  Calls Tryz.prog 140 #[v, .int .i64 k] w fun e w' => e = .returned (.int .i64 (k + (cntI l : Nat))) ∧ Below w.heap.size w w' := by
 unfold cntI at hk; refine (heldB_any_I v k l.length w (by rw [← hm]; exact h) hk0 (by omega)).mono ?_; rintro e w' ⟨rfl, hb⟩
 exact ⟨rfl, hb⟩
end Go.Proofs.YtkodnipmogdgkaaGreat
