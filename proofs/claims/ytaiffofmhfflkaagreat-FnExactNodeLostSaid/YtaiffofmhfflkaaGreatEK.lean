/-
  Marks on a table that was made by the call, and how they are found again: contracts. Conditions: those in each contract.
-/
import Derived.Test.YtaiffofmhfflkaaGreatEJ
namespace Go.Proofs.YtaiffofmhfflkaaGreat
open Go.ChangeShapes Go.WideShapes Go.ChangeAt Go.RowKit Go.BigFrame Go.Joins
set_option linter.unusedVariables false
set_option maxRecDepth 100000
set_option linter.unusedSimpArgs false
set_option maxRecDepth 100000

/-- no block but those from base to hi has turned -/
structure MidB (base hi : Nat) (w w' : World) : Prop where
  os : w'.os = w.os
  tape : w'.tape = w.tape
  output : w'.output = w.output
  size : w.heap.size ≤ w'.heap.size
  block : ∀ i, i < w.heap.size → (i < base ∨ hi ≤ i) → w'.heap[i]? = w.heap[i]?
theorem MidB.refl (base hi : Nat) (w : World) : MidB base hi w w := ⟨rfl, rfl, rfl, Nat.le_refl _, fun _ _ _ => rfl⟩
theorem MidB.grown {base hi : Nat} {w w' w2 : World} {row : Option Nat} (h : MidB base hi w w') (hg : w'.grownBy w2 row) (hr : ∀ k, row = some k → base ≤ k ∧ k < hi) : MidB base hi w w2 :=
  ⟨hg.os.trans h.os, hg.tape.trans h.tape, hg.output.trans h.output, Nat.le_trans h.size hg.size, fun i hi' hc => (hg.block i (Nat.lt_of_lt_of_le hi' h.size) (fun e => by have := hr i e.symm; omega)).trans (h.block i hi' hc)⟩
theorem MidB.trans {base hi : Nat} {a b c : World} (h : MidB base hi a b) (k : MidB base hi b c) : MidB base hi a c :=
  ⟨k.os.trans h.os, k.tape.trans h.tape, k.output.trans h.output, Nat.le_trans h.size k.size, fun i hi' hc => (k.block i (Nat.lt_of_lt_of_le hi' h.size) hc).trans (h.block i hi' hc)⟩
theorem MidB.setC {base hi : Nat} {w w' : World} {g o : Nat} {u : Value} (h : MidB base hi w w') (h1 : base ≤ g) (h2 : g < hi) : MidB base hi w (w'.setCell ⟨g, o, none⟩ u) :=
  h.grown (grown_set w' g o u) (fun k hk => by cases hk; exact ⟨h1, h2⟩)
theorem MidB.below {base hi B : Nat} {w w' : World} (h : MidB base hi w w') (h1 : B ≤ base) (h2 : B ≤ w.heap.size) : Below B w w' :=
  ⟨h.os, h.tape, h.output, h.size, fun i hi' => h.block i (by omega) (.inl (by omega))⟩
theorem MidB.bl {base hi B : Nat} {w w' : World} {xs : List Value} (h : MidB base hi w w') (b : Bl w B xs) (hB : B < base ∨ hi ≤ B) : Bl w' B xs := by
  have e := h.block B b.lt hB
  exact ⟨Nat.lt_of_lt_of_le b.lt h.size, fun i x q => (World.cell?_of_block (w := w) (a := ⟨B, i, none⟩) e).trans (b.cs i x q), fun i q => (World.frozen?_of_block (w := w) e).trans (b.fz i q)⟩
/-- all blocks of a table lie below hi -/
def InH (hi : Nat) (v : Value) (T : List ET) : Prop := (∀ k, v.ownBlock = some k → k < hi) ∧ ∀ t ∈ T, (∀ k, t.u.ownBlock = some k → k < hi) ∧ ∀ k, t.v.ownBlock = some k → k < hi
theorem OwnT.inH {w : World} {base : Nat} {v : Value} {T : List ET} (h : OwnT w base v T) : InH w.heap.size v T :=
  ⟨fun k hk => (World.ownsRow.lt h.row k hk).2, fun t ht => ⟨fun k hk => ((h.lt t ht).1 k hk).2, fun k hk => ((h.lt t ht).2 k hk).2⟩⟩
set_option maxHeartbeats 4000000 in
theorem mkES_any (v : Value) (T : List ET) (W : List Nat) (k : Int) (base hi : Nat) (w : World) (h : OwnT w base v T) (hH : InH hi v T) (hW : (entT T).map wE = W) (hWs : W.sum ≤ 8000000) (hk0 : 0 ≤ k) (hk : k ≤ 32000000) :
    Calls Tryz.prog 86 #[v, .int .i64 k] w fun e w' => ∃ S, e = .returned (.int .i64 (k + (W.sum : Nat))) ∧ S.length = T.length ∧ MarkedW k W (entT S) T.length ∧ OwnT w' base v S ∧ MidB base hi w w' ∧ InH hi v S := by
  obtain ⟨a, c, rfl⟩ := h.lenV
  obtain ⟨hv0, hI0⟩ := hH
  obtain ⟨n, hn⟩ : ∃ n, n = T.length := ⟨_, rfl⟩
  rw [← hn] at h hv0 ⊢
  have HN := Lib.hid hn
  have HV0 := Lib.hid hv0
  have HI0 := Lib.hid hI0
  clear hv0 hI0
  have hnb : n ≤ 8000000 := by
    have := wE_all (entT T)
    rw [hW, entT_len, ← hn] at this
    omega
  have HW := Lib.hid hW
  have HH := Lib.hid h
  clear h hn hW
  go_enter Tryz.func86, Tryz.ntmps86
  go_wp2
  go_loopw [1, 5] (fun q i wr => ∃ (j : Nat) (S : List ET), j ≤ n ∧ i = .int .i64 j ∧ q = .int .i64 (k + ((W.take j).sum : Nat)) ∧ S.length = n ∧ MarkedW k W (entT S) j ∧ OwnT wr base (.slice a n c) S ∧ MidB base hi w wr ∧ Hid (∀ t ∈ S, (∀ k, t.u.ownBlock = some k → k < hi) ∧ ∀ k, t.v.ownBlock = some k → k < hi)) (fun _ i _ => n - (intOf i).toNat)
  case atStart => exact ⟨0, T, Nat.zero_le _, rfl, by simp, HN.out.symm, ⟨HW.out, fun i hi => by omega⟩, HH.out, MidB.refl _ _ _, HI0⟩
  case round =>
    obtain ⟨j, S, hj, rfl, rfl, hS, hM, hO, hB, hI⟩ := hrel
    by_cases hlt : j < n
    · have hltI : (j : Int) < (n : Int) := by omega
      obtain ⟨t, ht⟩ : ∃ t, S[j]? = some t := ⟨S[j]'(by rw [hS]; exact hlt), List.getElem?_eq_getElem _⟩
      have hrow := hO.row
      rw [hS] at hrow
      obtain ⟨g, rfl, c0, c1, c2, c3, c4, c5, c6⟩ := rowEl hrow hS j hlt t ht
      have hm := List.mem_of_getElem? ht
      have hIt := hI.out _ hm
      have hgh : g < hi := HV0.out g rfl
      obtain ⟨⟨pa, px, hu⟩, qa, qx, hv⟩ := hO.len t hm
      obtain ⟨⟨ea, en, epe, ep, epr, ec, ebw⟩, u, v'⟩ := t
      dsimp only at c0 c1 c2 c3 c4 c5 c6 hu hv hIt
      subst hu hv
      have HIT := Lib.hid hIt
      clear hIt
      have hbg : base ≤ g := (World.ownsRow.lt hrow g rfl).1
      have eE : (entT S).getD j e0 = ⟨ea, en, epe, ep, epr, ec, ebw⟩ := by simp [entT, List.getD, ht]
      have hw0 := wE_get hM.1 (j := j) (by rw [entT_len, hS]; exact hlt)
      rw [eE] at hw0
      have hwl := wE_le W (j + 1)
      simp only [wE] at hw0
      obtain ⟨r, hr⟩ : ∃ r : Int, r = k + ((W.take j).sum : Nat) := ⟨_, rfl⟩
      have hr0 : 0 ≤ r := by omega
      have hrb : r + 5 + ep.length + ec.length ≤ 40000001 := by omega
      have hr7 : r + 5 + ep.length + ec.length = k + ((W.take (j + 1)).sum : Nat) := by omega
      rw [← hr]
      have HR := Lib.hid hr
      have HR7 := Lib.hid hr7
      have HM := Lib.hid hM
      have HT := Lib.hid ht
      clear hr hr7 hM hw0 hwl eE
      have hw1 : IntKind.i64.wrap (r + 1) = r + 1 := wrap64_in _ (by omega) (by omega)
      have hw2 : IntKind.i64.wrap (r + 1 + 1) = r + 2 := by rw [show r + 1 + 1 = r + 2 by omega]; exact wrap64_in _ (by omega) (by omega)
      have hw3 : IntKind.i64.wrap (r + 2 + 1) = r + 3 := by rw [show r + 2 + 1 = r + 3 by omega]; exact wrap64_in _ (by omega) (by omega)
      have f0 := hrow.frozenAt (j * 7)
      have f1 := hrow.frozenAt (j * 7 + 1)
      have f2 := hrow.frozenAt (j * 7 + 2)
      have H1 : OwnT (wr.setCell ⟨g, j * 7, none⟩ (.int .i64 r)) base (.slice (some ⟨g, 0, none⟩) n c) (S.set j (⟨⟨r, en, epe, ep, epr, ec, ebw⟩, .slice pa ep.length px, .slice qa ec.length qx⟩ : ET)) := hO.setC hS ht 0 (.int .i64 r) (⟨⟨r, en, epe, ep, epr, ec, ebw⟩, .slice pa ep.length px, .slice qa ec.length qx⟩ : ET) (by omega) rfl rfl rfl rfl rfl
      have H2 := H1.setC (by rw [List.length_set]; exact hS) (List.getElem?_set_self (by rw [hS]; exact hlt) : (S.set j (⟨⟨r, en, epe, ep, epr, ec, ebw⟩, .slice pa ep.length px, .slice qa ec.length qx⟩ : ET))[j]? = some (⟨⟨r, en, epe, ep, epr, ec, ebw⟩, .slice pa ep.length px, .slice qa ec.length qx⟩ : ET)) 1 (.int .i64 (r + 1)) (⟨⟨r, r + 1, epe, ep, epr, ec, ebw⟩, .slice pa ep.length px, .slice qa ec.length qx⟩ : ET) (by omega) rfl rfl rfl rfl rfl
      rw [List.set_set] at H2
      have H3 := H2.setC (by rw [List.length_set]; exact hS) (List.getElem?_set_self (by rw [hS]; exact hlt) : (S.set j (⟨⟨r, r + 1, epe, ep, epr, ec, ebw⟩, .slice pa ep.length px, .slice qa ec.length qx⟩ : ET))[j]? = some (⟨⟨r, r + 1, epe, ep, epr, ec, ebw⟩, .slice pa ep.length px, .slice qa ec.length qx⟩ : ET)) 2 (.int .i64 (r + 2)) (⟨⟨r, r + 1, r + 2, ep, epr, ec, ebw⟩, .slice pa ep.length px, .slice qa ec.length qx⟩ : ET) (by omega) rfl rfl rfl rfl rfl
      rw [List.set_set] at H3
      have B3 := ((hB.setC (o := j * 7) (u := .int .i64 r) hbg hgh).setC (o := j * 7 + 1) (u := .int .i64 (r + 1)) hbg hgh).setC (o := j * 7 + 2) (u := .int .i64 (r + 2)) hbg hgh
      clear H1 H2
      have hbs : base ≤ wr.heap.size := Nat.le_trans hbg (Nat.le_of_lt (World.ownsRow.lt hrow g rfl).2)
      obtain ⟨X1, hX1⟩ : ∃ X1, X1 = ((wr.setCell ⟨g, j * 7, none⟩ (.int .i64 r)).setCell ⟨g, j * 7 + 1, none⟩ (.int .i64 (r + 1))).setCell ⟨g, j * 7 + 2, none⟩ (.int .i64 (r + 2)) := ⟨_, rfl⟩
      have hXs : wr.heap.size = X1.heap.size := by rw [hX1]; simp
      have hrow3 := H3.row
      rw [List.length_set, hS] at hrow3
      obtain ⟨g2, hg2, d0, d1, d2, d3, d4, d5, d6⟩ := rowEl hrow3 (by rw [List.length_set]; exact hS) j hlt _ (List.getElem?_set_self (by rw [hS]; exact hlt) : (S.set j (⟨⟨r, r + 1, r + 2, ep, epr, ec, ebw⟩, .slice pa ep.length px, .slice qa ec.length qx⟩ : ET))[j]? = some (⟨⟨r, r + 1, r + 2, ep, epr, ec, ebw⟩, .slice pa ep.length px, .slice qa ec.length qx⟩ : ET))
      injection hg2 with hg2
      injection hg2 with hg2
      subst hg2
      dsimp only at d0 d1 d2 d3 d4 d5 d6
      clear hrow3
      have HO := Lib.hid hO
      have HB := Lib.hid hB
      have HX := Lib.hid hX1
      have H3h := Lib.hid H3
      have B3h := Lib.hid B3
      have HRW := Lib.hid hrow
      clear hO hB hX1 H3 B3 hrow
      go_wp2_with fail
      clear c0 c1 c2 c3 c4 c5 c6 d0 d1 d2 d3 d4 d5 d6 f0 f1 f2
      have hX1 := HX.out
      have H3 := H3h.out
      have B3 := B3h.out
      rw [← hX1] at H3 B3 ⊢
      clear HX H3h B3h HO HB HRW hX1
      rw [hXs] at hbs
      have m3 := List.mem_of_getElem? (List.getElem?_set_self (by rw [hS]; exact hlt) : (S.set j (⟨⟨r, r + 1, r + 2, ep, epr, ec, ebw⟩, .slice pa ep.length px, .slice qa ec.length qx⟩ : ET))[j]? = some (⟨⟨r, r + 1, r + 2, ep, epr, ec, ebw⟩, .slice pa ep.length px, .slice qa ec.length qx⟩ : ET))
      refine (markB_any_I _ ep base (r + 3) X1 (H3.own _ m3).1 (by omega) (by omega)).mono ?_
      rintro e w1 ⟨rfl, ho, hg⟩
      have H4 := H3.setU (List.getElem?_set_self (by rw [hS]; exact hlt) : (S.set j (⟨⟨r, r + 1, r + 2, ep, epr, ec, ebw⟩, .slice pa ep.length px, .slice qa ec.length qx⟩ : ET))[j]? = some (⟨⟨r, r + 1, r + 2, ep, epr, ec, ebw⟩, .slice pa ep.length px, .slice qa ec.length qx⟩ : ET)) hg ho (by rw [imarks_len])
      rw [List.set_set] at H4
      dsimp only at H4
      have B4 := B3.grown hg (fun k hk => ⟨((H3.lt _ m3).1 k hk).1, HIT.out.1 k hk⟩)
      have hb4 : base ≤ w1.heap.size := Nat.le_trans hbs hg.size
      clear hg ho H3 B3 m3 hbs hXs
      obtain ⟨r4, h4⟩ : ∃ r4, r4 = r + 3 + (ep.length : Int) := ⟨_, rfl⟩
      rw [← h4]
      have H4r := Lib.hid h4
      have hr4 : 0 ≤ r4 := by omega
      have hr4b : r4 + 2 + ec.length ≤ 40000001 := by omega
      clear h4
      have hrow4 := H4.row
      rw [List.length_set, hS] at hrow4
      obtain ⟨g2, hg2, d0, d1, d2, d3, d4, d5, d6⟩ := rowEl hrow4 (by rw [List.length_set]; exact hS) j hlt _ (List.getElem?_set_self (by rw [hS]; exact hlt) : (S.set j (⟨⟨r, r + 1, r + 2, (imarks (r + 3) ep.length), epr, ec, ebw⟩, .slice pa ep.length px, .slice qa ec.length qx⟩ : ET))[j]? = some (⟨⟨r, r + 1, r + 2, (imarks (r + 3) ep.length), epr, ec, ebw⟩, .slice pa ep.length px, .slice qa ec.length qx⟩ : ET))
      injection hg2 with hg2
      injection hg2 with hg2
      subst hg2
      dsimp only at d0 d1 d2 d3 d4 d5 d6
      have f4 := hrow4.frozenAt (j * 7 + 4)
      have H5 := H4.setC (by rw [List.length_set]; exact hS) (List.getElem?_set_self (by rw [hS]; exact hlt) : (S.set j (⟨⟨r, r + 1, r + 2, (imarks (r + 3) ep.length), epr, ec, ebw⟩, .slice pa ep.length px, .slice qa ec.length qx⟩ : ET))[j]? = some (⟨⟨r, r + 1, r + 2, (imarks (r + 3) ep.length), epr, ec, ebw⟩, .slice pa ep.length px, .slice qa ec.length qx⟩ : ET)) 4 (.int .i64 r4) (⟨⟨r, r + 1, r + 2, (imarks (r + 3) ep.length), r4, ec, ebw⟩, .slice pa ep.length px, .slice qa ec.length qx⟩ : ET) (by omega) rfl rfl rfl rfl rfl
      rw [List.set_set] at H5
      have B5 := B4.setC (o := j * 7 + 4) (u := .int .i64 r4) hbg hgh
      have hrow5 := H5.row
      rw [List.length_set, hS] at hrow5
      obtain ⟨g2, hg2, b0, b1, b2, b3, b4, b5, b6⟩ := rowEl hrow5 (by rw [List.length_set]; exact hS) j hlt _ (List.getElem?_set_self (by rw [hS]; exact hlt) : (S.set j (⟨⟨r, r + 1, r + 2, (imarks (r + 3) ep.length), r4, ec, ebw⟩, .slice pa ep.length px, .slice qa ec.length qx⟩ : ET))[j]? = some (⟨⟨r, r + 1, r + 2, (imarks (r + 3) ep.length), r4, ec, ebw⟩, .slice pa ep.length px, .slice qa ec.length qx⟩ : ET))
      injection hg2 with hg2
      injection hg2 with hg2
      subst hg2
      dsimp only at b0 b1 b2 b3 b4 b5 b6
      have hw4 : IntKind.i64.wrap (r4 + 1) = r4 + 1 := wrap64_in _ (by omega) (by omega)
      obtain ⟨X2, hX2⟩ : ∃ X2, X2 = w1.setCell ⟨g, j * 7 + 4, none⟩ (.int .i64 r4) := ⟨_, rfl⟩
      have hXs : w1.heap.size = X2.heap.size := by rw [hX2]; simp
      have HX := Lib.hid hX2
      have H5h := Lib.hid H5
      have B5h := Lib.hid B5
      clear hX2 H5 B5 hrow4 hrow5 H4 B4
      go_wp2_with fail
      clear d0 d1 d2 d3 d4 d5 d6 b0 b1 b2 b3 b4 b5 b6 f4
      have hX2 := HX.out
      have H5 := H5h.out
      have B5 := B5h.out
      rw [← hX2] at H5 B5 ⊢
      clear HX H5h B5h hX2
      rw [hXs] at hb4
      have m5 := List.mem_of_getElem? (List.getElem?_set_self (by rw [hS]; exact hlt) : (S.set j (⟨⟨r, r + 1, r + 2, (imarks (r + 3) ep.length), r4, ec, ebw⟩, .slice pa ep.length px, .slice qa ec.length qx⟩ : ET))[j]? = some (⟨⟨r, r + 1, r + 2, (imarks (r + 3) ep.length), r4, ec, ebw⟩, .slice pa ep.length px, .slice qa ec.length qx⟩ : ET))
      refine (markB_any_I _ ec base (r4 + 1) X2 (H5.own _ m5).2 (by omega) (by omega)).mono ?_
      rintro e w2 ⟨rfl, ho, hg⟩
      have H6 := H5.setV (List.getElem?_set_self (by rw [hS]; exact hlt) : (S.set j (⟨⟨r, r + 1, r + 2, (imarks (r + 3) ep.length), r4, ec, ebw⟩, .slice pa ep.length px, .slice qa ec.length qx⟩ : ET))[j]? = some (⟨⟨r, r + 1, r + 2, (imarks (r + 3) ep.length), r4, ec, ebw⟩, .slice pa ep.length px, .slice qa ec.length qx⟩ : ET)) hg ho (by rw [imarks_len])
      rw [List.set_set] at H6
      dsimp only at H6
      have B6 := B5.grown hg (fun k hk => ⟨((H5.lt _ m5).2 k hk).1, HIT.out.2 k hk⟩)
      clear hg ho H5 B5 m5 hb4 hXs
      obtain ⟨r6, h6⟩ : ∃ r6, r6 = r4 + 1 + (ec.length : Int) := ⟨_, rfl⟩
      rw [← h6]
      have H6r := Lib.hid h6
      have hr6 : 0 ≤ r6 := by omega
      have hr6b : r6 + 1 ≤ 40000001 := by omega
      clear h6
      have hrow6 := H6.row
      rw [List.length_set, hS] at hrow6
      obtain ⟨g2, hg2, d0, d1, d2, d3, d4, d5, d6⟩ := rowEl hrow6 (by rw [List.length_set]; exact hS) j hlt _ (List.getElem?_set_self (by rw [hS]; exact hlt) : (S.set j (⟨⟨r, r + 1, r + 2, (imarks (r + 3) ep.length), r4, (imarks (r4 + 1) ec.length), ebw⟩, .slice pa ep.length px, .slice qa ec.length qx⟩ : ET))[j]? = some (⟨⟨r, r + 1, r + 2, (imarks (r + 3) ep.length), r4, (imarks (r4 + 1) ec.length), ebw⟩, .slice pa ep.length px, .slice qa ec.length qx⟩ : ET))
      injection hg2 with hg2
      injection hg2 with hg2
      subst hg2
      dsimp only at d0 d1 d2 d3 d4 d5 d6
      have f6 := hrow6.frozenAt (j * 7 + 6)
      have H7 := H6.setC (by rw [List.length_set]; exact hS) (List.getElem?_set_self (by rw [hS]; exact hlt) : (S.set j (⟨⟨r, r + 1, r + 2, (imarks (r + 3) ep.length), r4, (imarks (r4 + 1) ec.length), ebw⟩, .slice pa ep.length px, .slice qa ec.length qx⟩ : ET))[j]? = some (⟨⟨r, r + 1, r + 2, (imarks (r + 3) ep.length), r4, (imarks (r4 + 1) ec.length), ebw⟩, .slice pa ep.length px, .slice qa ec.length qx⟩ : ET)) 6 (.int .i64 r6) (⟨⟨r, r + 1, r + 2, (imarks (r + 3) ep.length), r4, (imarks (r4 + 1) ec.length), r6⟩, .slice pa ep.length px, .slice qa ec.length qx⟩ : ET) (by omega) rfl rfl rfl rfl rfl
      rw [List.set_set] at H7
      have B7 := B6.setC (o := j * 7 + 6) (u := .int .i64 r6) hbg hgh
      have hw6 : IntKind.i64.wrap (r6 + 1) = r6 + 1 := wrap64_in _ (by omega) (by omega)
      have H7h := Lib.hid H7
      have B7h := Lib.hid B7
      have HS := Lib.hid hS
      clear H7 B7 hrow6 H6 B6 hS
      go_wp2
      go_roundw
      case rel =>
        have q1 := HR.out
        have q7 := HR7.out
        have q4 := H4r.out
        have q6 := H6r.out
        refine ⟨j + 1, S.set j (⟨⟨r, r + 1, r + 2, (imarks (r + 3) ep.length), r4, (imarks (r4 + 1) ec.length), r6⟩, .slice pa ep.length px, .slice qa ec.length qx⟩ : ET), by omega, by go_num, ?_, by rw [List.length_set]; exact HS.out, markedW_next HM.out HT.out ?_, H7h.out, B7h.out, Lib.hid fun s hs => ?_⟩
        · congr 1; omega
        · rw [← q1]
          dsimp only
          rw [markE, q4, show r + 3 + (ep.length : Int) + 1 = r + 3 + ep.length + 1 by omega, q6, q4]
        · rcases set_mem HT.out hs with rfl | ⟨i, -, e⟩
          · exact HIT.out
          · exact hI.out s (List.mem_of_getElem? e)
      case measure => simp [intOf]; omega
    · have hjn : j = n := by omega
      subst hjn
      have HM := Lib.hid hM
      have HO := Lib.hid hO
      clear hM hO
      have e : (W.take j).sum = W.sum := by
        rw [List.take_of_length_le]
        rw [← HM.out.1, List.length_map, entT_len, hS]
        exact Nat.le_refl _
      rw [e]
      clear e
      go_wp2
      go_ret
      exact ⟨S, rfl, hS, HM.out, HO.out, hB, HV0.out, hI.out⟩
set_option maxHeartbeats 4000000 in
theorem hdES_any (v : Value) (L : List Ent) (W : List Nat) (k : Int) (w : World) (h : RdE w v L) (hM : MarkedW k W L L.length) (hWs : W.sum ≤ 8000000) (hk0 : 0 ≤ k) (hk : k ≤ 32000000) :
    Calls Tryz.prog 119 #[v, .int .i64 k] w fun e w' => e = .returned (.int .i64 (k + (W.sum : Nat))) ∧ Below w.heap.size w w' := by
  obtain ⟨a, c, rfl, hc⟩ := h.el
  obtain ⟨n, hn⟩ : ∃ n, n = L.length := ⟨_, rfl⟩
  rw [← hn] at hc
  rw [← hn]
  have HN := Lib.hid hn
  have hnb : n ≤ 8000000 := by
    have := wE_all L
    rw [hM.1, ← hn] at this
    omega
  clear h hn
  go_enter Tryz.func119, Tryz.ntmps119
  go_wp2
  go_loopw [1, 5] (fun q i wr => ∃ j : Nat, j ≤ n ∧ i = .int .i64 j ∧ q = .int .i64 (k + ((W.take j).sum : Nat)) ∧ Below w.heap.size w wr) (fun _ i _ => n - (intOf i).toNat)
  case atStart => exact ⟨0, Nat.zero_le _, rfl, by simp, Below.refl _ _⟩
  case round =>
    obtain ⟨j, hj, rfl, rfl, hB⟩ := hrel
    by_cases hlt : j < n
    · have hltI : (j : Int) < (n : Int) := by omega
      obtain ⟨b, o, rfl, hE⟩ := hc j hlt
      have hjL : j < L.length := by rw [← HN.out]; exact hlt
      have hmk := hM.2 j hjL hjL
      obtain ⟨E, hx⟩ : ∃ E, L.getD j e0 = E := ⟨_, rfl⟩
      have hw0 := wE_get hM.1 hjL
      have hwl := wE_le W (j + 1)
      rw [hx] at hE hmk hw0
      simp only [wE] at hw0
      obtain ⟨pv, cv, hp, hq, g0, g1, g2, g3, g4, g5, g6⟩ := hE.keep hB
      obtain ⟨r, hr⟩ : ∃ r : Int, r = k + ((W.take j).sum : Nat) := ⟨_, rfl⟩
      rw [← hr] at hmk
      have hr0 : 0 ≤ r := by omega
      have hrb : r + 5 + E.p.length + E.c.length ≤ 40000001 := by omega
      have hr7 : r + 5 + E.p.length + E.c.length = k + ((W.take (j + 1)).sum : Nat) := by omega
      rw [← hr]
      obtain ⟨P, hP⟩ : ∃ P, P = E.p.length := ⟨_, rfl⟩
      obtain ⟨C, hC⟩ : ∃ C, C = E.c.length := ⟨_, rfl⟩
      rw [← hP, ← hC] at hmk hrb hr7
      rw [hmk] at hp hq g0 g1 g2 g4 g6
      simp only [markE] at hp hq g0 g1 g2 g4 g6
      have HR7 := Lib.hid hr7
      have HMM := Lib.hid hM
      have HC := Lib.hid hc
      clear hr hr7 hM hw0 hwl hE hx hmk hc hP hC
      have hw1 : IntKind.i64.wrap (r + 1) = r + 1 := wrap64_in _ (by omega) (by omega)
      have hw2 : IntKind.i64.wrap (r + 1 + 1) = r + 2 := by rw [show r + 1 + 1 = r + 2 by omega]; exact wrap64_in _ (by omega) (by omega)
      have hw3 : IntKind.i64.wrap (r + 2 + 1) = r + 3 := by rw [show r + 2 + 1 = r + 3 by omega]; exact wrap64_in _ (by omega) (by omega)
      go_wp2_with fail
      refine (heldB_any_I pv (r + 3) P wr hp (by omega) (by omega)).mono ?_
      rintro e w1 ⟨rfl, hb⟩
      replace hq := hq.keep hb
      have hB1 := below_step hB hb
      replace g4 := cell_keep hb (World.block_lt_of_cell? _ _ g4) g4
      replace g5 := cell_keep hb (World.block_lt_of_cell? _ _ g5) g5
      replace g6 := cell_keep hb (World.block_lt_of_cell? _ _ g6) g6
      clear hb hB hp g0 g1 g2 g3
      obtain ⟨r4, h4⟩ : ∃ r4, r4 = r + 3 + (P : Int) := ⟨_, rfl⟩
      rw [← h4] at hq g4 g6 ⊢
      have H4 := Lib.hid h4
      have hr4 : 0 ≤ r4 := by omega
      have hr4n : ¬ r4 < 0 := by omega
      have hr4b : r4 + 2 + C ≤ 40000001 := by omega
      have hw4 : IntKind.i64.wrap (r4 + 1) = r4 + 1 := wrap64_in _ (by omega) (by omega)
      clear h4
      go_wp2_with fail
      refine (heldB_any_I cv (r4 + 1) C w1 hq (by omega) (by omega)).mono ?_
      rintro e w2 ⟨rfl, hb⟩
      have hB2 := below_step hB1 hb
      replace g6 := cell_keep hb (World.block_lt_of_cell? _ _ g6) g6
      clear hb hB1 hq g4 g5
      obtain ⟨r6, h6⟩ : ∃ r6, r6 = r4 + 1 + (C : Int) := ⟨_, rfl⟩
      rw [← h6] at g6 ⊢
      have H6 := Lib.hid h6
      have hr6 : 0 ≤ r6 := by omega
      have hr6n : ¬ r6 < 0 := by omega
      have hr6b : r6 + 1 ≤ 40000001 := by omega
      have hw6 : IntKind.i64.wrap (r6 + 1) = r6 + 1 := wrap64_in _ (by omega) (by omega)
      clear h6
      go_wp2
      go_roundw
      case rel =>
        have q7 := HR7.out
        have q4 := H4.out
        have q6 := H6.out
        refine ⟨j + 1, by omega, by go_num, ?_, hB2⟩
        congr 1; omega
      case measure => simp [intOf]; omega
    · have hjn : j = n := by omega
      subst hjn
      have HM := Lib.hid hM
      clear hM hc
      have e : (W.take j).sum = W.sum := by
        rw [List.take_of_length_le]
        rw [← HM.out.1, List.length_map, HN.out]
        exact Nat.le_refl _
      rw [e]
      clear e
      go_wp2
      go_ret
      exact ⟨rfl, hB⟩
theorem mkRb_is (v : Value) (T : List ET) (W : List Nat) (base hi : Nat) (w : World) (h : OwnT w base v T) (hH : InH hi v T) (hW : (entT T).map wE = W) (hWs : W.sum ≤ 8000000) :
    Calls Tryz.prog 56 #[.agg #[v], .int .i64 1] w fun e w' => ∃ S, e = .returned (.int .i64 (1 + (W.sum : Nat))) ∧ S.length = T.length ∧ MarkedW 1 W (entT S) T.length ∧ OwnT w' base v S ∧ MidB base hi w w' := by
  obtain ⟨bA, B0, z⟩ := one w [v] 32
  have h1 := h.keep B0
  have B1 : MidB base hi w (w.alloc (.cells #[v] 32)) := (MidB.refl base hi w).grown (grown_below B0 none) (fun k hk => by cases hk)
  clear bA z
  go_enter Tryz.func56, Tryz.ntmps56
  go_wp2_with fail
  refine (mkES_any v T W 1 base hi _ h1 hH hW hWs (by omega) (by omega)).mono ?_
  rintro e w1 ⟨S, rfl, hl, hM, hO, hB, -⟩
  have B2 := B1.trans hB
  have HM := Lib.hid hM
  clear hM hB
  go_wp2
  go_ret
  exact ⟨S, rfl, hl, HM.out, hO, B2⟩
theorem hdRb_is (v : Value) (L : List Ent) (W : List Nat) (w : World) (h : RdE w v L) (hM : MarkedW 1 W L L.length) (hWs : W.sum ≤ 8000000) :
    Calls Tryz.prog 58 #[.agg #[v], .int .i64 1] w fun e w' => e = .returned (.int .i64 (1 + (W.sum : Nat))) ∧ Below w.heap.size w w' := by
  obtain ⟨bA, B0, z⟩ := one w [v] 32
  have h1 := h.keep B0
  obtain ⟨a, c, rfl⟩ := h.len
  have HM := Lib.hid hM
  clear bA z hM
  go_enter Tryz.func58, Tryz.ntmps58
  go_wp2_with fail
  refine (hdES_any _ L W 1 _ h1 HM.out hWs (by omega) (by omega)).mono ?_
  rintro e w1 ⟨rfl, hB⟩
  have B2 := below_step B0 hB
  have hn : ¬ (1 : Int) + (W.sum : Nat) < 0 := by omega
  clear hB
  go_wp2
  go_ret
  exact ⟨rfl, B2⟩
end Go.Proofs.YtaiffofmhfflkaaGreat
