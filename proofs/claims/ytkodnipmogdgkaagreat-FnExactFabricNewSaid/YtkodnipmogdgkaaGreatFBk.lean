/-
  The directions of a link, and of all links of a fabric: of the program. Conditions: those in each contract.
-/
import Derived.Test.YtkodnipmogdgkaaGreatFBe
import Derived.Test.YtkodnipmogdgkaaGreatFBc
import Derived.Deep.Cut
import Derived.Deep.CutRange
namespace Go.Proofs.YtkodnipmogdgkaaGreat
open Go.ChangeShapes Go.WideShapes Go.ChangeAt Go.RowKit Go.BigFrame Go.Joins
open List (setIfInBounds_toArray set_cons_succ set_cons_zero)
set_option linter.unusedVariables false
set_option maxRecDepth 100000
set_option maxRecDepth 100000
set_option linter.unusedSimpArgs false
set_option maxRecDepth 100000

/-- one direction of a link -/
structure Wy where
 fn : Int
 fi : Int
 tn : Int
 ti : Int
 up : Bool
 tr : List Mg
def y0 : Wy := ⟨0, 0, 0, 0, false, []⟩
instance : Inhabited Wy := ⟨y0⟩
/-- a pointer to a list of messages -/
def RdPt (w : World) (p : Value) (tr : List Mg) : Prop := ∃ b o v, p = .pointer (some ⟨b, o, none⟩) ∧ w.cell? ⟨b, o, none⟩ = some v ∧ RdMS w v tr
theorem RdPt.keep {w w' : World} {p : Value} {tr : List Mg} (h : RdPt w p tr) (hb : Below w.heap.size w w') : RdPt w' p tr := by
 obtain ⟨b, o, v, rfl, hc, hm⟩ := h
 exact ⟨b, o, v, rfl, cell_keep hb (World.block_lt_of_cell? w _ hc) hc, hm.keep hb⟩
def RdW (w : World) (pv : Value) (x : Wy) : Prop := RdPt w pv x.tr
theorem RdW.keep {w w' : World} {pv : Value} {x : Wy} (h : RdW w pv x) (hb : Below w.heap.size w w') : RdW w' pv x := by
 have h0 := h
 exact RdPt.keep h0 hb
/-- the cells of block b from o on hold it -/
def AtW (w : World) (b o : Nat) (x : Wy) : Prop :=
 ∃ pv, RdW w pv x ∧ w.cell? ⟨b, o, none⟩ = some (.int .i64 x.fn) ∧ w.cell? ⟨b, o + 1, none⟩ = some (.int .i64 x.fi) ∧ w.cell? ⟨b, o + 2, none⟩ = some (.int .i64 x.tn) ∧ w.cell? ⟨b, o + 3, none⟩ = some (.int .i64 x.ti) ∧ w.cell? ⟨b, o + 4, none⟩ = some (.bool x.up) ∧ w.cell? ⟨b, o + 5, none⟩ = some (pv)
theorem AtW.keep {w w' : World} {b o : Nat} {x : Wy} (h : AtW w b o x) (hb : Below w.heap.size w w') : AtW w' b o x := by
 obtain ⟨pv, hr, k0, k1, k2, k3, k4, k5⟩ := h
 exact ⟨pv, hr.keep hb, cell_keep hb (World.block_lt_of_cell? w _ k0) k0, cell_keep hb (World.block_lt_of_cell? w _ k1) k1, cell_keep hb (World.block_lt_of_cell? w _ k2) k2, cell_keep hb (World.block_lt_of_cell? w _ k3) k3, cell_keep hb (World.block_lt_of_cell? w _ k4) k4, cell_keep hb (World.block_lt_of_cell? w _ k5) k5⟩
def RdWS (w : World) (v : Value) (L : List Wy) : Prop :=
 L.length ≤ 9223372036854775807 ∧
 ((∃ a c, v = .slice a 0 c ∧ L = [] ∧ (a = none → c = 0)) ∨
  ∃ b o c, v = .slice (some ⟨b, o, none⟩) L.length c ∧ 0 < L.length ∧ ∀ i, i < L.length → AtW w b (o + i * 6) (L.getD i y0))
theorem RdWS.keep {w w' : World} {v : Value} {L : List Wy} (h : RdWS w v L) (hb : Below w.heap.size w w') : RdWS w' v L := by
 obtain ⟨h2, h3⟩ := h; refine ⟨h2, ?_⟩
 rcases h3 with h3 | ⟨b, o, c, hv, hp, hc⟩
 ·exact .inl h3
 ·exact .inr ⟨b, o, c, hv, hp, fun i hi => (hc i hi).keep hb⟩
theorem RdWS.len {w : World} {v : Value} {L : List Wy} (h : RdWS w v L) : ∃ a c, v = .slice a L.length c := by
 rcases h.2 with ⟨a, c, rfl, rfl, hac⟩ | ⟨b, o, c, rfl, _⟩
 ·exact ⟨a, c, rfl⟩
 ·exact ⟨_, c, rfl⟩
theorem RdWS.el {w : World} {v : Value} {L : List Wy} (h : RdWS w v L) : ∃ a c, v = .slice a L.length c ∧ ∀ i, i < L.length → ∃ b o, a = some ⟨b, o, none⟩ ∧ AtW w b (o + i * 6) (L.getD i y0) := by
 rcases h.2 with ⟨a, c, rfl, rfl, -⟩ | ⟨b, o, c, rfl, -, hc⟩
 ·exact ⟨a, c, rfl, fun i hi => absurd hi (by simp)⟩
 ·exact ⟨_, c, rfl, fun i hi => ⟨b, o, rfl, hc i hi⟩⟩
theorem RdWS.nil (w : World) : RdWS w (.slice none 0 0) [] := ⟨by simp, .inl ⟨none, 0, rfl, rfl, fun _ => rfl⟩⟩
def waysOf (x : Lk) : List Wy := [⟨x.a, x.ai, x.b, x.bi, x.up, x.ab⟩, ⟨x.b, x.bi, x.a, x.ai, x.up, x.ba⟩]
def waysL (L : List Lk) : List Wy := L.flatMap waysOf
theorem waysL_len (L : List Lk) : (waysL L).length = 2 * L.length := by
 induction L with
 | nil => rfl
 | cons x L ih => simp only [waysL, List.flatMap_cons, List.length_append, List.length_cons] at ih ⊢; rw [ih]; simp [waysOf]; omega
theorem waysL_take {L : List Lk} {k : Nat} (hk : k < L.length) : waysL (L.take (k + 1)) = waysL (L.take k) ++ waysOf (L.getD k l0) := by
 have hg : L[k] = L.getD k l0 := by simp [List.getD, hk]
 rw [List.take_add_one, List.getElem?_eq_getElem hk, hg]
 simp [waysL]
/-- a direction beside the pointer to its messages -/
structure WT where
 x : Wy
 p : Value
def cellsW (t : WT) : List Value := [.int .i64 t.x.fn, .int .i64 t.x.fi, .int .i64 t.x.tn, .int .i64 t.x.ti, .bool t.x.up, t.p]
def flatW (T : List WT) : List Value := T.flatMap cellsW
theorem flatW_append (S T : List WT) : flatW (S ++ T) = flatW S ++ flatW T := by simp [flatW]
theorem flatW_get (T : List WT) (i j : Nat) (hi : i < T.length) (hj : j < 6) : (flatW T)[i * 6 + j]? = (cellsW (T[i]'hi))[j]? := by
 induction T generalizing i with
 | nil => simp at hi
 | cons t T ih =>
  have e : flatW (t :: T) = cellsW t ++ flatW T := by simp [flatW]
  rw [e]; cases i with
  | zero =>
   rw [Nat.zero_mul, Nat.zero_add, List.getElem?_append_left (by simp [cellsW]; omega)]
   rfl
  | succ i =>
   rw [List.getElem?_append_right (by simp [cellsW]; omega), show (i + 1) * 6 + j - (cellsW t).length = i * 6 + j by simp [cellsW]; omega, ih i (by simpa using hi)]
   rfl
def wysT (T : List WT) : List Wy := T.map (·.x)
theorem wysT_len (T : List WT) : (wysT T).length = T.length := by simp [wysT]
theorem wysT_get {T : List WT} {i : Nat} (hi : i < T.length) : (wysT T).getD i y0 = (T[i]'hi).x := by simp [wysT, List.getD, hi]
theorem rowW_rd {w : World} {base : Nat} {v : Value} {T : List WT} (h : w.ownsRow base 75 6 v T.length (flatW T)) (hr : ∀ t ∈ T, RdPt w t.p t.x.tr) : RdWS w v (wysT T) := by
 rcases h.2 with ⟨rfl, hn⟩ | ⟨g, cap, cur, rfl, hb, hg, hnc, hcm, hcs, htake⟩
 ·have hT : T = [] := List.eq_nil_of_length_eq_zero hn
  subst hT
  exact RdWS.nil w
 ·rw [← wysT_len]
  refine ⟨by rw [wysT_len]; unfold maxLen at hcm; omega, ?_⟩
  by_cases hz : T.length = 0
  ·exact .inl ⟨some ⟨g, 0, none⟩, cap, by rw [wysT_len, hz], List.eq_nil_of_length_eq_zero (by rw [wysT_len, hz]), fun h => by cases h⟩
  ·refine .inr ⟨g, 0, cap, rfl, by rw [wysT_len]; omega, fun i hi => ?_⟩
   rw [wysT_len] at hi; have hm : T[i] ∈ T := List.getElem_mem hi; rw [wysT_get hi]
   have hc : ∀ j, j < 6 → w.cell? ⟨g, 0 + i * 6 + j, none⟩ = (cellsW T[i])[j]? := fun j hj => by
    rw [Nat.zero_add, h.cellAt (i * 6 + j) (by omega), flatW_get T i j hi hj]
   exact ⟨T[i].p, hr _ hm, hc 0 (by omega), hc 1 (by omega), hc 2 (by omega), hc 3 (by omega), hc 4 (by omega), hc 5 (by omega)⟩
theorem rowW_keep {w w' : World} {base n : Nat} {v : Value} {xs : List Value} (h : w.ownsRow base 75 6 v n xs) (hb : Below w.heap.size w w') : w'.ownsRow base 75 6 v n xs :=
 World.ownsRow.kept (row := none) h ⟨hb.os, hb.tape, hb.output, hb.size, fun k hk _ => hb.block k hk⟩ (by cases v.ownBlock <;> simp)
theorem below_growW {V w w' : World} {v : Value} {base n : Nat} {xs : List Value} (h : Below V.heap.size V w) (ho : w.ownsRow base 75 6 v n xs) (hb : V.heap.size ≤ base) (hg : w.grownBy w' v.ownBlock) : Below V.heap.size V w' :=
 Below.grown h hg h.size (fun k hk => Nat.le_trans hb (World.ownsRow.lt ho k hk).1)
theorem infoW2 : (Tryz.prog.info? 75).map (fun i => (i.zero, i.size, i.bytes)) = some (some (.agg #[.int .i64 0, .int .i64 0, .int .i64 0, .int .i64 0, .bool false, .pointer none]), 6, 48) := by kernel_rfl
/-- append(s, ways[:]...) -/
theorem wp_appW {ops : Array Oper} {rest : List Oper} {o : Oper} {a : Act} {Q : Exit → Act → World → Prop} {w : World} (hgd : o.guard = none) (s x : Operand)
  (ho : o.op = .call { callee := .builtin .append, args := #[s, x], argTypes := #[101, 101] })
  (base g c : Nat) (v : Value) (n : Nat) (xs : List Value) (ys : List Value) (hs : a.eval s = v) (hx : a.eval x = .slice (some ⟨g, 0, none⟩) 2 c) (hown : w.ownsRow base 75 6 v n xs)
  (h0 : Bl w g ys) (h7 : ys.length = 12) (h1 : ∀ u ∈ ys, u.oneCell' = true) (hlen : n + 2 ≤ 4294967296) (hbase : base ≤ w.heap.size)
  (h : ∀ v' w', w'.ownsRow base 75 6 v' (n + 2) (xs ++ ys) → w.grownBy w' v.ownBlock → wpList Tryz.prog ops Q rest (a.put o.dst v') w') : wpList Tryz.prog ops Q (o :: rest) a w := by
 obtain ⟨i0, hi, hz0, hz1, hz2⟩ := info_parts infoW2; refine wpList_append_own_at (w := w) hgd s x 101 ho base 75 i0 (.agg #[.int .i64 0, .int .i64 0, .int .i64 0, .int .i64 0, .bool false, .pointer none]) 6 48 Tryz.underlying101 hi hz0 hz1 hz2 rfl (by decide) v n xs hs hown ⟨g, 0, none⟩ 2 c ys hx (by omega) (fun j y hy => ?_) h1 (by unfold maxLen; omega) (by omega) hbase fun v' w' ho' hg' _ hor => h v' w' ho' hg'
 have hadd : ∀ j, (⟨g, 0, none⟩ : Addr).add j = ⟨g, j, none⟩ := fun j => by unfold Addr.add; split <;> simp_all
 rw [hadd]
 exact h0.c j hy
theorem cell_far {w : World} {B C o o' : Nat} {u v : Value} (h : C ≠ B) (e : w.cell? ⟨B, o', none⟩ = some v) : (w.setCell ⟨C, o, none⟩ u).cell? ⟨B, o', none⟩ = some v := by
 rw [World.cell?_setCell_other _ _ _ _ (by intro q; cases q; exact h rfl)]
 exact e
/-- what the first statement leaves: both ends in boxes of their own -/
def KeptEnds (V wx : World) (x : Lk) (p q : Value) : Prop := ∃ B C, p = .pointer (some ⟨B, 0, none⟩) ∧ q = .pointer (some ⟨C, 0, none⟩) ∧ Over V wx ∧ Bl wx B [.int .i64 x.a, .int .i64 x.ai] ∧ Bl wx C [.int .i64 x.b, .int .i64 x.bi] ∧ V.heap.size ≤ B ∧ V.heap.size ≤ C
set_option maxHeartbeats 4000000 in
theorem lways_any (b o : Nat) (x : Lk) (w : World) (h : AtL w b o x) :
  Calls Tryz.prog 44 #[.pointer (some ⟨b, o, none⟩)] w fun e w' => e = .returned (.agg #[.int .i64 x.a, .int .i64 x.ai, .int .i64 x.b, .int .i64 x.bi, .bool x.up, .pointer (some ⟨b, o + 5, none⟩), .int .i64 x.b, .int .i64 x.bi, .int .i64 x.a, .int .i64 x.ai, .bool x.up, .pointer (some ⟨b, o + 6, none⟩)]) ∧ Below w.heap.size w w' := by
 obtain ⟨av, bv, hr, k0, k1, k2, k3, k4, k5, k6⟩ := h; clear hr; have hbw := World.block_lt_of_cell? w _ k0; obtain ⟨bR, B0, z⟩ := one w [.int .i64 0, .int .i64 0, .int .i64 0, .int .i64 0, .bool false, .pointer none, .int .i64 0, .int .i64 0, .int .i64 0, .int .i64 0, .bool false, .pointer none] 76; replace k0 := cell_keep B0 hbw k0; replace k1 := cell_keep B0 hbw k1; replace k2 := cell_keep B0 hbw k2; replace k3 := cell_keep B0 hbw k3; replace k4 := cell_keep B0 hbw k4; replace k5 := cell_keep B0 hbw k5; replace k6 := cell_keep B0 hbw k6
 go_enter Tryz.func44, Tryz.ntmps44
 go_wp2_with fail; obtain ⟨V, hV⟩ : ∃ V, V = w.alloc (.cells #[.int .i64 0, .int .i64 0, .int .i64 0, .int .i64 0, .bool false, .pointer none, .int .i64 0, .int .i64 0, .int .i64 0, .int .i64 0, .bool false, .pointer none] 76) := ⟨_, rfl⟩; obtain ⟨R, hR⟩ : ∃ R, R = w.heap.size := ⟨_, rfl⟩; rw [← hV] at bR B0 z k0 k1 k2 k3 k4 k5 k6 ⊢; rw [← hR] at bR ⊢; have hRw : w.heap.size ≤ R := Nat.le_of_eq hR.symm; have hbV : b < V.heap.size := by omega
 have hRV := bR.lt; clear hV hR z
 go_cut [3, 4] from 5 to 22 (fun s3 s4 wx => KeptEnds V wx x s3 s4)
 case first =>
  refine wp_region_held_drew (S := fun w' => Over V w') (by kernel_rfl) (over_drew V) (fun hHeld => ?_); obtain ⟨u0, e0'⟩ : ∃ u, u = V.drew := ⟨_, rfl⟩; have O : Over V u0 := by rw [e0']; exact over_drew V
  rw [← e0']; clear e0' hHeld; refine tk 0 5 (v := ?_) O ?_ ?_; rotate_left
  ·intro wq hSq
   go_simp
   try rfl
  simp only [Act.put, setIfInBounds_toArray, set_cons_succ, set_cons_zero]; refine tk 1 6 (v := ?_) O ?_ ?_; rotate_left
  ·intro wq hSq
   go_simp
   try rfl
  simp only [Act.put, setIfInBounds_toArray, set_cons_succ, set_cons_zero]; refine tk 2 7 (v := ?_) O ?_ ?_; rotate_left
  ·intro wq hSq
   go_simp
   try rfl
  simp only [Act.put, setIfInBounds_toArray, set_cons_succ, set_cons_zero]; refine tk 3 8 (v := ?_) O ?_ ?_; rotate_left
  ·intro wq hSq
   have e0 := cell_keep hSq hbV k0
   go_simp
   try rfl
  simp only [Act.put, setIfInBounds_toArray, set_cons_succ, set_cons_zero]; refine tk 4 9 (v := ?_) O ?_ ?_; rotate_left
  ·intro wq hSq
   go_simp
   try rfl
  simp only [Act.put, setIfInBounds_toArray, set_cons_succ, set_cons_zero]; refine tk 5 10 (v := ?_) O ?_ ?_; rotate_left
  ·intro wq hSq
   go_simp
   try rfl
  simp only [Act.put, setIfInBounds_toArray, set_cons_succ, set_cons_zero]; refine tk 6 11 (v := ?_) O ?_ ?_; rotate_left
  ·intro wq hSq
   go_simp
   try rfl
  simp only [Act.put, setIfInBounds_toArray, set_cons_succ, set_cons_zero]; refine tk 7 12 (v := ?_) O ?_ ?_; rotate_left
  ·intro wq hSq
   have e1 := cell_keep hSq hbV k1
   go_simp
   try rfl
  simp only [Act.put, setIfInBounds_toArray, set_cons_succ, set_cons_zero]; refine tk 8 13 (v := ?_) O ?_ ?_; rotate_left
  ·intro wq hSq
   go_simp
   try rfl
  simp only [Act.put, setIfInBounds_toArray, set_cons_succ, set_cons_zero]; refine tk 9 14 (v := ?_) O ?_ ?_; rotate_left
  ·intro wq hSq
   go_simp
   try rfl
  simp only [Act.put, setIfInBounds_toArray, set_cons_succ, set_cons_zero]; refine tk 10 15 (v := ?_) O ?_ ?_; rotate_left
  ·intro wq hSq
   go_simp
   try rfl
  simp only [Act.put, setIfInBounds_toArray, set_cons_succ, set_cons_zero]; refine tk 11 16 (v := ?_) O ?_ ?_; rotate_left
  ·intro wq hSq
   go_simp
   try rfl
  simp only [Act.put, setIfInBounds_toArray, set_cons_succ, set_cons_zero]; refine tk 12 17 (v := ?_) O ?_ ?_; rotate_left
  ·intro wq hSq
   have e2 := cell_keep hSq hbV k2
   go_simp
   try rfl
  simp only [Act.put, setIfInBounds_toArray, set_cons_succ, set_cons_zero]; refine tk 13 18 (v := ?_) O ?_ ?_; rotate_left
  ·intro wq hSq
   go_simp
   try rfl
  simp only [Act.put, setIfInBounds_toArray, set_cons_succ, set_cons_zero]; refine tk 14 19 (v := ?_) O ?_ ?_; rotate_left
  ·intro wq hSq
   go_simp
   try rfl
  simp only [Act.put, setIfInBounds_toArray, set_cons_succ, set_cons_zero]; refine tk 15 20 (v := ?_) O ?_ ?_; rotate_left
  ·intro wq hSq
   go_simp
   try rfl
  simp only [Act.put, setIfInBounds_toArray, set_cons_succ, set_cons_zero]; refine tk 16 21 (v := ?_) O ?_ ?_; rotate_left
  ·intro wq hSq
   have e3 := cell_keep hSq hbV k3
   go_simp
   try rfl
  simp only [Act.put, setIfInBounds_toArray, set_cons_succ, set_cons_zero]; refine tk 17 22 (v := ?_) O ?_ ?_; rotate_left
  ·intro wq hSq
   go_simp
   try rfl
  simp only [Act.put, setIfInBounds_toArray, set_cons_succ, set_cons_zero]; refine wpAnyH_ready (rs := [18, 19]) (by kernel_rfl) (by simp) ?_; refine (AllReadyH.cons rfl (fun K hK => ?_) (AllReadyH.cons rfl (fun K hK => ?_) AllReadyH.nil))
  ·go_simp
   have hOB := O.size; obtain ⟨bB, hb, z⟩ := one u0 [.int .i64 0, .int .i64 0] 72; replace O := over_step O hb; clear z hb; refine hK.out _ _ O (fun _ => ?_); clear hK K
   try simp only [Act.put, setIfInBounds_toArray, set_cons_succ, set_cons_zero]
   obtain ⟨B, eB⟩ : ∃ B, B = u0.heap.size := ⟨_, rfl⟩; have hVB : V.heap.size ≤ B := by rw [eB]; exact hOB
   obtain ⟨u1, eW⟩ : ∃ u, u = u0.alloc (.cells #[.int .i64 0, .int .i64 0] 72) := ⟨_, rfl⟩; rw [← eW] at bB O ⊢; rw [← eB] at bB ⊢; clear eW eB hOB; refine rd1 19 fun K hK => ?_
   go_simp
   have hOC := O.size; have hlB := bB.lt; obtain ⟨bC, hb, z⟩ := one u1 [.int .i64 0, .int .i64 0] 72; replace O := over_step O hb; replace bB := bB.keep hb; have hltB := bB.lt; clear z hb; refine hK.out _ _ O (fun _ => ?_); clear hK K
   try simp only [Act.put, setIfInBounds_toArray, set_cons_succ, set_cons_zero]
   obtain ⟨C, eC⟩ : ∃ B, B = u1.heap.size := ⟨_, rfl⟩; have hVC : V.heap.size ≤ C := by rw [eC]; exact hOC
   obtain ⟨u2, eW⟩ : ∃ u, u = u1.alloc (.cells #[.int .i64 0, .int .i64 0] 72) := ⟨_, rfl⟩; rw [← eW] at bC O bB ⊢; rw [← eC] at bC ⊢; have hneq : B ≠ C := by omega
   clear eW eC hOC; have hBC : B ≠ C := hneq; have r0 := bB.c 0 rfl; have rf0 := bB.f 0 rfl; have r1 := bB.c 1 rfl; have rf1 := bB.f 1 rfl; refine rd1 20 fun K hK => ?_
   go_simp
   have O2 := Below.setCell (Below.setCell O (p := ⟨B, 0, none⟩) hVB (.int .i64 x.a)) (p := ⟨B, 1, none⟩) hVB (.int .i64 x.ai); refine hK.out _ _ O2 (fun _ => ?_); clear hK K r0 rf0 r1 rf1
   try simp only [Act.put, setIfInBounds_toArray, set_cons_succ, set_cons_zero]
   have bC1 := (bC.far (o := 0) (u := .int .i64 x.a) hBC.symm).far (o := 1) (u := .int .i64 x.ai) hBC.symm; have bB1 := (bB.set 0 (.int .i64 x.a)).set 1 (.int .i64 x.ai); have r0 := bC1.c 0 rfl; have rf0 := bC1.f 0 rfl; have r1 := bC1.c 1 rfl; have rf1 := bC1.f 1 rfl; refine rd1 21 fun K hK => ?_
   go_simp
   have O3 := Below.setCell (Below.setCell O2 (p := ⟨C, 0, none⟩) hVC (.int .i64 x.b)) (p := ⟨C, 1, none⟩) hVC (.int .i64 x.bi); refine hK.out _ _ O3 (fun _ => ?_); clear hK K r0 rf0 r1 rf1
   try simp only [Act.put, setIfInBounds_toArray, set_cons_succ, set_cons_zero]
   have bB2 := (bB1.far (o := 0) (u := .int .i64 x.b) hBC).far (o := 1) (u := .int .i64 x.bi) hBC; have bC2 := (bC1.set 0 (.int .i64 x.b)).set 1 (.int .i64 x.bi); refine wpAnyH_done (by kernel_rfl) ?_ _; go_wp2_with fail
   go_meet
   case rel => exact ⟨B, C, rfl, rfl, O3, bB2, bC2, hVB, hVC⟩
  ·go_simp
   have hOC := O.size; obtain ⟨bC, hb, z⟩ := one u0 [.int .i64 0, .int .i64 0] 72; replace O := over_step O hb; clear z hb; refine hK.out _ _ O (fun _ => ?_); clear hK K
   try simp only [Act.put, setIfInBounds_toArray, set_cons_succ, set_cons_zero]
   obtain ⟨C, eC⟩ : ∃ B, B = u0.heap.size := ⟨_, rfl⟩; have hVC : V.heap.size ≤ C := by rw [eC]; exact hOC
   obtain ⟨u1, eW⟩ : ∃ u, u = u0.alloc (.cells #[.int .i64 0, .int .i64 0] 72) := ⟨_, rfl⟩; rw [← eW] at bC O ⊢; rw [← eC] at bC ⊢; clear eW eC hOC; refine rd1 18 fun K hK => ?_
   go_simp
   have hOB := O.size; have hlC := bC.lt; obtain ⟨bB, hb, z⟩ := one u1 [.int .i64 0, .int .i64 0] 72; replace O := over_step O hb; replace bC := bC.keep hb; clear z hb; refine hK.out _ _ O (fun _ => ?_); clear hK K
   try simp only [Act.put, setIfInBounds_toArray, set_cons_succ, set_cons_zero]
   obtain ⟨B, eB⟩ : ∃ B, B = u1.heap.size := ⟨_, rfl⟩; have hVB : V.heap.size ≤ B := by rw [eB]; exact hOB
   obtain ⟨u2, eW⟩ : ∃ u, u = u1.alloc (.cells #[.int .i64 0, .int .i64 0] 72) := ⟨_, rfl⟩; rw [← eW] at bB O bC ⊢; rw [← eB] at bB ⊢; have hneq : B ≠ C := by omega
   clear eW eB hOB; have hBC : B ≠ C := hneq; have r0 := bB.c 0 rfl; have rf0 := bB.f 0 rfl; have r1 := bB.c 1 rfl; have rf1 := bB.f 1 rfl; refine rd1 20 fun K hK => ?_
   go_simp
   have O2 := Below.setCell (Below.setCell O (p := ⟨B, 0, none⟩) hVB (.int .i64 x.a)) (p := ⟨B, 1, none⟩) hVB (.int .i64 x.ai); refine hK.out _ _ O2 (fun _ => ?_); clear hK K r0 rf0 r1 rf1
   try simp only [Act.put, setIfInBounds_toArray, set_cons_succ, set_cons_zero]
   have bC1 := (bC.far (o := 0) (u := .int .i64 x.a) hBC.symm).far (o := 1) (u := .int .i64 x.ai) hBC.symm; have bB1 := (bB.set 0 (.int .i64 x.a)).set 1 (.int .i64 x.ai); have r0 := bC1.c 0 rfl; have rf0 := bC1.f 0 rfl; have r1 := bC1.c 1 rfl; have rf1 := bC1.f 1 rfl; refine rd1 21 fun K hK => ?_
   go_simp
   have O3 := Below.setCell (Below.setCell O2 (p := ⟨C, 0, none⟩) hVC (.int .i64 x.b)) (p := ⟨C, 1, none⟩) hVC (.int .i64 x.bi); refine hK.out _ _ O3 (fun _ => ?_); clear hK K r0 rf0 r1 rf1
   try simp only [Act.put, setIfInBounds_toArray, set_cons_succ, set_cons_zero]
   have bB2 := (bB1.far (o := 0) (u := .int .i64 x.b) hBC).far (o := 1) (u := .int .i64 x.bi) hBC; have bC2 := (bC1.set 0 (.int .i64 x.b)).set 1 (.int .i64 x.bi); refine wpAnyH_done (by kernel_rfl) ?_ _; go_wp2_with fail
   go_meet
   case rel => exact ⟨B, C, rfl, rfl, O3, bB2, bC2, hVB, hVC⟩
 case rest =>
  obtain ⟨V2, rfl⟩ : ∃ x : World, x = wc := ⟨_, rfl⟩; obtain ⟨B, C, rfl, rfl, OV, bB, bC, hVB, hVC⟩ := hcut; replace k0 := cell_keep OV hbV k0; replace k1 := cell_keep OV hbV k1; replace k2 := cell_keep OV hbV k2; replace k3 := cell_keep OV hbV k3; replace k4 := cell_keep OV hbV k4; replace k5 := cell_keep OV hbV k5; replace k6 := cell_keep OV hbV k6; replace bR := bR.keep OV; replace B0 := below_step B0 OV; have hbR : b ≠ R := by omega
  have hBR : B ≠ R := by omega
  have hCR : C ≠ R := by omega
  go_wp2_with fail; refine wp_region_held_drew (S := fun w' => Bl w' B [.int .i64 x.a, .int .i64 x.ai] ∧ Bl w' C [.int .i64 x.b, .int .i64 x.bi] ∧ w'.cell? ⟨b, o, none⟩ = some (.int .i64 x.a) ∧ w'.cell? ⟨b, o + 1, none⟩ = some (.int .i64 x.ai) ∧ w'.cell? ⟨b, o + 2, none⟩ = some (.int .i64 x.b) ∧ w'.cell? ⟨b, o + 3, none⟩ = some (.int .i64 x.bi) ∧ w'.cell? ⟨b, o + 4, none⟩ = some (.bool x.up) ∧ w'.cell? ⟨b, o + 5, none⟩ = some (av) ∧ w'.cell? ⟨b, o + 6, none⟩ = some (bv)) (by kernel_rfl) ⟨bB.keep (over_drew V2), bC.keep (over_drew V2), cell_keep (over_drew V2) (by have := OV.size; omega) k0, cell_keep (over_drew V2) (by have := OV.size; omega) k1, cell_keep (over_drew V2) (by have := OV.size; omega) k2, cell_keep (over_drew V2) (by have := OV.size; omega) k3, cell_keep (over_drew V2) (by have := OV.size; omega) k4, cell_keep (over_drew V2) (by have := OV.size; omega) k5, cell_keep (over_drew V2) (by have := OV.size; omega) k6⟩ (fun hHeld => ?_); obtain ⟨u0, e0'⟩ : ∃ u, u = V2.drew := ⟨_, rfl⟩; have O2 : Over V2 u0 := by rw [e0']; exact over_drew V2
  rw [← e0']; clear e0' hHeld; replace bB := bB.keep O2; replace bC := bC.keep O2; replace bR := bR.keep O2; replace B0 := below_step B0 O2; replace k0 := cell_keep O2 (by have := OV.size; omega) k0; replace k1 := cell_keep O2 (by have := OV.size; omega) k1; replace k2 := cell_keep O2 (by have := OV.size; omega) k2; replace k3 := cell_keep O2 (by have := OV.size; omega) k3; replace k4 := cell_keep O2 (by have := OV.size; omega) k4; replace k5 := cell_keep O2 (by have := OV.size; omega) k5; replace k6 := cell_keep O2 (by have := OV.size; omega) k6; have O : Bl u0 B [.int .i64 x.a, .int .i64 x.ai] ∧ Bl u0 C [.int .i64 x.b, .int .i64 x.bi] ∧ u0.cell? ⟨b, o, none⟩ = some (.int .i64 x.a) ∧ u0.cell? ⟨b, o + 1, none⟩ = some (.int .i64 x.ai) ∧ u0.cell? ⟨b, o + 2, none⟩ = some (.int .i64 x.b) ∧ u0.cell? ⟨b, o + 3, none⟩ = some (.int .i64 x.bi) ∧ u0.cell? ⟨b, o + 4, none⟩ = some (.bool x.up) ∧ u0.cell? ⟨b, o + 5, none⟩ = some (av) ∧ u0.cell? ⟨b, o + 6, none⟩ = some (bv) := ⟨bB, bC, k0, k1, k2, k3, k4, k5, k6⟩; refine tk 0 23 (v := ?_) O ?_ ?_; rotate_left
  ·intro wq hSq
   obtain ⟨hq1, hq2, e0, e1, e2, e3, e4, e5, e6⟩ := hSq; have m0 := hq1.c 0 rfl; have m1 := hq1.c 1 rfl; have n0 := hq2.c 0 rfl; have n1 := hq2.c 1 rfl
   go_simp
   try rfl
  simp only [Act.put, setIfInBounds_toArray, set_cons_succ, set_cons_zero]; refine tk 1 24 (v := ?_) O ?_ ?_; rotate_left
  ·intro wq hSq
   obtain ⟨hq1, hq2, e0, e1, e2, e3, e4, e5, e6⟩ := hSq; have m0 := hq1.c 0 rfl; have m1 := hq1.c 1 rfl; have n0 := hq2.c 0 rfl; have n1 := hq2.c 1 rfl
   go_simp
   try rfl
  simp only [Act.put, setIfInBounds_toArray, set_cons_succ, set_cons_zero]; refine tk 2 25 (v := ?_) O ?_ ?_; rotate_left
  ·intro wq hSq
   go_simp
   try rfl
  simp only [Act.put, setIfInBounds_toArray, set_cons_succ, set_cons_zero]; refine tk 3 26 (v := ?_) O ?_ ?_; rotate_left
  ·intro wq hSq
   go_simp
   try rfl
  simp only [Act.put, setIfInBounds_toArray, set_cons_succ, set_cons_zero]; refine tk 4 27 (v := ?_) O ?_ ?_; rotate_left
  ·intro wq hSq
   go_simp
   try rfl
  simp only [Act.put, setIfInBounds_toArray, set_cons_succ, set_cons_zero]; refine tk 5 28 (v := ?_) O ?_ ?_; rotate_left
  ·intro wq hSq
   obtain ⟨hq1, hq2, e0, e1, e2, e3, e4, e5, e6⟩ := hSq; have m0 := hq1.c 0 rfl; have m1 := hq1.c 1 rfl; have n0 := hq2.c 0 rfl; have n1 := hq2.c 1 rfl
   go_simp
   try rfl
  simp only [Act.put, setIfInBounds_toArray, set_cons_succ, set_cons_zero]; refine tk 6 29 (v := ?_) O ?_ ?_; rotate_left
  ·intro wq hSq
   go_simp
   try rfl
  simp only [Act.put, setIfInBounds_toArray, set_cons_succ, set_cons_zero]; refine tk 7 30 (v := ?_) O ?_ ?_; rotate_left
  ·intro wq hSq
   go_simp
   try rfl
  simp only [Act.put, setIfInBounds_toArray, set_cons_succ, set_cons_zero]; refine tk 8 31 (v := ?_) O ?_ ?_; rotate_left
  ·intro wq hSq
   go_simp
   try rfl
  simp only [Act.put, setIfInBounds_toArray, set_cons_succ, set_cons_zero]; refine tk 9 32 (v := ?_) O ?_ ?_; rotate_left
  ·intro wq hSq
   go_simp
   try rfl
  simp only [Act.put, setIfInBounds_toArray, set_cons_succ, set_cons_zero]; refine tk 10 33 (v := ?_) O ?_ ?_; rotate_left
  ·intro wq hSq
   obtain ⟨hq1, hq2, e0, e1, e2, e3, e4, e5, e6⟩ := hSq; have m0 := hq1.c 0 rfl; have m1 := hq1.c 1 rfl; have n0 := hq2.c 0 rfl; have n1 := hq2.c 1 rfl
   go_simp
   try rfl
  simp only [Act.put, setIfInBounds_toArray, set_cons_succ, set_cons_zero]; refine tk 11 34 (v := ?_) O ?_ ?_; rotate_left
  ·intro wq hSq
   obtain ⟨hq1, hq2, e0, e1, e2, e3, e4, e5, e6⟩ := hSq; have m0 := hq1.c 0 rfl; have m1 := hq1.c 1 rfl; have n0 := hq2.c 0 rfl; have n1 := hq2.c 1 rfl
   go_simp
   try rfl
  simp only [Act.put, setIfInBounds_toArray, set_cons_succ, set_cons_zero]; refine tk 12 35 (v := ?_) O ?_ ?_; rotate_left
  ·intro wq hSq
   go_simp
   try rfl
  simp only [Act.put, setIfInBounds_toArray, set_cons_succ, set_cons_zero]; refine tk 13 36 (v := ?_) O ?_ ?_; rotate_left
  ·intro wq hSq
   go_simp
   try rfl
  simp only [Act.put, setIfInBounds_toArray, set_cons_succ, set_cons_zero]; refine tk 14 37 (v := ?_) O ?_ ?_; rotate_left
  ·intro wq hSq
   go_simp
   try rfl
  simp only [Act.put, setIfInBounds_toArray, set_cons_succ, set_cons_zero]; refine tk 15 38 (v := ?_) O ?_ ?_; rotate_left
  ·intro wq hSq
   obtain ⟨hq1, hq2, e0, e1, e2, e3, e4, e5, e6⟩ := hSq; have m0 := hq1.c 0 rfl; have m1 := hq1.c 1 rfl; have n0 := hq2.c 0 rfl; have n1 := hq2.c 1 rfl
   go_simp
   try rfl
  simp only [Act.put, setIfInBounds_toArray, set_cons_succ, set_cons_zero]; refine tk 16 39 (v := ?_) O ?_ ?_; rotate_left
  ·intro wq hSq
   go_simp
   try rfl
  simp only [Act.put, setIfInBounds_toArray, set_cons_succ, set_cons_zero]; refine tk 17 40 (v := ?_) O ?_ ?_; rotate_left
  ·intro wq hSq
   go_simp
   try rfl
  simp only [Act.put, setIfInBounds_toArray, set_cons_succ, set_cons_zero]; refine tk 18 41 (v := ?_) O ?_ ?_; rotate_left
  ·intro wq hSq
   go_simp
   try rfl
  simp only [Act.put, setIfInBounds_toArray, set_cons_succ, set_cons_zero]; refine tk 19 42 (v := ?_) O ?_ ?_; rotate_left
  ·intro wq hSq
   go_simp
   try rfl
  simp only [Act.put, setIfInBounds_toArray, set_cons_succ, set_cons_zero]; refine tk 20 43 (v := ?_) O ?_ ?_; rotate_left
  ·intro wq hSq
   go_simp
   try rfl
  simp only [Act.put, setIfInBounds_toArray, set_cons_succ, set_cons_zero]; have r0 := bR.c 0 rfl; have rf0 := bR.f 0 rfl; have r1 := bR.c 1 rfl; have rf1 := bR.f 1 rfl; have r2 := bR.c 2 rfl; have rf2 := bR.f 2 rfl; have r3 := bR.c 3 rfl; have rf3 := bR.f 3 rfl; have r4 := bR.c 4 rfl; have rf4 := bR.f 4 rfl; have r5 := bR.c 5 rfl; have rf5 := bR.f 5 rfl; have r6 := bR.c 6 rfl; have rf6 := bR.f 6 rfl; have r7 := bR.c 7 rfl; have rf7 := bR.f 7 rfl; have r8 := bR.c 8 rfl; have rf8 := bR.f 8 rfl; have r9 := bR.c 9 rfl; have rf9 := bR.f 9 rfl; have r10 := bR.c 10 rfl; have rf10 := bR.f 10 rfl; have r11 := bR.c 11 rfl; have rf11 := bR.f 11 rfl; refine rd1 21 fun K hK => ?_
  go_simp
  refine hK.out _ _ ⟨((((((((((((bB.far (o := 0) (u := .int .i64 x.a) hBR).far (o := 1) (u := .int .i64 x.ai) hBR).far (o := 2) (u := .int .i64 x.b) hBR).far (o := 3) (u := .int .i64 x.bi) hBR).far (o := 4) (u := .bool x.up) hBR).far (o := 5) (u := .pointer (some ⟨b, o + 5, none⟩)) hBR).far (o := 6) (u := .int .i64 x.b) hBR).far (o := 7) (u := .int .i64 x.bi) hBR).far (o := 8) (u := .int .i64 x.a) hBR).far (o := 9) (u := .int .i64 x.ai) hBR).far (o := 10) (u := .bool x.up) hBR).far (o := 11) (u := .pointer (some ⟨b, o + 6, none⟩)) hBR), ((((((((((((bC.far (o := 0) (u := .int .i64 x.a) hCR).far (o := 1) (u := .int .i64 x.ai) hCR).far (o := 2) (u := .int .i64 x.b) hCR).far (o := 3) (u := .int .i64 x.bi) hCR).far (o := 4) (u := .bool x.up) hCR).far (o := 5) (u := .pointer (some ⟨b, o + 5, none⟩)) hCR).far (o := 6) (u := .int .i64 x.b) hCR).far (o := 7) (u := .int .i64 x.bi) hCR).far (o := 8) (u := .int .i64 x.a) hCR).far (o := 9) (u := .int .i64 x.ai) hCR).far (o := 10) (u := .bool x.up) hCR).far (o := 11) (u := .pointer (some ⟨b, o + 6, none⟩)) hCR), (cell_far (u := .pointer (some ⟨b, o + 6, none⟩)) (o := 11) hbR.symm (cell_far (u := .bool x.up) (o := 10) hbR.symm (cell_far (u := .int .i64 x.ai) (o := 9) hbR.symm (cell_far (u := .int .i64 x.a) (o := 8) hbR.symm (cell_far (u := .int .i64 x.bi) (o := 7) hbR.symm (cell_far (u := .int .i64 x.b) (o := 6) hbR.symm (cell_far (u := .pointer (some ⟨b, o + 5, none⟩)) (o := 5) hbR.symm (cell_far (u := .bool x.up) (o := 4) hbR.symm (cell_far (u := .int .i64 x.bi) (o := 3) hbR.symm (cell_far (u := .int .i64 x.b) (o := 2) hbR.symm (cell_far (u := .int .i64 x.ai) (o := 1) hbR.symm (cell_far (u := .int .i64 x.a) (o := 0) hbR.symm k0)))))))))))), (cell_far (u := .pointer (some ⟨b, o + 6, none⟩)) (o := 11) hbR.symm (cell_far (u := .bool x.up) (o := 10) hbR.symm (cell_far (u := .int .i64 x.ai) (o := 9) hbR.symm (cell_far (u := .int .i64 x.a) (o := 8) hbR.symm (cell_far (u := .int .i64 x.bi) (o := 7) hbR.symm (cell_far (u := .int .i64 x.b) (o := 6) hbR.symm (cell_far (u := .pointer (some ⟨b, o + 5, none⟩)) (o := 5) hbR.symm (cell_far (u := .bool x.up) (o := 4) hbR.symm (cell_far (u := .int .i64 x.bi) (o := 3) hbR.symm (cell_far (u := .int .i64 x.b) (o := 2) hbR.symm (cell_far (u := .int .i64 x.ai) (o := 1) hbR.symm (cell_far (u := .int .i64 x.a) (o := 0) hbR.symm k1)))))))))))), (cell_far (u := .pointer (some ⟨b, o + 6, none⟩)) (o := 11) hbR.symm (cell_far (u := .bool x.up) (o := 10) hbR.symm (cell_far (u := .int .i64 x.ai) (o := 9) hbR.symm (cell_far (u := .int .i64 x.a) (o := 8) hbR.symm (cell_far (u := .int .i64 x.bi) (o := 7) hbR.symm (cell_far (u := .int .i64 x.b) (o := 6) hbR.symm (cell_far (u := .pointer (some ⟨b, o + 5, none⟩)) (o := 5) hbR.symm (cell_far (u := .bool x.up) (o := 4) hbR.symm (cell_far (u := .int .i64 x.bi) (o := 3) hbR.symm (cell_far (u := .int .i64 x.b) (o := 2) hbR.symm (cell_far (u := .int .i64 x.ai) (o := 1) hbR.symm (cell_far (u := .int .i64 x.a) (o := 0) hbR.symm k2)))))))))))), (cell_far (u := .pointer (some ⟨b, o + 6, none⟩)) (o := 11) hbR.symm (cell_far (u := .bool x.up) (o := 10) hbR.symm (cell_far (u := .int .i64 x.ai) (o := 9) hbR.symm (cell_far (u := .int .i64 x.a) (o := 8) hbR.symm (cell_far (u := .int .i64 x.bi) (o := 7) hbR.symm (cell_far (u := .int .i64 x.b) (o := 6) hbR.symm (cell_far (u := .pointer (some ⟨b, o + 5, none⟩)) (o := 5) hbR.symm (cell_far (u := .bool x.up) (o := 4) hbR.symm (cell_far (u := .int .i64 x.bi) (o := 3) hbR.symm (cell_far (u := .int .i64 x.b) (o := 2) hbR.symm (cell_far (u := .int .i64 x.ai) (o := 1) hbR.symm (cell_far (u := .int .i64 x.a) (o := 0) hbR.symm k3)))))))))))), (cell_far (u := .pointer (some ⟨b, o + 6, none⟩)) (o := 11) hbR.symm (cell_far (u := .bool x.up) (o := 10) hbR.symm (cell_far (u := .int .i64 x.ai) (o := 9) hbR.symm (cell_far (u := .int .i64 x.a) (o := 8) hbR.symm (cell_far (u := .int .i64 x.bi) (o := 7) hbR.symm (cell_far (u := .int .i64 x.b) (o := 6) hbR.symm (cell_far (u := .pointer (some ⟨b, o + 5, none⟩)) (o := 5) hbR.symm (cell_far (u := .bool x.up) (o := 4) hbR.symm (cell_far (u := .int .i64 x.bi) (o := 3) hbR.symm (cell_far (u := .int .i64 x.b) (o := 2) hbR.symm (cell_far (u := .int .i64 x.ai) (o := 1) hbR.symm (cell_far (u := .int .i64 x.a) (o := 0) hbR.symm k4)))))))))))), (cell_far (u := .pointer (some ⟨b, o + 6, none⟩)) (o := 11) hbR.symm (cell_far (u := .bool x.up) (o := 10) hbR.symm (cell_far (u := .int .i64 x.ai) (o := 9) hbR.symm (cell_far (u := .int .i64 x.a) (o := 8) hbR.symm (cell_far (u := .int .i64 x.bi) (o := 7) hbR.symm (cell_far (u := .int .i64 x.b) (o := 6) hbR.symm (cell_far (u := .pointer (some ⟨b, o + 5, none⟩)) (o := 5) hbR.symm (cell_far (u := .bool x.up) (o := 4) hbR.symm (cell_far (u := .int .i64 x.bi) (o := 3) hbR.symm (cell_far (u := .int .i64 x.b) (o := 2) hbR.symm (cell_far (u := .int .i64 x.ai) (o := 1) hbR.symm (cell_far (u := .int .i64 x.a) (o := 0) hbR.symm k5)))))))))))), (cell_far (u := .pointer (some ⟨b, o + 6, none⟩)) (o := 11) hbR.symm (cell_far (u := .bool x.up) (o := 10) hbR.symm (cell_far (u := .int .i64 x.ai) (o := 9) hbR.symm (cell_far (u := .int .i64 x.a) (o := 8) hbR.symm (cell_far (u := .int .i64 x.bi) (o := 7) hbR.symm (cell_far (u := .int .i64 x.b) (o := 6) hbR.symm (cell_far (u := .pointer (some ⟨b, o + 5, none⟩)) (o := 5) hbR.symm (cell_far (u := .bool x.up) (o := 4) hbR.symm (cell_far (u := .int .i64 x.bi) (o := 3) hbR.symm (cell_far (u := .int .i64 x.b) (o := 2) hbR.symm (cell_far (u := .int .i64 x.ai) (o := 1) hbR.symm (cell_far (u := .int .i64 x.a) (o := 0) hbR.symm k6))))))))))))⟩ (fun _ => ?_); clear hK K r0 rf0 r1 rf1 r2 rf2 r3 rf3 r4 rf4 r5 rf5 r6 rf6 r7 rf7 r8 rf8 r9 rf9 r10 rf10 r11 rf11
  try simp only [Act.put, setIfInBounds_toArray, set_cons_succ, set_cons_zero]
  refine wpAnyH_done (by kernel_rfl) ?_ _; have bE := ((((((((((((bR.set 0 (.int .i64 x.a)).set 1 (.int .i64 x.ai)).set 2 (.int .i64 x.b)).set 3 (.int .i64 x.bi)).set 4 (.bool x.up)).set 5 (.pointer (some ⟨b, o + 5, none⟩))).set 6 (.int .i64 x.b)).set 7 (.int .i64 x.bi)).set 8 (.int .i64 x.a)).set 9 (.int .i64 x.ai)).set 10 (.bool x.up)).set 11 (.pointer (some ⟨b, o + 6, none⟩))); have y0 := bE.c 0 rfl; have y1 := bE.c 1 rfl; have y2 := bE.c 2 rfl; have y3 := bE.c 3 rfl; have y4 := bE.c 4 rfl; have y5 := bE.c 5 rfl; have y6 := bE.c 6 rfl; have y7 := bE.c 7 rfl; have y8 := bE.c 8 rfl; have y9 := bE.c 9 rfl; have y10 := bE.c 10 rfl; have y11 := bE.c 11 rfl; go_wp2_with fail
  exact bodyPost_ret (v := .agg #[.int .i64 x.a, .int .i64 x.ai, .int .i64 x.b, .int .i64 x.bi, .bool x.up, .pointer (some ⟨b, o + 5, none⟩), .int .i64 x.b, .int .i64 x.bi, .int .i64 x.a, .int .i64 x.ai, .bool x.up, .pointer (some ⟨b, o + 6, none⟩)]) (by simp [results, Tryz.results44, go_sem, y0, y1, y2, y3, y4, y5, y6, y7, y8, y9, y10, y11]) rfl ⟨rfl, (Below.setCell (Below.setCell (Below.setCell (Below.setCell (Below.setCell (Below.setCell (Below.setCell (Below.setCell (Below.setCell (Below.setCell (Below.setCell (Below.setCell B0 (p := ⟨R, 0, none⟩) hRw (.int .i64 x.a)) (p := ⟨R, 1, none⟩) hRw (.int .i64 x.ai)) (p := ⟨R, 2, none⟩) hRw (.int .i64 x.b)) (p := ⟨R, 3, none⟩) hRw (.int .i64 x.bi)) (p := ⟨R, 4, none⟩) hRw (.bool x.up)) (p := ⟨R, 5, none⟩) hRw (.pointer (some ⟨b, o + 5, none⟩))) (p := ⟨R, 6, none⟩) hRw (.int .i64 x.b)) (p := ⟨R, 7, none⟩) hRw (.int .i64 x.bi)) (p := ⟨R, 8, none⟩) hRw (.int .i64 x.a)) (p := ⟨R, 9, none⟩) hRw (.int .i64 x.ai)) (p := ⟨R, 10, none⟩) hRw (.bool x.up)) (p := ⟨R, 11, none⟩) hRw (.pointer (some ⟨b, o + 6, none⟩)))⟩
end Go.Proofs.YtkodnipmogdgkaaGreat
