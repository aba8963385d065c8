/-
  Lists of messages and of entries that the laws copy: memory of their own. Conditions: those in each contract.
  Switches and links: lists of one's own, and marks on them. Conditions: those in each contract.
  Rows of rows of numbers, as an argument and in memory of one's own. Conditions: those in each contract.
-/
import Derived.Test.YtkodnipmogdgkaaGreatFBe
namespace Go.Proofs.YtkodnipmogdgkaaGreat
open Go.ChangeShapes Go.WideShapes Go.ChangeAt Go.RowKit Go.BigFrame Go.Joins
set_option linter.unusedVariables false
set_option maxRecDepth 100000
set_option maxRecDepth 100000
set_option linter.unusedSimpArgs false
set_option maxRecDepth 100000

/-- the blocks from a to b -/
def Rg (a b : Nat) : Nat → Prop := fun i => a ≤ i ∧ i < b
theorem AgrS.refl (S : Nat → Prop) (w : World) : AgrS S w w := ⟨Nat.le_refl _, fun _ _ _ => rfl⟩
theorem AgrS.trans {S : Nat → Prop} {a b c : World} (h : AgrS S a b) (k : AgrS S b c) : AgrS S a c := ⟨Nat.le_trans h.1 k.1, fun i hs hi => (k.2 i hs (Nat.lt_of_lt_of_le hi h.1)).trans (h.2 i hs hi)⟩
theorem dj_apart {u v : Value} (h : Apart u v) : Dj (fun b => u.ownBlock = some b) (fun b => v.ownBlock = some b) := fun i a b => by
 rcases h.1 with q | q
 ·rw [q] at a; cases a
 ·exact q (a.trans b.symm)
theorem toQ_o (pv cv : Value) (x : Ent) (w : World) (h : RdQ w pv cv x) (hw : wtQ x ≤ 1048576) :
  Calls Tryz.prog 187 #[.agg #[.int .i64 x.a, .int .i64 x.n, .int .i64 x.pe, pv, .int .i64 x.pr, cv, .int .i64 x.bw]] w fun e w' => ∃ pv cv, e = .returned (.agg #[.int .i64 x.a, .int .i64 x.n, .int .i64 x.pe, pv, .int .i64 x.pr, cv, .int .i64 x.bw]) ∧ OwQ w' (Rg w.heap.size w'.heap.size) pv cv x ∧ Below w.heap.size w w' := by
 unfold wtQ at hw; refine (toEnt_any pv cv x.p x.c x.a x.n x.pe x.pr x.bw w h.1 h.2 (by omega) (by omega)).mono ?_; rintro e w' ⟨pa, px, ma, mx, rfl, h0, h1, a01, hb⟩; refine ⟨_, _, rfl, ⟨(fun b => (Value.slice pa x.p.length px).ownBlock = some b), (fun b => (Value.slice ma x.c.length mx).ownBlock = some b), fun b q => World.ownsRow.lt h0 b q, fun b q => World.ownsRow.lt h1 b q, dj_apart a01, ?_, ?_⟩, hb⟩
 ·exact ⟨h0.mono (Nat.zero_le _), fun k q => q, by omega, (h.1).1⟩
 ·exact ⟨h1.mono (Nat.zero_le _), fun k q => q, by omega, (h.2).1⟩
def MadeOM (w : World) (B n j : Nat) (L : List Mg) : Prop := ∃ (xs : List Value) (E : Nat → Nat → Prop), xs.length = n * 11 ∧ Bl w B xs ∧ (∀ i, i < j → (∀ b, E i b → B < b ∧ b < w.heap.size) ∧ ElM xs w (E i) i (L.getD i m0)) ∧ ∀ i i', i < j → i' < j → i ≠ i' → Dj (E i) (E i')
theorem MadeOM.keep {w w' : World} {B n j : Nat} {L : List Mg} (h : MadeOM w B n j L) (hb : Below w.heap.size w w') : MadeOM w' B n j L := by
 obtain ⟨xs, E, hl, hB, hx, hd⟩ := h; refine ⟨xs, E, hl, hB.keep hb, fun i hi => ?_, hd⟩; obtain ⟨h1, gv, cv, pv, mv, h2, h3⟩ := hx i hi
 exact ⟨fun b q => ⟨(h1 b q).1, Nat.lt_of_lt_of_le (h1 b q).2 hb.size⟩, gv, cv, pv, mv, h2.agr (.of_below hb), h3⟩
theorem MadeOM.cell {w : World} {B n k : Nat} {L : List Mg} (h : MadeOM w B n k L) (j : Nat) (hj : j < n * 11) : ∃ x, w.cell? ⟨B, j, none⟩ = some x ∧ w.frozen? ⟨B, j, none⟩ = false := by
 obtain ⟨xs, E, hl, hB, hx, -⟩ := h
 exact ⟨_, hB.c j (List.getElem?_eq_getElem (by omega)), hB.f j (List.getElem?_eq_getElem (by omega))⟩
/-- element j has been copied in the world from w0 on -/
theorem MadeOM.step {w0 w : World} {B n j : Nat} {L : List Mg} (h0 : MadeOM w0 B n j L) (hb : Below w0.heap.size w0 w) (hB0 : B < w0.heap.size) (hk : j < n) {gv cv pv mv : Value} {x : Mg} (hE : L.getD j m0 = x) (h1 : OwM w (Rg w0.heap.size w.heap.size) gv cv pv mv x) :
  MadeOM (((((((((((w.setCell ⟨B, j * 11, none⟩ (.int .i64 x.kn)).setCell ⟨B, j * 11 + 1, none⟩ (.int .i64 x.sa)).setCell ⟨B, j * 11 + 2, none⟩ (.int .i64 x.ho)).setCell ⟨B, j * 11 + 3, none⟩ (.int .i64 x.ix)).setCell ⟨B, j * 11 + 4, none⟩ (gv)).setCell ⟨B, j * 11 + 5, none⟩ (cv)).setCell ⟨B, j * 11 + 6, none⟩ (pv)).setCell ⟨B, j * 11 + 7, none⟩ (.int .i64 x.pr)).setCell ⟨B, j * 11 + 8, none⟩ (mv)).setCell ⟨B, j * 11 + 9, none⟩ (.int .i64 x.bw)).setCell ⟨B, j * 11 + 10, none⟩ (.int .i64 x.er)) B n (j + 1) L := by
 obtain ⟨xs, E, hl, hB, hx, hd⟩ := h0; replace hB := hB.keep hb; have hsz : (((((((((((w.setCell ⟨B, j * 11, none⟩ (.int .i64 x.kn)).setCell ⟨B, j * 11 + 1, none⟩ (.int .i64 x.sa)).setCell ⟨B, j * 11 + 2, none⟩ (.int .i64 x.ho)).setCell ⟨B, j * 11 + 3, none⟩ (.int .i64 x.ix)).setCell ⟨B, j * 11 + 4, none⟩ (gv)).setCell ⟨B, j * 11 + 5, none⟩ (cv)).setCell ⟨B, j * 11 + 6, none⟩ (pv)).setCell ⟨B, j * 11 + 7, none⟩ (.int .i64 x.pr)).setCell ⟨B, j * 11 + 8, none⟩ (mv)).setCell ⟨B, j * 11 + 9, none⟩ (.int .i64 x.bw)).setCell ⟨B, j * 11 + 10, none⟩ (.int .i64 x.er)).heap.size = w.heap.size := by simp
 refine ⟨(((((((((((xs.set (j * 11) (.int .i64 x.kn)).set (j * 11 + 1) (.int .i64 x.sa)).set (j * 11 + 2) (.int .i64 x.ho)).set (j * 11 + 3) (.int .i64 x.ix)).set (j * 11 + 4) (gv)).set (j * 11 + 5) (cv)).set (j * 11 + 6) (pv)).set (j * 11 + 7) (.int .i64 x.pr)).set (j * 11 + 8) (mv)).set (j * 11 + 9) (.int .i64 x.bw)).set (j * 11 + 10) (.int .i64 x.er)), fun i => if i = j then Rg w0.heap.size w.heap.size else E i, by simpa using hl, (((((((((((hB.set (j * 11) (.int .i64 x.kn)).set (j * 11 + 1) (.int .i64 x.sa)).set (j * 11 + 2) (.int .i64 x.ho)).set (j * 11 + 3) (.int .i64 x.ix)).set (j * 11 + 4) (gv)).set (j * 11 + 5) (cv)).set (j * 11 + 6) (pv)).set (j * 11 + 7) (.int .i64 x.pr)).set (j * 11 + 8) (mv)).set (j * 11 + 9) (.int .i64 x.bw)).set (j * 11 + 10) (.int .i64 x.er)), fun i hi => ?_, fun i i' hi hi' hne => ?_⟩
 ·by_cases e : i = j
  ·have e' := e.symm
   subst e'
   (try dsimp only)
   rw [if_pos rfl, hE]; have hn : ¬ Rg w0.heap.size w.heap.size B := fun q => by have := q.1; omega
   refine ⟨fun b q => ⟨by have := q.1; omega, by rw [hsz]; exact q.2⟩, gv, cv, pv, mv, h1.agr ((((((((((((AgrS.refl _ _).trans (agr_setS _ hn)).trans (agr_setS _ hn)).trans (agr_setS _ hn)).trans (agr_setS _ hn)).trans (agr_setS _ hn)).trans (agr_setS _ hn)).trans (agr_setS _ hn)).trans (agr_setS _ hn)).trans (agr_setS _ hn)).trans (agr_setS _ hn)).trans (agr_setS _ hn)), ?_, ?_, ?_, ?_, ?_, ?_, ?_, ?_, ?_, ?_, ?_⟩
   all_goals simp only [List.getElem?_set, List.length_set]
   all_goals simp (disch := omega) [hl]
   all_goals omega
  ·(try dsimp only)
   rw [if_neg e]; obtain ⟨g0, v0, v1, v2, v3, g1, c0, c1, c2, c3, c4, c5, c6, c7, c8, c9, c10⟩ := hx i (by omega); have hn : ¬ E i B := fun q => by have := (g0 B q).1; omega
   refine ⟨fun b q => ⟨(g0 b q).1, by rw [hsz]; exact Nat.lt_of_lt_of_le (g0 b q).2 hb.size⟩, v0, v1, v2, v3, (g1.agr (.of_below hb)).agr ((((((((((((AgrS.refl _ _).trans (agr_setS _ hn)).trans (agr_setS _ hn)).trans (agr_setS _ hn)).trans (agr_setS _ hn)).trans (agr_setS _ hn)).trans (agr_setS _ hn)).trans (agr_setS _ hn)).trans (agr_setS _ hn)).trans (agr_setS _ hn)).trans (agr_setS _ hn)).trans (agr_setS _ hn)), ?_, ?_, ?_, ?_, ?_, ?_, ?_, ?_, ?_, ?_, ?_⟩
   all_goals (repeat rw [List.getElem?_set_ne (by omega)])
   all_goals assumption
 ·intro b q1 q2
  (try dsimp only at q1 q2)
  by_cases e : i = j
  ·rw [if_pos e] at q1
   rw [if_neg (fun e' => hne (e.trans e'.symm))] at q2; have := ((hx i' (by omega)).1 b q2).2; have := q1.1
   omega
  ·rw [if_neg e] at q1
   by_cases e' : i' = j
   ·rw [if_pos e'] at q2
    have := ((hx i (by omega)).1 b q1).2; have := q2.1
    omega
   ·rw [if_neg e'] at q2
    exact hd i i' (by omega) (by omega) hne b q1 q2
theorem MadeOM.own {w : World} {B n a : Nat} {L : List Mg} (h : MadeOM w B n n L) (hn : n = L.length) (ha : a ≤ B) (hl : L.length ≤ 1048576) : OwMS w (Rg a w.heap.size) (.slice (some ⟨B, 0, none⟩) n n) L := by
 obtain ⟨xs, E, hxl, hB, hx, hd⟩ := h; subst hn; refine ⟨hl, .inr ⟨B, L.length, xs, E, rfl, ⟨ha, hB.lt⟩, hB, hxl, fun i hi => ?_, hd⟩⟩; obtain ⟨g0, g1⟩ := hx i hi
 exact ⟨fun b q => ⟨by have := (g0 b q).1; omega, (g0 b q).2⟩, fun q => by have := (g0 B q).1; omega, g1⟩
theorem infoOM : (Tryz.prog.info? 157).map (fun i => (i.zero, i.size, i.bytes)) = some (some (.agg #[.int .i64 0, .int .i64 0, .int .i64 0, .int .i64 0, .slice none 0 0, .slice none 0 0, .slice none 0 0, .int .i64 0, .slice none 0 0, .int .i64 0, .int .i64 0]), 11, 152) := by kernel_rfl
def MadeOQ (w : World) (B n j : Nat) (L : List Ent) : Prop := ∃ (xs : List Value) (E : Nat → Nat → Prop), xs.length = n * 7 ∧ Bl w B xs ∧ (∀ i, i < j → (∀ b, E i b → B < b ∧ b < w.heap.size) ∧ ElQ xs w (E i) i (L.getD i e0)) ∧ ∀ i i', i < j → i' < j → i ≠ i' → Dj (E i) (E i')
theorem MadeOQ.keep {w w' : World} {B n j : Nat} {L : List Ent} (h : MadeOQ w B n j L) (hb : Below w.heap.size w w') : MadeOQ w' B n j L := by
 obtain ⟨xs, E, hl, hB, hx, hd⟩ := h; refine ⟨xs, E, hl, hB.keep hb, fun i hi => ?_, hd⟩; obtain ⟨h1, pv, cv, h2, h3⟩ := hx i hi
 exact ⟨fun b q => ⟨(h1 b q).1, Nat.lt_of_lt_of_le (h1 b q).2 hb.size⟩, pv, cv, h2.agr (.of_below hb), h3⟩
theorem MadeOQ.cell {w : World} {B n k : Nat} {L : List Ent} (h : MadeOQ w B n k L) (j : Nat) (hj : j < n * 7) : ∃ x, w.cell? ⟨B, j, none⟩ = some x ∧ w.frozen? ⟨B, j, none⟩ = false := by
 obtain ⟨xs, E, hl, hB, hx, -⟩ := h
 exact ⟨_, hB.c j (List.getElem?_eq_getElem (by omega)), hB.f j (List.getElem?_eq_getElem (by omega))⟩
/-- element j has been copied in the world from w0 on -/
theorem MadeOQ.step {w0 w : World} {B n j : Nat} {L : List Ent} (h0 : MadeOQ w0 B n j L) (hb : Below w0.heap.size w0 w) (hB0 : B < w0.heap.size) (hk : j < n) {pv cv : Value} {x : Ent} (hE : L.getD j e0 = x) (h1 : OwQ w (Rg w0.heap.size w.heap.size) pv cv x) :
  MadeOQ (((((((w.setCell ⟨B, j * 7, none⟩ (.int .i64 x.a)).setCell ⟨B, j * 7 + 1, none⟩ (.int .i64 x.n)).setCell ⟨B, j * 7 + 2, none⟩ (.int .i64 x.pe)).setCell ⟨B, j * 7 + 3, none⟩ (pv)).setCell ⟨B, j * 7 + 4, none⟩ (.int .i64 x.pr)).setCell ⟨B, j * 7 + 5, none⟩ (cv)).setCell ⟨B, j * 7 + 6, none⟩ (.int .i64 x.bw)) B n (j + 1) L := by
 obtain ⟨xs, E, hl, hB, hx, hd⟩ := h0; replace hB := hB.keep hb; have hsz : (((((((w.setCell ⟨B, j * 7, none⟩ (.int .i64 x.a)).setCell ⟨B, j * 7 + 1, none⟩ (.int .i64 x.n)).setCell ⟨B, j * 7 + 2, none⟩ (.int .i64 x.pe)).setCell ⟨B, j * 7 + 3, none⟩ (pv)).setCell ⟨B, j * 7 + 4, none⟩ (.int .i64 x.pr)).setCell ⟨B, j * 7 + 5, none⟩ (cv)).setCell ⟨B, j * 7 + 6, none⟩ (.int .i64 x.bw)).heap.size = w.heap.size := by simp
 refine ⟨(((((((xs.set (j * 7) (.int .i64 x.a)).set (j * 7 + 1) (.int .i64 x.n)).set (j * 7 + 2) (.int .i64 x.pe)).set (j * 7 + 3) (pv)).set (j * 7 + 4) (.int .i64 x.pr)).set (j * 7 + 5) (cv)).set (j * 7 + 6) (.int .i64 x.bw)), fun i => if i = j then Rg w0.heap.size w.heap.size else E i, by simpa using hl, (((((((hB.set (j * 7) (.int .i64 x.a)).set (j * 7 + 1) (.int .i64 x.n)).set (j * 7 + 2) (.int .i64 x.pe)).set (j * 7 + 3) (pv)).set (j * 7 + 4) (.int .i64 x.pr)).set (j * 7 + 5) (cv)).set (j * 7 + 6) (.int .i64 x.bw)), fun i hi => ?_, fun i i' hi hi' hne => ?_⟩
 ·by_cases e : i = j
  ·have e' := e.symm
   subst e'
   (try dsimp only)
   rw [if_pos rfl, hE]; have hn : ¬ Rg w0.heap.size w.heap.size B := fun q => by have := q.1; omega
   refine ⟨fun b q => ⟨by have := q.1; omega, by rw [hsz]; exact q.2⟩, pv, cv, h1.agr ((((((((AgrS.refl _ _).trans (agr_setS _ hn)).trans (agr_setS _ hn)).trans (agr_setS _ hn)).trans (agr_setS _ hn)).trans (agr_setS _ hn)).trans (agr_setS _ hn)).trans (agr_setS _ hn)), ?_, ?_, ?_, ?_, ?_, ?_, ?_⟩
   all_goals simp only [List.getElem?_set, List.length_set]
   all_goals simp (disch := omega) [hl]
   all_goals omega
  ·(try dsimp only)
   rw [if_neg e]; obtain ⟨g0, v0, v1, g1, c0, c1, c2, c3, c4, c5, c6⟩ := hx i (by omega); have hn : ¬ E i B := fun q => by have := (g0 B q).1; omega
   refine ⟨fun b q => ⟨(g0 b q).1, by rw [hsz]; exact Nat.lt_of_lt_of_le (g0 b q).2 hb.size⟩, v0, v1, (g1.agr (.of_below hb)).agr ((((((((AgrS.refl _ _).trans (agr_setS _ hn)).trans (agr_setS _ hn)).trans (agr_setS _ hn)).trans (agr_setS _ hn)).trans (agr_setS _ hn)).trans (agr_setS _ hn)).trans (agr_setS _ hn)), ?_, ?_, ?_, ?_, ?_, ?_, ?_⟩
   all_goals (repeat rw [List.getElem?_set_ne (by omega)])
   all_goals assumption
 ·intro b q1 q2
  (try dsimp only at q1 q2)
  by_cases e : i = j
  ·rw [if_pos e] at q1
   rw [if_neg (fun e' => hne (e.trans e'.symm))] at q2; have := ((hx i' (by omega)).1 b q2).2; have := q1.1
   omega
  ·rw [if_neg e] at q1
   by_cases e' : i' = j
   ·rw [if_pos e'] at q2
    have := ((hx i (by omega)).1 b q1).2; have := q2.1
    omega
   ·rw [if_neg e'] at q2
    exact hd i i' (by omega) (by omega) hne b q1 q2
theorem MadeOQ.own {w : World} {B n a : Nat} {L : List Ent} (h : MadeOQ w B n n L) (hn : n = L.length) (ha : a ≤ B) (hl : L.length ≤ 1048576) : OwQS w (Rg a w.heap.size) (.slice (some ⟨B, 0, none⟩) n n) L := by
 obtain ⟨xs, E, hxl, hB, hx, hd⟩ := h; subst hn; refine ⟨hl, .inr ⟨B, L.length, xs, E, rfl, ⟨ha, hB.lt⟩, hB, hxl, fun i hi => ?_, hd⟩⟩; obtain ⟨g0, g1⟩ := hx i hi
 exact ⟨fun b q => ⟨by have := (g0 b q).1; omega, (g0 b q).2⟩, fun q => by have := (g0 B q).1; omega, g1⟩
theorem infoOQ : (Tryz.prog.info? 136).map (fun i => (i.zero, i.size, i.bytes)) = some (some (.agg #[.int .i64 0, .int .i64 0, .int .i64 0, .slice none 0 0, .int .i64 0, .slice none 0 0, .int .i64 0]), 7, 88) := by kernel_rfl
theorem makeO_Q (t : TypeId) (ht : Tryz.prog.underlying t = some (.slice 136)) (n : Nat) (hn : n ≤ 1048576) (w : World) :
  (Instr.makeSlice t (.int .i64 (n : Int)) (.int .i64 (n : Int))).run Tryz.prog w = .ok (.slice (some ⟨w.heap.size, 0, none⟩) n n) (w.alloc (.cells (madeCells #[Value.int .i64 0, Value.int .i64 0, Value.int .i64 0, Value.slice none 0 0, Value.int .i64 0, Value.slice none 0 0, Value.int .i64 0] (n * 7)) 136)) := by
 obtain ⟨i, hi, hzz⟩ := Option.map_eq_some_iff.1 infoOQ; simp only [Prod.mk.injEq] at hzz; obtain ⟨hz, hs, hb⟩ := hzz; have hr := run_make (P := Tryz.prog) w t 136 i _ ht hi hz .i64 .i64 n n (by omega) (Int.le_refl _) (by rw [hb]; omega) (by omega)
 simpa only [Int.toNat_natCast, hs, Value.cells] using hr
theorem madeOQ_start (w : World) (n : Nat) (L : List Ent) : MadeOQ (w.alloc (.cells (madeCells #[Value.int .i64 0, Value.int .i64 0, Value.int .i64 0, Value.slice none 0 0, Value.int .i64 0, Value.slice none 0 0, Value.int .i64 0] (n * 7)) 136)) w.heap.size n 0 L := by
 refine ⟨(madeCells #[Value.int .i64 0, Value.int .i64 0, Value.int .i64 0, Value.slice none 0 0, Value.int .i64 0, Value.slice none 0 0, Value.int .i64 0] (n * 7)).toList, fun _ _ => False, by simp [size_madeCells], ?_, fun i hi => absurd hi (Nat.not_lt_zero _), fun i i' hi => absurd hi (Nat.not_lt_zero _)⟩; have := Bl.new w (madeCells #[Value.int .i64 0, Value.int .i64 0, Value.int .i64 0, Value.slice none 0 0, Value.int .i64 0, Value.slice none 0 0, Value.int .i64 0] (n * 7)).toList 136 w.heap.size rfl
 simpa using this
set_option maxHeartbeats 2000000 in
theorem toQS_o (v : Value) (L : List Ent) (w : World) (h : RdQS w v L) (hn : L.length + wtQS L ≤ 1048576) :
  Calls Tryz.prog 146 #[v] w fun e w' => ∃ u, e = .returned u ∧ OwQS w' (Rg w.heap.size w'.heap.size) u L ∧ Below w.heap.size w w' := by
 have hmk := fun W => makeO_Q 54 Tryz.underlying54 L.length (by omega) W
 obtain ⟨a, c, rfl, hc⟩ := h.el; obtain ⟨n, hn'⟩ : ∃ n, n = L.length := ⟨_, rfl⟩; rw [← hn'] at hc hn hmk ⊢; have hnn : n ≤ 1048576 := by omega
 have HN := Lib.hid hn'; have HW := Lib.hid hn; clear hn' h hn; obtain ⟨B, hBB⟩ : ∃ B, B = w.heap.size := ⟨_, rfl⟩; have hst := madeOQ_start w n L; rw [← hBB] at hst; have HS := Lib.hid hst; have HBB := Lib.hid hBB; have hwB : w.heap.size ≤ B := by omega
 clear hst
 go_enter Tryz.func146, Tryz.ntmps146
 go_wp2; rw [← hBB]; clear hmk hBB
 go_loopw [4] (fun i wr => ∃ j : Nat, j ≤ n ∧ i = .int .i64 j ∧ MadeOQ wr B n j L ∧ Below w.heap.size w wr) (fun i _ => n - (intOf i).toNat)
 case atStart => exact ⟨0, Nat.zero_le _, rfl, HS.out, (Below.refl _ _).alloc (Nat.le_refl _) _⟩
 case round =>
  obtain ⟨j, hj, rfl, hM, hB⟩ := hrel
  by_cases hlt : j < n
  ·have hltI : (j : Int) < (n : Int) := by omega
   obtain ⟨b, o, rfl, hE⟩ := hc j hlt; obtain ⟨x, hx⟩ : ∃ x, L.getD j e0 = x := ⟨_, rfl⟩; rw [hx] at hE; obtain ⟨pv, cv, hr, k0, k1, k2, k3, k4, k5, k6⟩ := hE.keep hB; have HX := Lib.hid hx; have HCC := Lib.hid hc; clear hx hc hE
   have hwx : wtQ x ≤ 1048576 := by
    have h1 := wtQ_at (L := L) (j := j) (by rw [← HN.out]; exact hlt); rw [HX.out] at h1; have := HW.out
    omega
   have hBW : B < wr.heap.size := by
    obtain ⟨xs, E, hl, hBl, -⟩ := hM
    exact hBl.lt
   have HMM := Lib.hid hM; go_wp2_with fail; refine (toQ_o pv cv x _ hr hwx).mono ?_; clear hr hwx k0 k1 k2 k3 k4 k5 k6; rintro e w2 ⟨pv, cv, rfl, h1, hb⟩; have hM2 := hM.keep hb; have hB2 := below_step hB hb; clear hM hB; obtain ⟨pva, pvx, rfl⟩ := (h1.rd.1).len; obtain ⟨cva, cvx, rfl⟩ := (h1.rd.2).len; obtain ⟨p0, g0, f0⟩ := hM2.cell (j * 7) (by omega); obtain ⟨p1, g1, f1⟩ := hM2.cell (j * 7 + 1) (by omega); obtain ⟨p2, g2, f2⟩ := hM2.cell (j * 7 + 2) (by omega); obtain ⟨p3, g3, f3⟩ := hM2.cell (j * 7 + 3) (by omega); obtain ⟨p4, g4, f4⟩ := hM2.cell (j * 7 + 4) (by omega); obtain ⟨p5, g5, f5⟩ := hM2.cell (j * 7 + 5) (by omega); obtain ⟨p6, g6, f6⟩ := hM2.cell (j * 7 + 6) (by omega); have HM := Lib.hid (HMM.out.step hb hBW hlt HX.out h1); have hB3 := (((((((hB2.setCell (p := ⟨B, j * 7, none⟩) hwB (.int .i64 x.a)).setCell (p := ⟨B, j * 7 + 1, none⟩) hwB (.int .i64 x.n)).setCell (p := ⟨B, j * 7 + 2, none⟩) hwB (.int .i64 x.pe)).setCell (p := ⟨B, j * 7 + 3, none⟩) hwB (.slice pva x.p.length pvx)).setCell (p := ⟨B, j * 7 + 4, none⟩) hwB (.int .i64 x.pr)).setCell (p := ⟨B, j * 7 + 5, none⟩) hwB (.slice cva x.c.length cvx)).setCell (p := ⟨B, j * 7 + 6, none⟩) hwB (.int .i64 x.bw)); clear hM2 hB2 h1 hb; go_wp2
   go_roundw
   case rel => exact ⟨j + 1, by omega, by go_num, HM.out, hB3⟩
   case measure => simp [intOf]; omega
  ·have hkn : j = n := by omega
   subst hkn; clear hc; have HF := Lib.hid (hM.own (a := w.heap.size) HN.out hwB (by rw [← HN.out]; exact hnn)); go_wp2
   go_ret
   exact ⟨.slice (some ⟨B, 0, none⟩) j j, rfl, HF.out, hB⟩
end Go.Proofs.YtkodnipmogdgkaaGreat
namespace Go.Proofs.YtkodnipmogdgkaaGreat
open Go.ChangeShapes Go.WideShapes Go.ChangeAt Go.RowKit Go.BigFrame Go.Joins
set_option linter.unusedVariables false
set_option maxRecDepth 100000
set_option linter.unusedSimpArgs false
set_option maxRecDepth 100000

/-- rows of entries -/
def OwQE (w : World) (S : Nat → Prop) (v : Value) (l : List Ent) : Prop := OwQS w S v l
theorem OwQE.agr {w w' : World} {S : Nat → Prop} {v : Value} {l : List Ent} (h : OwQE w S v l) (a : AgrS S w w') : OwQE w' S v l := OwQS.agr h a
theorem OwQE.rd {w : World} {S : Nat → Prop} {v : Value} {l : List Ent} (h : OwQE w S v l) : RdE w v l := rdE_of (OwQS.rd h)
def cntQE (l : List Ent) : Nat := cntQS l
def MkQE (k : Int) (l : List Ent) : Prop := MkQS k l
theorem mkQE_any (v : Value) (l : List Ent) (k : Int) (S : Nat → Prop) (w : World) (h : OwQE w S v l) (hk0 : 0 ≤ k) (hk : k + (cntQE l : Nat) ≤ 40000000) :
  Calls Tryz.prog 56 #[v, .int .i64 k] w fun e w' => ∃ l', e = .returned (.int .i64 (k + (cntQE l : Nat))) ∧ cntQE l' = cntQE l ∧ l'.length = l.length ∧ MkQE k l' ∧ OwQE w' S v l' ∧ MidS S w w' := mkQS_any v l k S w h hk0 hk
theorem hdQE_any (v : Value) (l : List Ent) (k : Int) (w : World) (h : RdE w v l) (hm : MkQE k l) (hk0 : 0 ≤ k) (hk : k + (cntQE l : Nat) ≤ 40000000) :
  Calls Tryz.prog 85 #[v, .int .i64 k] w fun e w' => e = .returned (.int .i64 (k + (cntQE l : Nat))) ∧ Below w.heap.size w w' := hdQS_any v l k w (rdQ_of h) hm hk0 hk
def OwN (w : World) (S : Nat → Prop) (ov rv sv : Value) (x : Nd) : Prop := ∃ S0 S1 S2 : Nat → Prop, (∀ b, S0 b → S b) ∧ (∀ b, S1 b → S b) ∧ (∀ b, S2 b → S b) ∧ Dj S0 S1 ∧ Dj S0 S2 ∧ Dj S1 S2 ∧ OwPr w S0 ov x.own ∧ OwQE w S1 rv x.rib ∧ OwQE w S2 sv x.sent
theorem OwN.agr {w w' : World} {S : Nat → Prop} {ov rv sv : Value} {x : Nd} (h : OwN w S ov rv sv x) (a : AgrS S w w') : OwN w' S ov rv sv x := by
 obtain ⟨S0, S1, S2, sb0, sb1, sb2, dj01, dj02, dj12, h0, h1, h2⟩ := h
 exact ⟨S0, S1, S2, sb0, sb1, sb2, dj01, dj02, dj12, h0.agr (a.sub sb0), h1.agr (a.sub sb1), h2.agr (a.sub sb2)⟩
theorem OwN.rd {w : World} {S : Nat → Prop} {ov rv sv : Value} {x : Nd} (h : OwN w S ov rv sv x) : RdN w ov rv sv x := by
 obtain ⟨S0, S1, S2, -, -, -, -, -, -, h0, h1, h2⟩ := h
 exact ⟨h0.rd, h1.rd, h2.rd⟩
def cntN (x : Nd) : Nat := 3 + cntP x.own + cntQE x.rib + cntQE x.sent
def MkN (k : Int) (x : Nd) : Prop := x.an = k ∧ MkP (k + 1) x.own ∧ x.bw = k + 1 + (cntP x.own : Nat) ∧ x.dr = modB (k + 1 + (cntP x.own : Nat) + 1) ∧ MkQE (k + 1 + (cntP x.own : Nat) + 1 + 1) x.rib ∧ MkQE (k + 1 + (cntP x.own : Nat) + 1 + 1 + (cntQE x.rib : Nat)) x.sent
/-- element i of the cells xs is that, its rows lie in blocks of E -/
def ElN (xs : List Value) (w : World) (E : Nat → Prop) (i : Nat) (x : Nd) : Prop := ∃ ov rv sv, OwN w E ov rv sv x ∧ xs[i * 6]? = some (.int .i64 x.an) ∧ xs[i * 6 + 1]? = some (ov) ∧ xs[i * 6 + 2]? = some (.int .i64 x.bw) ∧ xs[i * 6 + 3]? = some (.bool x.dr) ∧ xs[i * 6 + 4]? = some (rv) ∧ xs[i * 6 + 5]? = some (sv)
def OwNS (w : World) (S : Nat → Prop) (v : Value) (L : List Nd) : Prop :=
 L.length ≤ 1048576 ∧ ((v = .slice none 0 0 ∧ L = []) ∨ ∃ (g cap : Nat) (xs : List Value) (E : Nat → Nat → Prop), v = .slice (some ⟨g, 0, none⟩) L.length cap ∧ S g ∧ Bl w g xs ∧ xs.length = L.length * 6 ∧
  (∀ i, i < L.length → (∀ b, E i b → S b) ∧ ¬ E i g ∧ ElN xs w (E i) i (L.getD i n0)) ∧ ∀ i j, i < L.length → j < L.length → i ≠ j → Dj (E i) (E j))
theorem OwNS.agr {w w' : World} {S : Nat → Prop} {v : Value} {L : List Nd} (h : OwNS w S v L) (a : AgrS S w w') : OwNS w' S v L := by
 obtain ⟨hl, h | ⟨g, cap, xs, E, hv, h1, hB, hx, hE, hd⟩⟩ := h
 ·exact ⟨hl, .inl h⟩
 ·refine ⟨hl, .inr ⟨g, cap, xs, E, hv, h1, bl_agrS hB a h1, hx, fun i hi => ?_, hd⟩⟩
  obtain ⟨e1, e2, ov, rv, sv, ho, e5⟩ := hE i hi
  exact ⟨e1, e2, ov, rv, sv, ho.agr (a.sub e1), e5⟩
theorem OwNS.mono {w : World} {S S' : Nat → Prop} {v : Value} {L : List Nd} (h : OwNS w S v L) (hs : ∀ b, S b → S' b) : OwNS w S' v L := by
 obtain ⟨hl, h | ⟨g, cap, xs, E, hv, h1, hB, hx, hE, hd⟩⟩ := h
 ·exact ⟨hl, .inl h⟩
 ·exact ⟨hl, .inr ⟨g, cap, xs, E, hv, hs _ h1, hB, hx, fun i hi => ⟨fun b hb => hs _ ((hE i hi).1 b hb), (hE i hi).2⟩, hd⟩⟩
theorem OwNS.rd {w : World} {S : Nat → Prop} {v : Value} {L : List Nd} (h : OwNS w S v L) : RdNS w v L := by
 obtain ⟨hl, ⟨rfl, rfl⟩ | ⟨g, cap, xs, E, rfl, h1, hB, hx, hE, hd⟩⟩ := h
 ·exact RdNS.nil w
 ·refine ⟨by omega, ?_⟩
  by_cases h0 : L.length = 0
  ·exact .inl ⟨some ⟨g, 0, none⟩, cap, by rw [h0], List.eq_nil_of_length_eq_zero h0, fun h => by cases h⟩
  ·refine .inr ⟨g, 0, cap, rfl, by omega, fun i hi => ?_⟩
   obtain ⟨-, -, ov, rv, sv, ho, e0, e1, e2, e3, e4, e5⟩ := hE i hi; refine ⟨ov, rv, sv, ho.rd, ?_⟩; simp only [Nat.zero_add]
   exact ⟨hB.c _ e0, hB.c _ e1, hB.c _ e2, hB.c _ e3, hB.c _ e4, hB.c _ e5⟩
def cntNS (L : List Nd) : Nat := (L.map cntN).sum
def MkNS (k : Int) (L : List Nd) : Prop := ∀ i, i < L.length → MkN (k + (cntNS (L.take i) : Nat)) (L.getD i n0)
theorem cntNS_take {L : List Nd} {j : Nat} (h : j < L.length) : cntNS (L.take (j + 1)) = cntNS (L.take j) + cntN (L.getD j n0) := by
 unfold cntNS; rw [List.take_succ_eq_append_getElem h, List.map_append, List.sum_append]; have e : L.getD j n0 = L[j] := by simp [List.getD, h]
 rw [e]
 simp
theorem cntNS_le (L : List Nd) (j : Nat) : cntNS (L.take j) ≤ cntNS L := by
 conv => rhs; rw [← List.take_append_drop j L]
 unfold cntNS; rw [List.map_append, List.sum_append]
 omega
theorem cntNS_same {L L' : List Nd} (h : L'.map cntN = L.map cntN) (j : Nat) : cntNS (L'.take j) = cntNS (L.take j) := by
 unfold cntNS; rw [List.map_take, List.map_take, h]
/-- element j turns, nothing else of the list -/
theorem OwNS.upd {w w' : World} {S : Nat → Prop} {g cap j : Nat} {xs xs' : List Value} {E : Nat → Nat → Prop} {L : List Nd} {x' : Nd} (hl : L.length ≤ 1048576) (h1 : S g) (hB : Bl w' g xs') (hx : xs'.length = L.length * 6)
  (hE : ∀ i, i < L.length → (∀ b, E i b → S b) ∧ ¬ E i g ∧ ElN xs w (E i) i (L.getD i n0)) (hd : ∀ i j, i < L.length → j < L.length → i ≠ j → Dj (E i) (E j)) (hj : j < L.length)
  (hsame : ∀ i, i < L.length → i ≠ j → ∀ f, f < 6 → xs'[i * 6 + f]? = xs[i * 6 + f]?) (hb : ButS g (E j) w w') (hn : ElN xs' w' (E j) j x') : OwNS w' S (.slice (some ⟨g, 0, none⟩) L.length cap) (L.set j x') := by
 refine ⟨by rw [List.length_set]; exact hl, .inr ⟨g, cap, xs', E, by rw [List.length_set], h1, hB, by rw [List.length_set]; exact hx, fun i hi => ?_, fun i j hi hj' hij => hd i j (by rwa [List.length_set] at hi) (by rwa [List.length_set] at hj') hij⟩⟩; rw [List.length_set] at hi; obtain ⟨e1, e2, e5⟩ := hE i hi; refine ⟨e1, e2, ?_⟩
 by_cases e : i = j
 ·subst e
  rw [show (L.set i x').getD i n0 = x' by simp [List.getD, hi]]
  exact hn
 ·rw [show (L.set j x').getD i n0 = L.getD i n0 by simp [List.getD, List.getElem?_set, Ne.symm e]]
  obtain ⟨ov, rv, sv, ho, f0, f1, f2, f3, f4, f5⟩ := e5; refine ⟨ov, rv, sv, ho.agr (hb.agr e2 (hd i j hi hj e)), ?_, ?_, ?_, ?_, ?_, ?_⟩
  ·rw [show i * 6 = i * 6 + 0 from rfl, hsame i hi e 0 (by omega)]; exact f0
  ·rw [hsame i hi e 1 (by omega)]; exact f1
  ·rw [hsame i hi e 2 (by omega)]; exact f2
  ·rw [hsame i hi e 3 (by omega)]; exact f3
  ·rw [hsame i hi e 4 (by omega)]; exact f4
  ·rw [hsame i hi e 5 (by omega)]; exact f5
set_option maxHeartbeats 8000000 in
theorem mkNS_any (v : Value) (L : List Nd) (k : Int) (S : Nat → Prop) (w : World) (h : OwNS w S v L) (hk0 : 0 ≤ k) (hk : k + (cntNS L : Nat) ≤ 40000000) :
  Calls Tryz.prog 25 #[v, .int .i64 k] w fun e w' => ∃ L', e = .returned (.int .i64 (k + (cntNS L : Nat))) ∧ cntNS L' = cntNS L ∧ L'.length = L.length ∧ MkNS k L' ∧ OwNS w' S v L' ∧ MidS S w w' := by
 obtain ⟨va, vx, hv⟩ := h.rd.len; obtain ⟨n, hn⟩ : ∃ n, n = L.length := ⟨_, rfl⟩; rw [← hn] at hv ⊢; subst hv; have hnb := h.1; rw [← hn] at hnb; have HN := Lib.hid hn; have HH := Lib.hid h; clear h hn
 go_enter Tryz.func25, Tryz.ntmps25
 go_wp2
 go_loopw [1, 5] (fun s i wr => ∃ (j : Nat) (L' : List Nd), j ≤ n ∧ i = .int .i64 j ∧ s = .int .i64 (k + (cntNS (L.take j) : Nat)) ∧ L'.length = n ∧ L'.map cntN = L.map cntN ∧ (∀ i, i < j → MkN (k + (cntNS (L'.take i) : Nat)) (L'.getD i n0)) ∧ OwNS wr S (.slice va n vx) L' ∧ MidS S w wr) (fun _ i _ => n - (intOf i).toNat)
 case atStart => exact ⟨0, L, Nat.zero_le _, rfl, by simp [cntNS], HN.out.symm, rfl, fun i hi => by omega, HH.out, MidS.refl _ _⟩
 case round =>
  obtain ⟨j, L', hj, rfl, rfl, hlen, hcm, hyes, hO, hB⟩ := hrel
  by_cases hlt : j < n
  ·have hltI : (j : Int) < (n : Int) := by omega
   obtain ⟨hl, hnil | ⟨g, cap, xs, E, hv, hSg, bX, hxl, hE, hdis⟩⟩ := hO
   ·exact absurd hnil.2 (by intro q; rw [q] at hlen; simp at hlen; omega)
   simp only [Value.slice.injEq] at hv; obtain ⟨rfl, -, rfl⟩ := hv; obtain ⟨e1, e2, ov, rv, sv, ho, x0, x1, x2, x3, x4, x5⟩ := hE j (by omega); obtain ⟨x, hx⟩ : ∃ x, L'.getD j n0 = x := ⟨_, rfl⟩; rw [hx] at ho x0 x2 x3; have HX := Lib.hid hx; have hcnt := cntNS_take (L := L') (j := j) (by omega); rw [cntNS_same hcm, cntNS_same hcm, hx] at hcnt; have hle := cntNS_le L (j + 1); obtain ⟨r0, hr0⟩ : ∃ r : Int, r = k + (cntNS (L.take j) : Nat) := ⟨_, rfl⟩; have hend : r0 + (cntN x : Nat) = k + (cntNS (L.take (j + 1)) : Nat) := by omega
   have hbd : 0 ≤ r0 ∧ r0 + (cntN x : Nat) ≤ 40000000 := by omega
   rw [← hr0]; have HR0 := Lib.hid hr0; have HEND := Lib.hid hend; have HYES := Lib.hid hyes; have HCM := Lib.hid hcm; have HLL := Lib.hid (And.intro hl hlen); have HEE := Lib.hid hE; have HDD := Lib.hid hdis; have HXL := Lib.hid hxl; clear hr0 hend hyes hcm hcnt hle hE hdis hx hl hlen hxl; obtain ⟨S0, S1, S2, sb0, sb1, sb2, dj01, dj02, dj12, o0, o1, o2⟩ := ho; unfold cntN at hbd; obtain ⟨r1, hr1⟩ : ∃ r : Int, r = r0 + 1 := ⟨_, rfl⟩; obtain ⟨r2, hr2⟩ : ∃ r : Int, r = r1 + (cntP x.own : Nat) := ⟨_, rfl⟩; obtain ⟨r3, hr3⟩ : ∃ r : Int, r = r2 + 1 := ⟨_, rfl⟩; obtain ⟨r4, hr4⟩ : ∃ r : Int, r = r3 + 1 := ⟨_, rfl⟩; obtain ⟨r5, hr5⟩ : ∃ r : Int, r = r4 + (cntQE x.rib : Nat) := ⟨_, rfl⟩; obtain ⟨r6, hr6⟩ : ∃ r : Int, r = r5 + (cntQE x.sent : Nat) := ⟨_, rfl⟩; have b0 : 0 ≤ r0 ∧ r0 ≤ 40000000 := by omega
   have b1 : 0 ≤ r1 ∧ r1 ≤ 40000000 := by omega
   have b2 : 0 ≤ r2 ∧ r2 ≤ 40000000 := by omega
   have b3 : 0 ≤ r3 ∧ r3 ≤ 40000000 := by omega
   have b4 : 0 ≤ r4 ∧ r4 ≤ 40000000 := by omega
   have b5 : 0 ≤ r5 ∧ r5 ≤ 40000000 := by omega
   have b6 : 0 ≤ r6 ∧ r6 ≤ 40000000 := by omega
   have w0 : IntKind.i64.wrap (r0 + 1) = r1 := by rw [hr1]; exact wrap64_in _ (by omega) (by omega)
   have w2 : IntKind.i64.wrap (r2 + 1) = r3 := by rw [hr3]; exact wrap64_in _ (by omega) (by omega)
   have w3 : IntKind.i64.wrap (r3 + 1) = r4 := by rw [hr4]; exact wrap64_in _ (by omega) (by omega)
   have tm3 : r3.tmod 3 = r3 % 3 := Int.tmod_eq_emod_of_nonneg (by omega); have tw3 : IntKind.i64.wrap (r3 % 3) = r3 % 3 := wrap64_in _ (by omega) (by omega); have tb3 : (r3 % 3 == 0) = modB r3 := by unfold modB; by_cases h : r3 % 3 = 0 <;> simp [h]
   have Q1 := Lib.hid hr1; have Q2 := Lib.hid hr2; have Q3 := Lib.hid hr3; have Q4 := Lib.hid hr4; have Q5 := Lib.hid hr5; have Q6 := Lib.hid hr6; clear hr1 hr2 hr3 hr4 hr5 hr6 hbd; have but : ButS g (E j) wr wr := ButS.refl _ _ _; have y0 := bX.c (j * 6) (x0); have z0 := bX.f (j * 6) (x0); have y1 := bX.c (j * 6 + 1) (x1); go_wp2_with fail; clear y0 z0 y1; replace bX := bX.set (j * 6) (.int .i64 r0); replace but := but.set (o := j * 6) (u := .int .i64 r0); replace o0 := o0.agr (agr_setS (g := g) (o := j * 6) (u := .int .i64 r0) _ (fun h => e2 (sb0 _ h))); replace o1 := o1.agr (agr_setS (g := g) (o := j * 6) (u := .int .i64 r0) _ (fun h => e2 (sb1 _ h))); replace o2 := o2.agr (agr_setS (g := g) (o := j * 6) (u := .int .i64 r0) _ (fun h => e2 (sb2 _ h))); obtain ⟨X0, hX0⟩ : ∃ X, X = (wr.setCell ⟨g, j * 6, none⟩ (.int .i64 r0)) := ⟨_, rfl⟩; rw [← hX0] at bX but o0 o1 o2 ⊢; clear hX0; refine (mkPr_any _ x.own r1 _ X0 o0 (by omega) (by have := Q2.out; omega)).mono ?_; rintro e w1 ⟨nw0, rfl, s0, lm0, t0, o0, mid⟩; rw [← Q2.out]; replace bX := mid.bl bX (fun h => e2 (sb0 _ h)); replace but := but.mid mid sb0; replace o1 := o1.agr (mid.agr dj01.symm); replace o2 := o2.agr (mid.agr dj02.symm); clear mid; have y2 := bX.c (j * 6 + 2) (by rw [List.getElem?_set_ne (by omega)]; exact x2); have z2 := bX.f (j * 6 + 2) (by rw [List.getElem?_set_ne (by omega)]; exact x2); have y3 := bX.c (j * 6 + 3) (by rw [List.getElem?_set_ne (by omega)]; exact x3); have z3 := bX.f (j * 6 + 3) (by rw [List.getElem?_set_ne (by omega)]; exact x3); have y4 := bX.c (j * 6 + 4) (by rw [List.getElem?_set_ne (by omega)]; exact x4); go_wp2_with fail; clear y2 z2 y3 z3 y4; replace bX := bX.set (j * 6 + 2) (.int .i64 r2); replace but := but.set (o := j * 6 + 2) (u := .int .i64 r2); replace o0 := o0.agr (agr_setS (g := g) (o := j * 6 + 2) (u := .int .i64 r2) _ (fun h => e2 (sb0 _ h))); replace o1 := o1.agr (agr_setS (g := g) (o := j * 6 + 2) (u := .int .i64 r2) _ (fun h => e2 (sb1 _ h))); replace o2 := o2.agr (agr_setS (g := g) (o := j * 6 + 2) (u := .int .i64 r2) _ (fun h => e2 (sb2 _ h))); replace bX := bX.set (j * 6 + 3) (.bool (modB r3)); replace but := but.set (o := j * 6 + 3) (u := .bool (modB r3)); replace o0 := o0.agr (agr_setS (g := g) (o := j * 6 + 3) (u := .bool (modB r3)) _ (fun h => e2 (sb0 _ h))); replace o1 := o1.agr (agr_setS (g := g) (o := j * 6 + 3) (u := .bool (modB r3)) _ (fun h => e2 (sb1 _ h))); replace o2 := o2.agr (agr_setS (g := g) (o := j * 6 + 3) (u := .bool (modB r3)) _ (fun h => e2 (sb2 _ h))); obtain ⟨X1, hX1⟩ : ∃ X, X = ((w1.setCell ⟨g, j * 6 + 2, none⟩ (.int .i64 r2)).setCell ⟨g, j * 6 + 3, none⟩ (.bool (modB r3))) := ⟨_, rfl⟩; rw [← hX1] at bX but o0 o1 o2 ⊢; clear hX1; refine (mkQE_any _ x.rib r4 _ X1 o1 (by omega) (by have := Q5.out; omega)).mono ?_; rintro e w2 ⟨nw1, rfl, s1, lm1, t1, o1, mid⟩; rw [← Q5.out]; replace bX := mid.bl bX (fun h => e2 (sb1 _ h)); replace but := but.mid mid sb1; replace o0 := o0.agr (mid.agr dj01); replace o2 := o2.agr (mid.agr dj12.symm); clear mid; have y5 := bX.c (j * 6 + 5) (by rw [List.getElem?_set_ne (by omega)]; rw [List.getElem?_set_ne (by omega)]; rw [List.getElem?_set_ne (by omega)]; exact x5); go_wp2_with fail; clear y5; obtain ⟨X2, hX2⟩ : ∃ X, X = w2 := ⟨_, rfl⟩; rw [← hX2] at bX but o0 o1 o2 ⊢; clear hX2; refine (mkQE_any _ x.sent r5 _ X2 o2 (by omega) (by have := Q6.out; omega)).mono ?_; rintro e w3 ⟨nw2, rfl, s2, lm2, t2, o2, mid⟩; rw [← Q6.out]; replace bX := mid.bl bX (fun h => e2 (sb2 _ h)); replace but := but.mid mid sb2; replace o0 := o0.agr (mid.agr dj02); replace o1 := o1.agr (mid.agr dj12); clear mid; have KB := Lib.hid bX; go_wp2
   go_roundw
   case rel =>
    have hup := OwNS.upd (cap := vx) (x' := ⟨r0, nw0, r2, modB r3, nw1, nw2⟩) HLL.out.1 hSg bX (by simpa using HXL.out) HEE.out HDD.out (by have := HLL.out; omega) (fun i hi hij f hf => by rw [List.getElem?_set_ne (by omega)]; rw [List.getElem?_set_ne (by omega)]; rw [List.getElem?_set_ne (by omega)]) but
     ⟨ov, rv, sv, ⟨S0, S1, S2, sb0, sb1, sb2, dj01, dj02, dj12, o0, o1, o2⟩, by rw [List.getElem?_set_ne (by omega)]; rw [List.getElem?_set_ne (by omega)]; rw [List.getElem?_set_self (by (try simp only [List.length_set]); have := HXL.out; have := HLL.out; omega)], by rw [List.getElem?_set_ne (by omega)]; rw [List.getElem?_set_ne (by omega)]; rw [List.getElem?_set_ne (by omega)]; exact x1, by rw [List.getElem?_set_ne (by omega)]; rw [List.getElem?_set_self (by (try simp only [List.length_set]); have := HXL.out; have := HLL.out; omega)], by rw [List.getElem?_set_self (by (try simp only [List.length_set]); have := HXL.out; have := HLL.out; omega)], by rw [List.getElem?_set_ne (by omega)]; rw [List.getElem?_set_ne (by omega)]; rw [List.getElem?_set_ne (by omega)]; exact x4, by rw [List.getElem?_set_ne (by omega)]; rw [List.getElem?_set_ne (by omega)]; rw [List.getElem?_set_ne (by omega)]; exact x5⟩
    rw [HLL.out.2] at hup; have hc2 : cntN ⟨r0, nw0, r2, modB r3, nw1, nw2⟩ = cntN x := by unfold cntN; simp only [s0, s1, s2]
    refine ⟨j + 1, L'.set j ⟨r0, nw0, r2, modB r3, nw1, nw2⟩, by omega, by go_num, ?_, by rw [List.length_set]; exact HLL.out.2, ?_, fun i hi => ?_, hup, ?_⟩
    ·rw [← HEND.out]
     unfold cntN; have := Q1.out; have := Q2.out; have := Q3.out; have := Q4.out; have := Q5.out; have := Q6.out
     congr 1
     omega
    ·rw [List.map_set, hc2, ← HX.out, List.getD_eq_getElem?_getD, List.getElem?_eq_getElem (by have := HLL.out; omega)]
     rw [← HCM.out]
     apply List.ext_getElem?
     intro i
     by_cases e : j = i
     ·subst e; rw [List.getElem?_set_self (by rw [List.length_map]; have := HLL.out; omega), List.getElem?_map, List.getElem?_eq_getElem (by have := HLL.out; omega)]; rfl
     ·rw [List.getElem?_set_ne e]
    ·by_cases e : i = j
     ·subst e
      rw [show (L'.set i ⟨r0, nw0, r2, modB r3, nw1, nw2⟩).getD i n0 = ⟨r0, nw0, r2, modB r3, nw1, nw2⟩ by simp [List.getD, show i < L'.length by have := HLL.out; omega], List.take_set_of_le (Nat.le_refl i), cntNS_same HCM.out, ← HR0.out]; refine ⟨?_, ?_, ?_, ?_, ?_, ?_⟩
      ·(try rfl)
      ·rw [show r0 + 1 = r1 by have := Q1.out; first | omega | (simp only [s0, s1, s2]; omega) | simp only [s0, s1, s2]]; exact t0
      ·rw [show r0 + 1 + ((cntP nw0 : Nat) : Int) = r2 by have := Q1.out; have := Q2.out; first | omega | (simp only [s0, s1, s2]; omega) | simp only [s0, s1, s2]]; (try rfl)
      ·rw [show r0 + 1 + ((cntP nw0 : Nat) : Int) + 1 = r3 by have := Q1.out; have := Q2.out; have := Q3.out; first | omega | (simp only [s0, s1, s2]; omega) | simp only [s0, s1, s2]]; (try rfl)
      ·rw [show r0 + 1 + ((cntP nw0 : Nat) : Int) + 1 + 1 = r4 by have := Q1.out; have := Q2.out; have := Q3.out; have := Q4.out; first | omega | (simp only [s0, s1, s2]; omega) | simp only [s0, s1, s2]]; exact t1
      ·rw [show r0 + 1 + ((cntP nw0 : Nat) : Int) + 1 + 1 + ((cntQE nw1 : Nat) : Int) = r5 by have := Q1.out; have := Q2.out; have := Q3.out; have := Q4.out; have := Q5.out; first | omega | (simp only [s0, s1, s2]; omega) | simp only [s0, s1, s2]]; exact t2
     ·rw [show (L'.set j ⟨r0, nw0, r2, modB r3, nw1, nw2⟩).getD i n0 = L'.getD i n0 by simp [List.getD, List.getElem?_set, Ne.symm e], List.take_set_of_le (by omega)]
      exact HYES.out i (by omega)
    ·exact hB.trans (but.midS e1 hSg)
   case measure => simp [intOf]; omega
  ·have hkn : j = n := by omega
   subst hkn; have HT : Hid (L.take j = L) := Lib.hid (List.take_of_length_le (by rw [HN.out]; exact Nat.le_refl _)); have HF := Lib.hid (And.intro hcm (And.intro hyes (And.intro hO (And.intro hB hlen)))); clear hcm hyes hO hB hlen; go_wp2
   go_ret
   obtain ⟨hcm, hyes, hO, hB, hlen⟩ := HF.out; refine ⟨L', by first | rfl | (rw [HT.out]; rfl), ?_, hlen, fun i hi => hyes i (by omega), hO, hB⟩; unfold cntNS; rw [hcm]
set_option maxHeartbeats 4000000 in
theorem hdNS_any (v : Value) (L : List Nd) (k : Int) (w : World) (h : RdNS w v L) (hm : MkNS k L) (hk0 : 0 ≤ k) (hk : k + (cntNS L : Nat) ≤ 40000000) :
  Calls Tryz.prog 40 #[v, .int .i64 k] w fun e w' => e = .returned (.int .i64 (k + (cntNS L : Nat))) ∧ Below w.heap.size w w' := by
 have hnn := h.1; obtain ⟨a, c, rfl, hc⟩ := h.el; obtain ⟨n, hn⟩ : ∃ n, n = L.length := ⟨_, rfl⟩; rw [← hn] at hc hnn ⊢; have HN := Lib.hid hn; have HM := Lib.hid hm; clear h hn hm
 go_enter Tryz.func40, Tryz.ntmps40
 go_wp2
 go_loopw [1, 5] (fun s i wr => ∃ j : Nat, j ≤ n ∧ i = .int .i64 j ∧ s = .int .i64 (k + (cntNS (L.take j) : Nat)) ∧ Below w.heap.size w wr) (fun _ i _ => n - (intOf i).toNat)
 case atStart => exact ⟨0, Nat.zero_le _, rfl, by simp [cntNS], Below.refl _ _⟩
 case round =>
  obtain ⟨j, hj, rfl, rfl, hB⟩ := hrel
  by_cases hlt : j < n
  ·have hltI : (j : Int) < (n : Int) := by omega
   obtain ⟨b, o, rfl, hE⟩ := hc j hlt; obtain ⟨x, hx⟩ : ∃ x, L.getD j n0 = x := ⟨_, rfl⟩; have hmx := HM.out j (by rw [← HN.out]; exact hlt); rw [hx] at hE hmx; obtain ⟨ov, rv, sv, ⟨o0, o1, o2⟩, g0, g1, g2, g3, g4, g5⟩ := hE.keep hB; have hcnt := cntNS_take (L := L) (j := j) (by rw [← HN.out]; exact hlt); rw [hx] at hcnt; have hle := cntNS_le L (j + 1); obtain ⟨r0, hr0⟩ : ∃ r : Int, r = k + (cntNS (L.take j) : Nat) := ⟨_, rfl⟩; have hend : r0 + (cntN x : Nat) = k + (cntNS (L.take (j + 1)) : Nat) := by omega
   have hbd : 0 ≤ r0 ∧ r0 + (cntN x : Nat) ≤ 40000000 := by omega
   rw [← hr0] at hmx ⊢; have HEND := Lib.hid hend; have HC := Lib.hid hc; clear hr0 hend hcnt hle hx hc hE; unfold cntN at hbd; unfold MkN at hmx; obtain ⟨a0, a1, a2, a3, a4, a5⟩ := hmx; obtain ⟨r1, hr1⟩ : ∃ r : Int, r = r0 + 1 := ⟨_, rfl⟩; have t0 : x.an = r0 := by rw [a0]; (try omega)
   rw [t0] at g0; obtain ⟨r2, hr2⟩ : ∃ r : Int, r = r1 + (cntP x.own : Nat) := ⟨_, rfl⟩
   have t1 : MkP r1 x.own := by
    have e : r0 + 1 = r1 := by omega
    rw [← e]; exact a1
   obtain ⟨r3, hr3⟩ : ∃ r : Int, r = r2 + 1 := ⟨_, rfl⟩; have t2 : x.bw = r2 := by rw [a2]; (try omega)
   rw [t2] at g2; obtain ⟨r4, hr4⟩ : ∃ r : Int, r = r3 + 1 := ⟨_, rfl⟩
   have t3 : x.dr = modB r3 := by
    have e : r0 + 1 + ((cntP x.own : Nat) : Int) + 1 = r3 := by omega
    rw [← e]; exact a3
   rw [t3] at g3; obtain ⟨r5, hr5⟩ : ∃ r : Int, r = r4 + (cntQE x.rib : Nat) := ⟨_, rfl⟩
   have t4 : MkQE r4 x.rib := by
    have e : r0 + 1 + ((cntP x.own : Nat) : Int) + 1 + 1 = r4 := by omega
    rw [← e]; exact a4
   obtain ⟨r6, hr6⟩ : ∃ r : Int, r = r5 + (cntQE x.sent : Nat) := ⟨_, rfl⟩
   have t5 : MkQE r5 x.sent := by
    have e : r0 + 1 + ((cntP x.own : Nat) : Int) + 1 + 1 + ((cntQE x.rib : Nat) : Int) = r5 := by omega
    rw [← e]; exact a5
   have b0 : 0 ≤ r0 ∧ r0 ≤ 40000000 := by omega
   have b1 : 0 ≤ r1 ∧ r1 ≤ 40000000 := by omega
   have b2 : 0 ≤ r2 ∧ r2 ≤ 40000000 := by omega
   have b3 : 0 ≤ r3 ∧ r3 ≤ 40000000 := by omega
   have b4 : 0 ≤ r4 ∧ r4 ≤ 40000000 := by omega
   have b5 : 0 ≤ r5 ∧ r5 ≤ 40000000 := by omega
   have b6 : 0 ≤ r6 ∧ r6 ≤ 40000000 := by omega
   have ng0 : ¬ r0 < 0 := by omega
   have ng1 : ¬ r1 < 0 := by omega
   have ng2 : ¬ r2 < 0 := by omega
   have ng3 : ¬ r3 < 0 := by omega
   have ng4 : ¬ r4 < 0 := by omega
   have ng5 : ¬ r5 < 0 := by omega
   have ng6 : ¬ r6 < 0 := by omega
   have w0 : IntKind.i64.wrap (r0 + 1) = r1 := by rw [hr1]; exact wrap64_in _ (by omega) (by omega)
   have e0 : (r0 != r0) = false := by simp
   have w2 : IntKind.i64.wrap (r2 + 1) = r3 := by rw [hr3]; exact wrap64_in _ (by omega) (by omega)
   have e2 : (r2 != r2) = false := by simp
   have w3 : IntKind.i64.wrap (r3 + 1) = r4 := by rw [hr4]; exact wrap64_in _ (by omega) (by omega)
   have tm3 : r3.tmod 3 = r3 % 3 := Int.tmod_eq_emod_of_nonneg (by omega); have tw3 : IntKind.i64.wrap (r3 % 3) = r3 % 3 := wrap64_in _ (by omega) (by omega); have tb3 : (r3 % 3 == 0) = modB r3 := by unfold modB; by_cases h : r3 % 3 = 0 <;> simp [h]
   have e3 : (modB r3 != modB r3) = false := by simp
   have Q1 := Lib.hid hr1; have Q2 := Lib.hid hr2; have Q3 := Lib.hid hr3; have Q4 := Lib.hid hr4; have Q5 := Lib.hid hr5; have Q6 := Lib.hid hr6; clear hr1 hr2 hr3 hr4 hr5 hr6 hbd a0 a1 a2 a3 a4 a5 t0 t2 t3; go_wp2_with fail; refine (hdPr_any _ x.own r1 _ o0 t1 (by omega) (by have := Q2.out; omega)).mono ?_; rintro e v1 ⟨rfl, hb⟩; rw [← Q2.out]; replace hB := below_step hB hb; replace g2 := cell_keep hb (World.block_lt_of_cell? _ _ g2) g2; replace g3 := cell_keep hb (World.block_lt_of_cell? _ _ g3) g3; replace g4 := cell_keep hb (World.block_lt_of_cell? _ _ g4) g4; replace g5 := cell_keep hb (World.block_lt_of_cell? _ _ g5) g5; replace o1 := o1.keep hb; replace o2 := o2.keep hb; clear hb; go_wp2_with fail; refine (hdQE_any _ x.rib r4 _ o1 t4 (by omega) (by have := Q5.out; omega)).mono ?_; rintro e v4 ⟨rfl, hb⟩; rw [← Q5.out]; replace hB := below_step hB hb; replace g5 := cell_keep hb (World.block_lt_of_cell? _ _ g5) g5; replace o2 := o2.keep hb; clear hb; go_wp2_with fail; refine (hdQE_any _ x.sent r5 _ o2 t5 (by omega) (by have := Q6.out; omega)).mono ?_; rintro e v5 ⟨rfl, hb⟩; rw [← Q6.out]; replace hB := below_step hB hb; clear hb; go_wp2
   go_roundw
   case rel => exact ⟨j + 1, by omega, by go_num, by rw [← HEND.out]; unfold cntN; have := Q1.out; have := Q2.out; have := Q3.out; have := Q4.out; have := Q5.out; have := Q6.out; congr 1; omega, hB⟩
   case measure => simp [intOf]; omega
  ·have hkn : j = n := by omega
   subst hkn; have HT : Hid (L.take j = L) := Lib.hid (List.take_of_length_le (by rw [HN.out]; exact Nat.le_refl _)); clear hc; go_wp2
   go_ret
   exact ⟨by first | rfl | (rw [HT.out]; rfl), hB⟩
def OwL (w : World) (S : Nat → Prop) (av bv : Value) (x : Lk) : Prop := ∃ S0 S1 : Nat → Prop, (∀ b, S0 b → S b) ∧ (∀ b, S1 b → S b) ∧ Dj S0 S1 ∧ OwMS w S0 av x.ab ∧ OwMS w S1 bv x.ba
theorem OwL.agr {w w' : World} {S : Nat → Prop} {av bv : Value} {x : Lk} (h : OwL w S av bv x) (a : AgrS S w w') : OwL w' S av bv x := by
 obtain ⟨S0, S1, sb0, sb1, dj01, h0, h1⟩ := h
 exact ⟨S0, S1, sb0, sb1, dj01, h0.agr (a.sub sb0), h1.agr (a.sub sb1)⟩
theorem OwL.rd {w : World} {S : Nat → Prop} {av bv : Value} {x : Lk} (h : OwL w S av bv x) : RdL w av bv x := by
 obtain ⟨S0, S1, -, -, -, h0, h1⟩ := h
 exact ⟨h0.rd, h1.rd⟩
def cntL (x : Lk) : Nat := 5 + cntMS x.ab + cntMS x.ba
def MkL (k : Int) (x : Lk) : Prop := x.a = k ∧ x.ai = k + 1 ∧ x.b = k + 1 + 1 ∧ x.bi = k + 1 + 1 + 1 ∧ x.up = modB (k + 1 + 1 + 1 + 1) ∧ MkMS (k + 1 + 1 + 1 + 1 + 1) x.ab ∧ MkMS (k + 1 + 1 + 1 + 1 + 1 + (cntMS x.ab : Nat)) x.ba
/-- element i of the cells xs is that, its rows lie in blocks of E -/
def ElL (xs : List Value) (w : World) (E : Nat → Prop) (i : Nat) (x : Lk) : Prop := ∃ av bv, OwL w E av bv x ∧ xs[i * 7]? = some (.int .i64 x.a) ∧ xs[i * 7 + 1]? = some (.int .i64 x.ai) ∧ xs[i * 7 + 2]? = some (.int .i64 x.b) ∧ xs[i * 7 + 3]? = some (.int .i64 x.bi) ∧ xs[i * 7 + 4]? = some (.bool x.up) ∧ xs[i * 7 + 5]? = some (av) ∧ xs[i * 7 + 6]? = some (bv)
def OwLS (w : World) (S : Nat → Prop) (v : Value) (L : List Lk) : Prop :=
 L.length ≤ 1048576 ∧ ((v = .slice none 0 0 ∧ L = []) ∨ ∃ (g cap : Nat) (xs : List Value) (E : Nat → Nat → Prop), v = .slice (some ⟨g, 0, none⟩) L.length cap ∧ S g ∧ Bl w g xs ∧ xs.length = L.length * 7 ∧
  (∀ i, i < L.length → (∀ b, E i b → S b) ∧ ¬ E i g ∧ ElL xs w (E i) i (L.getD i l0)) ∧ ∀ i j, i < L.length → j < L.length → i ≠ j → Dj (E i) (E j))
theorem OwLS.agr {w w' : World} {S : Nat → Prop} {v : Value} {L : List Lk} (h : OwLS w S v L) (a : AgrS S w w') : OwLS w' S v L := by
 obtain ⟨hl, h | ⟨g, cap, xs, E, hv, h1, hB, hx, hE, hd⟩⟩ := h
 ·exact ⟨hl, .inl h⟩
 ·refine ⟨hl, .inr ⟨g, cap, xs, E, hv, h1, bl_agrS hB a h1, hx, fun i hi => ?_, hd⟩⟩
  obtain ⟨e1, e2, av, bv, ho, e5⟩ := hE i hi
  exact ⟨e1, e2, av, bv, ho.agr (a.sub e1), e5⟩
theorem OwLS.mono {w : World} {S S' : Nat → Prop} {v : Value} {L : List Lk} (h : OwLS w S v L) (hs : ∀ b, S b → S' b) : OwLS w S' v L := by
 obtain ⟨hl, h | ⟨g, cap, xs, E, hv, h1, hB, hx, hE, hd⟩⟩ := h
 ·exact ⟨hl, .inl h⟩
 ·exact ⟨hl, .inr ⟨g, cap, xs, E, hv, hs _ h1, hB, hx, fun i hi => ⟨fun b hb => hs _ ((hE i hi).1 b hb), (hE i hi).2⟩, hd⟩⟩
theorem OwLS.rd {w : World} {S : Nat → Prop} {v : Value} {L : List Lk} (h : OwLS w S v L) : RdLS w v L := by
 obtain ⟨hl, ⟨rfl, rfl⟩ | ⟨g, cap, xs, E, rfl, h1, hB, hx, hE, hd⟩⟩ := h
 ·exact RdLS.nil w
 ·refine ⟨by omega, ?_⟩
  by_cases h0 : L.length = 0
  ·exact .inl ⟨some ⟨g, 0, none⟩, cap, by rw [h0], List.eq_nil_of_length_eq_zero h0, fun h => by cases h⟩
  ·refine .inr ⟨g, 0, cap, rfl, by omega, fun i hi => ?_⟩
   obtain ⟨-, -, av, bv, ho, e0, e1, e2, e3, e4, e5, e6⟩ := hE i hi; refine ⟨av, bv, ho.rd, ?_⟩; simp only [Nat.zero_add]
   exact ⟨hB.c _ e0, hB.c _ e1, hB.c _ e2, hB.c _ e3, hB.c _ e4, hB.c _ e5, hB.c _ e6⟩
def cntLS (L : List Lk) : Nat := (L.map cntL).sum
def MkLS (k : Int) (L : List Lk) : Prop := ∀ i, i < L.length → MkL (k + (cntLS (L.take i) : Nat)) (L.getD i l0)
theorem cntLS_take {L : List Lk} {j : Nat} (h : j < L.length) : cntLS (L.take (j + 1)) = cntLS (L.take j) + cntL (L.getD j l0) := by
 unfold cntLS; rw [List.take_succ_eq_append_getElem h, List.map_append, List.sum_append]; have e : L.getD j l0 = L[j] := by simp [List.getD, h]
 rw [e]
 simp
theorem cntLS_le (L : List Lk) (j : Nat) : cntLS (L.take j) ≤ cntLS L := by
 conv => rhs; rw [← List.take_append_drop j L]
 unfold cntLS; rw [List.map_append, List.sum_append]
 omega
theorem cntLS_same {L L' : List Lk} (h : L'.map cntL = L.map cntL) (j : Nat) : cntLS (L'.take j) = cntLS (L.take j) := by
 unfold cntLS; rw [List.map_take, List.map_take, h]
/-- element j turns, nothing else of the list -/
theorem OwLS.upd {w w' : World} {S : Nat → Prop} {g cap j : Nat} {xs xs' : List Value} {E : Nat → Nat → Prop} {L : List Lk} {x' : Lk} (hl : L.length ≤ 1048576) (h1 : S g) (hB : Bl w' g xs') (hx : xs'.length = L.length * 7)
  (hE : ∀ i, i < L.length → (∀ b, E i b → S b) ∧ ¬ E i g ∧ ElL xs w (E i) i (L.getD i l0)) (hd : ∀ i j, i < L.length → j < L.length → i ≠ j → Dj (E i) (E j)) (hj : j < L.length)
  (hsame : ∀ i, i < L.length → i ≠ j → ∀ f, f < 7 → xs'[i * 7 + f]? = xs[i * 7 + f]?) (hb : ButS g (E j) w w') (hn : ElL xs' w' (E j) j x') : OwLS w' S (.slice (some ⟨g, 0, none⟩) L.length cap) (L.set j x') := by
 refine ⟨by rw [List.length_set]; exact hl, .inr ⟨g, cap, xs', E, by rw [List.length_set], h1, hB, by rw [List.length_set]; exact hx, fun i hi => ?_, fun i j hi hj' hij => hd i j (by rwa [List.length_set] at hi) (by rwa [List.length_set] at hj') hij⟩⟩; rw [List.length_set] at hi; obtain ⟨e1, e2, e5⟩ := hE i hi; refine ⟨e1, e2, ?_⟩
 by_cases e : i = j
 ·subst e
  rw [show (L.set i x').getD i l0 = x' by simp [List.getD, hi]]
  exact hn
 ·rw [show (L.set j x').getD i l0 = L.getD i l0 by simp [List.getD, List.getElem?_set, Ne.symm e]]
  obtain ⟨av, bv, ho, f0, f1, f2, f3, f4, f5, f6⟩ := e5; refine ⟨av, bv, ho.agr (hb.agr e2 (hd i j hi hj e)), ?_, ?_, ?_, ?_, ?_, ?_, ?_⟩
  ·rw [show i * 7 = i * 7 + 0 from rfl, hsame i hi e 0 (by omega)]; exact f0
  ·rw [hsame i hi e 1 (by omega)]; exact f1
  ·rw [hsame i hi e 2 (by omega)]; exact f2
  ·rw [hsame i hi e 3 (by omega)]; exact f3
  ·rw [hsame i hi e 4 (by omega)]; exact f4
  ·rw [hsame i hi e 5 (by omega)]; exact f5
  ·rw [hsame i hi e 6 (by omega)]; exact f6
set_option maxHeartbeats 8000000 in
theorem mkLS_any (v : Value) (L : List Lk) (k : Int) (S : Nat → Prop) (w : World) (h : OwLS w S v L) (hk0 : 0 ≤ k) (hk : k + (cntLS L : Nat) ≤ 40000000) :
  Calls Tryz.prog 39 #[v, .int .i64 k] w fun e w' => ∃ L', e = .returned (.int .i64 (k + (cntLS L : Nat))) ∧ cntLS L' = cntLS L ∧ L'.length = L.length ∧ MkLS k L' ∧ OwLS w' S v L' ∧ MidS S w w' := by
 obtain ⟨va, vx, hv⟩ := h.rd.len; obtain ⟨n, hn⟩ : ∃ n, n = L.length := ⟨_, rfl⟩; rw [← hn] at hv ⊢; subst hv; have hnb := h.1; rw [← hn] at hnb; have HN := Lib.hid hn; have HH := Lib.hid h; clear h hn
 go_enter Tryz.func39, Tryz.ntmps39
 go_wp2
 go_loopw [1, 5] (fun s i wr => ∃ (j : Nat) (L' : List Lk), j ≤ n ∧ i = .int .i64 j ∧ s = .int .i64 (k + (cntLS (L.take j) : Nat)) ∧ L'.length = n ∧ L'.map cntL = L.map cntL ∧ (∀ i, i < j → MkL (k + (cntLS (L'.take i) : Nat)) (L'.getD i l0)) ∧ OwLS wr S (.slice va n vx) L' ∧ MidS S w wr) (fun _ i _ => n - (intOf i).toNat)
 case atStart => exact ⟨0, L, Nat.zero_le _, rfl, by simp [cntLS], HN.out.symm, rfl, fun i hi => by omega, HH.out, MidS.refl _ _⟩
 case round =>
  obtain ⟨j, L', hj, rfl, rfl, hlen, hcm, hyes, hO, hB⟩ := hrel
  by_cases hlt : j < n
  ·have hltI : (j : Int) < (n : Int) := by omega
   obtain ⟨hl, hnil | ⟨g, cap, xs, E, hv, hSg, bX, hxl, hE, hdis⟩⟩ := hO
   ·exact absurd hnil.2 (by intro q; rw [q] at hlen; simp at hlen; omega)
   simp only [Value.slice.injEq] at hv; obtain ⟨rfl, -, rfl⟩ := hv; obtain ⟨e1, e2, av, bv, ho, x0, x1, x2, x3, x4, x5, x6⟩ := hE j (by omega); obtain ⟨x, hx⟩ : ∃ x, L'.getD j l0 = x := ⟨_, rfl⟩; rw [hx] at ho x0 x1 x2 x3 x4; have HX := Lib.hid hx; have hcnt := cntLS_take (L := L') (j := j) (by omega); rw [cntLS_same hcm, cntLS_same hcm, hx] at hcnt; have hle := cntLS_le L (j + 1); obtain ⟨r0, hr0⟩ : ∃ r : Int, r = k + (cntLS (L.take j) : Nat) := ⟨_, rfl⟩; have hend : r0 + (cntL x : Nat) = k + (cntLS (L.take (j + 1)) : Nat) := by omega
   have hbd : 0 ≤ r0 ∧ r0 + (cntL x : Nat) ≤ 40000000 := by omega
   rw [← hr0]; have HR0 := Lib.hid hr0; have HEND := Lib.hid hend; have HYES := Lib.hid hyes; have HCM := Lib.hid hcm; have HLL := Lib.hid (And.intro hl hlen); have HEE := Lib.hid hE; have HDD := Lib.hid hdis; have HXL := Lib.hid hxl; clear hr0 hend hyes hcm hcnt hle hE hdis hx hl hlen hxl; obtain ⟨S0, S1, sb0, sb1, dj01, o0, o1⟩ := ho; unfold cntL at hbd; obtain ⟨r1, hr1⟩ : ∃ r : Int, r = r0 + 1 := ⟨_, rfl⟩; obtain ⟨r2, hr2⟩ : ∃ r : Int, r = r1 + 1 := ⟨_, rfl⟩; obtain ⟨r3, hr3⟩ : ∃ r : Int, r = r2 + 1 := ⟨_, rfl⟩; obtain ⟨r4, hr4⟩ : ∃ r : Int, r = r3 + 1 := ⟨_, rfl⟩; obtain ⟨r5, hr5⟩ : ∃ r : Int, r = r4 + 1 := ⟨_, rfl⟩; obtain ⟨r6, hr6⟩ : ∃ r : Int, r = r5 + (cntMS x.ab : Nat) := ⟨_, rfl⟩; obtain ⟨r7, hr7⟩ : ∃ r : Int, r = r6 + (cntMS x.ba : Nat) := ⟨_, rfl⟩; have b0 : 0 ≤ r0 ∧ r0 ≤ 40000000 := by omega
   have b1 : 0 ≤ r1 ∧ r1 ≤ 40000000 := by omega
   have b2 : 0 ≤ r2 ∧ r2 ≤ 40000000 := by omega
   have b3 : 0 ≤ r3 ∧ r3 ≤ 40000000 := by omega
   have b4 : 0 ≤ r4 ∧ r4 ≤ 40000000 := by omega
   have b5 : 0 ≤ r5 ∧ r5 ≤ 40000000 := by omega
   have b6 : 0 ≤ r6 ∧ r6 ≤ 40000000 := by omega
   have b7 : 0 ≤ r7 ∧ r7 ≤ 40000000 := by omega
   have w0 : IntKind.i64.wrap (r0 + 1) = r1 := by rw [hr1]; exact wrap64_in _ (by omega) (by omega)
   have w1 : IntKind.i64.wrap (r1 + 1) = r2 := by rw [hr2]; exact wrap64_in _ (by omega) (by omega)
   have w2 : IntKind.i64.wrap (r2 + 1) = r3 := by rw [hr3]; exact wrap64_in _ (by omega) (by omega)
   have w3 : IntKind.i64.wrap (r3 + 1) = r4 := by rw [hr4]; exact wrap64_in _ (by omega) (by omega)
   have w4 : IntKind.i64.wrap (r4 + 1) = r5 := by rw [hr5]; exact wrap64_in _ (by omega) (by omega)
   have tm4 : r4.tmod 3 = r4 % 3 := Int.tmod_eq_emod_of_nonneg (by omega); have tw4 : IntKind.i64.wrap (r4 % 3) = r4 % 3 := wrap64_in _ (by omega) (by omega); have tb4 : (r4 % 3 == 0) = modB r4 := by unfold modB; by_cases h : r4 % 3 = 0 <;> simp [h]
   have Q1 := Lib.hid hr1; have Q2 := Lib.hid hr2; have Q3 := Lib.hid hr3; have Q4 := Lib.hid hr4; have Q5 := Lib.hid hr5; have Q6 := Lib.hid hr6; have Q7 := Lib.hid hr7; clear hr1 hr2 hr3 hr4 hr5 hr6 hr7 hbd; have but : ButS g (E j) wr wr := ButS.refl _ _ _; have y0 := bX.c (j * 7) (x0); have z0 := bX.f (j * 7) (x0); have y1 := bX.c (j * 7 + 1) (x1); have z1 := bX.f (j * 7 + 1) (x1); have y2 := bX.c (j * 7 + 2) (x2); have z2 := bX.f (j * 7 + 2) (x2); have y3 := bX.c (j * 7 + 3) (x3); have z3 := bX.f (j * 7 + 3) (x3); have y4 := bX.c (j * 7 + 4) (x4); have z4 := bX.f (j * 7 + 4) (x4); have y5 := bX.c (j * 7 + 5) (x5); go_wp2_with fail; clear y0 z0 y1 z1 y2 z2 y3 z3 y4 z4 y5; replace bX := bX.set (j * 7) (.int .i64 r0); replace but := but.set (o := j * 7) (u := .int .i64 r0); replace o0 := o0.agr (agr_setS (g := g) (o := j * 7) (u := .int .i64 r0) _ (fun h => e2 (sb0 _ h))); replace o1 := o1.agr (agr_setS (g := g) (o := j * 7) (u := .int .i64 r0) _ (fun h => e2 (sb1 _ h))); replace bX := bX.set (j * 7 + 1) (.int .i64 r1); replace but := but.set (o := j * 7 + 1) (u := .int .i64 r1); replace o0 := o0.agr (agr_setS (g := g) (o := j * 7 + 1) (u := .int .i64 r1) _ (fun h => e2 (sb0 _ h))); replace o1 := o1.agr (agr_setS (g := g) (o := j * 7 + 1) (u := .int .i64 r1) _ (fun h => e2 (sb1 _ h))); replace bX := bX.set (j * 7 + 2) (.int .i64 r2); replace but := but.set (o := j * 7 + 2) (u := .int .i64 r2); replace o0 := o0.agr (agr_setS (g := g) (o := j * 7 + 2) (u := .int .i64 r2) _ (fun h => e2 (sb0 _ h))); replace o1 := o1.agr (agr_setS (g := g) (o := j * 7 + 2) (u := .int .i64 r2) _ (fun h => e2 (sb1 _ h))); replace bX := bX.set (j * 7 + 3) (.int .i64 r3); replace but := but.set (o := j * 7 + 3) (u := .int .i64 r3); replace o0 := o0.agr (agr_setS (g := g) (o := j * 7 + 3) (u := .int .i64 r3) _ (fun h => e2 (sb0 _ h))); replace o1 := o1.agr (agr_setS (g := g) (o := j * 7 + 3) (u := .int .i64 r3) _ (fun h => e2 (sb1 _ h))); replace bX := bX.set (j * 7 + 4) (.bool (modB r4)); replace but := but.set (o := j * 7 + 4) (u := .bool (modB r4)); replace o0 := o0.agr (agr_setS (g := g) (o := j * 7 + 4) (u := .bool (modB r4)) _ (fun h => e2 (sb0 _ h))); replace o1 := o1.agr (agr_setS (g := g) (o := j * 7 + 4) (u := .bool (modB r4)) _ (fun h => e2 (sb1 _ h))); obtain ⟨X0, hX0⟩ : ∃ X, X = (((((wr.setCell ⟨g, j * 7, none⟩ (.int .i64 r0)).setCell ⟨g, j * 7 + 1, none⟩ (.int .i64 r1)).setCell ⟨g, j * 7 + 2, none⟩ (.int .i64 r2)).setCell ⟨g, j * 7 + 3, none⟩ (.int .i64 r3)).setCell ⟨g, j * 7 + 4, none⟩ (.bool (modB r4))) := ⟨_, rfl⟩; rw [← hX0] at bX but o0 o1 ⊢; clear hX0; refine (mkMS_any _ x.ab r5 _ X0 o0 (by omega) (by have := Q6.out; omega)).mono ?_; rintro e w1 ⟨nw0, rfl, s0, lm0, t0, o0, mid⟩; rw [← Q6.out]; replace bX := mid.bl bX (fun h => e2 (sb0 _ h)); replace but := but.mid mid sb0; replace o1 := o1.agr (mid.agr dj01.symm); clear mid; have y6 := bX.c (j * 7 + 6) (by rw [List.getElem?_set_ne (by omega)]; rw [List.getElem?_set_ne (by omega)]; rw [List.getElem?_set_ne (by omega)]; rw [List.getElem?_set_ne (by omega)]; rw [List.getElem?_set_ne (by omega)]; exact x6); go_wp2_with fail; clear y6; obtain ⟨X1, hX1⟩ : ∃ X, X = w1 := ⟨_, rfl⟩; rw [← hX1] at bX but o0 o1 ⊢; clear hX1; refine (mkMS_any _ x.ba r6 _ X1 o1 (by omega) (by have := Q7.out; omega)).mono ?_; rintro e w2 ⟨nw1, rfl, s1, lm1, t1, o1, mid⟩; rw [← Q7.out]; replace bX := mid.bl bX (fun h => e2 (sb1 _ h)); replace but := but.mid mid sb1; replace o0 := o0.agr (mid.agr dj01); clear mid; have KB := Lib.hid bX; go_wp2
   go_roundw
   case rel =>
    have hup := OwLS.upd (cap := vx) (x' := ⟨r0, r1, r2, r3, modB r4, nw0, nw1⟩) HLL.out.1 hSg bX (by simpa using HXL.out) HEE.out HDD.out (by have := HLL.out; omega) (fun i hi hij f hf => by rw [List.getElem?_set_ne (by omega)]; rw [List.getElem?_set_ne (by omega)]; rw [List.getElem?_set_ne (by omega)]; rw [List.getElem?_set_ne (by omega)]; rw [List.getElem?_set_ne (by omega)]) but
     ⟨av, bv, ⟨S0, S1, sb0, sb1, dj01, o0, o1⟩, by rw [List.getElem?_set_ne (by omega)]; rw [List.getElem?_set_ne (by omega)]; rw [List.getElem?_set_ne (by omega)]; rw [List.getElem?_set_ne (by omega)]; rw [List.getElem?_set_self (by (try simp only [List.length_set]); have := HXL.out; have := HLL.out; omega)], by rw [List.getElem?_set_ne (by omega)]; rw [List.getElem?_set_ne (by omega)]; rw [List.getElem?_set_ne (by omega)]; rw [List.getElem?_set_self (by (try simp only [List.length_set]); have := HXL.out; have := HLL.out; omega)], by rw [List.getElem?_set_ne (by omega)]; rw [List.getElem?_set_ne (by omega)]; rw [List.getElem?_set_self (by (try simp only [List.length_set]); have := HXL.out; have := HLL.out; omega)], by rw [List.getElem?_set_ne (by omega)]; rw [List.getElem?_set_self (by (try simp only [List.length_set]); have := HXL.out; have := HLL.out; omega)], by rw [List.getElem?_set_self (by (try simp only [List.length_set]); have := HXL.out; have := HLL.out; omega)], by rw [List.getElem?_set_ne (by omega)]; rw [List.getElem?_set_ne (by omega)]; rw [List.getElem?_set_ne (by omega)]; rw [List.getElem?_set_ne (by omega)]; rw [List.getElem?_set_ne (by omega)]; exact x5, by rw [List.getElem?_set_ne (by omega)]; rw [List.getElem?_set_ne (by omega)]; rw [List.getElem?_set_ne (by omega)]; rw [List.getElem?_set_ne (by omega)]; rw [List.getElem?_set_ne (by omega)]; exact x6⟩
    rw [HLL.out.2] at hup; have hc2 : cntL ⟨r0, r1, r2, r3, modB r4, nw0, nw1⟩ = cntL x := by unfold cntL; simp only [s0, s1]
    refine ⟨j + 1, L'.set j ⟨r0, r1, r2, r3, modB r4, nw0, nw1⟩, by omega, by go_num, ?_, by rw [List.length_set]; exact HLL.out.2, ?_, fun i hi => ?_, hup, ?_⟩
    ·rw [← HEND.out]
     unfold cntL; have := Q1.out; have := Q2.out; have := Q3.out; have := Q4.out; have := Q5.out; have := Q6.out; have := Q7.out
     congr 1
     omega
    ·rw [List.map_set, hc2, ← HX.out, List.getD_eq_getElem?_getD, List.getElem?_eq_getElem (by have := HLL.out; omega)]
     rw [← HCM.out]
     apply List.ext_getElem?
     intro i
     by_cases e : j = i
     ·subst e; rw [List.getElem?_set_self (by rw [List.length_map]; have := HLL.out; omega), List.getElem?_map, List.getElem?_eq_getElem (by have := HLL.out; omega)]; rfl
     ·rw [List.getElem?_set_ne e]
    ·by_cases e : i = j
     ·subst e
      rw [show (L'.set i ⟨r0, r1, r2, r3, modB r4, nw0, nw1⟩).getD i l0 = ⟨r0, r1, r2, r3, modB r4, nw0, nw1⟩ by simp [List.getD, show i < L'.length by have := HLL.out; omega], List.take_set_of_le (Nat.le_refl i), cntLS_same HCM.out, ← HR0.out]; refine ⟨?_, ?_, ?_, ?_, ?_, ?_, ?_⟩
      ·(try rfl)
      ·rw [show r0 + 1 = r1 by have := Q1.out; first | omega | (simp only [s0, s1]; omega) | simp only [s0, s1]]; (try rfl)
      ·rw [show r0 + 1 + 1 = r2 by have := Q1.out; have := Q2.out; first | omega | (simp only [s0, s1]; omega) | simp only [s0, s1]]; (try rfl)
      ·rw [show r0 + 1 + 1 + 1 = r3 by have := Q1.out; have := Q2.out; have := Q3.out; first | omega | (simp only [s0, s1]; omega) | simp only [s0, s1]]; (try rfl)
      ·rw [show r0 + 1 + 1 + 1 + 1 = r4 by have := Q1.out; have := Q2.out; have := Q3.out; have := Q4.out; first | omega | (simp only [s0, s1]; omega) | simp only [s0, s1]]; (try rfl)
      ·rw [show r0 + 1 + 1 + 1 + 1 + 1 = r5 by have := Q1.out; have := Q2.out; have := Q3.out; have := Q4.out; have := Q5.out; first | omega | (simp only [s0, s1]; omega) | simp only [s0, s1]]; exact t0
      ·rw [show r0 + 1 + 1 + 1 + 1 + 1 + ((cntMS nw0 : Nat) : Int) = r6 by have := Q1.out; have := Q2.out; have := Q3.out; have := Q4.out; have := Q5.out; have := Q6.out; first | omega | (simp only [s0, s1]; omega) | simp only [s0, s1]]; exact t1
     ·rw [show (L'.set j ⟨r0, r1, r2, r3, modB r4, nw0, nw1⟩).getD i l0 = L'.getD i l0 by simp [List.getD, List.getElem?_set, Ne.symm e], List.take_set_of_le (by omega)]
      exact HYES.out i (by omega)
    ·exact hB.trans (but.midS e1 hSg)
   case measure => simp [intOf]; omega
  ·have hkn : j = n := by omega
   subst hkn; have HT : Hid (L.take j = L) := Lib.hid (List.take_of_length_le (by rw [HN.out]; exact Nat.le_refl _)); have HF := Lib.hid (And.intro hcm (And.intro hyes (And.intro hO (And.intro hB hlen)))); clear hcm hyes hO hB hlen; go_wp2
   go_ret
   obtain ⟨hcm, hyes, hO, hB, hlen⟩ := HF.out; refine ⟨L', by first | rfl | (rw [HT.out]; rfl), ?_, hlen, fun i hi => hyes i (by omega), hO, hB⟩; unfold cntLS; rw [hcm]
set_option maxHeartbeats 4000000 in
theorem hdLS_any (v : Value) (L : List Lk) (k : Int) (w : World) (h : RdLS w v L) (hm : MkLS k L) (hk0 : 0 ≤ k) (hk : k + (cntLS L : Nat) ≤ 40000000) :
  Calls Tryz.prog 41 #[v, .int .i64 k] w fun e w' => e = .returned (.int .i64 (k + (cntLS L : Nat))) ∧ Below w.heap.size w w' := by
 have hnn := h.1; obtain ⟨a, c, rfl, hc⟩ := h.el; obtain ⟨n, hn⟩ : ∃ n, n = L.length := ⟨_, rfl⟩; rw [← hn] at hc hnn ⊢; have HN := Lib.hid hn; have HM := Lib.hid hm; clear h hn hm
 go_enter Tryz.func41, Tryz.ntmps41
 go_wp2
 go_loopw [1, 5] (fun s i wr => ∃ j : Nat, j ≤ n ∧ i = .int .i64 j ∧ s = .int .i64 (k + (cntLS (L.take j) : Nat)) ∧ Below w.heap.size w wr) (fun _ i _ => n - (intOf i).toNat)
 case atStart => exact ⟨0, Nat.zero_le _, rfl, by simp [cntLS], Below.refl _ _⟩
 case round =>
  obtain ⟨j, hj, rfl, rfl, hB⟩ := hrel
  by_cases hlt : j < n
  ·have hltI : (j : Int) < (n : Int) := by omega
   obtain ⟨b, o, rfl, hE⟩ := hc j hlt; obtain ⟨x, hx⟩ : ∃ x, L.getD j l0 = x := ⟨_, rfl⟩; have hmx := HM.out j (by rw [← HN.out]; exact hlt); rw [hx] at hE hmx; obtain ⟨av, bv, ⟨o0, o1⟩, g0, g1, g2, g3, g4, g5, g6⟩ := hE.keep hB; have hcnt := cntLS_take (L := L) (j := j) (by rw [← HN.out]; exact hlt); rw [hx] at hcnt; have hle := cntLS_le L (j + 1); obtain ⟨r0, hr0⟩ : ∃ r : Int, r = k + (cntLS (L.take j) : Nat) := ⟨_, rfl⟩; have hend : r0 + (cntL x : Nat) = k + (cntLS (L.take (j + 1)) : Nat) := by omega
   have hbd : 0 ≤ r0 ∧ r0 + (cntL x : Nat) ≤ 40000000 := by omega
   rw [← hr0] at hmx ⊢; have HEND := Lib.hid hend; have HC := Lib.hid hc; clear hr0 hend hcnt hle hx hc hE; unfold cntL at hbd; unfold MkL at hmx; obtain ⟨a0, a1, a2, a3, a4, a5, a6⟩ := hmx; obtain ⟨r1, hr1⟩ : ∃ r : Int, r = r0 + 1 := ⟨_, rfl⟩; have t0 : x.a = r0 := by rw [a0]; (try omega)
   rw [t0] at g0; obtain ⟨r2, hr2⟩ : ∃ r : Int, r = r1 + 1 := ⟨_, rfl⟩; have t1 : x.ai = r1 := by rw [a1]; (try omega)
   rw [t1] at g1; obtain ⟨r3, hr3⟩ : ∃ r : Int, r = r2 + 1 := ⟨_, rfl⟩; have t2 : x.b = r2 := by rw [a2]; (try omega)
   rw [t2] at g2; obtain ⟨r4, hr4⟩ : ∃ r : Int, r = r3 + 1 := ⟨_, rfl⟩; have t3 : x.bi = r3 := by rw [a3]; (try omega)
   rw [t3] at g3; obtain ⟨r5, hr5⟩ : ∃ r : Int, r = r4 + 1 := ⟨_, rfl⟩
   have t4 : x.up = modB r4 := by
    have e : r0 + 1 + 1 + 1 + 1 = r4 := by omega
    rw [← e]; exact a4
   rw [t4] at g4; obtain ⟨r6, hr6⟩ : ∃ r : Int, r = r5 + (cntMS x.ab : Nat) := ⟨_, rfl⟩
   have t5 : MkMS r5 x.ab := by
    have e : r0 + 1 + 1 + 1 + 1 + 1 = r5 := by omega
    rw [← e]; exact a5
   obtain ⟨r7, hr7⟩ : ∃ r : Int, r = r6 + (cntMS x.ba : Nat) := ⟨_, rfl⟩
   have t6 : MkMS r6 x.ba := by
    have e : r0 + 1 + 1 + 1 + 1 + 1 + ((cntMS x.ab : Nat) : Int) = r6 := by omega
    rw [← e]; exact a6
   have b0 : 0 ≤ r0 ∧ r0 ≤ 40000000 := by omega
   have b1 : 0 ≤ r1 ∧ r1 ≤ 40000000 := by omega
   have b2 : 0 ≤ r2 ∧ r2 ≤ 40000000 := by omega
   have b3 : 0 ≤ r3 ∧ r3 ≤ 40000000 := by omega
   have b4 : 0 ≤ r4 ∧ r4 ≤ 40000000 := by omega
   have b5 : 0 ≤ r5 ∧ r5 ≤ 40000000 := by omega
   have b6 : 0 ≤ r6 ∧ r6 ≤ 40000000 := by omega
   have b7 : 0 ≤ r7 ∧ r7 ≤ 40000000 := by omega
   have ng0 : ¬ r0 < 0 := by omega
   have ng1 : ¬ r1 < 0 := by omega
   have ng2 : ¬ r2 < 0 := by omega
   have ng3 : ¬ r3 < 0 := by omega
   have ng4 : ¬ r4 < 0 := by omega
   have ng5 : ¬ r5 < 0 := by omega
   have ng6 : ¬ r6 < 0 := by omega
   have ng7 : ¬ r7 < 0 := by omega
   have w0 : IntKind.i64.wrap (r0 + 1) = r1 := by rw [hr1]; exact wrap64_in _ (by omega) (by omega)
   have e0 : (r0 != r0) = false := by simp
   have w1 : IntKind.i64.wrap (r1 + 1) = r2 := by rw [hr2]; exact wrap64_in _ (by omega) (by omega)
   have e1 : (r1 != r1) = false := by simp
   have w2 : IntKind.i64.wrap (r2 + 1) = r3 := by rw [hr3]; exact wrap64_in _ (by omega) (by omega)
   have e2 : (r2 != r2) = false := by simp
   have w3 : IntKind.i64.wrap (r3 + 1) = r4 := by rw [hr4]; exact wrap64_in _ (by omega) (by omega)
   have e3 : (r3 != r3) = false := by simp
   have w4 : IntKind.i64.wrap (r4 + 1) = r5 := by rw [hr5]; exact wrap64_in _ (by omega) (by omega)
   have tm4 : r4.tmod 3 = r4 % 3 := Int.tmod_eq_emod_of_nonneg (by omega); have tw4 : IntKind.i64.wrap (r4 % 3) = r4 % 3 := wrap64_in _ (by omega) (by omega); have tb4 : (r4 % 3 == 0) = modB r4 := by unfold modB; by_cases h : r4 % 3 = 0 <;> simp [h]
   have e4 : (modB r4 != modB r4) = false := by simp
   have Q1 := Lib.hid hr1; have Q2 := Lib.hid hr2; have Q3 := Lib.hid hr3; have Q4 := Lib.hid hr4; have Q5 := Lib.hid hr5; have Q6 := Lib.hid hr6; have Q7 := Lib.hid hr7; clear hr1 hr2 hr3 hr4 hr5 hr6 hr7 hbd a0 a1 a2 a3 a4 a5 a6 t0 t1 t2 t3 t4; go_wp2_with fail; refine (hdMS_any _ x.ab r5 _ o0 t5 (by omega) (by have := Q6.out; omega)).mono ?_; rintro e v5 ⟨rfl, hb⟩; rw [← Q6.out]; replace hB := below_step hB hb; replace g6 := cell_keep hb (World.block_lt_of_cell? _ _ g6) g6; replace o1 := o1.keep hb; clear hb; go_wp2_with fail; refine (hdMS_any _ x.ba r6 _ o1 t6 (by omega) (by have := Q7.out; omega)).mono ?_; rintro e v6 ⟨rfl, hb⟩; rw [← Q7.out]; replace hB := below_step hB hb; clear hb; go_wp2
   go_roundw
   case rel => exact ⟨j + 1, by omega, by go_num, by rw [← HEND.out]; unfold cntL; have := Q1.out; have := Q2.out; have := Q3.out; have := Q4.out; have := Q5.out; have := Q6.out; have := Q7.out; congr 1; omega, hB⟩
   case measure => simp [intOf]; omega
  ·have hkn : j = n := by omega
   subst hkn; have HT : Hid (L.take j = L) := Lib.hid (List.take_of_length_le (by rw [HN.out]; exact Nat.le_refl _)); clear hc; go_wp2
   go_ret
   exact ⟨by first | rfl | (rw [HT.out]; rfl), hB⟩
end Go.Proofs.YtkodnipmogdgkaaGreat
namespace Go.Proofs.YtkodnipmogdgkaaGreat
open Go.ChangeShapes Go.WideShapes Go.ChangeAt Go.RowKit Go.BigFrame Go.Joins
set_option linter.unusedVariables false
set_option maxRecDepth 100000
set_option linter.unusedSimpArgs false
set_option maxRecDepth 100000

theorem MidS.up {S T : Nat → Prop} {w w' : World} (h : MidS S w w') (hs : ∀ b, S b → T b) : MidS T w w' := ⟨h.os, h.tape, h.output, h.size, fun i hi hc => h.block i hi (fun q => hc (hs i q))⟩
structure Pr where
 l : List Int
def u0 : Pr := ⟨[]⟩
instance : Inhabited Pr := ⟨u0⟩
def wtU (x : Pr) : Nat := x.l.length
def RdU (w : World) (jv : Value) (x : Pr) : Prop := RdI w jv x.l
theorem RdU.keep {w w' : World} {jv : Value} {x : Pr} (h : RdU w jv x) (hb : Below w.heap.size w w') : RdU w' jv x := by
 exact RdI.keep h hb
/-- the cells of block b from o on hold it -/
def AtU (w : World) (b o : Nat) (x : Pr) : Prop :=
 ∃ jv, RdU w jv x ∧ w.cell? ⟨b, o, none⟩ = some (jv)
theorem AtU.keep {w w' : World} {b o : Nat} {x : Pr} (h : AtU w b o x) (hb : Below w.heap.size w w') : AtU w' b o x := by
 obtain ⟨jv, hr, k0⟩ := h
 exact ⟨jv, hr.keep hb, cell_keep hb (World.block_lt_of_cell? w _ k0) k0⟩
def RdUS (w : World) (v : Value) (L : List Pr) : Prop :=
 L.length ≤ 9223372036854775807 ∧
 ((∃ a c, v = .slice a 0 c ∧ L = [] ∧ (a = none → c = 0)) ∨
  ∃ b o c, v = .slice (some ⟨b, o, none⟩) L.length c ∧ 0 < L.length ∧ ∀ i, i < L.length → AtU w b (o + i) (L.getD i u0))
theorem RdUS.keep {w w' : World} {v : Value} {L : List Pr} (h : RdUS w v L) (hb : Below w.heap.size w w') : RdUS w' v L := by
 obtain ⟨h2, h3⟩ := h; refine ⟨h2, ?_⟩
 rcases h3 with h3 | ⟨b, o, c, hv, hp, hc⟩
 ·exact .inl h3
 ·exact .inr ⟨b, o, c, hv, hp, fun i hi => (hc i hi).keep hb⟩
theorem RdUS.len {w : World} {v : Value} {L : List Pr} (h : RdUS w v L) : ∃ a c, v = .slice a L.length c := by
 rcases h.2 with ⟨a, c, rfl, rfl, hac⟩ | ⟨b, o, c, rfl, _⟩
 ·exact ⟨a, c, rfl⟩
 ·exact ⟨_, c, rfl⟩
theorem RdUS.el {w : World} {v : Value} {L : List Pr} (h : RdUS w v L) : ∃ a c, v = .slice a L.length c ∧ ∀ i, i < L.length → ∃ b o, a = some ⟨b, o, none⟩ ∧ AtU w b (o + i) (L.getD i u0) := by
 rcases h.2 with ⟨a, c, rfl, rfl, -⟩ | ⟨b, o, c, rfl, -, hc⟩
 ·exact ⟨a, c, rfl, fun i hi => absurd hi (by simp)⟩
 ·exact ⟨_, c, rfl, fun i hi => ⟨b, o, rfl, hc i hi⟩⟩
theorem RdUS.nil (w : World) : RdUS w (.slice none 0 0) [] := ⟨by simp, .inl ⟨none, 0, rfl, rfl, fun _ => rfl⟩⟩
def wtUS (L : List Pr) : Nat := (L.map wtU).sum
theorem wtU_take {L : List Pr} {j : Nat} (h : j < L.length) : wtUS (L.take (j + 1)) = wtUS (L.take j) + wtU (L.getD j u0) := by
 unfold wtUS; rw [List.take_succ_eq_append_getElem h, List.map_append, List.sum_append]; have e : L.getD j u0 = L[j] := by simp [List.getD, h]
 rw [e]
 simp
theorem wtU_le (L : List Pr) (j : Nat) : wtUS (L.take j) ≤ wtUS L := by
 conv => rhs; rw [← List.take_append_drop j L]
 unfold wtUS; rw [List.map_append, List.sum_append]
 omega
theorem wtU_at {L : List Pr} {j : Nat} (h : j < L.length) : wtU (L.getD j u0) ≤ wtUS L := by
 have h1 := wtU_take h; have h2 := wtU_le L (j + 1)
 omega
section
variable {H : Type} {enc : TypeId × Value → H} {W : World} {base : Nat} {d : DataW H} {p : List MemPlace} {v : Value}
theorem U_trod {fuel : Nat} {x0 : Value} {y : DataW H × List MemPlace} (h : DataW.trod enc Tryz.prog W 0 (fun _ => true) true fuel 87 [x0] = some y) : ∃ E : Pr, RdU W x0 E := by
 obtain ⟨l, hl⟩ := rdI_trod h
 exact ⟨⟨l⟩, hl⟩
theorem cellsUS : Tryz.prog.cellsOf 87 = 1 := by kernel_rfl
theorem listU {α : Type} {xs : List α} (h : xs.length = 1) : ∃ c0, xs = [c0] := by
 match xs, h with
 | [c0], _ => exact ⟨c0, rfl⟩
theorem rdUS_trod {fuel : Nat} {y : DataW H × List MemPlace} (h : DataW.trod enc Tryz.prog W 0 (fun _ => true) true fuel 37 [v] = some y) : ∃ L, RdUS W v L := by
 rcases Deep.open_slice Tryz.underlying37 h with ⟨hcs, _⟩ | ⟨a, len, cap, m, n, D, Pl, hcs, _, hl, hm, hmm, _, hx⟩
 ·obtain ⟨rfl, -⟩ := List.cons.inj hcs
  exact ⟨[], RdUS.nil W⟩
 ·obtain ⟨rfl, -⟩ := List.cons.inj hcs
  have hlm : len ≤ m := by rw [hmm]; split <;> omega
  obtain ⟨b, off, spot⟩ := a
  by_cases h0 : len = 0
  ·subst h0
   exact ⟨[], by simp, .inl ⟨_, cap, rfl, rfl, fun h => by cases h⟩⟩
  ·have hspot : spot = none := by
    obtain ⟨cs', h1, _⟩ := hx 0 (by omega); rw [cellsUS] at h1; obtain ⟨_, hlen, hcell⟩ := World.cells?_some h1; have h2 := hcell 0 (by omega); rw [List.getElem?_eq_getElem (by omega)] at h2
    simpa [Addr.add] using World.cell?_spot h2
   subst hspot; have hadd : ∀ o k, (⟨b, o, none⟩ : Addr).add k = ⟨b, o + k, none⟩ := fun o k => by unfold Addr.add; split <;> simp_all
   have hex : ∀ i, i < len → ∃ E : Pr, AtU W b (off + i) E := by
    intro i hi; obtain ⟨cs', h1, h2⟩ := hx i (by omega); rw [cellsUS] at h1; obtain ⟨_, hlen, hcell⟩ := World.cells?_some h1; obtain ⟨x0, rfl⟩ := listU hlen; obtain ⟨E, hr⟩ := U_trod h2; have e0 := hcell 0 (by omega); simp only [hadd, Nat.mul_one, Nat.add_zero] at e0
    exact ⟨E, x0, hr, e0⟩
   obtain ⟨f, hf⟩ := Deep.choose_lt hex; refine ⟨(List.range len).map f, by simp; unfold maxLen at hm; omega, .inr ⟨b, off, cap, by simp, by simp; omega, fun i hi => ?_⟩⟩; have hi : i < len := by simpa using hi
   rw [show ((List.range len).map f).getD i u0 = f i by simp [List.getD, hi]]
   exact hf i hi
theorem is_IntSS (hv : Value.okWide Tryz.prog W .any base 37 v) (h : DataW.Trod enc Tryz.prog W 0 (fun _ => true) true 37 v d p) : ∃ L, RdUS W v L := by
 obtain ⟨a0, len0, cap0, rfl⟩ := okWide_slice Tryz.underlying37 hv; obtain ⟨fuel, hf⟩ := h
 exact rdUS_trod (W := W) (fuel := fuel) (y := (d, p)) (by simpa [Value.cells] using hf)
end
theorem szU_l (jv : Value) (x : Pr) (left : Int) (w : World) (h : RdU w jv x) (hl0 : 0 ≤ left) (hl1 : left ≤ 1048576) :
  Calls Tryz.prog 47 #[jv, .int .i64 left] w fun e w' => ∃ r : Int, e = .returned (.int .i64 r) ∧ (¬ r < 0 → r = left - (wtU x : Nat)) ∧ (r < 0 → r = -1) ∧ Below w.heap.size w w' := by
 refine (szI_any jv x.l left w h hl0 hl1).mono ?_; rintro e w1 ⟨rfl, rfl⟩
 by_cases hq : left < (x.l.length : Int)
 ·rw [szN_lt hq]
  exact ⟨-1, rfl, fun q => absurd (by omega) q, fun _ => rfl, Below.refl _ _⟩
 ·rw [szN_ge hq]
  exact ⟨_, rfl, fun _ => rfl, fun q => by omega, Below.refl _ _⟩
theorem eqU_same (jv jv2 : Value) (x : Pr) (w : World) (h1 : RdU w jv x) (h2 : RdU w jv2 x) :
  Calls Tryz.prog 54 #[jv, jv2] w fun e w' => e = .returned (.bool true) ∧ Below w.heap.size w w' := eqI_same jv jv2 x.l w h1 h2
theorem szUS_l (v : Value) (L : List Pr) (left : Int) (w : World) (h : RdUS w v L) (hl0 : 0 ≤ left) (hl1 : left ≤ 1048576) :
  Calls Tryz.prog 18 #[v, .int .i64 left] w fun e w' => ∃ r : Int, e = .returned (.int .i64 r) ∧ (¬ r < 0 → r = left - (L.length : Nat) - (wtUS L : Nat)) ∧ (r < 0 → r = -1) ∧ Below w.heap.size w w' := by
 have hm := h.1; obtain ⟨a, c, rfl, hc⟩ := h.el; obtain ⟨n, hn⟩ : ∃ n, n = L.length := ⟨_, rfl⟩; rw [← hn] at hc hm ⊢; have HN := Lib.hid hn; clear h hn
 by_cases hbig : left - n < 0
 ·go_enter Tryz.func18, Tryz.ntmps18
  have hw1 : IntKind.i64.wrap (left - (n : Int)) = left - (n : Int) := wrap64_in _ (by omega) (by omega); go_wp2
  go_ret
  exact ⟨-1, rfl, fun h => by omega, fun _ => rfl, Below.refl _ _⟩
 ·have hnn : (n : Int) ≤ 1048576 := by omega
  have hw1 : IntKind.i64.wrap (left - (n : Int)) = left - (n : Int) := wrap64_in _ (by omega) (by omega)
  go_enter Tryz.func18, Tryz.ntmps18
  go_wp2
  go_loopw [1, 5] (fun q i wr => ∃ j : Nat, j ≤ n ∧ i = .int .i64 j ∧ (∃ l : Int, q = .int .i64 l ∧ 0 ≤ l ∧ l = left - (n : Int) - (wtUS (L.take j) : Nat)) ∧ Below w.heap.size w wr) (fun _ i _ => n - (intOf i).toNat)
  case atStart => exact ⟨0, Nat.zero_le _, rfl, ⟨_, rfl, by omega, by simp [wtUS]⟩, Below.refl _ _⟩
  case round =>
   obtain ⟨j, hj, rfl, ⟨l, rfl, hl0, hl⟩, hB⟩ := hrel; have HL := Lib.hid hl; have hl1 : l ≤ 1048576 := by omega
   clear hl
   by_cases hlt : j < n
   ·have hltI : (j : Int) < (n : Int) := by omega
    obtain ⟨b, o, rfl, hE⟩ := hc j hlt; obtain ⟨x, hx⟩ : ∃ x, L.getD j u0 = x := ⟨_, rfl⟩; rw [hx] at hE; obtain ⟨jv, hr, k0⟩ := hE.keep hB; have HX := Lib.hid hx; have HCC := Lib.hid hc; clear hx hc hE; go_wp2_with fail; refine (szU_l jv x l _ hr hl0 hl1).mono ?_; rintro e w1 ⟨r, rfl, hr1, hr2, hb⟩; have hB2 := below_step hB hb; have HR1 := Lib.hid hr1; have HR2 := Lib.hid hr2; clear hb hB k0 hr hr1 hr2
    by_cases hneg : r < 0
    ·go_wp2
     go_ret
     exact ⟨-1, rfl, fun h => by omega, fun _ => rfl, hB2⟩
    ·go_wp2
     go_roundw
     case rel =>
      refine ⟨j + 1, by omega, by go_num, ⟨r, rfl, by omega, ?_⟩, hB2⟩; have h1 := wtU_take (L := L) (j := j) (by rw [← HN.out]; exact hlt); rw [HX.out] at h1; have h2 := HR1.out hneg; have h3 := HL.out
      omega
     case measure => simp [intOf]; omega
   ·have hkn : j = n := by omega
    subst hkn; have hw : wtUS (L.take j) = wtUS L := by rw [List.take_of_length_le (by rw [HN.out]; exact Nat.le_refl _)]
    have HW := Lib.hid hw; clear hc hw; go_wp2
    go_ret
    refine ⟨l, rfl, fun _ => ?_, fun h => by omega, hB⟩; have h3 := HL.out; rw [HW.out] at h3
    omega
def OwU (w : World) (S : Nat → Prop) (jv : Value) (x : Pr) : Prop := OwIr w S jv x.l
theorem OwU.agr {w w' : World} {S : Nat → Prop} {jv : Value} {x : Pr} (h : OwU w S jv x) (a : AgrS S w w') : OwU w' S jv x := OwIr.agr h a
theorem OwU.rd {w : World} {S : Nat → Prop} {jv : Value} {x : Pr} (h : OwU w S jv x) : RdU w jv x := OwIr.rd h
def cntU (x : Pr) : Nat := x.l.length
/-- element i of the cells xs is that, its rows lie in blocks of E -/
def ElU (xs : List Value) (w : World) (E : Nat → Prop) (i : Nat) (x : Pr) : Prop := ∃ jv, OwU w E jv x ∧ xs[i]? = some (jv)
def OwUS (w : World) (S : Nat → Prop) (v : Value) (L : List Pr) : Prop :=
 L.length ≤ 1048576 ∧ ((v = .slice none 0 0 ∧ L = []) ∨ ∃ (g cap : Nat) (xs : List Value) (E : Nat → Nat → Prop), v = .slice (some ⟨g, 0, none⟩) L.length cap ∧ S g ∧ Bl w g xs ∧ xs.length = L.length ∧
  (∀ i, i < L.length → (∀ b, E i b → S b) ∧ ¬ E i g ∧ ElU xs w (E i) i (L.getD i u0)) ∧ ∀ i j, i < L.length → j < L.length → i ≠ j → Dj (E i) (E j))
theorem OwUS.agr {w w' : World} {S : Nat → Prop} {v : Value} {L : List Pr} (h : OwUS w S v L) (a : AgrS S w w') : OwUS w' S v L := by
 obtain ⟨hl, h | ⟨g, cap, xs, E, hv, h1, hB, hx, hE, hd⟩⟩ := h
 ·exact ⟨hl, .inl h⟩
 ·refine ⟨hl, .inr ⟨g, cap, xs, E, hv, h1, bl_agrS hB a h1, hx, fun i hi => ?_, hd⟩⟩
  obtain ⟨e1, e2, jv, ho, e5⟩ := hE i hi
  exact ⟨e1, e2, jv, ho.agr (a.sub e1), e5⟩
theorem OwUS.mono {w : World} {S S' : Nat → Prop} {v : Value} {L : List Pr} (h : OwUS w S v L) (hs : ∀ b, S b → S' b) : OwUS w S' v L := by
 obtain ⟨hl, h | ⟨g, cap, xs, E, hv, h1, hB, hx, hE, hd⟩⟩ := h
 ·exact ⟨hl, .inl h⟩
 ·exact ⟨hl, .inr ⟨g, cap, xs, E, hv, hs _ h1, hB, hx, fun i hi => ⟨fun b hb => hs _ ((hE i hi).1 b hb), (hE i hi).2⟩, hd⟩⟩
theorem OwUS.rd {w : World} {S : Nat → Prop} {v : Value} {L : List Pr} (h : OwUS w S v L) : RdUS w v L := by
 obtain ⟨hl, ⟨rfl, rfl⟩ | ⟨g, cap, xs, E, rfl, h1, hB, hx, hE, hd⟩⟩ := h
 ·exact RdUS.nil w
 ·refine ⟨by omega, ?_⟩
  by_cases h0 : L.length = 0
  ·exact .inl ⟨some ⟨g, 0, none⟩, cap, by rw [h0], List.eq_nil_of_length_eq_zero h0, fun h => by cases h⟩
  ·refine .inr ⟨g, 0, cap, rfl, by omega, fun i hi => ?_⟩
   obtain ⟨-, -, jv, ho, e0⟩ := hE i hi; refine ⟨jv, ho.rd, ?_⟩; simp only [Nat.zero_add]
   exact hB.c _ e0
/-- element j turns, nothing else of the list -/
theorem OwUS.upd {w w' : World} {S : Nat → Prop} {g cap j : Nat} {xs xs' : List Value} {E : Nat → Nat → Prop} {L : List Pr} {x' : Pr} (hl : L.length ≤ 1048576) (h1 : S g) (hB : Bl w' g xs') (hx : xs'.length = L.length)
  (hE : ∀ i, i < L.length → (∀ b, E i b → S b) ∧ ¬ E i g ∧ ElU xs w (E i) i (L.getD i u0)) (hd : ∀ i j, i < L.length → j < L.length → i ≠ j → Dj (E i) (E j)) (hj : j < L.length)
  (hsame : ∀ i, i < L.length → i ≠ j → ∀ f, f < 1 → xs'[i + f]? = xs[i + f]?) (hb : ButS g (E j) w w') (hn : ElU xs' w' (E j) j x') : OwUS w' S (.slice (some ⟨g, 0, none⟩) L.length cap) (L.set j x') := by
 refine ⟨by rw [List.length_set]; exact hl, .inr ⟨g, cap, xs', E, by rw [List.length_set], h1, hB, by rw [List.length_set]; exact hx, fun i hi => ?_, fun i j hi hj' hij => hd i j (by rwa [List.length_set] at hi) (by rwa [List.length_set] at hj') hij⟩⟩; rw [List.length_set] at hi; obtain ⟨e1, e2, e5⟩ := hE i hi; refine ⟨e1, e2, ?_⟩
 by_cases e : i = j
 ·subst e
  rw [show (L.set i x').getD i u0 = x' by simp [List.getD, hi]]
  exact hn
 ·rw [show (L.set j x').getD i u0 = L.getD i u0 by simp [List.getD, List.getElem?_set, Ne.symm e]]
  obtain ⟨jv, ho, f0⟩ := e5; refine ⟨jv, ho.agr (hb.agr e2 (hd i j hi hj e)), ?_⟩
  ·have := hsame i hi e 0 (by omega)
   simp only [Nat.add_zero] at this; rw [this]; exact f0
def cntUS (L : List Pr) : Nat := (L.map cntU).sum
theorem cntUS_take {L : List Pr} {j : Nat} (h : j < L.length) : cntUS (L.take (j + 1)) = cntUS (L.take j) + cntU (L.getD j u0) := by
 unfold cntUS; rw [List.take_succ_eq_append_getElem h, List.map_append, List.sum_append]; have e : L.getD j u0 = L[j] := by simp [List.getD, h]
 rw [e]
 simp
theorem cntUS_le (L : List Pr) (j : Nat) : cntUS (L.take j) ≤ cntUS L := by
 conv => rhs; rw [← List.take_append_drop j L]
 unfold cntUS; rw [List.map_append, List.sum_append]
 omega
theorem toU_o (jv : Value) (x : Pr) (w : World) (h : RdU w jv x) (hw : wtU x ≤ 1048576) :
  Calls Tryz.prog 50 #[jv] w fun e w' => ∃ jv, e = .returned (jv) ∧ OwU w' (Rg w.heap.size w'.heap.size) jv x ∧ Below w.heap.size w w' := by
 refine (toI_new jv x.l w h hw).mono ?_; rintro e w1 ⟨a, c, rfl, ho, hb⟩
 exact ⟨_, rfl, ⟨ho.mono (Nat.zero_le _), fun k q => World.ownsRow.lt ho k q, hw, h.1⟩, hb⟩
def MadeOU (w : World) (B n j : Nat) (L : List Pr) : Prop := ∃ (xs : List Value) (E : Nat → Nat → Prop), xs.length = n ∧ Bl w B xs ∧ (∀ i, i < j → (∀ b, E i b → B < b ∧ b < w.heap.size) ∧ ElU xs w (E i) i (L.getD i u0)) ∧ ∀ i i', i < j → i' < j → i ≠ i' → Dj (E i) (E i')
theorem MadeOU.keep {w w' : World} {B n j : Nat} {L : List Pr} (h : MadeOU w B n j L) (hb : Below w.heap.size w w') : MadeOU w' B n j L := by
 obtain ⟨xs, E, hl, hB, hx, hd⟩ := h; refine ⟨xs, E, hl, hB.keep hb, fun i hi => ?_, hd⟩; obtain ⟨h1, jv, h2, h3⟩ := hx i hi
 exact ⟨fun b q => ⟨(h1 b q).1, Nat.lt_of_lt_of_le (h1 b q).2 hb.size⟩, jv, h2.agr (.of_below hb), h3⟩
theorem MadeOU.cell {w : World} {B n k : Nat} {L : List Pr} (h : MadeOU w B n k L) (j : Nat) (hj : j < n) : ∃ x, w.cell? ⟨B, j, none⟩ = some x ∧ w.frozen? ⟨B, j, none⟩ = false := by
 obtain ⟨xs, E, hl, hB, hx, -⟩ := h
 exact ⟨_, hB.c j (List.getElem?_eq_getElem (by omega)), hB.f j (List.getElem?_eq_getElem (by omega))⟩
/-- element j has been copied in the world from w0 on -/
theorem MadeOU.step {w0 w : World} {B n j : Nat} {L : List Pr} (h0 : MadeOU w0 B n j L) (hb : Below w0.heap.size w0 w) (hB0 : B < w0.heap.size) (hk : j < n) {jv : Value} {x : Pr} (hE : L.getD j u0 = x) (h1 : OwU w (Rg w0.heap.size w.heap.size) jv x) :
  MadeOU (w.setCell ⟨B, j, none⟩ (jv)) B n (j + 1) L := by
 obtain ⟨xs, E, hl, hB, hx, hd⟩ := h0; replace hB := hB.keep hb; have hsz : (w.setCell ⟨B, j, none⟩ (jv)).heap.size = w.heap.size := by simp
 refine ⟨(xs.set (j) (jv)), fun i => if i = j then Rg w0.heap.size w.heap.size else E i, by simpa using hl, (hB.set (j) (jv)), fun i hi => ?_, fun i i' hi hi' hne => ?_⟩
 ·by_cases e : i = j
  ·have e' := e.symm
   subst e'
   (try dsimp only)
   rw [if_pos rfl, hE]; have hn : ¬ Rg w0.heap.size w.heap.size B := fun q => by have := q.1; omega
   refine ⟨fun b q => ⟨by have := q.1; omega, by rw [hsz]; exact q.2⟩, jv, h1.agr ((AgrS.refl _ _).trans (agr_setS _ hn)), ?_⟩
   all_goals simp only [List.getElem?_set, List.length_set]
   all_goals simp (disch := omega) [hl]
   all_goals omega
  ·(try dsimp only)
   rw [if_neg e]; obtain ⟨g0, v0, g1, c0⟩ := hx i (by omega); have hn : ¬ E i B := fun q => by have := (g0 B q).1; omega
   refine ⟨fun b q => ⟨(g0 b q).1, by rw [hsz]; exact Nat.lt_of_lt_of_le (g0 b q).2 hb.size⟩, v0, (g1.agr (.of_below hb)).agr ((AgrS.refl _ _).trans (agr_setS _ hn)), ?_⟩
   all_goals (repeat rw [List.getElem?_set_ne (by omega)])
   all_goals assumption
 ·intro b q1 q2
  (try dsimp only at q1 q2)
  by_cases e : i = j
  ·rw [if_pos e] at q1
   rw [if_neg (fun e' => hne (e.trans e'.symm))] at q2; have := ((hx i' (by omega)).1 b q2).2; have := q1.1
   omega
  ·rw [if_neg e] at q1
   by_cases e' : i' = j
   ·rw [if_pos e'] at q2
    have := ((hx i (by omega)).1 b q1).2; have := q2.1
    omega
   ·rw [if_neg e'] at q2
    exact hd i i' (by omega) (by omega) hne b q1 q2
theorem MadeOU.own {w : World} {B n a : Nat} {L : List Pr} (h : MadeOU w B n n L) (hn : n = L.length) (ha : a ≤ B) (hl : L.length ≤ 1048576) : OwUS w (Rg a w.heap.size) (.slice (some ⟨B, 0, none⟩) n n) L := by
 obtain ⟨xs, E, hxl, hB, hx, hd⟩ := h; subst hn; refine ⟨hl, .inr ⟨B, L.length, xs, E, rfl, ⟨ha, hB.lt⟩, hB, hxl, fun i hi => ?_, hd⟩⟩; obtain ⟨g0, g1⟩ := hx i hi
 exact ⟨fun b q => ⟨by have := (g0 b q).1; omega, (g0 b q).2⟩, fun q => by have := (g0 B q).1; omega, g1⟩
theorem infoOU : (Tryz.prog.info? 87).map (fun i => (i.zero, i.size, i.bytes)) = some (some (.slice none 0 0), 1, 24) := by kernel_rfl
theorem makeO_U (t : TypeId) (ht : Tryz.prog.underlying t = some (.slice 87)) (n : Nat) (hn : n ≤ 1048576) (w : World) :
  (Instr.makeSlice t (.int .i64 (n : Int)) (.int .i64 (n : Int))).run Tryz.prog w = .ok (.slice (some ⟨w.heap.size, 0, none⟩) n n) (w.alloc (.cells (madeCells #[Value.slice none 0 0] (n)) 87)) := by
 obtain ⟨i, hi, hzz⟩ := Option.map_eq_some_iff.1 infoOU; simp only [Prod.mk.injEq] at hzz; obtain ⟨hz, hs, hb⟩ := hzz; have hr := run_make (P := Tryz.prog) w t 87 i _ ht hi hz .i64 .i64 n n (by omega) (Int.le_refl _) (by rw [hb]; omega) (by omega)
 simpa only [Int.toNat_natCast, hs, Value.cells, Nat.mul_one] using hr
theorem madeOU_start (w : World) (n : Nat) (L : List Pr) : MadeOU (w.alloc (.cells (madeCells #[Value.slice none 0 0] (n)) 87)) w.heap.size n 0 L := by
 refine ⟨(madeCells #[Value.slice none 0 0] (n)).toList, fun _ _ => False, by simp [size_madeCells], ?_, fun i hi => absurd hi (Nat.not_lt_zero _), fun i i' hi => absurd hi (Nat.not_lt_zero _)⟩; have := Bl.new w (madeCells #[Value.slice none 0 0] (n)).toList 87 w.heap.size rfl
 simpa using this
set_option maxHeartbeats 2000000 in
theorem toUS_o (v : Value) (L : List Pr) (w : World) (h : RdUS w v L) (hn : L.length + wtUS L ≤ 1048576) :
  Calls Tryz.prog 21 #[v] w fun e w' => ∃ u, e = .returned u ∧ OwUS w' (Rg w.heap.size w'.heap.size) u L ∧ Below w.heap.size w w' := by
 have hmk := fun W => makeO_U 37 Tryz.underlying37 L.length (by omega) W
 obtain ⟨a, c, rfl, hc⟩ := h.el; obtain ⟨n, hn'⟩ : ∃ n, n = L.length := ⟨_, rfl⟩; rw [← hn'] at hc hn hmk ⊢; have hnn : n ≤ 1048576 := by omega
 have HN := Lib.hid hn'; have HW := Lib.hid hn; clear hn' h hn; obtain ⟨B, hBB⟩ : ∃ B, B = w.heap.size := ⟨_, rfl⟩; have hst := madeOU_start w n L; rw [← hBB] at hst; have HS := Lib.hid hst; have HBB := Lib.hid hBB; have hwB : w.heap.size ≤ B := by omega
 clear hst
 go_enter Tryz.func21, Tryz.ntmps21
 go_wp2; rw [← hBB]; clear hmk hBB
 go_loopw [4] (fun i wr => ∃ j : Nat, j ≤ n ∧ i = .int .i64 j ∧ MadeOU wr B n j L ∧ Below w.heap.size w wr) (fun i _ => n - (intOf i).toNat)
 case atStart => exact ⟨0, Nat.zero_le _, rfl, HS.out, (Below.refl _ _).alloc (Nat.le_refl _) _⟩
 case round =>
  obtain ⟨j, hj, rfl, hM, hB⟩ := hrel
  by_cases hlt : j < n
  ·have hltI : (j : Int) < (n : Int) := by omega
   obtain ⟨b, o, rfl, hE⟩ := hc j hlt; obtain ⟨x, hx⟩ : ∃ x, L.getD j u0 = x := ⟨_, rfl⟩; rw [hx] at hE; obtain ⟨jv, hr, k0⟩ := hE.keep hB; have HX := Lib.hid hx; have HCC := Lib.hid hc; clear hx hc hE
   have hwx : wtU x ≤ 1048576 := by
    have h1 := wtU_at (L := L) (j := j) (by rw [← HN.out]; exact hlt); rw [HX.out] at h1; have := HW.out
    omega
   have hBW : B < wr.heap.size := by
    obtain ⟨xs, E, hl, hBl, -⟩ := hM
    exact hBl.lt
   have HMM := Lib.hid hM; go_wp2_with fail; refine (toU_o jv x _ hr hwx).mono ?_; clear hr hwx k0; rintro e w2 ⟨jv, rfl, h1, hb⟩; have hM2 := hM.keep hb; have hB2 := below_step hB hb; clear hM hB; obtain ⟨jva, jvx, rfl⟩ := (h1.rd).len; obtain ⟨p0, g0, f0⟩ := hM2.cell (j) (by omega); have HM := Lib.hid (HMM.out.step hb hBW hlt HX.out h1); have hB3 := (hB2.setCell (p := ⟨B, j, none⟩) hwB (.slice jva x.l.length jvx)); clear hM2 hB2 h1 hb; go_wp2
   go_roundw
   case rel => exact ⟨j + 1, by omega, by go_num, HM.out, hB3⟩
   case measure => simp [intOf]; omega
  ·have hkn : j = n := by omega
   subst hkn; clear hc; have HF := Lib.hid (hM.own (a := w.heap.size) HN.out hwB (by rw [← HN.out]; exact hnn)); go_wp2
   go_ret
   exact ⟨.slice (some ⟨B, 0, none⟩) j j, rfl, HF.out, hB⟩
set_option maxHeartbeats 4000000 in
theorem eqUS_same (v u : Value) (L : List Pr) (w : World) (h1 : RdUS w v L) (h2 : RdUS w u L) :
  Calls Tryz.prog 24 #[v, u] w fun e w' => e = .returned (.bool true) ∧ Below w.heap.size w w' := by
 have hm1 := h1.1; obtain ⟨a, c, rfl, hc⟩ := h1.el; obtain ⟨a', c', rfl, hc'⟩ := h2.el; obtain ⟨n, hn⟩ : ∃ n, n = L.length := ⟨_, rfl⟩; rw [← hn] at hc hc' hm1 ⊢; have HN := Lib.hid hn; clear hn h1 h2; have hnn : ((n : Int) != (n : Int)) = false := by simp
 go_enter Tryz.func24, Tryz.ntmps24
 go_wp2
 go_loopw [5] (fun i wr => ∃ j : Nat, j ≤ n ∧ i = .int .i64 j ∧ Below w.heap.size w wr) (fun i _ => n - (intOf i).toNat)
 case atStart => exact ⟨0, Nat.zero_le _, rfl, Below.refl _ _⟩
 case round =>
  obtain ⟨j, hk, rfl, hB⟩ := hrel
  by_cases hlt : j < n
  ·have hltI : (j : Int) < (n : Int) := by omega
   obtain ⟨b, o, rfl, hE⟩ := hc j hlt; obtain ⟨b', o', rfl, hE'⟩ := hc' j hlt; obtain ⟨x, hx⟩ : ∃ x, L.getD j u0 = x := ⟨_, rfl⟩; rw [hx] at hE hE'; obtain ⟨jv, hr, k0⟩ := hE.keep hB; obtain ⟨jv2, hr2, m0⟩ := hE'.keep hB; clear hx hc hc' hE hE'; go_wp2
   go_region_held3 (fun w' => Over wr w' ∧ w'.cell? ⟨b, o + j, none⟩ = some (jv) ∧ w'.cell? ⟨b', o' + j, none⟩ = some (jv2))
    ((first | exact ⟨over_drew _, k0, m0⟩ | exact (fun o => ⟨o, over_cell o (World.block_lt_of_cell? wr _ k0) k0, over_cell o (World.block_lt_of_cell? wr _ m0) m0⟩) (over_step (by assumption : Over wr _ ∧ _).1 (by assumption))))
    ((first | (go_at_call 54; refine (eqU_same jv jv2 x _ (hr.keep (‹Over wr _ ∧ _›).1) (hr2.keep (‹Over wr _ ∧ _›).1)).mono ?_; rintro e w6 ⟨rfl, hbb⟩)))
   rename_i hH
   replace hB := below_step hB hH.1; clear hH hbb k0 m0 hr hr2; go_wp2
   go_roundw
   case rel => exact ⟨j + 1, by omega, by go_num, hB⟩
   case measure => simp [intOf]; omega
  ·have hkn : j = n := by omega
   clear hc hc'; go_wp2
   go_ret
   exact ⟨rfl, hB⟩
set_option maxHeartbeats 4000000 in
/-- the marks: where they are nobody reads again -/
theorem mkUS_any (v : Value) (L : List Pr) (k : Int) (S : Nat → Prop) (w : World) (h : OwUS w S v L) (hk0 : 0 ≤ k) (hk : k + (cntUS L : Nat) ≤ 40000000) :
  Calls Tryz.prog 26 #[v, .int .i64 k] w fun e w' => e = .returned (.int .i64 (k + (cntUS L : Nat))) ∧ MidS S w w' := by
 obtain ⟨va, vx, hv⟩ := h.rd.len; obtain ⟨n, hn⟩ : ∃ n, n = L.length := ⟨_, rfl⟩; rw [← hn] at hv; subst hv; have hnb := h.1; rw [← hn] at hnb; have HN := Lib.hid hn; have HH := Lib.hid h; clear h hn
 go_enter Tryz.func26, Tryz.ntmps26
 go_wp2
 go_loopw [1, 5] (fun s i wr => ∃ (j : Nat) (L' : List Pr), j ≤ n ∧ i = .int .i64 j ∧ s = .int .i64 (k + (cntUS (L.take j) : Nat)) ∧ L'.length = n ∧ (∀ q, (L'.getD q u0).l.length = (L.getD q u0).l.length) ∧ OwUS wr S (.slice va n vx) L' ∧ MidS S w wr) (fun _ i _ => n - (intOf i).toNat)
 case atStart => exact ⟨0, L, Nat.zero_le _, rfl, by simp [cntUS], HN.out.symm, fun _ => rfl, HH.out, MidS.refl _ _⟩
 case round =>
  obtain ⟨j, L', hj, rfl, rfl, hlen, hcm, hO, hB⟩ := hrel
  by_cases hlt : j < n
  ·have hltI : (j : Int) < (n : Int) := by omega
   obtain ⟨hl, hnil | ⟨g, cap, xs, E, hv, hSg, bX, hxl, hE, hdis⟩⟩ := hO
   ·exact absurd hnil.2 (by intro q; rw [q] at hlen; simp at hlen; omega)
   simp only [Value.slice.injEq] at hv; obtain ⟨rfl, -, rfl⟩ := hv; obtain ⟨e1, e2, jv, ho, x0⟩ := hE j (by omega); obtain ⟨x, hx⟩ : ∃ x, L'.getD j u0 = x := ⟨_, rfl⟩; rw [hx] at ho; have hxc : x.l.length = cntU (L.getD j u0) := by rw [← hx]; exact hcm j
   have hcnt := cntUS_take (L := L) (j := j) (by rw [← HN.out]; exact hlt); have hle := cntUS_le L (j + 1); obtain ⟨r0, hr0⟩ : ∃ r : Int, r = k + (cntUS (L.take j) : Nat) := ⟨_, rfl⟩; have hend : r0 + (x.l.length : Nat) = k + (cntUS (L.take (j + 1)) : Nat) := by omega
   have hbd : 0 ≤ r0 ∧ r0 + (x.l.length : Nat) ≤ 40000000 := by omega
   rw [← hr0]; have HEND := Lib.hid hend; have HCM := Lib.hid hcm; have HLL := Lib.hid (And.intro hl hlen); have HEE := Lib.hid hE; have HDD := Lib.hid hdis; have HXL := Lib.hid hxl; have HX := Lib.hid hx; clear hr0 hend hcm hcnt hle hE hdis hx hl hlen hxl hxc; have y0 := bX.c j x0; go_wp2_with fail; clear y0; refine (mkIr_any jv x.l r0 (E j) wr ho hbd.1 (by unfold cntI; exact hbd.2)).mono ?_; rintro e w1 ⟨nl, rfl, s0, lm0, t0, o0, mid⟩; unfold cntI; rw [HEND.out]; have bX1 := mid.bl bX e2
   have hN : OwUS w1 S (.slice (some ⟨g, 0, none⟩) n vx) (L'.set j ⟨nl⟩) := by
    have hn' := HLL.out.2; subst hn'
    exact OwUS.upd HLL.out.1 hSg bX1 HXL.out HEE.out HDD.out hlt (fun i hi hij f hf => rfl) ((ButS.refl g (E j) wr).mid mid (fun b q => q)) ⟨jv, o0, x0⟩
   have HN2 := Lib.hid hN; have HB2 := Lib.hid (hB.trans (mid.up e1)); clear hB hN mid bX bX1 ho o0 t0; go_wp2
   go_roundw
   case rel =>
    refine ⟨j + 1, L'.set j ⟨nl⟩, by omega, by go_num, rfl, by rw [List.length_set]; exact HLL.out.2, fun q => ?_, HN2.out, HB2.out⟩
    by_cases e : q = j
    ·subst e
     rw [show (L'.set q ⟨nl⟩).getD q u0 = ⟨nl⟩ by simp [List.getD, HLL.out.2, hlt]]; rw [← HCM.out q, HX.out]
     exact lm0
    ·rw [show (L'.set j ⟨nl⟩).getD q u0 = L'.getD q u0 by simp [List.getD, List.getElem?_set, Ne.symm e]]
     exact HCM.out q
   case measure => simp [intOf]; omega
  ·have hkn : j = n := by omega
   subst hkn; have hw : cntUS (L.take j) = cntUS L := by rw [List.take_of_length_le (by rw [HN.out]; exact Nat.le_refl _)]
   rw [hw]; clear hw hcm hO; go_wp2
   go_ret
   exact ⟨rfl, hB⟩
end Go.Proofs.YtkodnipmogdgkaaGreat
