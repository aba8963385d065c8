/-
  Links. Conditions: those in each contract.
  Fabrics as arguments. Conditions: those in each contract.
  Rows in ranges of blocks; marks on them. Conditions: those in each contract.
  Messages: lists of one's own, and marks on them. Conditions: those in each contract.
  Entries: lists of one's own, and marks on them. Conditions: those in each contract.
-/
import Derived.Test.YtkodnipmogdgkaaGreatFBd
namespace Go.Proofs.YtkodnipmogdgkaaGreat
open Go.ChangeShapes Go.WideShapes Go.ChangeAt Go.RowKit Go.BigFrame Go.Joins
set_option linter.unusedVariables false
set_option maxRecDepth 100000
set_option maxRecDepth 100000
set_option linter.unusedSimpArgs false
set_option maxRecDepth 100000

/-- a link -/
structure Lk where
 a : Int
 ai : Int
 b : Int
 bi : Int
 up : Bool
 ab : List Mg
 ba : List Mg
def l0 : Lk := ⟨0, 0, 0, 0, false, [], []⟩
instance : Inhabited Lk := ⟨l0⟩
def wtL (x : Lk) : Nat := (x.ab.length + wtMS x.ab) + (x.ba.length + wtMS x.ba)
def RdL (w : World) (av bv : Value) (x : Lk) : Prop := RdMS w av x.ab ∧ RdMS w bv x.ba
theorem RdL.keep {w w' : World} {av bv : Value} {x : Lk} (h : RdL w av bv x) (hb : Below w.heap.size w w') : RdL w' av bv x := by
 obtain ⟨h0, h1⟩ := h
 exact ⟨h0.keep hb, h1.keep hb⟩
/-- the cells of block b from o on hold it -/
def AtL (w : World) (b o : Nat) (x : Lk) : Prop :=
 ∃ av bv, RdL w av bv x ∧ w.cell? ⟨b, o, none⟩ = some (.int .i64 x.a) ∧ w.cell? ⟨b, o + 1, none⟩ = some (.int .i64 x.ai) ∧ w.cell? ⟨b, o + 2, none⟩ = some (.int .i64 x.b) ∧ w.cell? ⟨b, o + 3, none⟩ = some (.int .i64 x.bi) ∧ w.cell? ⟨b, o + 4, none⟩ = some (.bool x.up) ∧ w.cell? ⟨b, o + 5, none⟩ = some (av) ∧ w.cell? ⟨b, o + 6, none⟩ = some (bv)
theorem AtL.keep {w w' : World} {b o : Nat} {x : Lk} (h : AtL w b o x) (hb : Below w.heap.size w w') : AtL w' b o x := by
 obtain ⟨av, bv, hr, k0, k1, k2, k3, k4, k5, k6⟩ := h
 exact ⟨av, bv, hr.keep hb, cell_keep hb (World.block_lt_of_cell? w _ k0) k0, cell_keep hb (World.block_lt_of_cell? w _ k1) k1, cell_keep hb (World.block_lt_of_cell? w _ k2) k2, cell_keep hb (World.block_lt_of_cell? w _ k3) k3, cell_keep hb (World.block_lt_of_cell? w _ k4) k4, cell_keep hb (World.block_lt_of_cell? w _ k5) k5, cell_keep hb (World.block_lt_of_cell? w _ k6) k6⟩
def RdLS (w : World) (v : Value) (L : List Lk) : Prop :=
 L.length ≤ 9223372036854775807 ∧
 ((∃ a c, v = .slice a 0 c ∧ L = [] ∧ (a = none → c = 0)) ∨
  ∃ b o c, v = .slice (some ⟨b, o, none⟩) L.length c ∧ 0 < L.length ∧ ∀ i, i < L.length → AtL w b (o + i * 7) (L.getD i l0))
theorem RdLS.keep {w w' : World} {v : Value} {L : List Lk} (h : RdLS w v L) (hb : Below w.heap.size w w') : RdLS w' v L := by
 obtain ⟨h2, h3⟩ := h; refine ⟨h2, ?_⟩
 rcases h3 with h3 | ⟨b, o, c, hv, hp, hc⟩
 ·exact .inl h3
 ·exact .inr ⟨b, o, c, hv, hp, fun i hi => (hc i hi).keep hb⟩
theorem RdLS.len {w : World} {v : Value} {L : List Lk} (h : RdLS w v L) : ∃ a c, v = .slice a L.length c := by
 rcases h.2 with ⟨a, c, rfl, rfl, hac⟩ | ⟨b, o, c, rfl, _⟩
 ·exact ⟨a, c, rfl⟩
 ·exact ⟨_, c, rfl⟩
theorem RdLS.el {w : World} {v : Value} {L : List Lk} (h : RdLS w v L) : ∃ a c, v = .slice a L.length c ∧ ∀ i, i < L.length → ∃ b o, a = some ⟨b, o, none⟩ ∧ AtL w b (o + i * 7) (L.getD i l0) := by
 rcases h.2 with ⟨a, c, rfl, rfl, -⟩ | ⟨b, o, c, rfl, -, hc⟩
 ·exact ⟨a, c, rfl, fun i hi => absurd hi (by simp)⟩
 ·exact ⟨_, c, rfl, fun i hi => ⟨b, o, rfl, hc i hi⟩⟩
theorem RdLS.nil (w : World) : RdLS w (.slice none 0 0) [] := ⟨by simp, .inl ⟨none, 0, rfl, rfl, fun _ => rfl⟩⟩
def wtLS (L : List Lk) : Nat := (L.map wtL).sum
theorem wtL_take {L : List Lk} {j : Nat} (h : j < L.length) : wtLS (L.take (j + 1)) = wtLS (L.take j) + wtL (L.getD j l0) := by
 unfold wtLS; rw [List.take_succ_eq_append_getElem h, List.map_append, List.sum_append]; have e : L.getD j l0 = L[j] := by simp [List.getD, h]
 rw [e]
 simp
theorem wtL_le (L : List Lk) (j : Nat) : wtLS (L.take j) ≤ wtLS L := by
 conv => rhs; rw [← List.take_append_drop j L]
 unfold wtLS; rw [List.map_append, List.sum_append]
 omega
theorem wtL_at {L : List Lk} {j : Nat} (h : j < L.length) : wtL (L.getD j l0) ≤ wtLS L := by
 have h1 := wtL_take h; have h2 := wtL_le L (j + 1)
 omega
section
variable {H : Type} {enc : TypeId × Value → H} {W : World} {base : Nat} {d : DataW H} {p : List MemPlace} {v : Value}
end
theorem eqL_same (av bv av2 bv2 : Value) (x : Lk) (w : World) (h : RdL w av bv x) (h2 : RdL w av2 bv2 x) :
  Calls Tryz.prog 82 #[.agg #[.int .i64 x.a, .int .i64 x.ai, .int .i64 x.b, .int .i64 x.bi, .bool x.up, av, bv], .agg #[.int .i64 x.a, .int .i64 x.ai, .int .i64 x.b, .int .i64 x.bi, .bool x.up, av2, bv2]] w fun e w' => e = .returned (.bool true) ∧ Below w.heap.size w w' := by
 obtain ⟨bA, bB, B1, z⟩ := two w [.int .i64 x.a, .int .i64 x.ai, .int .i64 x.b, .int .i64 x.bi, .bool x.up, av, bv] [.int .i64 x.a, .int .i64 x.ai, .int .i64 x.b, .int .i64 x.bi, .bool x.up, av2, bv2] 70 70; replace h := h.keep B1; replace h2 := h2.keep B1; clear z; have q0 : (x.a != x.a) = false := by simp
 have q1 : (x.ai != x.ai) = false := by simp
 have q2 : (x.b != x.b) = false := by simp
 have q3 : (x.bi != x.bi) = false := by simp
 have q4 : (x.up != x.up) = false := by simp
 have a0 := bA.c 0 rfl; have b0 := bB.c 0 rfl; have a1 := bA.c 1 rfl; have b1 := bB.c 1 rfl; have a2 := bA.c 2 rfl; have b2 := bB.c 2 rfl; have a3 := bA.c 3 rfl; have b3 := bB.c 3 rfl; have a4 := bA.c 4 rfl; have b4 := bB.c 4 rfl; have a5 := bA.c 5 rfl; have b5 := bB.c 5 rfl
 go_enter Tryz.func82, Tryz.ntmps82
 go_wp2_with fail; refine (eqMS_same _ _ x.ab _ (h.1) (h2.1)).mono ?_; rintro e w1 ⟨rfl, hb⟩; replace bA := bA.keep hb; replace bB := bB.keep hb; replace h := h.keep hb; replace h2 := h2.keep hb; replace B1 := below_step B1 hb; clear hb a0 b0 a1 b1 a2 b2 a3 b3 a4 b4 a5 b5; have a6 := bA.c 6 rfl; have b6 := bB.c 6 rfl; go_wp2_with fail; refine (eqMS_same _ _ x.ba _ (h.2) (h2.2)).mono ?_; rintro e w2 ⟨rfl, hb⟩; replace bA := bA.keep hb; replace bB := bB.keep hb; replace h := h.keep hb; replace h2 := h2.keep hb; replace B1 := below_step B1 hb; clear hb a6 b6; go_wp2
 go_ret
 exact ⟨rfl, B1⟩
/-- element i of the cells xs is that, its slices lie in blocks from base on -/
def LX (xs : List Value) (w : World) (base i : Nat) (x : Lk) : Prop :=
 ∃ av bv, Fresh base w (fun W => RdL W av bv x) ∧ xs[i * 7]? = some (.int .i64 x.a) ∧ xs[i * 7 + 1]? = some (.int .i64 x.ai) ∧ xs[i * 7 + 2]? = some (.int .i64 x.b) ∧ xs[i * 7 + 3]? = some (.int .i64 x.bi) ∧ xs[i * 7 + 4]? = some (.bool x.up) ∧ xs[i * 7 + 5]? = some (av) ∧ xs[i * 7 + 6]? = some (bv)
def MadeL (w : World) (B n k : Nat) (L : List Lk) : Prop := ∃ xs : List Value, xs.length = n * 7 ∧ Bl w B xs ∧ ∀ i, i < k → LX xs w (B + 1) i (L.getD i l0)
theorem MadeL.keep {w w' : World} {B n k : Nat} {L : List Lk} (h : MadeL w B n k L) (hb : Below w.heap.size w w') : MadeL w' B n k L := by
 obtain ⟨xs, hl, hB, hx⟩ := h; refine ⟨xs, hl, hB.keep hb, fun i hi => ?_⟩; obtain ⟨av, bv, h1, h3⟩ := hx i hi
 exact ⟨av, bv, h1.agr (.of_below hb), h3⟩
theorem MadeL.cell {w : World} {B n k : Nat} {L : List Lk} (h : MadeL w B n k L) (j : Nat) (hj : j < n * 7) : ∃ x, w.cell? ⟨B, j, none⟩ = some x ∧ w.frozen? ⟨B, j, none⟩ = false := by
 obtain ⟨xs, hl, hB, hx⟩ := h
 exact ⟨_, hB.c j (List.getElem?_eq_getElem (by omega)), hB.f j (List.getElem?_eq_getElem (by omega))⟩
theorem MadeL.step {w : World} {B n j : Nat} {L : List Lk} (h : MadeL w B n j L) (hk : j < n) {av bv : Value} {x : Lk} (hE : L.getD j l0 = x) (h1 : Fresh (B + 1) w (fun W => RdL W av bv x)) :
  MadeL (((((((w.setCell ⟨B, j * 7, none⟩ (.int .i64 x.a)).setCell ⟨B, j * 7 + 1, none⟩ (.int .i64 x.ai)).setCell ⟨B, j * 7 + 2, none⟩ (.int .i64 x.b)).setCell ⟨B, j * 7 + 3, none⟩ (.int .i64 x.bi)).setCell ⟨B, j * 7 + 4, none⟩ (.bool x.up)).setCell ⟨B, j * 7 + 5, none⟩ (av)).setCell ⟨B, j * 7 + 6, none⟩ (bv)) B n (j + 1) L := by
 obtain ⟨xs, hl, hB, hx⟩ := h; have ha : Agr (B + 1) w (((((((w.setCell ⟨B, j * 7, none⟩ (.int .i64 x.a)).setCell ⟨B, j * 7 + 1, none⟩ (.int .i64 x.ai)).setCell ⟨B, j * 7 + 2, none⟩ (.int .i64 x.b)).setCell ⟨B, j * 7 + 3, none⟩ (.int .i64 x.bi)).setCell ⟨B, j * 7 + 4, none⟩ (.bool x.up)).setCell ⟨B, j * 7 + 5, none⟩ (av)).setCell ⟨B, j * 7 + 6, none⟩ (bv)) := (((((((Agr.refl _ _).trans (agr_set _ (Nat.lt_succ_self B))).trans (agr_set _ (Nat.lt_succ_self B))).trans (agr_set _ (Nat.lt_succ_self B))).trans (agr_set _ (Nat.lt_succ_self B))).trans (agr_set _ (Nat.lt_succ_self B))).trans (agr_set _ (Nat.lt_succ_self B))).trans (agr_set _ (Nat.lt_succ_self B)); refine ⟨(((((((xs.set (j * 7) (.int .i64 x.a)).set (j * 7 + 1) (.int .i64 x.ai)).set (j * 7 + 2) (.int .i64 x.b)).set (j * 7 + 3) (.int .i64 x.bi)).set (j * 7 + 4) (.bool x.up)).set (j * 7 + 5) (av)).set (j * 7 + 6) (bv)), by simpa using hl, (((((((hB.set (j * 7) (.int .i64 x.a)).set (j * 7 + 1) (.int .i64 x.ai)).set (j * 7 + 2) (.int .i64 x.b)).set (j * 7 + 3) (.int .i64 x.bi)).set (j * 7 + 4) (.bool x.up)).set (j * 7 + 5) (av)).set (j * 7 + 6) (bv)), fun i hi => ?_⟩
 by_cases e : i = j
 ·have e' := e.symm
  subst e'; rw [hE]; refine ⟨av, bv, h1.agr ha, ?_, ?_, ?_, ?_, ?_, ?_, ?_⟩
  all_goals simp only [List.getElem?_set, List.length_set]
  all_goals simp (disch := omega) [hl]
  all_goals omega
 ·obtain ⟨v0, v1, g1, c0, c1, c2, c3, c4, c5, c6⟩ := hx i (by omega)
  refine ⟨v0, v1, g1.agr ha, ?_, ?_, ?_, ?_, ?_, ?_, ?_⟩
  all_goals (repeat rw [List.getElem?_set_ne (by omega)])
  all_goals assumption
set_option maxHeartbeats 4000000 in
theorem eqLS_same (v u : Value) (L : List Lk) (w : World) (h1 : RdLS w v L) (h2 : RdLS w u L) :
  Calls Tryz.prog 38 #[v, u] w fun e w' => e = .returned (.bool true) ∧ Below w.heap.size w w' := by
 have hm1 := h1.1; obtain ⟨a, c, rfl, hc⟩ := h1.el; obtain ⟨a', c', rfl, hc'⟩ := h2.el; obtain ⟨n, hn⟩ : ∃ n, n = L.length := ⟨_, rfl⟩; rw [← hn] at hc hc' hm1 ⊢; have HN := Lib.hid hn; clear hn h1 h2; have hnn : ((n : Int) != (n : Int)) = false := by simp
 go_enter Tryz.func38, Tryz.ntmps38
 go_wp2
 go_loopw [5] (fun i wr => ∃ j : Nat, j ≤ n ∧ i = .int .i64 j ∧ Below w.heap.size w wr) (fun i _ => n - (intOf i).toNat)
 case atStart => exact ⟨0, Nat.zero_le _, rfl, Below.refl _ _⟩
 case round =>
  obtain ⟨j, hk, rfl, hB⟩ := hrel
  by_cases hlt : j < n
  ·have hltI : (j : Int) < (n : Int) := by omega
   obtain ⟨b, o, rfl, hE⟩ := hc j hlt; obtain ⟨b', o', rfl, hE'⟩ := hc' j hlt; obtain ⟨x, hx⟩ : ∃ x, L.getD j l0 = x := ⟨_, rfl⟩; rw [hx] at hE hE'; obtain ⟨av, bv, hr, k0, k1, k2, k3, k4, k5, k6⟩ := hE.keep hB; obtain ⟨av2, bv2, hr2, m0, m1, m2, m3, m4, m5, m6⟩ := hE'.keep hB; clear hx hc hc' hE hE'; go_wp2
   go_region_held3 (fun w' => Over wr w' ∧ w'.cell? ⟨b, o + j * 7, none⟩ = some (.int .i64 x.a) ∧ w'.cell? ⟨b, o + j * 7 + 1, none⟩ = some (.int .i64 x.ai) ∧ w'.cell? ⟨b, o + j * 7 + 2, none⟩ = some (.int .i64 x.b) ∧ w'.cell? ⟨b, o + j * 7 + 3, none⟩ = some (.int .i64 x.bi) ∧ w'.cell? ⟨b, o + j * 7 + 4, none⟩ = some (.bool x.up) ∧ w'.cell? ⟨b, o + j * 7 + 5, none⟩ = some (av) ∧ w'.cell? ⟨b, o + j * 7 + 6, none⟩ = some (bv) ∧ w'.cell? ⟨b', o' + j * 7, none⟩ = some (.int .i64 x.a) ∧ w'.cell? ⟨b', o' + j * 7 + 1, none⟩ = some (.int .i64 x.ai) ∧ w'.cell? ⟨b', o' + j * 7 + 2, none⟩ = some (.int .i64 x.b) ∧ w'.cell? ⟨b', o' + j * 7 + 3, none⟩ = some (.int .i64 x.bi) ∧ w'.cell? ⟨b', o' + j * 7 + 4, none⟩ = some (.bool x.up) ∧ w'.cell? ⟨b', o' + j * 7 + 5, none⟩ = some (av2) ∧ w'.cell? ⟨b', o' + j * 7 + 6, none⟩ = some (bv2))
    ((first | exact ⟨over_drew _, k0, k1, k2, k3, k4, k5, k6, m0, m1, m2, m3, m4, m5, m6⟩ | exact (fun o => ⟨o, over_cell o (World.block_lt_of_cell? wr _ k0) k0, over_cell o (World.block_lt_of_cell? wr _ k1) k1, over_cell o (World.block_lt_of_cell? wr _ k2) k2, over_cell o (World.block_lt_of_cell? wr _ k3) k3, over_cell o (World.block_lt_of_cell? wr _ k4) k4, over_cell o (World.block_lt_of_cell? wr _ k5) k5, over_cell o (World.block_lt_of_cell? wr _ k6) k6, over_cell o (World.block_lt_of_cell? wr _ m0) m0, over_cell o (World.block_lt_of_cell? wr _ m1) m1, over_cell o (World.block_lt_of_cell? wr _ m2) m2, over_cell o (World.block_lt_of_cell? wr _ m3) m3, over_cell o (World.block_lt_of_cell? wr _ m4) m4, over_cell o (World.block_lt_of_cell? wr _ m5) m5, over_cell o (World.block_lt_of_cell? wr _ m6) m6⟩) (over_step (by assumption : Over wr _ ∧ _).1 (by assumption))))
    ((first | (go_at_call 82; refine (eqL_same av bv av2 bv2 x _ (hr.keep (‹Over wr _ ∧ _›).1) (hr2.keep (‹Over wr _ ∧ _›).1)).mono ?_; rintro e w6 ⟨rfl, hbb⟩)))
   rename_i hH
   replace hB := below_step hB hH.1; clear hH hbb k0 k1 k2 k3 k4 k5 k6 m0 m1 m2 m3 m4 m5 m6 hr hr2; go_wp2
   go_roundw
   case rel => exact ⟨j + 1, by omega, by go_num, hB⟩
   case measure => simp [intOf]; omega
  ·have hkn : j = n := by omega
   clear hc hc'; go_wp2
   go_ret
   exact ⟨rfl, hB⟩
end Go.Proofs.YtkodnipmogdgkaaGreat
namespace Go.Proofs.YtkodnipmogdgkaaGreat
open Go.ChangeShapes Go.WideShapes Go.ChangeAt Go.RowKit Go.BigFrame Go.Joins
set_option linter.unusedVariables false
set_option maxRecDepth 100000
set_option linter.unusedSimpArgs false
set_option maxRecDepth 100000

/-- a fabric -/
structure Fb where
 nodes : List Nd
 links : List Lk
 width : Int
def wtF (x : Fb) : Nat := (x.nodes.length + wtNS x.nodes) + (x.links.length + wtLS x.links)
def RdF (w : World) (nv lv : Value) (x : Fb) : Prop := RdNS w nv x.nodes ∧ RdLS w lv x.links
theorem RdF.keep {w w' : World} {nv lv : Value} {x : Fb} (h : RdF w nv lv x) (hb : Below w.heap.size w w') : RdF w' nv lv x := ⟨h.1.keep hb, h.2.keep hb⟩
section
variable {H : Type} {enc : TypeId × Value → H} {W : World} {base : Nat} {d : DataW H} {p : List MemPlace} {v : Value}
end
theorem eqF_same (nv lv nv2 lv2 : Value) (x : Fb) (w : World) (h : RdF w nv lv x) (h2 : RdF w nv2 lv2 x) :
  Calls Tryz.prog 12 #[.agg #[nv, lv, .int .i64 x.width], .agg #[nv2, lv2, .int .i64 x.width]] w fun e w' => e = .returned (.bool true) ∧ Below w.heap.size w w' := by
 obtain ⟨bA, bB, B1, z⟩ := two w [nv, lv, .int .i64 x.width] [nv2, lv2, .int .i64 x.width] 30 30; replace h := h.keep B1; replace h2 := h2.keep B1; clear z; have q2 : (x.width != x.width) = false := by simp
 have a0 := bA.c 0 rfl; have b0 := bB.c 0 rfl
 go_enter Tryz.func12, Tryz.ntmps12
 go_wp2_with fail; refine (eqNS_same _ _ x.nodes _ (h.1) (h2.1)).mono ?_; rintro e w1 ⟨rfl, hb⟩; replace bA := bA.keep hb; replace bB := bB.keep hb; replace h := h.keep hb; replace h2 := h2.keep hb; replace B1 := below_step B1 hb; clear hb a0 b0; have a1 := bA.c 1 rfl; have b1 := bB.c 1 rfl; go_wp2_with fail; refine (eqLS_same _ _ x.links _ (h.2) (h2.2)).mono ?_; rintro e w2 ⟨rfl, hb⟩; replace bA := bA.keep hb; replace bB := bB.keep hb; replace h := h.keep hb; replace h2 := h2.keep hb; replace B1 := below_step B1 hb; clear hb a1 b1; have a2 := bA.c 2 rfl; have b2 := bB.c 2 rfl; go_wp2
 go_ret
 exact ⟨rfl, B1⟩
end Go.Proofs.YtkodnipmogdgkaaGreat
namespace Go.Proofs.YtkodnipmogdgkaaGreat
open Go.ChangeShapes Go.WideShapes Go.ChangeAt Go.RowKit Go.BigFrame Go.Joins
set_option linter.unusedVariables false
set_option maxRecDepth 100000
set_option linter.unusedSimpArgs false
set_option maxRecDepth 100000

/-- two sets of blocks that have none in common -/
def Dj (S T : Nat → Prop) : Prop := ∀ i, S i → T i → False
theorem Dj.symm {S T : Nat → Prop} (h : Dj S T) : Dj T S := fun i a b => h i b a
/-- w' is a later world in which the blocks of S lie as they lay -/
def AgrS (S : Nat → Prop) (w w' : World) : Prop := w.heap.size ≤ w'.heap.size ∧ ∀ i, S i → i < w.heap.size → w'.heap[i]? = w.heap[i]?
theorem AgrS.sub {S T : Nat → Prop} {w w' : World} (h : AgrS S w w') (hs : ∀ b, T b → S b) : AgrS T w w' := ⟨h.1, fun i a c => h.2 i (hs i a) c⟩
theorem AgrS.of_below {S : Nat → Prop} {w w' : World} (h : Below w.heap.size w w') : AgrS S w w' := ⟨h.size, fun i _ hi => h.block i hi⟩
theorem agr_setS {S : Nat → Prop} {g o : Nat} (w : World) {u : Value} (h : ¬ S g) : AgrS S w (w.setCell ⟨g, o, none⟩ u) := ⟨(grown_set w g o u).size, fun i h1 hl => (grown_set w g o u).block i hl (by intro e; cases e; exact h h1)⟩
theorem bl_agrS {S : Nat → Prop} {B : Nat} {w w' : World} {xs : List Value} (h : Bl w B xs) (k : AgrS S w w') (h1 : S B) : Bl w' B xs :=
 ⟨Nat.lt_of_lt_of_le h.lt k.1, fun i x e => (World.cell?_of_block (k.2 B h1 h.lt)).trans (h.cs i x e), fun i hi => (World.frozen?_of_block (k.2 B h1 h.lt)).trans (h.fz i hi)⟩
/-- only blocks of S have turned -/
structure MidS (S : Nat → Prop) (w w' : World) : Prop where
 os : w'.os = w.os
 tape : w'.tape = w.tape
 output : w'.output = w.output
 size : w.heap.size ≤ w'.heap.size
 block : ∀ i, i < w.heap.size → ¬ S i → w'.heap[i]? = w.heap[i]?
theorem MidS.refl (S : Nat → Prop) (w : World) : MidS S w w := ⟨rfl, rfl, rfl, Nat.le_refl _, fun _ _ _ => rfl⟩
theorem MidS.trans {S : Nat → Prop} {a b c : World} (h : MidS S a b) (k : MidS S b c) : MidS S a c :=
 ⟨k.os.trans h.os, k.tape.trans h.tape, k.output.trans h.output, Nat.le_trans h.size k.size, fun i hi hc => (k.block i (Nat.lt_of_lt_of_le hi h.size) hc).trans (h.block i hi hc)⟩
theorem MidS.agr {S T : Nat → Prop} {w w' : World} (s : MidS S w w') (h : Dj T S) : AgrS T w w' := ⟨s.size, fun i h1 h3 => s.block i h3 (fun q => h i h1 q)⟩
theorem MidS.bl {S : Nat → Prop} {B : Nat} {w w' : World} {xs : List Value} (s : MidS S w w') (h : Bl w B xs) (hn : ¬ S B) : Bl w' B xs :=
 ⟨Nat.lt_of_lt_of_le h.lt s.size, fun i x e => (World.cell?_of_block (s.block B h.lt hn)).trans (h.cs i x e), fun i hi => (World.frozen?_of_block (s.block B h.lt hn)).trans (h.fz i hi)⟩
theorem MidS.below {S : Nat → Prop} {B : Nat} {w w' : World} (s : MidS S w w') (hB : B ≤ w.heap.size) (h : ∀ b, S b → B ≤ b) : Below B w w' :=
 ⟨s.os, s.tape, s.output, s.size, fun i hi => s.block i (by omega) (fun q => by have := h i q; omega)⟩
theorem MidS.of_grown {w w' : World} {row : Option Nat} {S : Nat → Prop} (h : w.grownBy w' row) (hs : ∀ k, row = some k → S k) : MidS S w w' := ⟨h.os, h.tape, h.output, h.size, fun i hi hc => h.block i hi (fun e => hc (hs i e.symm))⟩
/-- only block g and the blocks of S have turned -/
structure ButS (g : Nat) (S : Nat → Prop) (w w' : World) : Prop where
 os : w'.os = w.os
 tape : w'.tape = w.tape
 output : w'.output = w.output
 size : w.heap.size ≤ w'.heap.size
 block : ∀ i, i < w.heap.size → i ≠ g → ¬ S i → w'.heap[i]? = w.heap[i]?
theorem ButS.refl (g : Nat) (S : Nat → Prop) (w : World) : ButS g S w w := ⟨rfl, rfl, rfl, Nat.le_refl _, fun _ _ _ _ => rfl⟩
theorem ButS.set {g o : Nat} {S : Nat → Prop} {w w' : World} {u : Value} (h : ButS g S w w') : ButS g S w (w'.setCell ⟨g, o, none⟩ u) :=
 ⟨(grown_set w' g o u).os.trans h.os, (grown_set w' g o u).tape.trans h.tape, (grown_set w' g o u).output.trans h.output, Nat.le_trans h.size (grown_set w' g o u).size, fun i hi hg hc => ((grown_set w' g o u).block i (Nat.lt_of_lt_of_le hi h.size) (by intro e; cases e; exact hg rfl)).trans (h.block i hi hg hc)⟩
theorem ButS.mid {g : Nat} {S T : Nat → Prop} {w w1 w' : World} (h : ButS g S w w1) (s : MidS T w1 w') (hs : ∀ b, T b → S b) : ButS g S w w' :=
 ⟨s.os.trans h.os, s.tape.trans h.tape, s.output.trans h.output, Nat.le_trans h.size s.size, fun i hi hg hc => (s.block i (Nat.lt_of_lt_of_le hi h.size) (fun q => hc (hs i q))).trans (h.block i hi hg hc)⟩
theorem ButS.agr {g : Nat} {S T : Nat → Prop} {w w' : World} (h : ButS g S w w') (h1 : ¬ T g) (h2 : Dj T S) : AgrS T w w' := ⟨h.size, fun i a l => h.block i l (fun e => h1 (e ▸ a)) (fun q => h2 i a q)⟩
theorem ButS.midS {g : Nat} {S T : Nat → Prop} {w w' : World} (h : ButS g S w w') (hs : ∀ b, S b → T b) (hg : T g) : MidS T w w' := ⟨h.os, h.tape, h.output, h.size, fun i hi hc => h.block i hi (fun e => hc (e ▸ hg)) (fun q => hc (hs i q))⟩
theorem row_agrS {p e s n : Nat} {S : Nat → Prop} {w w' : World} {v : Value} {xs : List Value} (h : w.ownsRow p e s v n xs) (hq : ∀ k, v.ownBlock = some k → S k) (k : AgrS S w w') : w'.ownsRow p e s v n xs := by
 refine ⟨h.1, ?_⟩
 rcases h.2 with hn | ⟨g, cap, cur, hv, hb, hg, rest⟩
 ·exact .inl hn
 ·exact .inr ⟨g, cap, cur, hv, hb, (k.2 g (hq g (by rw [hv]; rfl)) (Array.getElem?_eq_some_iff.1 hg).1).trans hg, rest⟩
/-- rows of prefixes -/
def OwPr (w : World) (S : Nat → Prop) (v : Value) (l : List (Int × Int)) : Prop := OwnP w 0 v l ∧ (∀ k, v.ownBlock = some k → S k) ∧ l.length ≤ 1048576
theorem OwPr.agr {w w' : World} {S : Nat → Prop} {v : Value} {l : List (Int × Int)} (h : OwPr w S v l) (a : AgrS S w w') : OwPr w' S v l := ⟨row_agrS h.1 h.2.1 a, h.2⟩
theorem OwPr.rd {w : World} {S : Nat → Prop} {v : Value} {l : List (Int × Int)} (h : OwPr w S v l) : RdP w v l := h.1.rd
def cntP (l : List (Int × Int)) : Nat := l.length * 2
def MkP (k : Int) (l : List (Int × Int)) : Prop := MarkP k l.length l
theorem mkPr_any (v : Value) (l : List (Int × Int)) (k : Int) (S : Nat → Prop) (w : World) (h : OwPr w S v l) (hk0 : 0 ≤ k) (hk : k + (cntP l : Nat) ≤ 40000000) :
  Calls Tryz.prog 55 #[v, .int .i64 k] w fun e w' => ∃ l', e = .returned (.int .i64 (k + (cntP l : Nat))) ∧ cntP l' = cntP l ∧ l'.length = l.length ∧ MkP k l' ∧ OwPr w' S v l' ∧ MidS S w w' := by
 unfold cntP at hk; refine (markP_is v l 0 k w h.1 hk0 (by omega)).mono ?_; rintro e w' ⟨rfl, ⟨l', hl, hm, ho⟩, hg⟩
 exact ⟨l', by unfold cntP; congr 2, by unfold cntP; rw [hl], hl, hm, ⟨ho, h.2.1, by rw [hl]; exact h.2.2⟩, .of_grown hg h.2.1⟩
/-- rows of numbers -/
def OwIr (w : World) (S : Nat → Prop) (v : Value) (l : List Int) : Prop := OwnI w 0 v l ∧ (∀ k, v.ownBlock = some k → S k) ∧ l.length ≤ 1048576 ∧ ∀ x ∈ l, -9223372036854775808 ≤ x ∧ x ≤ 9223372036854775807
theorem OwIr.agr {w w' : World} {S : Nat → Prop} {v : Value} {l : List Int} (h : OwIr w S v l) (a : AgrS S w w') : OwIr w' S v l := ⟨row_agrS h.1 h.2.1 a, h.2⟩
theorem OwIr.rd {w : World} {S : Nat → Prop} {v : Value} {l : List Int} (h : OwIr w S v l) : RdI w v l := OwnI.rd h.1 h.2.2.2
def cntI (l : List Int) : Nat := l.length
def MkI (k : Int) (l : List Int) : Prop := l = imarks k l.length
theorem mkIr_any (v : Value) (l : List Int) (k : Int) (S : Nat → Prop) (w : World) (h : OwIr w S v l) (hk0 : 0 ≤ k) (hk : k + (cntI l : Nat) ≤ 40000000) :
  Calls Tryz.prog 57 #[v, .int .i64 k] w fun e w' => ∃ l', e = .returned (.int .i64 (k + (cntI l : Nat))) ∧ cntI l' = cntI l ∧ l'.length = l.length ∧ MkI k l' ∧ OwIr w' S v l' ∧ MidS S w w' := by
 unfold cntI at hk; refine (markB_any_I v l 0 k w h.1 hk0 (by omega)).mono ?_; rintro e w' ⟨rfl, ho, hg⟩
 exact ⟨imarks k l.length, rfl, by unfold cntI; rw [imarks_len], imarks_len _ _, by unfold MkI; rw [imarks_len], ⟨ho, h.2.1, by rw [imarks_len]; exact h.2.2.1, imarks_bd _ _ hk0 (by omega)⟩, .of_grown hg h.2.1⟩
/-- the mark of a truth value -/
def modB (k : Int) : Bool := decide (k % 3 = 0)
theorem heldP_k (v : Value) (l : List (Int × Int)) (k : Int) (w : World) (h : RdP w v l) (hm : MarkP k l.length l) (hn : l.length ≤ 40000000) (hk0 : 0 ≤ k) (hk : k ≤ 40000000) :
  Calls Tryz.prog 84 #[v, .int .i64 k] w fun e w' => e = .returned (.int .i64 (k + l.length * 2)) ∧ Below w.heap.size w w' := by
 obtain ⟨a, c, rfl, hc⟩ := h.el; obtain ⟨n, hn'⟩ : ∃ n, n = l.length := ⟨_, rfl⟩; rw [← hn'] at hc hm hn ⊢; clear hn' h; have HM := Lib.hid hm; clear hm
 go_enter Tryz.func84, Tryz.ntmps84
 go_wp2
 go_loopw [1, 5] (fun q i wr => ∃ j : Nat, j ≤ n ∧ i = .int .i64 j ∧ q = .int .i64 (k + (j : Int) * 2) ∧ Below w.heap.size w wr) (fun _ i _ => n - (intOf i).toNat)
 case atStart => exact ⟨0, Nat.zero_le _, rfl, by simp, Below.refl _ _⟩
 case round =>
  obtain ⟨j, hj, rfl, rfl, hB⟩ := hrel
  by_cases hlt : j < n
  ·have hltI : (j : Int) < (n : Int) := by omega
   obtain ⟨b, o, rfl, g0, g1⟩ := hc j hlt; rw [HM.out j hlt] at g0 g1
   dsimp only at g0 g1
   replace g0 := cell_keep hB (World.block_lt_of_cell? _ _ g0) g0; replace g1 := cell_keep hB (World.block_lt_of_cell? _ _ g1) g1; have hw1 : IntKind.i64.wrap (k + (j : Int) * 2 + 1) = k + (j : Int) * 2 + 1 := wrap64_in _ (by omega) (by omega); have hw2 : IntKind.i64.wrap (k + (j : Int) * 2 + 1 + 1) = k + (j : Int) * 2 + 1 + 1 := wrap64_in _ (by omega) (by omega); have hb0 : (k + (j : Int) * 2 != k + (j : Int) * 2) = false := by simp
   have hb1 : (k + (j : Int) * 2 + 1 != k + (j : Int) * 2 + 1) = false := by simp
   clear hc; go_wp2
   go_roundw
   case rel => exact ⟨j + 1, by omega, by go_num, by congr 1; omega, hB⟩
   case measure => simp [intOf]; omega
  ·have hjn : j = n := by omega
   subst hjn; clear hc; go_wp2
   go_ret
   exact ⟨rfl, hB⟩
theorem hdPr_any (v : Value) (l : List (Int × Int)) (k : Int) (w : World) (h : RdP w v l) (hm : MkP k l) (hk0 : 0 ≤ k) (hk : k + (cntP l : Nat) ≤ 40000000) :
  Calls Tryz.prog 84 #[v, .int .i64 k] w fun e w' => e = .returned (.int .i64 (k + (cntP l : Nat))) ∧ Below w.heap.size w w' := by
 unfold cntP at hk; refine (heldP_k v l k w h hm (by omega) hk0 (by omega)).mono ?_; rintro e w' ⟨rfl, hb⟩
 exact ⟨by unfold cntP; congr 2, hb⟩
theorem hdIr_any (v : Value) (l : List Int) (k : Int) (w : World) (h : RdI w v l) (hm : MkI k l) (hk0 : 0 ≤ k) (hk : k + (cntI l : Nat) ≤ 40000000) :
  Calls Tryz.prog 140 #[v, .int .i64 k] w fun e w' => e = .returned (.int .i64 (k + (cntI l : Nat))) ∧ Below w.heap.size w w' := by
 unfold cntI at hk; refine (heldB_any_I v k l.length w (by rw [← hm]; exact h) hk0 (by omega)).mono ?_; rintro e w' ⟨rfl, hb⟩
 exact ⟨rfl, hb⟩
end Go.Proofs.YtkodnipmogdgkaaGreat
namespace Go.Proofs.YtkodnipmogdgkaaGreat
open Go.ChangeShapes Go.WideShapes Go.ChangeAt Go.RowKit Go.BigFrame Go.Joins
set_option linter.unusedVariables false
set_option maxRecDepth 100000
set_option linter.unusedSimpArgs false
set_option maxRecDepth 100000

def OwM (w : World) (S : Nat → Prop) (gv cv pv mv : Value) (x : Mg) : Prop := ∃ S0 S1 S2 S3 : Nat → Prop, (∀ b, S0 b → S b) ∧ (∀ b, S1 b → S b) ∧ (∀ b, S2 b → S b) ∧ (∀ b, S3 b → S b) ∧ Dj S0 S1 ∧ Dj S0 S2 ∧ Dj S0 S3 ∧ Dj S1 S2 ∧ Dj S1 S3 ∧ Dj S2 S3 ∧ OwPr w S0 gv x.gs ∧ OwPr w S1 cv x.cs ∧ OwIr w S2 pv x.ps ∧ OwIr w S3 mv x.ms
theorem OwM.agr {w w' : World} {S : Nat → Prop} {gv cv pv mv : Value} {x : Mg} (h : OwM w S gv cv pv mv x) (a : AgrS S w w') : OwM w' S gv cv pv mv x := by
 obtain ⟨S0, S1, S2, S3, sb0, sb1, sb2, sb3, dj01, dj02, dj03, dj12, dj13, dj23, h0, h1, h2, h3⟩ := h
 exact ⟨S0, S1, S2, S3, sb0, sb1, sb2, sb3, dj01, dj02, dj03, dj12, dj13, dj23, h0.agr (a.sub sb0), h1.agr (a.sub sb1), h2.agr (a.sub sb2), h3.agr (a.sub sb3)⟩
theorem OwM.rd {w : World} {S : Nat → Prop} {gv cv pv mv : Value} {x : Mg} (h : OwM w S gv cv pv mv x) : RdM w gv cv pv mv x := by
 obtain ⟨S0, S1, S2, S3, -, -, -, -, -, -, -, -, -, -, h0, h1, h2, h3⟩ := h
 exact ⟨h0.rd, h1.rd, h2.rd, h3.rd⟩
def cntM (x : Mg) : Nat := 7 + cntP x.gs + cntP x.cs + cntI x.ps + cntI x.ms
def MkM (k : Int) (x : Mg) : Prop := x.kn = k ∧ x.sa = k + 1 ∧ x.ho = k + 1 + 1 ∧ x.ix = k + 1 + 1 + 1 ∧ MkP (k + 1 + 1 + 1 + 1) x.gs ∧ MkP (k + 1 + 1 + 1 + 1 + (cntP x.gs : Nat)) x.cs ∧ MkI (k + 1 + 1 + 1 + 1 + (cntP x.gs : Nat) + (cntP x.cs : Nat)) x.ps ∧ x.pr = k + 1 + 1 + 1 + 1 + (cntP x.gs : Nat) + (cntP x.cs : Nat) + (cntI x.ps : Nat) ∧ MkI (k + 1 + 1 + 1 + 1 + (cntP x.gs : Nat) + (cntP x.cs : Nat) + (cntI x.ps : Nat) + 1) x.ms ∧ x.bw = k + 1 + 1 + 1 + 1 + (cntP x.gs : Nat) + (cntP x.cs : Nat) + (cntI x.ps : Nat) + 1 + (cntI x.ms : Nat) ∧ x.er = k + 1 + 1 + 1 + 1 + (cntP x.gs : Nat) + (cntP x.cs : Nat) + (cntI x.ps : Nat) + 1 + (cntI x.ms : Nat) + 1
/-- element i of the cells xs is that, its rows lie in blocks of E -/
def ElM (xs : List Value) (w : World) (E : Nat → Prop) (i : Nat) (x : Mg) : Prop := ∃ gv cv pv mv, OwM w E gv cv pv mv x ∧ xs[i * 11]? = some (.int .i64 x.kn) ∧ xs[i * 11 + 1]? = some (.int .i64 x.sa) ∧ xs[i * 11 + 2]? = some (.int .i64 x.ho) ∧ xs[i * 11 + 3]? = some (.int .i64 x.ix) ∧ xs[i * 11 + 4]? = some (gv) ∧ xs[i * 11 + 5]? = some (cv) ∧ xs[i * 11 + 6]? = some (pv) ∧ xs[i * 11 + 7]? = some (.int .i64 x.pr) ∧ xs[i * 11 + 8]? = some (mv) ∧ xs[i * 11 + 9]? = some (.int .i64 x.bw) ∧ xs[i * 11 + 10]? = some (.int .i64 x.er)
def OwMS (w : World) (S : Nat → Prop) (v : Value) (L : List Mg) : Prop :=
 L.length ≤ 1048576 ∧ ((v = .slice none 0 0 ∧ L = []) ∨ ∃ (g cap : Nat) (xs : List Value) (E : Nat → Nat → Prop), v = .slice (some ⟨g, 0, none⟩) L.length cap ∧ S g ∧ Bl w g xs ∧ xs.length = L.length * 11 ∧
  (∀ i, i < L.length → (∀ b, E i b → S b) ∧ ¬ E i g ∧ ElM xs w (E i) i (L.getD i m0)) ∧ ∀ i j, i < L.length → j < L.length → i ≠ j → Dj (E i) (E j))
theorem OwMS.agr {w w' : World} {S : Nat → Prop} {v : Value} {L : List Mg} (h : OwMS w S v L) (a : AgrS S w w') : OwMS w' S v L := by
 obtain ⟨hl, h | ⟨g, cap, xs, E, hv, h1, hB, hx, hE, hd⟩⟩ := h
 ·exact ⟨hl, .inl h⟩
 ·refine ⟨hl, .inr ⟨g, cap, xs, E, hv, h1, bl_agrS hB a h1, hx, fun i hi => ?_, hd⟩⟩
  obtain ⟨e1, e2, gv, cv, pv, mv, ho, e5⟩ := hE i hi
  exact ⟨e1, e2, gv, cv, pv, mv, ho.agr (a.sub e1), e5⟩
theorem OwMS.mono {w : World} {S S' : Nat → Prop} {v : Value} {L : List Mg} (h : OwMS w S v L) (hs : ∀ b, S b → S' b) : OwMS w S' v L := by
 obtain ⟨hl, h | ⟨g, cap, xs, E, hv, h1, hB, hx, hE, hd⟩⟩ := h
 ·exact ⟨hl, .inl h⟩
 ·exact ⟨hl, .inr ⟨g, cap, xs, E, hv, hs _ h1, hB, hx, fun i hi => ⟨fun b hb => hs _ ((hE i hi).1 b hb), (hE i hi).2⟩, hd⟩⟩
theorem OwMS.rd {w : World} {S : Nat → Prop} {v : Value} {L : List Mg} (h : OwMS w S v L) : RdMS w v L := by
 obtain ⟨hl, ⟨rfl, rfl⟩ | ⟨g, cap, xs, E, rfl, h1, hB, hx, hE, hd⟩⟩ := h
 ·exact RdMS.nil w
 ·refine ⟨by omega, ?_⟩
  by_cases h0 : L.length = 0
  ·exact .inl ⟨some ⟨g, 0, none⟩, cap, by rw [h0], List.eq_nil_of_length_eq_zero h0, fun h => by cases h⟩
  ·refine .inr ⟨g, 0, cap, rfl, by omega, fun i hi => ?_⟩
   obtain ⟨-, -, gv, cv, pv, mv, ho, e0, e1, e2, e3, e4, e5, e6, e7, e8, e9, e10⟩ := hE i hi; refine ⟨gv, cv, pv, mv, ho.rd, ?_⟩; simp only [Nat.zero_add]
   exact ⟨hB.c _ e0, hB.c _ e1, hB.c _ e2, hB.c _ e3, hB.c _ e4, hB.c _ e5, hB.c _ e6, hB.c _ e7, hB.c _ e8, hB.c _ e9, hB.c _ e10⟩
def cntMS (L : List Mg) : Nat := (L.map cntM).sum
def MkMS (k : Int) (L : List Mg) : Prop := ∀ i, i < L.length → MkM (k + (cntMS (L.take i) : Nat)) (L.getD i m0)
theorem cntMS_take {L : List Mg} {j : Nat} (h : j < L.length) : cntMS (L.take (j + 1)) = cntMS (L.take j) + cntM (L.getD j m0) := by
 unfold cntMS; rw [List.take_succ_eq_append_getElem h, List.map_append, List.sum_append]; have e : L.getD j m0 = L[j] := by simp [List.getD, h]
 rw [e]
 simp
theorem cntMS_le (L : List Mg) (j : Nat) : cntMS (L.take j) ≤ cntMS L := by
 conv => rhs; rw [← List.take_append_drop j L]
 unfold cntMS; rw [List.map_append, List.sum_append]
 omega
theorem cntMS_same {L L' : List Mg} (h : L'.map cntM = L.map cntM) (j : Nat) : cntMS (L'.take j) = cntMS (L.take j) := by
 unfold cntMS; rw [List.map_take, List.map_take, h]
/-- element j turns, nothing else of the list -/
theorem OwMS.upd {w w' : World} {S : Nat → Prop} {g cap j : Nat} {xs xs' : List Value} {E : Nat → Nat → Prop} {L : List Mg} {x' : Mg} (hl : L.length ≤ 1048576) (h1 : S g) (hB : Bl w' g xs') (hx : xs'.length = L.length * 11)
  (hE : ∀ i, i < L.length → (∀ b, E i b → S b) ∧ ¬ E i g ∧ ElM xs w (E i) i (L.getD i m0)) (hd : ∀ i j, i < L.length → j < L.length → i ≠ j → Dj (E i) (E j)) (hj : j < L.length)
  (hsame : ∀ i, i < L.length → i ≠ j → ∀ f, f < 11 → xs'[i * 11 + f]? = xs[i * 11 + f]?) (hb : ButS g (E j) w w') (hn : ElM xs' w' (E j) j x') : OwMS w' S (.slice (some ⟨g, 0, none⟩) L.length cap) (L.set j x') := by
 refine ⟨by rw [List.length_set]; exact hl, .inr ⟨g, cap, xs', E, by rw [List.length_set], h1, hB, by rw [List.length_set]; exact hx, fun i hi => ?_, fun i j hi hj' hij => hd i j (by rwa [List.length_set] at hi) (by rwa [List.length_set] at hj') hij⟩⟩; rw [List.length_set] at hi; obtain ⟨e1, e2, e5⟩ := hE i hi; refine ⟨e1, e2, ?_⟩
 by_cases e : i = j
 ·subst e
  rw [show (L.set i x').getD i m0 = x' by simp [List.getD, hi]]
  exact hn
 ·rw [show (L.set j x').getD i m0 = L.getD i m0 by simp [List.getD, List.getElem?_set, Ne.symm e]]
  obtain ⟨gv, cv, pv, mv, ho, f0, f1, f2, f3, f4, f5, f6, f7, f8, f9, f10⟩ := e5; refine ⟨gv, cv, pv, mv, ho.agr (hb.agr e2 (hd i j hi hj e)), ?_, ?_, ?_, ?_, ?_, ?_, ?_, ?_, ?_, ?_, ?_⟩
  ·rw [show i * 11 = i * 11 + 0 from rfl, hsame i hi e 0 (by omega)]; exact f0
  ·rw [hsame i hi e 1 (by omega)]; exact f1
  ·rw [hsame i hi e 2 (by omega)]; exact f2
  ·rw [hsame i hi e 3 (by omega)]; exact f3
  ·rw [hsame i hi e 4 (by omega)]; exact f4
  ·rw [hsame i hi e 5 (by omega)]; exact f5
  ·rw [hsame i hi e 6 (by omega)]; exact f6
  ·rw [hsame i hi e 7 (by omega)]; exact f7
  ·rw [hsame i hi e 8 (by omega)]; exact f8
  ·rw [hsame i hi e 9 (by omega)]; exact f9
  ·rw [hsame i hi e 10 (by omega)]; exact f10
set_option maxHeartbeats 8000000 in
theorem mkMS_any (v : Value) (L : List Mg) (k : Int) (S : Nat → Prop) (w : World) (h : OwMS w S v L) (hk0 : 0 ≤ k) (hk : k + (cntMS L : Nat) ≤ 40000000) :
  Calls Tryz.prog 83 #[v, .int .i64 k] w fun e w' => ∃ L', e = .returned (.int .i64 (k + (cntMS L : Nat))) ∧ cntMS L' = cntMS L ∧ L'.length = L.length ∧ MkMS k L' ∧ OwMS w' S v L' ∧ MidS S w w' := by
 obtain ⟨va, vx, hv⟩ := h.rd.len; obtain ⟨n, hn⟩ : ∃ n, n = L.length := ⟨_, rfl⟩; rw [← hn] at hv ⊢; subst hv; have hnb := h.1; rw [← hn] at hnb; have HN := Lib.hid hn; have HH := Lib.hid h; clear h hn
 go_enter Tryz.func83, Tryz.ntmps83
 go_wp2
 go_loopw [1, 5] (fun s i wr => ∃ (j : Nat) (L' : List Mg), j ≤ n ∧ i = .int .i64 j ∧ s = .int .i64 (k + (cntMS (L.take j) : Nat)) ∧ L'.length = n ∧ L'.map cntM = L.map cntM ∧ (∀ i, i < j → MkM (k + (cntMS (L'.take i) : Nat)) (L'.getD i m0)) ∧ OwMS wr S (.slice va n vx) L' ∧ MidS S w wr) (fun _ i _ => n - (intOf i).toNat)
 case atStart => exact ⟨0, L, Nat.zero_le _, rfl, by simp [cntMS], HN.out.symm, rfl, fun i hi => by omega, HH.out, MidS.refl _ _⟩
 case round =>
  obtain ⟨j, L', hj, rfl, rfl, hlen, hcm, hyes, hO, hB⟩ := hrel
  by_cases hlt : j < n
  ·have hltI : (j : Int) < (n : Int) := by omega
   obtain ⟨hl, hnil | ⟨g, cap, xs, E, hv, hSg, bX, hxl, hE, hdis⟩⟩ := hO
   ·exact absurd hnil.2 (by intro q; rw [q] at hlen; simp at hlen; omega)
   simp only [Value.slice.injEq] at hv; obtain ⟨rfl, -, rfl⟩ := hv; obtain ⟨e1, e2, gv, cv, pv, mv, ho, x0, x1, x2, x3, x4, x5, x6, x7, x8, x9, x10⟩ := hE j (by omega); obtain ⟨x, hx⟩ : ∃ x, L'.getD j m0 = x := ⟨_, rfl⟩; rw [hx] at ho x0 x1 x2 x3 x7 x9 x10; have HX := Lib.hid hx; have hcnt := cntMS_take (L := L') (j := j) (by omega); rw [cntMS_same hcm, cntMS_same hcm, hx] at hcnt; have hle := cntMS_le L (j + 1); obtain ⟨r0, hr0⟩ : ∃ r : Int, r = k + (cntMS (L.take j) : Nat) := ⟨_, rfl⟩; have hend : r0 + (cntM x : Nat) = k + (cntMS (L.take (j + 1)) : Nat) := by omega
   have hbd : 0 ≤ r0 ∧ r0 + (cntM x : Nat) ≤ 40000000 := by omega
   rw [← hr0]; have HR0 := Lib.hid hr0; have HEND := Lib.hid hend; have HYES := Lib.hid hyes; have HCM := Lib.hid hcm; have HLL := Lib.hid (And.intro hl hlen); have HEE := Lib.hid hE; have HDD := Lib.hid hdis; have HXL := Lib.hid hxl; clear hr0 hend hyes hcm hcnt hle hE hdis hx hl hlen hxl; obtain ⟨S0, S1, S2, S3, sb0, sb1, sb2, sb3, dj01, dj02, dj03, dj12, dj13, dj23, o0, o1, o2, o3⟩ := ho; unfold cntM at hbd; obtain ⟨r1, hr1⟩ : ∃ r : Int, r = r0 + 1 := ⟨_, rfl⟩; obtain ⟨r2, hr2⟩ : ∃ r : Int, r = r1 + 1 := ⟨_, rfl⟩; obtain ⟨r3, hr3⟩ : ∃ r : Int, r = r2 + 1 := ⟨_, rfl⟩; obtain ⟨r4, hr4⟩ : ∃ r : Int, r = r3 + 1 := ⟨_, rfl⟩; obtain ⟨r5, hr5⟩ : ∃ r : Int, r = r4 + (cntP x.gs : Nat) := ⟨_, rfl⟩; obtain ⟨r6, hr6⟩ : ∃ r : Int, r = r5 + (cntP x.cs : Nat) := ⟨_, rfl⟩; obtain ⟨r7, hr7⟩ : ∃ r : Int, r = r6 + (cntI x.ps : Nat) := ⟨_, rfl⟩; obtain ⟨r8, hr8⟩ : ∃ r : Int, r = r7 + 1 := ⟨_, rfl⟩; obtain ⟨r9, hr9⟩ : ∃ r : Int, r = r8 + (cntI x.ms : Nat) := ⟨_, rfl⟩; obtain ⟨r10, hr10⟩ : ∃ r : Int, r = r9 + 1 := ⟨_, rfl⟩; obtain ⟨r11, hr11⟩ : ∃ r : Int, r = r10 + 1 := ⟨_, rfl⟩; have b0 : 0 ≤ r0 ∧ r0 ≤ 40000000 := by omega
   have b1 : 0 ≤ r1 ∧ r1 ≤ 40000000 := by omega
   have b2 : 0 ≤ r2 ∧ r2 ≤ 40000000 := by omega
   have b3 : 0 ≤ r3 ∧ r3 ≤ 40000000 := by omega
   have b4 : 0 ≤ r4 ∧ r4 ≤ 40000000 := by omega
   have b5 : 0 ≤ r5 ∧ r5 ≤ 40000000 := by omega
   have b6 : 0 ≤ r6 ∧ r6 ≤ 40000000 := by omega
   have b7 : 0 ≤ r7 ∧ r7 ≤ 40000000 := by omega
   have b8 : 0 ≤ r8 ∧ r8 ≤ 40000000 := by omega
   have b9 : 0 ≤ r9 ∧ r9 ≤ 40000000 := by omega
   have b10 : 0 ≤ r10 ∧ r10 ≤ 40000000 := by omega
   have b11 : 0 ≤ r11 ∧ r11 ≤ 40000000 := by omega
   have w0 : IntKind.i64.wrap (r0 + 1) = r1 := by rw [hr1]; exact wrap64_in _ (by omega) (by omega)
   have w1 : IntKind.i64.wrap (r1 + 1) = r2 := by rw [hr2]; exact wrap64_in _ (by omega) (by omega)
   have w2 : IntKind.i64.wrap (r2 + 1) = r3 := by rw [hr3]; exact wrap64_in _ (by omega) (by omega)
   have w3 : IntKind.i64.wrap (r3 + 1) = r4 := by rw [hr4]; exact wrap64_in _ (by omega) (by omega)
   have w7 : IntKind.i64.wrap (r7 + 1) = r8 := by rw [hr8]; exact wrap64_in _ (by omega) (by omega)
   have w9 : IntKind.i64.wrap (r9 + 1) = r10 := by rw [hr10]; exact wrap64_in _ (by omega) (by omega)
   have w10 : IntKind.i64.wrap (r10 + 1) = r11 := by rw [hr11]; exact wrap64_in _ (by omega) (by omega)
   have Q1 := Lib.hid hr1; have Q2 := Lib.hid hr2; have Q3 := Lib.hid hr3; have Q4 := Lib.hid hr4; have Q5 := Lib.hid hr5; have Q6 := Lib.hid hr6; have Q7 := Lib.hid hr7; have Q8 := Lib.hid hr8; have Q9 := Lib.hid hr9; have Q10 := Lib.hid hr10; have Q11 := Lib.hid hr11; clear hr1 hr2 hr3 hr4 hr5 hr6 hr7 hr8 hr9 hr10 hr11 hbd; have but : ButS g (E j) wr wr := ButS.refl _ _ _; have y0 := bX.c (j * 11) (x0); have z0 := bX.f (j * 11) (x0); have y1 := bX.c (j * 11 + 1) (x1); have z1 := bX.f (j * 11 + 1) (x1); have y2 := bX.c (j * 11 + 2) (x2); have z2 := bX.f (j * 11 + 2) (x2); have y3 := bX.c (j * 11 + 3) (x3); have z3 := bX.f (j * 11 + 3) (x3); have y4 := bX.c (j * 11 + 4) (x4); go_wp2_with fail; clear y0 z0 y1 z1 y2 z2 y3 z3 y4; replace bX := bX.set (j * 11) (.int .i64 r0); replace but := but.set (o := j * 11) (u := .int .i64 r0); replace o0 := o0.agr (agr_setS (g := g) (o := j * 11) (u := .int .i64 r0) _ (fun h => e2 (sb0 _ h))); replace o1 := o1.agr (agr_setS (g := g) (o := j * 11) (u := .int .i64 r0) _ (fun h => e2 (sb1 _ h))); replace o2 := o2.agr (agr_setS (g := g) (o := j * 11) (u := .int .i64 r0) _ (fun h => e2 (sb2 _ h))); replace o3 := o3.agr (agr_setS (g := g) (o := j * 11) (u := .int .i64 r0) _ (fun h => e2 (sb3 _ h))); replace bX := bX.set (j * 11 + 1) (.int .i64 r1); replace but := but.set (o := j * 11 + 1) (u := .int .i64 r1); replace o0 := o0.agr (agr_setS (g := g) (o := j * 11 + 1) (u := .int .i64 r1) _ (fun h => e2 (sb0 _ h))); replace o1 := o1.agr (agr_setS (g := g) (o := j * 11 + 1) (u := .int .i64 r1) _ (fun h => e2 (sb1 _ h))); replace o2 := o2.agr (agr_setS (g := g) (o := j * 11 + 1) (u := .int .i64 r1) _ (fun h => e2 (sb2 _ h))); replace o3 := o3.agr (agr_setS (g := g) (o := j * 11 + 1) (u := .int .i64 r1) _ (fun h => e2 (sb3 _ h))); replace bX := bX.set (j * 11 + 2) (.int .i64 r2); replace but := but.set (o := j * 11 + 2) (u := .int .i64 r2); replace o0 := o0.agr (agr_setS (g := g) (o := j * 11 + 2) (u := .int .i64 r2) _ (fun h => e2 (sb0 _ h))); replace o1 := o1.agr (agr_setS (g := g) (o := j * 11 + 2) (u := .int .i64 r2) _ (fun h => e2 (sb1 _ h))); replace o2 := o2.agr (agr_setS (g := g) (o := j * 11 + 2) (u := .int .i64 r2) _ (fun h => e2 (sb2 _ h))); replace o3 := o3.agr (agr_setS (g := g) (o := j * 11 + 2) (u := .int .i64 r2) _ (fun h => e2 (sb3 _ h))); replace bX := bX.set (j * 11 + 3) (.int .i64 r3); replace but := but.set (o := j * 11 + 3) (u := .int .i64 r3); replace o0 := o0.agr (agr_setS (g := g) (o := j * 11 + 3) (u := .int .i64 r3) _ (fun h => e2 (sb0 _ h))); replace o1 := o1.agr (agr_setS (g := g) (o := j * 11 + 3) (u := .int .i64 r3) _ (fun h => e2 (sb1 _ h))); replace o2 := o2.agr (agr_setS (g := g) (o := j * 11 + 3) (u := .int .i64 r3) _ (fun h => e2 (sb2 _ h))); replace o3 := o3.agr (agr_setS (g := g) (o := j * 11 + 3) (u := .int .i64 r3) _ (fun h => e2 (sb3 _ h))); obtain ⟨X0, hX0⟩ : ∃ X, X = ((((wr.setCell ⟨g, j * 11, none⟩ (.int .i64 r0)).setCell ⟨g, j * 11 + 1, none⟩ (.int .i64 r1)).setCell ⟨g, j * 11 + 2, none⟩ (.int .i64 r2)).setCell ⟨g, j * 11 + 3, none⟩ (.int .i64 r3)) := ⟨_, rfl⟩; rw [← hX0] at bX but o0 o1 o2 o3 ⊢; clear hX0; refine (mkPr_any _ x.gs r4 _ X0 o0 (by omega) (by have := Q5.out; omega)).mono ?_; rintro e w1 ⟨nw0, rfl, s0, lm0, t0, o0, mid⟩; rw [← Q5.out]; replace bX := mid.bl bX (fun h => e2 (sb0 _ h)); replace but := but.mid mid sb0; replace o1 := o1.agr (mid.agr dj01.symm); replace o2 := o2.agr (mid.agr dj02.symm); replace o3 := o3.agr (mid.agr dj03.symm); clear mid; have y5 := bX.c (j * 11 + 5) (by rw [List.getElem?_set_ne (by omega)]; rw [List.getElem?_set_ne (by omega)]; rw [List.getElem?_set_ne (by omega)]; rw [List.getElem?_set_ne (by omega)]; exact x5); go_wp2_with fail; clear y5; obtain ⟨X1, hX1⟩ : ∃ X, X = w1 := ⟨_, rfl⟩; rw [← hX1] at bX but o0 o1 o2 o3 ⊢; clear hX1; refine (mkPr_any _ x.cs r5 _ X1 o1 (by omega) (by have := Q6.out; omega)).mono ?_; rintro e w2 ⟨nw1, rfl, s1, lm1, t1, o1, mid⟩; rw [← Q6.out]; replace bX := mid.bl bX (fun h => e2 (sb1 _ h)); replace but := but.mid mid sb1; replace o0 := o0.agr (mid.agr dj01); replace o2 := o2.agr (mid.agr dj12.symm); replace o3 := o3.agr (mid.agr dj13.symm); clear mid; have y6 := bX.c (j * 11 + 6) (by rw [List.getElem?_set_ne (by omega)]; rw [List.getElem?_set_ne (by omega)]; rw [List.getElem?_set_ne (by omega)]; rw [List.getElem?_set_ne (by omega)]; exact x6); go_wp2_with fail; clear y6; obtain ⟨X2, hX2⟩ : ∃ X, X = w2 := ⟨_, rfl⟩; rw [← hX2] at bX but o0 o1 o2 o3 ⊢; clear hX2; refine (mkIr_any _ x.ps r6 _ X2 o2 (by omega) (by have := Q7.out; omega)).mono ?_; rintro e w3 ⟨nw2, rfl, s2, lm2, t2, o2, mid⟩; rw [← Q7.out]; replace bX := mid.bl bX (fun h => e2 (sb2 _ h)); replace but := but.mid mid sb2; replace o0 := o0.agr (mid.agr dj02); replace o1 := o1.agr (mid.agr dj12); replace o3 := o3.agr (mid.agr dj23.symm); clear mid; have y7 := bX.c (j * 11 + 7) (by rw [List.getElem?_set_ne (by omega)]; rw [List.getElem?_set_ne (by omega)]; rw [List.getElem?_set_ne (by omega)]; rw [List.getElem?_set_ne (by omega)]; exact x7); have z7 := bX.f (j * 11 + 7) (by rw [List.getElem?_set_ne (by omega)]; rw [List.getElem?_set_ne (by omega)]; rw [List.getElem?_set_ne (by omega)]; rw [List.getElem?_set_ne (by omega)]; exact x7); have y8 := bX.c (j * 11 + 8) (by rw [List.getElem?_set_ne (by omega)]; rw [List.getElem?_set_ne (by omega)]; rw [List.getElem?_set_ne (by omega)]; rw [List.getElem?_set_ne (by omega)]; exact x8); go_wp2_with fail; clear y7 z7 y8; replace bX := bX.set (j * 11 + 7) (.int .i64 r7); replace but := but.set (o := j * 11 + 7) (u := .int .i64 r7); replace o0 := o0.agr (agr_setS (g := g) (o := j * 11 + 7) (u := .int .i64 r7) _ (fun h => e2 (sb0 _ h))); replace o1 := o1.agr (agr_setS (g := g) (o := j * 11 + 7) (u := .int .i64 r7) _ (fun h => e2 (sb1 _ h))); replace o2 := o2.agr (agr_setS (g := g) (o := j * 11 + 7) (u := .int .i64 r7) _ (fun h => e2 (sb2 _ h))); replace o3 := o3.agr (agr_setS (g := g) (o := j * 11 + 7) (u := .int .i64 r7) _ (fun h => e2 (sb3 _ h))); obtain ⟨X3, hX3⟩ : ∃ X, X = (w3.setCell ⟨g, j * 11 + 7, none⟩ (.int .i64 r7)) := ⟨_, rfl⟩; rw [← hX3] at bX but o0 o1 o2 o3 ⊢; clear hX3; refine (mkIr_any _ x.ms r8 _ X3 o3 (by omega) (by have := Q9.out; omega)).mono ?_; rintro e w4 ⟨nw3, rfl, s3, lm3, t3, o3, mid⟩; rw [← Q9.out]; replace bX := mid.bl bX (fun h => e2 (sb3 _ h)); replace but := but.mid mid sb3; replace o0 := o0.agr (mid.agr dj03); replace o1 := o1.agr (mid.agr dj13); replace o2 := o2.agr (mid.agr dj23); clear mid; have y9 := bX.c (j * 11 + 9) (by rw [List.getElem?_set_ne (by omega)]; rw [List.getElem?_set_ne (by omega)]; rw [List.getElem?_set_ne (by omega)]; rw [List.getElem?_set_ne (by omega)]; rw [List.getElem?_set_ne (by omega)]; exact x9); have z9 := bX.f (j * 11 + 9) (by rw [List.getElem?_set_ne (by omega)]; rw [List.getElem?_set_ne (by omega)]; rw [List.getElem?_set_ne (by omega)]; rw [List.getElem?_set_ne (by omega)]; rw [List.getElem?_set_ne (by omega)]; exact x9); have y10 := bX.c (j * 11 + 10) (by rw [List.getElem?_set_ne (by omega)]; rw [List.getElem?_set_ne (by omega)]; rw [List.getElem?_set_ne (by omega)]; rw [List.getElem?_set_ne (by omega)]; rw [List.getElem?_set_ne (by omega)]; exact x10); have z10 := bX.f (j * 11 + 10) (by rw [List.getElem?_set_ne (by omega)]; rw [List.getElem?_set_ne (by omega)]; rw [List.getElem?_set_ne (by omega)]; rw [List.getElem?_set_ne (by omega)]; rw [List.getElem?_set_ne (by omega)]; exact x10); have KB := Lib.hid bX; go_wp2; clear y9 z9 y10 z10; replace bX := bX.set (j * 11 + 9) (.int .i64 r9); replace but := but.set (o := j * 11 + 9) (u := .int .i64 r9); replace o0 := o0.agr (agr_setS (g := g) (o := j * 11 + 9) (u := .int .i64 r9) _ (fun h => e2 (sb0 _ h))); replace o1 := o1.agr (agr_setS (g := g) (o := j * 11 + 9) (u := .int .i64 r9) _ (fun h => e2 (sb1 _ h))); replace o2 := o2.agr (agr_setS (g := g) (o := j * 11 + 9) (u := .int .i64 r9) _ (fun h => e2 (sb2 _ h))); replace o3 := o3.agr (agr_setS (g := g) (o := j * 11 + 9) (u := .int .i64 r9) _ (fun h => e2 (sb3 _ h))); replace bX := bX.set (j * 11 + 10) (.int .i64 r10); replace but := but.set (o := j * 11 + 10) (u := .int .i64 r10); replace o0 := o0.agr (agr_setS (g := g) (o := j * 11 + 10) (u := .int .i64 r10) _ (fun h => e2 (sb0 _ h))); replace o1 := o1.agr (agr_setS (g := g) (o := j * 11 + 10) (u := .int .i64 r10) _ (fun h => e2 (sb1 _ h))); replace o2 := o2.agr (agr_setS (g := g) (o := j * 11 + 10) (u := .int .i64 r10) _ (fun h => e2 (sb2 _ h))); replace o3 := o3.agr (agr_setS (g := g) (o := j * 11 + 10) (u := .int .i64 r10) _ (fun h => e2 (sb3 _ h)))
   go_roundw
   case rel =>
    have hup := OwMS.upd (cap := vx) (x' := ⟨r0, r1, r2, r3, nw0, nw1, nw2, r7, nw3, r9, r10⟩) HLL.out.1 hSg bX (by simpa using HXL.out) HEE.out HDD.out (by have := HLL.out; omega) (fun i hi hij f hf => by rw [List.getElem?_set_ne (by omega)]; rw [List.getElem?_set_ne (by omega)]; rw [List.getElem?_set_ne (by omega)]; rw [List.getElem?_set_ne (by omega)]; rw [List.getElem?_set_ne (by omega)]; rw [List.getElem?_set_ne (by omega)]; rw [List.getElem?_set_ne (by omega)]) but
     ⟨gv, cv, pv, mv, ⟨S0, S1, S2, S3, sb0, sb1, sb2, sb3, dj01, dj02, dj03, dj12, dj13, dj23, o0, o1, o2, o3⟩, by rw [List.getElem?_set_ne (by omega)]; rw [List.getElem?_set_ne (by omega)]; rw [List.getElem?_set_ne (by omega)]; rw [List.getElem?_set_ne (by omega)]; rw [List.getElem?_set_ne (by omega)]; rw [List.getElem?_set_ne (by omega)]; rw [List.getElem?_set_self (by (try simp only [List.length_set]); have := HXL.out; have := HLL.out; omega)], by rw [List.getElem?_set_ne (by omega)]; rw [List.getElem?_set_ne (by omega)]; rw [List.getElem?_set_ne (by omega)]; rw [List.getElem?_set_ne (by omega)]; rw [List.getElem?_set_ne (by omega)]; rw [List.getElem?_set_self (by (try simp only [List.length_set]); have := HXL.out; have := HLL.out; omega)], by rw [List.getElem?_set_ne (by omega)]; rw [List.getElem?_set_ne (by omega)]; rw [List.getElem?_set_ne (by omega)]; rw [List.getElem?_set_ne (by omega)]; rw [List.getElem?_set_self (by (try simp only [List.length_set]); have := HXL.out; have := HLL.out; omega)], by rw [List.getElem?_set_ne (by omega)]; rw [List.getElem?_set_ne (by omega)]; rw [List.getElem?_set_ne (by omega)]; rw [List.getElem?_set_self (by (try simp only [List.length_set]); have := HXL.out; have := HLL.out; omega)], by rw [List.getElem?_set_ne (by omega)]; rw [List.getElem?_set_ne (by omega)]; rw [List.getElem?_set_ne (by omega)]; rw [List.getElem?_set_ne (by omega)]; rw [List.getElem?_set_ne (by omega)]; rw [List.getElem?_set_ne (by omega)]; rw [List.getElem?_set_ne (by omega)]; exact x4, by rw [List.getElem?_set_ne (by omega)]; rw [List.getElem?_set_ne (by omega)]; rw [List.getElem?_set_ne (by omega)]; rw [List.getElem?_set_ne (by omega)]; rw [List.getElem?_set_ne (by omega)]; rw [List.getElem?_set_ne (by omega)]; rw [List.getElem?_set_ne (by omega)]; exact x5, by rw [List.getElem?_set_ne (by omega)]; rw [List.getElem?_set_ne (by omega)]; rw [List.getElem?_set_ne (by omega)]; rw [List.getElem?_set_ne (by omega)]; rw [List.getElem?_set_ne (by omega)]; rw [List.getElem?_set_ne (by omega)]; rw [List.getElem?_set_ne (by omega)]; exact x6, by rw [List.getElem?_set_ne (by omega)]; rw [List.getElem?_set_ne (by omega)]; rw [List.getElem?_set_self (by (try simp only [List.length_set]); have := HXL.out; have := HLL.out; omega)], by rw [List.getElem?_set_ne (by omega)]; rw [List.getElem?_set_ne (by omega)]; rw [List.getElem?_set_ne (by omega)]; rw [List.getElem?_set_ne (by omega)]; rw [List.getElem?_set_ne (by omega)]; rw [List.getElem?_set_ne (by omega)]; rw [List.getElem?_set_ne (by omega)]; exact x8, by rw [List.getElem?_set_ne (by omega)]; rw [List.getElem?_set_self (by (try simp only [List.length_set]); have := HXL.out; have := HLL.out; omega)], by rw [List.getElem?_set_self (by (try simp only [List.length_set]); have := HXL.out; have := HLL.out; omega)]⟩
    rw [HLL.out.2] at hup; have hc2 : cntM ⟨r0, r1, r2, r3, nw0, nw1, nw2, r7, nw3, r9, r10⟩ = cntM x := by unfold cntM; simp only [s0, s1, s2, s3]
    refine ⟨j + 1, L'.set j ⟨r0, r1, r2, r3, nw0, nw1, nw2, r7, nw3, r9, r10⟩, by omega, by go_num, ?_, by rw [List.length_set]; exact HLL.out.2, ?_, fun i hi => ?_, hup, ?_⟩
    ·rw [← HEND.out]
     unfold cntM; have := Q1.out; have := Q2.out; have := Q3.out; have := Q4.out; have := Q5.out; have := Q6.out; have := Q7.out; have := Q8.out; have := Q9.out; have := Q10.out; have := Q11.out
     congr 1
     omega
    ·rw [List.map_set, hc2, ← HX.out, List.getD_eq_getElem?_getD, List.getElem?_eq_getElem (by have := HLL.out; omega)]
     rw [← HCM.out]
     apply List.ext_getElem?
     intro i
     by_cases e : j = i
     ·subst e; rw [List.getElem?_set_self (by rw [List.length_map]; have := HLL.out; omega), List.getElem?_map, List.getElem?_eq_getElem (by have := HLL.out; omega)]; rfl
     ·rw [List.getElem?_set_ne e]
    ·by_cases e : i = j
     ·subst e
      rw [show (L'.set i ⟨r0, r1, r2, r3, nw0, nw1, nw2, r7, nw3, r9, r10⟩).getD i m0 = ⟨r0, r1, r2, r3, nw0, nw1, nw2, r7, nw3, r9, r10⟩ by simp [List.getD, show i < L'.length by have := HLL.out; omega], List.take_set_of_le (Nat.le_refl i), cntMS_same HCM.out, ← HR0.out]; refine ⟨?_, ?_, ?_, ?_, ?_, ?_, ?_, ?_, ?_, ?_, ?_⟩
      ·(try rfl)
      ·rw [show r0 + 1 = r1 by have := Q1.out; first | omega | (simp only [s0, s1, s2, s3]; omega) | simp only [s0, s1, s2, s3]]; (try rfl)
      ·rw [show r0 + 1 + 1 = r2 by have := Q1.out; have := Q2.out; first | omega | (simp only [s0, s1, s2, s3]; omega) | simp only [s0, s1, s2, s3]]; (try rfl)
      ·rw [show r0 + 1 + 1 + 1 = r3 by have := Q1.out; have := Q2.out; have := Q3.out; first | omega | (simp only [s0, s1, s2, s3]; omega) | simp only [s0, s1, s2, s3]]; (try rfl)
      ·rw [show r0 + 1 + 1 + 1 + 1 = r4 by have := Q1.out; have := Q2.out; have := Q3.out; have := Q4.out; first | omega | (simp only [s0, s1, s2, s3]; omega) | simp only [s0, s1, s2, s3]]; exact t0
      ·rw [show r0 + 1 + 1 + 1 + 1 + ((cntP nw0 : Nat) : Int) = r5 by have := Q1.out; have := Q2.out; have := Q3.out; have := Q4.out; have := Q5.out; first | omega | (simp only [s0, s1, s2, s3]; omega) | simp only [s0, s1, s2, s3]]; exact t1
      ·rw [show r0 + 1 + 1 + 1 + 1 + ((cntP nw0 : Nat) : Int) + ((cntP nw1 : Nat) : Int) = r6 by have := Q1.out; have := Q2.out; have := Q3.out; have := Q4.out; have := Q5.out; have := Q6.out; first | omega | (simp only [s0, s1, s2, s3]; omega) | simp only [s0, s1, s2, s3]]; exact t2
      ·rw [show r0 + 1 + 1 + 1 + 1 + ((cntP nw0 : Nat) : Int) + ((cntP nw1 : Nat) : Int) + ((cntI nw2 : Nat) : Int) = r7 by have := Q1.out; have := Q2.out; have := Q3.out; have := Q4.out; have := Q5.out; have := Q6.out; have := Q7.out; first | omega | (simp only [s0, s1, s2, s3]; omega) | simp only [s0, s1, s2, s3]]; (try rfl)
      ·rw [show r0 + 1 + 1 + 1 + 1 + ((cntP nw0 : Nat) : Int) + ((cntP nw1 : Nat) : Int) + ((cntI nw2 : Nat) : Int) + 1 = r8 by have := Q1.out; have := Q2.out; have := Q3.out; have := Q4.out; have := Q5.out; have := Q6.out; have := Q7.out; have := Q8.out; first | omega | (simp only [s0, s1, s2, s3]; omega) | simp only [s0, s1, s2, s3]]; exact t3
      ·rw [show r0 + 1 + 1 + 1 + 1 + ((cntP nw0 : Nat) : Int) + ((cntP nw1 : Nat) : Int) + ((cntI nw2 : Nat) : Int) + 1 + ((cntI nw3 : Nat) : Int) = r9 by have := Q1.out; have := Q2.out; have := Q3.out; have := Q4.out; have := Q5.out; have := Q6.out; have := Q7.out; have := Q8.out; have := Q9.out; first | omega | (simp only [s0, s1, s2, s3]; omega) | simp only [s0, s1, s2, s3]]; (try rfl)
      ·rw [show r0 + 1 + 1 + 1 + 1 + ((cntP nw0 : Nat) : Int) + ((cntP nw1 : Nat) : Int) + ((cntI nw2 : Nat) : Int) + 1 + ((cntI nw3 : Nat) : Int) + 1 = r10 by have := Q1.out; have := Q2.out; have := Q3.out; have := Q4.out; have := Q5.out; have := Q6.out; have := Q7.out; have := Q8.out; have := Q9.out; have := Q10.out; first | omega | (simp only [s0, s1, s2, s3]; omega) | simp only [s0, s1, s2, s3]]; (try rfl)
     ·rw [show (L'.set j ⟨r0, r1, r2, r3, nw0, nw1, nw2, r7, nw3, r9, r10⟩).getD i m0 = L'.getD i m0 by simp [List.getD, List.getElem?_set, Ne.symm e], List.take_set_of_le (by omega)]
      exact HYES.out i (by omega)
    ·exact hB.trans (but.midS e1 hSg)
   case measure => simp [intOf]; omega
  ·have hkn : j = n := by omega
   subst hkn; have HT : Hid (L.take j = L) := Lib.hid (List.take_of_length_le (by rw [HN.out]; exact Nat.le_refl _)); have HF := Lib.hid (And.intro hcm (And.intro hyes (And.intro hO (And.intro hB hlen)))); clear hcm hyes hO hB hlen; go_wp2
   go_ret
   obtain ⟨hcm, hyes, hO, hB, hlen⟩ := HF.out; refine ⟨L', by first | rfl | (rw [HT.out]; rfl), ?_, hlen, fun i hi => hyes i (by omega), hO, hB⟩; unfold cntMS; rw [hcm]
set_option maxHeartbeats 4000000 in
theorem hdMS_any (v : Value) (L : List Mg) (k : Int) (w : World) (h : RdMS w v L) (hm : MkMS k L) (hk0 : 0 ≤ k) (hk : k + (cntMS L : Nat) ≤ 40000000) :
  Calls Tryz.prog 86 #[v, .int .i64 k] w fun e w' => e = .returned (.int .i64 (k + (cntMS L : Nat))) ∧ Below w.heap.size w w' := by
 have hnn := h.1; obtain ⟨a, c, rfl, hc⟩ := h.el; obtain ⟨n, hn⟩ : ∃ n, n = L.length := ⟨_, rfl⟩; rw [← hn] at hc hnn ⊢; have HN := Lib.hid hn; have HM := Lib.hid hm; clear h hn hm
 go_enter Tryz.func86, Tryz.ntmps86
 go_wp2
 go_loopw [1, 5] (fun s i wr => ∃ j : Nat, j ≤ n ∧ i = .int .i64 j ∧ s = .int .i64 (k + (cntMS (L.take j) : Nat)) ∧ Below w.heap.size w wr) (fun _ i _ => n - (intOf i).toNat)
 case atStart => exact ⟨0, Nat.zero_le _, rfl, by simp [cntMS], Below.refl _ _⟩
 case round =>
  obtain ⟨j, hj, rfl, rfl, hB⟩ := hrel
  by_cases hlt : j < n
  ·have hltI : (j : Int) < (n : Int) := by omega
   obtain ⟨b, o, rfl, hE⟩ := hc j hlt; obtain ⟨x, hx⟩ : ∃ x, L.getD j m0 = x := ⟨_, rfl⟩; have hmx := HM.out j (by rw [← HN.out]; exact hlt); rw [hx] at hE hmx; obtain ⟨gv, cv, pv, mv, ⟨o0, o1, o2, o3⟩, g0, g1, g2, g3, g4, g5, g6, g7, g8, g9, g10⟩ := hE.keep hB; have hcnt := cntMS_take (L := L) (j := j) (by rw [← HN.out]; exact hlt); rw [hx] at hcnt; have hle := cntMS_le L (j + 1); obtain ⟨r0, hr0⟩ : ∃ r : Int, r = k + (cntMS (L.take j) : Nat) := ⟨_, rfl⟩; have hend : r0 + (cntM x : Nat) = k + (cntMS (L.take (j + 1)) : Nat) := by omega
   have hbd : 0 ≤ r0 ∧ r0 + (cntM x : Nat) ≤ 40000000 := by omega
   rw [← hr0] at hmx ⊢; have HEND := Lib.hid hend; have HC := Lib.hid hc; clear hr0 hend hcnt hle hx hc hE; unfold cntM at hbd; unfold MkM at hmx; obtain ⟨a0, a1, a2, a3, a4, a5, a6, a7, a8, a9, a10⟩ := hmx; obtain ⟨r1, hr1⟩ : ∃ r : Int, r = r0 + 1 := ⟨_, rfl⟩; have t0 : x.kn = r0 := by rw [a0]; (try omega)
   rw [t0] at g0; obtain ⟨r2, hr2⟩ : ∃ r : Int, r = r1 + 1 := ⟨_, rfl⟩; have t1 : x.sa = r1 := by rw [a1]; (try omega)
   rw [t1] at g1; obtain ⟨r3, hr3⟩ : ∃ r : Int, r = r2 + 1 := ⟨_, rfl⟩; have t2 : x.ho = r2 := by rw [a2]; (try omega)
   rw [t2] at g2; obtain ⟨r4, hr4⟩ : ∃ r : Int, r = r3 + 1 := ⟨_, rfl⟩; have t3 : x.ix = r3 := by rw [a3]; (try omega)
   rw [t3] at g3; obtain ⟨r5, hr5⟩ : ∃ r : Int, r = r4 + (cntP x.gs : Nat) := ⟨_, rfl⟩
   have t4 : MkP r4 x.gs := by
    have e : r0 + 1 + 1 + 1 + 1 = r4 := by omega
    rw [← e]; exact a4
   obtain ⟨r6, hr6⟩ : ∃ r : Int, r = r5 + (cntP x.cs : Nat) := ⟨_, rfl⟩
   have t5 : MkP r5 x.cs := by
    have e : r0 + 1 + 1 + 1 + 1 + ((cntP x.gs : Nat) : Int) = r5 := by omega
    rw [← e]; exact a5
   obtain ⟨r7, hr7⟩ : ∃ r : Int, r = r6 + (cntI x.ps : Nat) := ⟨_, rfl⟩
   have t6 : MkI r6 x.ps := by
    have e : r0 + 1 + 1 + 1 + 1 + ((cntP x.gs : Nat) : Int) + ((cntP x.cs : Nat) : Int) = r6 := by omega
    rw [← e]; exact a6
   obtain ⟨r8, hr8⟩ : ∃ r : Int, r = r7 + 1 := ⟨_, rfl⟩; have t7 : x.pr = r7 := by rw [a7]; (try omega)
   rw [t7] at g7; obtain ⟨r9, hr9⟩ : ∃ r : Int, r = r8 + (cntI x.ms : Nat) := ⟨_, rfl⟩
   have t8 : MkI r8 x.ms := by
    have e : r0 + 1 + 1 + 1 + 1 + ((cntP x.gs : Nat) : Int) + ((cntP x.cs : Nat) : Int) + ((cntI x.ps : Nat) : Int) + 1 = r8 := by omega
    rw [← e]; exact a8
   obtain ⟨r10, hr10⟩ : ∃ r : Int, r = r9 + 1 := ⟨_, rfl⟩; have t9 : x.bw = r9 := by rw [a9]; (try omega)
   rw [t9] at g9; obtain ⟨r11, hr11⟩ : ∃ r : Int, r = r10 + 1 := ⟨_, rfl⟩; have t10 : x.er = r10 := by rw [a10]; (try omega)
   rw [t10] at g10; have b0 : 0 ≤ r0 ∧ r0 ≤ 40000000 := by omega
   have b1 : 0 ≤ r1 ∧ r1 ≤ 40000000 := by omega
   have b2 : 0 ≤ r2 ∧ r2 ≤ 40000000 := by omega
   have b3 : 0 ≤ r3 ∧ r3 ≤ 40000000 := by omega
   have b4 : 0 ≤ r4 ∧ r4 ≤ 40000000 := by omega
   have b5 : 0 ≤ r5 ∧ r5 ≤ 40000000 := by omega
   have b6 : 0 ≤ r6 ∧ r6 ≤ 40000000 := by omega
   have b7 : 0 ≤ r7 ∧ r7 ≤ 40000000 := by omega
   have b8 : 0 ≤ r8 ∧ r8 ≤ 40000000 := by omega
   have b9 : 0 ≤ r9 ∧ r9 ≤ 40000000 := by omega
   have b10 : 0 ≤ r10 ∧ r10 ≤ 40000000 := by omega
   have b11 : 0 ≤ r11 ∧ r11 ≤ 40000000 := by omega
   have ng0 : ¬ r0 < 0 := by omega
   have ng1 : ¬ r1 < 0 := by omega
   have ng2 : ¬ r2 < 0 := by omega
   have ng3 : ¬ r3 < 0 := by omega
   have ng4 : ¬ r4 < 0 := by omega
   have ng5 : ¬ r5 < 0 := by omega
   have ng6 : ¬ r6 < 0 := by omega
   have ng7 : ¬ r7 < 0 := by omega
   have ng8 : ¬ r8 < 0 := by omega
   have ng9 : ¬ r9 < 0 := by omega
   have ng10 : ¬ r10 < 0 := by omega
   have ng11 : ¬ r11 < 0 := by omega
   have w0 : IntKind.i64.wrap (r0 + 1) = r1 := by rw [hr1]; exact wrap64_in _ (by omega) (by omega)
   have e0 : (r0 != r0) = false := by simp
   have w1 : IntKind.i64.wrap (r1 + 1) = r2 := by rw [hr2]; exact wrap64_in _ (by omega) (by omega)
   have e1 : (r1 != r1) = false := by simp
   have w2 : IntKind.i64.wrap (r2 + 1) = r3 := by rw [hr3]; exact wrap64_in _ (by omega) (by omega)
   have e2 : (r2 != r2) = false := by simp
   have w3 : IntKind.i64.wrap (r3 + 1) = r4 := by rw [hr4]; exact wrap64_in _ (by omega) (by omega)
   have e3 : (r3 != r3) = false := by simp
   have w7 : IntKind.i64.wrap (r7 + 1) = r8 := by rw [hr8]; exact wrap64_in _ (by omega) (by omega)
   have e7 : (r7 != r7) = false := by simp
   have w9 : IntKind.i64.wrap (r9 + 1) = r10 := by rw [hr10]; exact wrap64_in _ (by omega) (by omega)
   have e9 : (r9 != r9) = false := by simp
   have w10 : IntKind.i64.wrap (r10 + 1) = r11 := by rw [hr11]; exact wrap64_in _ (by omega) (by omega)
   have e10 : (r10 != r10) = false := by simp
   have Q1 := Lib.hid hr1; have Q2 := Lib.hid hr2; have Q3 := Lib.hid hr3; have Q4 := Lib.hid hr4; have Q5 := Lib.hid hr5; have Q6 := Lib.hid hr6; have Q7 := Lib.hid hr7; have Q8 := Lib.hid hr8; have Q9 := Lib.hid hr9; have Q10 := Lib.hid hr10; have Q11 := Lib.hid hr11; clear hr1 hr2 hr3 hr4 hr5 hr6 hr7 hr8 hr9 hr10 hr11 hbd a0 a1 a2 a3 a4 a5 a6 a7 a8 a9 a10 t0 t1 t2 t3 t7 t9 t10; go_wp2_with fail; refine (hdPr_any _ x.gs r4 _ o0 t4 (by omega) (by have := Q5.out; omega)).mono ?_; rintro e v4 ⟨rfl, hb⟩; rw [← Q5.out]; replace hB := below_step hB hb; replace g5 := cell_keep hb (World.block_lt_of_cell? _ _ g5) g5; replace g6 := cell_keep hb (World.block_lt_of_cell? _ _ g6) g6; replace g7 := cell_keep hb (World.block_lt_of_cell? _ _ g7) g7; replace g8 := cell_keep hb (World.block_lt_of_cell? _ _ g8) g8; replace g9 := cell_keep hb (World.block_lt_of_cell? _ _ g9) g9; replace g10 := cell_keep hb (World.block_lt_of_cell? _ _ g10) g10; replace o1 := o1.keep hb; replace o2 := o2.keep hb; replace o3 := o3.keep hb; clear hb; go_wp2_with fail; refine (hdPr_any _ x.cs r5 _ o1 t5 (by omega) (by have := Q6.out; omega)).mono ?_; rintro e v5 ⟨rfl, hb⟩; rw [← Q6.out]; replace hB := below_step hB hb; replace g6 := cell_keep hb (World.block_lt_of_cell? _ _ g6) g6; replace g7 := cell_keep hb (World.block_lt_of_cell? _ _ g7) g7; replace g8 := cell_keep hb (World.block_lt_of_cell? _ _ g8) g8; replace g9 := cell_keep hb (World.block_lt_of_cell? _ _ g9) g9; replace g10 := cell_keep hb (World.block_lt_of_cell? _ _ g10) g10; replace o2 := o2.keep hb; replace o3 := o3.keep hb; clear hb; go_wp2_with fail; refine (hdIr_any _ x.ps r6 _ o2 t6 (by omega) (by have := Q7.out; omega)).mono ?_; rintro e v6 ⟨rfl, hb⟩; rw [← Q7.out]; replace hB := below_step hB hb; replace g7 := cell_keep hb (World.block_lt_of_cell? _ _ g7) g7; replace g8 := cell_keep hb (World.block_lt_of_cell? _ _ g8) g8; replace g9 := cell_keep hb (World.block_lt_of_cell? _ _ g9) g9; replace g10 := cell_keep hb (World.block_lt_of_cell? _ _ g10) g10; replace o3 := o3.keep hb; clear hb; go_wp2_with fail; refine (hdIr_any _ x.ms r8 _ o3 t8 (by omega) (by have := Q9.out; omega)).mono ?_; rintro e v8 ⟨rfl, hb⟩; rw [← Q9.out]; replace hB := below_step hB hb; replace g9 := cell_keep hb (World.block_lt_of_cell? _ _ g9) g9; replace g10 := cell_keep hb (World.block_lt_of_cell? _ _ g10) g10; clear hb; go_wp2
   go_roundw
   case rel => exact ⟨j + 1, by omega, by go_num, by rw [← HEND.out]; unfold cntM; have := Q1.out; have := Q2.out; have := Q3.out; have := Q4.out; have := Q5.out; have := Q6.out; have := Q7.out; have := Q8.out; have := Q9.out; have := Q10.out; have := Q11.out; congr 1; omega, hB⟩
   case measure => simp [intOf]; omega
  ·have hkn : j = n := by omega
   subst hkn; have HT : Hid (L.take j = L) := Lib.hid (List.take_of_length_le (by rw [HN.out]; exact Nat.le_refl _)); clear hc; go_wp2
   go_ret
   exact ⟨by first | rfl | (rw [HT.out]; rfl), hB⟩
end Go.Proofs.YtkodnipmogdgkaaGreat
namespace Go.Proofs.YtkodnipmogdgkaaGreat
open Go.ChangeShapes Go.WideShapes Go.ChangeAt Go.RowKit Go.BigFrame Go.Joins
set_option linter.unusedVariables false
set_option maxRecDepth 100000
set_option linter.unusedSimpArgs false
set_option maxRecDepth 100000

def wtQ (x : Ent) : Nat := x.p.length + x.c.length
def RdQ (w : World) (pv cv : Value) (x : Ent) : Prop := RdI w pv x.p ∧ RdI w cv x.c
theorem RdQ.keep {w w' : World} {pv cv : Value} {x : Ent} (h : RdQ w pv cv x) (hb : Below w.heap.size w w') : RdQ w' pv cv x := by
 obtain ⟨h0, h1⟩ := h
 exact ⟨h0.keep hb, h1.keep hb⟩
/-- the cells of block b from o on hold it -/
def AtQ (w : World) (b o : Nat) (x : Ent) : Prop :=
 ∃ pv cv, RdQ w pv cv x ∧ w.cell? ⟨b, o, none⟩ = some (.int .i64 x.a) ∧ w.cell? ⟨b, o + 1, none⟩ = some (.int .i64 x.n) ∧ w.cell? ⟨b, o + 2, none⟩ = some (.int .i64 x.pe) ∧ w.cell? ⟨b, o + 3, none⟩ = some (pv) ∧ w.cell? ⟨b, o + 4, none⟩ = some (.int .i64 x.pr) ∧ w.cell? ⟨b, o + 5, none⟩ = some (cv) ∧ w.cell? ⟨b, o + 6, none⟩ = some (.int .i64 x.bw)
theorem AtQ.keep {w w' : World} {b o : Nat} {x : Ent} (h : AtQ w b o x) (hb : Below w.heap.size w w') : AtQ w' b o x := by
 obtain ⟨pv, cv, hr, k0, k1, k2, k3, k4, k5, k6⟩ := h
 exact ⟨pv, cv, hr.keep hb, cell_keep hb (World.block_lt_of_cell? w _ k0) k0, cell_keep hb (World.block_lt_of_cell? w _ k1) k1, cell_keep hb (World.block_lt_of_cell? w _ k2) k2, cell_keep hb (World.block_lt_of_cell? w _ k3) k3, cell_keep hb (World.block_lt_of_cell? w _ k4) k4, cell_keep hb (World.block_lt_of_cell? w _ k5) k5, cell_keep hb (World.block_lt_of_cell? w _ k6) k6⟩
def RdQS (w : World) (v : Value) (L : List Ent) : Prop :=
 L.length ≤ 9223372036854775807 ∧
 ((∃ a c, v = .slice a 0 c ∧ L = [] ∧ (a = none → c = 0)) ∨
  ∃ b o c, v = .slice (some ⟨b, o, none⟩) L.length c ∧ 0 < L.length ∧ ∀ i, i < L.length → AtQ w b (o + i * 7) (L.getD i e0))
theorem RdQS.keep {w w' : World} {v : Value} {L : List Ent} (h : RdQS w v L) (hb : Below w.heap.size w w') : RdQS w' v L := by
 obtain ⟨h2, h3⟩ := h; refine ⟨h2, ?_⟩
 rcases h3 with h3 | ⟨b, o, c, hv, hp, hc⟩
 ·exact .inl h3
 ·exact .inr ⟨b, o, c, hv, hp, fun i hi => (hc i hi).keep hb⟩
theorem RdQS.len {w : World} {v : Value} {L : List Ent} (h : RdQS w v L) : ∃ a c, v = .slice a L.length c := by
 rcases h.2 with ⟨a, c, rfl, rfl, hac⟩ | ⟨b, o, c, rfl, _⟩
 ·exact ⟨a, c, rfl⟩
 ·exact ⟨_, c, rfl⟩
theorem RdQS.el {w : World} {v : Value} {L : List Ent} (h : RdQS w v L) : ∃ a c, v = .slice a L.length c ∧ ∀ i, i < L.length → ∃ b o, a = some ⟨b, o, none⟩ ∧ AtQ w b (o + i * 7) (L.getD i e0) := by
 rcases h.2 with ⟨a, c, rfl, rfl, -⟩ | ⟨b, o, c, rfl, -, hc⟩
 ·exact ⟨a, c, rfl, fun i hi => absurd hi (by simp)⟩
 ·exact ⟨_, c, rfl, fun i hi => ⟨b, o, rfl, hc i hi⟩⟩
theorem RdQS.nil (w : World) : RdQS w (.slice none 0 0) [] := ⟨by simp, .inl ⟨none, 0, rfl, rfl, fun _ => rfl⟩⟩
def wtQS (L : List Ent) : Nat := (L.map wtQ).sum
theorem wtQ_take {L : List Ent} {j : Nat} (h : j < L.length) : wtQS (L.take (j + 1)) = wtQS (L.take j) + wtQ (L.getD j e0) := by
 unfold wtQS; rw [List.take_succ_eq_append_getElem h, List.map_append, List.sum_append]; have e : L.getD j e0 = L[j] := by simp [List.getD, h]
 rw [e]
 simp
theorem wtQ_le (L : List Ent) (j : Nat) : wtQS (L.take j) ≤ wtQS L := by
 conv => rhs; rw [← List.take_append_drop j L]
 unfold wtQS; rw [List.map_append, List.sum_append]
 omega
theorem wtQ_at {L : List Ent} {j : Nat} (h : j < L.length) : wtQ (L.getD j e0) ≤ wtQS L := by
 have h1 := wtQ_take h; have h2 := wtQ_le L (j + 1)
 omega
def OwQ (w : World) (S : Nat → Prop) (pv cv : Value) (x : Ent) : Prop := ∃ S0 S1 : Nat → Prop, (∀ b, S0 b → S b) ∧ (∀ b, S1 b → S b) ∧ Dj S0 S1 ∧ OwIr w S0 pv x.p ∧ OwIr w S1 cv x.c
theorem OwQ.agr {w w' : World} {S : Nat → Prop} {pv cv : Value} {x : Ent} (h : OwQ w S pv cv x) (a : AgrS S w w') : OwQ w' S pv cv x := by
 obtain ⟨S0, S1, sb0, sb1, dj01, h0, h1⟩ := h
 exact ⟨S0, S1, sb0, sb1, dj01, h0.agr (a.sub sb0), h1.agr (a.sub sb1)⟩
theorem OwQ.rd {w : World} {S : Nat → Prop} {pv cv : Value} {x : Ent} (h : OwQ w S pv cv x) : RdQ w pv cv x := by
 obtain ⟨S0, S1, -, -, -, h0, h1⟩ := h
 exact ⟨h0.rd, h1.rd⟩
def cntQ (x : Ent) : Nat := 5 + cntI x.p + cntI x.c
def MkQ (k : Int) (x : Ent) : Prop := x.a = k ∧ x.n = k + 1 ∧ x.pe = k + 1 + 1 ∧ MkI (k + 1 + 1 + 1) x.p ∧ x.pr = k + 1 + 1 + 1 + (cntI x.p : Nat) ∧ MkI (k + 1 + 1 + 1 + (cntI x.p : Nat) + 1) x.c ∧ x.bw = k + 1 + 1 + 1 + (cntI x.p : Nat) + 1 + (cntI x.c : Nat)
/-- element i of the cells xs is that, its rows lie in blocks of E -/
def ElQ (xs : List Value) (w : World) (E : Nat → Prop) (i : Nat) (x : Ent) : Prop := ∃ pv cv, OwQ w E pv cv x ∧ xs[i * 7]? = some (.int .i64 x.a) ∧ xs[i * 7 + 1]? = some (.int .i64 x.n) ∧ xs[i * 7 + 2]? = some (.int .i64 x.pe) ∧ xs[i * 7 + 3]? = some (pv) ∧ xs[i * 7 + 4]? = some (.int .i64 x.pr) ∧ xs[i * 7 + 5]? = some (cv) ∧ xs[i * 7 + 6]? = some (.int .i64 x.bw)
def OwQS (w : World) (S : Nat → Prop) (v : Value) (L : List Ent) : Prop :=
 L.length ≤ 1048576 ∧ ((v = .slice none 0 0 ∧ L = []) ∨ ∃ (g cap : Nat) (xs : List Value) (E : Nat → Nat → Prop), v = .slice (some ⟨g, 0, none⟩) L.length cap ∧ S g ∧ Bl w g xs ∧ xs.length = L.length * 7 ∧
  (∀ i, i < L.length → (∀ b, E i b → S b) ∧ ¬ E i g ∧ ElQ xs w (E i) i (L.getD i e0)) ∧ ∀ i j, i < L.length → j < L.length → i ≠ j → Dj (E i) (E j))
theorem OwQS.agr {w w' : World} {S : Nat → Prop} {v : Value} {L : List Ent} (h : OwQS w S v L) (a : AgrS S w w') : OwQS w' S v L := by
 obtain ⟨hl, h | ⟨g, cap, xs, E, hv, h1, hB, hx, hE, hd⟩⟩ := h
 ·exact ⟨hl, .inl h⟩
 ·refine ⟨hl, .inr ⟨g, cap, xs, E, hv, h1, bl_agrS hB a h1, hx, fun i hi => ?_, hd⟩⟩
  obtain ⟨e1, e2, pv, cv, ho, e5⟩ := hE i hi
  exact ⟨e1, e2, pv, cv, ho.agr (a.sub e1), e5⟩
theorem OwQS.mono {w : World} {S S' : Nat → Prop} {v : Value} {L : List Ent} (h : OwQS w S v L) (hs : ∀ b, S b → S' b) : OwQS w S' v L := by
 obtain ⟨hl, h | ⟨g, cap, xs, E, hv, h1, hB, hx, hE, hd⟩⟩ := h
 ·exact ⟨hl, .inl h⟩
 ·exact ⟨hl, .inr ⟨g, cap, xs, E, hv, hs _ h1, hB, hx, fun i hi => ⟨fun b hb => hs _ ((hE i hi).1 b hb), (hE i hi).2⟩, hd⟩⟩
theorem OwQS.rd {w : World} {S : Nat → Prop} {v : Value} {L : List Ent} (h : OwQS w S v L) : RdQS w v L := by
 obtain ⟨hl, ⟨rfl, rfl⟩ | ⟨g, cap, xs, E, rfl, h1, hB, hx, hE, hd⟩⟩ := h
 ·exact RdQS.nil w
 ·refine ⟨by omega, ?_⟩
  by_cases h0 : L.length = 0
  ·exact .inl ⟨some ⟨g, 0, none⟩, cap, by rw [h0], List.eq_nil_of_length_eq_zero h0, fun h => by cases h⟩
  ·refine .inr ⟨g, 0, cap, rfl, by omega, fun i hi => ?_⟩
   obtain ⟨-, -, pv, cv, ho, e0, e1, e2, e3, e4, e5, e6⟩ := hE i hi; refine ⟨pv, cv, ho.rd, ?_⟩; simp only [Nat.zero_add]
   exact ⟨hB.c _ e0, hB.c _ e1, hB.c _ e2, hB.c _ e3, hB.c _ e4, hB.c _ e5, hB.c _ e6⟩
def cntQS (L : List Ent) : Nat := (L.map cntQ).sum
def MkQS (k : Int) (L : List Ent) : Prop := ∀ i, i < L.length → MkQ (k + (cntQS (L.take i) : Nat)) (L.getD i e0)
theorem cntQS_take {L : List Ent} {j : Nat} (h : j < L.length) : cntQS (L.take (j + 1)) = cntQS (L.take j) + cntQ (L.getD j e0) := by
 unfold cntQS; rw [List.take_succ_eq_append_getElem h, List.map_append, List.sum_append]; have e : L.getD j e0 = L[j] := by simp [List.getD, h]
 rw [e]
 simp
theorem cntQS_le (L : List Ent) (j : Nat) : cntQS (L.take j) ≤ cntQS L := by
 conv => rhs; rw [← List.take_append_drop j L]
 unfold cntQS; rw [List.map_append, List.sum_append]
 omega
theorem cntQS_same {L L' : List Ent} (h : L'.map cntQ = L.map cntQ) (j : Nat) : cntQS (L'.take j) = cntQS (L.take j) := by
 unfold cntQS; rw [List.map_take, List.map_take, h]
/-- element j turns, nothing else of the list -/
theorem OwQS.upd {w w' : World} {S : Nat → Prop} {g cap j : Nat} {xs xs' : List Value} {E : Nat → Nat → Prop} {L : List Ent} {x' : Ent} (hl : L.length ≤ 1048576) (h1 : S g) (hB : Bl w' g xs') (hx : xs'.length = L.length * 7)
  (hE : ∀ i, i < L.length → (∀ b, E i b → S b) ∧ ¬ E i g ∧ ElQ xs w (E i) i (L.getD i e0)) (hd : ∀ i j, i < L.length → j < L.length → i ≠ j → Dj (E i) (E j)) (hj : j < L.length)
  (hsame : ∀ i, i < L.length → i ≠ j → ∀ f, f < 7 → xs'[i * 7 + f]? = xs[i * 7 + f]?) (hb : ButS g (E j) w w') (hn : ElQ xs' w' (E j) j x') : OwQS w' S (.slice (some ⟨g, 0, none⟩) L.length cap) (L.set j x') := by
 refine ⟨by rw [List.length_set]; exact hl, .inr ⟨g, cap, xs', E, by rw [List.length_set], h1, hB, by rw [List.length_set]; exact hx, fun i hi => ?_, fun i j hi hj' hij => hd i j (by rwa [List.length_set] at hi) (by rwa [List.length_set] at hj') hij⟩⟩; rw [List.length_set] at hi; obtain ⟨e1, e2, e5⟩ := hE i hi; refine ⟨e1, e2, ?_⟩
 by_cases e : i = j
 ·subst e
  rw [show (L.set i x').getD i e0 = x' by simp [List.getD, hi]]
  exact hn
 ·rw [show (L.set j x').getD i e0 = L.getD i e0 by simp [List.getD, List.getElem?_set, Ne.symm e]]
  obtain ⟨pv, cv, ho, f0, f1, f2, f3, f4, f5, f6⟩ := e5; refine ⟨pv, cv, ho.agr (hb.agr e2 (hd i j hi hj e)), ?_, ?_, ?_, ?_, ?_, ?_, ?_⟩
  ·rw [show i * 7 = i * 7 + 0 from rfl, hsame i hi e 0 (by omega)]; exact f0
  ·rw [hsame i hi e 1 (by omega)]; exact f1
  ·rw [hsame i hi e 2 (by omega)]; exact f2
  ·rw [hsame i hi e 3 (by omega)]; exact f3
  ·rw [hsame i hi e 4 (by omega)]; exact f4
  ·rw [hsame i hi e 5 (by omega)]; exact f5
  ·rw [hsame i hi e 6 (by omega)]; exact f6
set_option maxHeartbeats 8000000 in
theorem mkQS_any (v : Value) (L : List Ent) (k : Int) (S : Nat → Prop) (w : World) (h : OwQS w S v L) (hk0 : 0 ≤ k) (hk : k + (cntQS L : Nat) ≤ 40000000) :
  Calls Tryz.prog 56 #[v, .int .i64 k] w fun e w' => ∃ L', e = .returned (.int .i64 (k + (cntQS L : Nat))) ∧ cntQS L' = cntQS L ∧ L'.length = L.length ∧ MkQS k L' ∧ OwQS w' S v L' ∧ MidS S w w' := by
 obtain ⟨va, vx, hv⟩ := h.rd.len; obtain ⟨n, hn⟩ : ∃ n, n = L.length := ⟨_, rfl⟩; rw [← hn] at hv ⊢; subst hv; have hnb := h.1; rw [← hn] at hnb; have HN := Lib.hid hn; have HH := Lib.hid h; clear h hn
 go_enter Tryz.func56, Tryz.ntmps56
 go_wp2
 go_loopw [1, 5] (fun s i wr => ∃ (j : Nat) (L' : List Ent), j ≤ n ∧ i = .int .i64 j ∧ s = .int .i64 (k + (cntQS (L.take j) : Nat)) ∧ L'.length = n ∧ L'.map cntQ = L.map cntQ ∧ (∀ i, i < j → MkQ (k + (cntQS (L'.take i) : Nat)) (L'.getD i e0)) ∧ OwQS wr S (.slice va n vx) L' ∧ MidS S w wr) (fun _ i _ => n - (intOf i).toNat)
 case atStart => exact ⟨0, L, Nat.zero_le _, rfl, by simp [cntQS], HN.out.symm, rfl, fun i hi => by omega, HH.out, MidS.refl _ _⟩
 case round =>
  obtain ⟨j, L', hj, rfl, rfl, hlen, hcm, hyes, hO, hB⟩ := hrel
  by_cases hlt : j < n
  ·have hltI : (j : Int) < (n : Int) := by omega
   obtain ⟨hl, hnil | ⟨g, cap, xs, E, hv, hSg, bX, hxl, hE, hdis⟩⟩ := hO
   ·exact absurd hnil.2 (by intro q; rw [q] at hlen; simp at hlen; omega)
   simp only [Value.slice.injEq] at hv; obtain ⟨rfl, -, rfl⟩ := hv; obtain ⟨e1, e2, pv, cv, ho, x0, x1, x2, x3, x4, x5, x6⟩ := hE j (by omega); obtain ⟨x, hx⟩ : ∃ x, L'.getD j e0 = x := ⟨_, rfl⟩; rw [hx] at ho x0 x1 x2 x4 x6; have HX := Lib.hid hx; have hcnt := cntQS_take (L := L') (j := j) (by omega); rw [cntQS_same hcm, cntQS_same hcm, hx] at hcnt; have hle := cntQS_le L (j + 1); obtain ⟨r0, hr0⟩ : ∃ r : Int, r = k + (cntQS (L.take j) : Nat) := ⟨_, rfl⟩; have hend : r0 + (cntQ x : Nat) = k + (cntQS (L.take (j + 1)) : Nat) := by omega
   have hbd : 0 ≤ r0 ∧ r0 + (cntQ x : Nat) ≤ 40000000 := by omega
   rw [← hr0]; have HR0 := Lib.hid hr0; have HEND := Lib.hid hend; have HYES := Lib.hid hyes; have HCM := Lib.hid hcm; have HLL := Lib.hid (And.intro hl hlen); have HEE := Lib.hid hE; have HDD := Lib.hid hdis; have HXL := Lib.hid hxl; clear hr0 hend hyes hcm hcnt hle hE hdis hx hl hlen hxl; obtain ⟨S0, S1, sb0, sb1, dj01, o0, o1⟩ := ho; unfold cntQ at hbd; obtain ⟨r1, hr1⟩ : ∃ r : Int, r = r0 + 1 := ⟨_, rfl⟩; obtain ⟨r2, hr2⟩ : ∃ r : Int, r = r1 + 1 := ⟨_, rfl⟩; obtain ⟨r3, hr3⟩ : ∃ r : Int, r = r2 + 1 := ⟨_, rfl⟩; obtain ⟨r4, hr4⟩ : ∃ r : Int, r = r3 + (cntI x.p : Nat) := ⟨_, rfl⟩; obtain ⟨r5, hr5⟩ : ∃ r : Int, r = r4 + 1 := ⟨_, rfl⟩; obtain ⟨r6, hr6⟩ : ∃ r : Int, r = r5 + (cntI x.c : Nat) := ⟨_, rfl⟩; obtain ⟨r7, hr7⟩ : ∃ r : Int, r = r6 + 1 := ⟨_, rfl⟩; have b0 : 0 ≤ r0 ∧ r0 ≤ 40000000 := by omega
   have b1 : 0 ≤ r1 ∧ r1 ≤ 40000000 := by omega
   have b2 : 0 ≤ r2 ∧ r2 ≤ 40000000 := by omega
   have b3 : 0 ≤ r3 ∧ r3 ≤ 40000000 := by omega
   have b4 : 0 ≤ r4 ∧ r4 ≤ 40000000 := by omega
   have b5 : 0 ≤ r5 ∧ r5 ≤ 40000000 := by omega
   have b6 : 0 ≤ r6 ∧ r6 ≤ 40000000 := by omega
   have b7 : 0 ≤ r7 ∧ r7 ≤ 40000000 := by omega
   have w0 : IntKind.i64.wrap (r0 + 1) = r1 := by rw [hr1]; exact wrap64_in _ (by omega) (by omega)
   have w1 : IntKind.i64.wrap (r1 + 1) = r2 := by rw [hr2]; exact wrap64_in _ (by omega) (by omega)
   have w2 : IntKind.i64.wrap (r2 + 1) = r3 := by rw [hr3]; exact wrap64_in _ (by omega) (by omega)
   have w4 : IntKind.i64.wrap (r4 + 1) = r5 := by rw [hr5]; exact wrap64_in _ (by omega) (by omega)
   have w6 : IntKind.i64.wrap (r6 + 1) = r7 := by rw [hr7]; exact wrap64_in _ (by omega) (by omega)
   have Q1 := Lib.hid hr1; have Q2 := Lib.hid hr2; have Q3 := Lib.hid hr3; have Q4 := Lib.hid hr4; have Q5 := Lib.hid hr5; have Q6 := Lib.hid hr6; have Q7 := Lib.hid hr7; clear hr1 hr2 hr3 hr4 hr5 hr6 hr7 hbd; have but : ButS g (E j) wr wr := ButS.refl _ _ _; have y0 := bX.c (j * 7) (x0); have z0 := bX.f (j * 7) (x0); have y1 := bX.c (j * 7 + 1) (x1); have z1 := bX.f (j * 7 + 1) (x1); have y2 := bX.c (j * 7 + 2) (x2); have z2 := bX.f (j * 7 + 2) (x2); have y3 := bX.c (j * 7 + 3) (x3); go_wp2_with fail; clear y0 z0 y1 z1 y2 z2 y3; replace bX := bX.set (j * 7) (.int .i64 r0); replace but := but.set (o := j * 7) (u := .int .i64 r0); replace o0 := o0.agr (agr_setS (g := g) (o := j * 7) (u := .int .i64 r0) _ (fun h => e2 (sb0 _ h))); replace o1 := o1.agr (agr_setS (g := g) (o := j * 7) (u := .int .i64 r0) _ (fun h => e2 (sb1 _ h))); replace bX := bX.set (j * 7 + 1) (.int .i64 r1); replace but := but.set (o := j * 7 + 1) (u := .int .i64 r1); replace o0 := o0.agr (agr_setS (g := g) (o := j * 7 + 1) (u := .int .i64 r1) _ (fun h => e2 (sb0 _ h))); replace o1 := o1.agr (agr_setS (g := g) (o := j * 7 + 1) (u := .int .i64 r1) _ (fun h => e2 (sb1 _ h))); replace bX := bX.set (j * 7 + 2) (.int .i64 r2); replace but := but.set (o := j * 7 + 2) (u := .int .i64 r2); replace o0 := o0.agr (agr_setS (g := g) (o := j * 7 + 2) (u := .int .i64 r2) _ (fun h => e2 (sb0 _ h))); replace o1 := o1.agr (agr_setS (g := g) (o := j * 7 + 2) (u := .int .i64 r2) _ (fun h => e2 (sb1 _ h))); obtain ⟨X0, hX0⟩ : ∃ X, X = (((wr.setCell ⟨g, j * 7, none⟩ (.int .i64 r0)).setCell ⟨g, j * 7 + 1, none⟩ (.int .i64 r1)).setCell ⟨g, j * 7 + 2, none⟩ (.int .i64 r2)) := ⟨_, rfl⟩; rw [← hX0] at bX but o0 o1 ⊢; clear hX0; refine (mkIr_any _ x.p r3 _ X0 o0 (by omega) (by have := Q4.out; omega)).mono ?_; rintro e w1 ⟨nw0, rfl, s0, lm0, t0, o0, mid⟩; rw [← Q4.out]; replace bX := mid.bl bX (fun h => e2 (sb0 _ h)); replace but := but.mid mid sb0; replace o1 := o1.agr (mid.agr dj01.symm); clear mid; have y4 := bX.c (j * 7 + 4) (by rw [List.getElem?_set_ne (by omega)]; rw [List.getElem?_set_ne (by omega)]; rw [List.getElem?_set_ne (by omega)]; exact x4); have z4 := bX.f (j * 7 + 4) (by rw [List.getElem?_set_ne (by omega)]; rw [List.getElem?_set_ne (by omega)]; rw [List.getElem?_set_ne (by omega)]; exact x4); have y5 := bX.c (j * 7 + 5) (by rw [List.getElem?_set_ne (by omega)]; rw [List.getElem?_set_ne (by omega)]; rw [List.getElem?_set_ne (by omega)]; exact x5); go_wp2_with fail; clear y4 z4 y5; replace bX := bX.set (j * 7 + 4) (.int .i64 r4); replace but := but.set (o := j * 7 + 4) (u := .int .i64 r4); replace o0 := o0.agr (agr_setS (g := g) (o := j * 7 + 4) (u := .int .i64 r4) _ (fun h => e2 (sb0 _ h))); replace o1 := o1.agr (agr_setS (g := g) (o := j * 7 + 4) (u := .int .i64 r4) _ (fun h => e2 (sb1 _ h))); obtain ⟨X1, hX1⟩ : ∃ X, X = (w1.setCell ⟨g, j * 7 + 4, none⟩ (.int .i64 r4)) := ⟨_, rfl⟩; rw [← hX1] at bX but o0 o1 ⊢; clear hX1; refine (mkIr_any _ x.c r5 _ X1 o1 (by omega) (by have := Q6.out; omega)).mono ?_; rintro e w2 ⟨nw1, rfl, s1, lm1, t1, o1, mid⟩; rw [← Q6.out]; replace bX := mid.bl bX (fun h => e2 (sb1 _ h)); replace but := but.mid mid sb1; replace o0 := o0.agr (mid.agr dj01); clear mid; have y6 := bX.c (j * 7 + 6) (by rw [List.getElem?_set_ne (by omega)]; rw [List.getElem?_set_ne (by omega)]; rw [List.getElem?_set_ne (by omega)]; rw [List.getElem?_set_ne (by omega)]; exact x6); have z6 := bX.f (j * 7 + 6) (by rw [List.getElem?_set_ne (by omega)]; rw [List.getElem?_set_ne (by omega)]; rw [List.getElem?_set_ne (by omega)]; rw [List.getElem?_set_ne (by omega)]; exact x6); have KB := Lib.hid bX; go_wp2; clear y6 z6; replace bX := bX.set (j * 7 + 6) (.int .i64 r6); replace but := but.set (o := j * 7 + 6) (u := .int .i64 r6); replace o0 := o0.agr (agr_setS (g := g) (o := j * 7 + 6) (u := .int .i64 r6) _ (fun h => e2 (sb0 _ h))); replace o1 := o1.agr (agr_setS (g := g) (o := j * 7 + 6) (u := .int .i64 r6) _ (fun h => e2 (sb1 _ h)))
   go_roundw
   case rel =>
    have hup := OwQS.upd (cap := vx) (x' := ⟨r0, r1, r2, nw0, r4, nw1, r6⟩) HLL.out.1 hSg bX (by simpa using HXL.out) HEE.out HDD.out (by have := HLL.out; omega) (fun i hi hij f hf => by rw [List.getElem?_set_ne (by omega)]; rw [List.getElem?_set_ne (by omega)]; rw [List.getElem?_set_ne (by omega)]; rw [List.getElem?_set_ne (by omega)]; rw [List.getElem?_set_ne (by omega)]) but
     ⟨pv, cv, ⟨S0, S1, sb0, sb1, dj01, o0, o1⟩, by rw [List.getElem?_set_ne (by omega)]; rw [List.getElem?_set_ne (by omega)]; rw [List.getElem?_set_ne (by omega)]; rw [List.getElem?_set_ne (by omega)]; rw [List.getElem?_set_self (by (try simp only [List.length_set]); have := HXL.out; have := HLL.out; omega)], by rw [List.getElem?_set_ne (by omega)]; rw [List.getElem?_set_ne (by omega)]; rw [List.getElem?_set_ne (by omega)]; rw [List.getElem?_set_self (by (try simp only [List.length_set]); have := HXL.out; have := HLL.out; omega)], by rw [List.getElem?_set_ne (by omega)]; rw [List.getElem?_set_ne (by omega)]; rw [List.getElem?_set_self (by (try simp only [List.length_set]); have := HXL.out; have := HLL.out; omega)], by rw [List.getElem?_set_ne (by omega)]; rw [List.getElem?_set_ne (by omega)]; rw [List.getElem?_set_ne (by omega)]; rw [List.getElem?_set_ne (by omega)]; rw [List.getElem?_set_ne (by omega)]; exact x3, by rw [List.getElem?_set_ne (by omega)]; rw [List.getElem?_set_self (by (try simp only [List.length_set]); have := HXL.out; have := HLL.out; omega)], by rw [List.getElem?_set_ne (by omega)]; rw [List.getElem?_set_ne (by omega)]; rw [List.getElem?_set_ne (by omega)]; rw [List.getElem?_set_ne (by omega)]; rw [List.getElem?_set_ne (by omega)]; exact x5, by rw [List.getElem?_set_self (by (try simp only [List.length_set]); have := HXL.out; have := HLL.out; omega)]⟩
    rw [HLL.out.2] at hup; have hc2 : cntQ ⟨r0, r1, r2, nw0, r4, nw1, r6⟩ = cntQ x := by unfold cntQ; simp only [s0, s1]
    refine ⟨j + 1, L'.set j ⟨r0, r1, r2, nw0, r4, nw1, r6⟩, by omega, by go_num, ?_, by rw [List.length_set]; exact HLL.out.2, ?_, fun i hi => ?_, hup, ?_⟩
    ·rw [← HEND.out]
     unfold cntQ; have := Q1.out; have := Q2.out; have := Q3.out; have := Q4.out; have := Q5.out; have := Q6.out; have := Q7.out
     congr 1
     omega
    ·rw [List.map_set, hc2, ← HX.out, List.getD_eq_getElem?_getD, List.getElem?_eq_getElem (by have := HLL.out; omega)]
     rw [← HCM.out]
     apply List.ext_getElem?
     intro i
     by_cases e : j = i
     ·subst e; rw [List.getElem?_set_self (by rw [List.length_map]; have := HLL.out; omega), List.getElem?_map, List.getElem?_eq_getElem (by have := HLL.out; omega)]; rfl
     ·rw [List.getElem?_set_ne e]
    ·by_cases e : i = j
     ·subst e
      rw [show (L'.set i ⟨r0, r1, r2, nw0, r4, nw1, r6⟩).getD i e0 = ⟨r0, r1, r2, nw0, r4, nw1, r6⟩ by simp [List.getD, show i < L'.length by have := HLL.out; omega], List.take_set_of_le (Nat.le_refl i), cntQS_same HCM.out, ← HR0.out]; refine ⟨?_, ?_, ?_, ?_, ?_, ?_, ?_⟩
      ·(try rfl)
      ·rw [show r0 + 1 = r1 by have := Q1.out; first | omega | (simp only [s0, s1]; omega) | simp only [s0, s1]]; (try rfl)
      ·rw [show r0 + 1 + 1 = r2 by have := Q1.out; have := Q2.out; first | omega | (simp only [s0, s1]; omega) | simp only [s0, s1]]; (try rfl)
      ·rw [show r0 + 1 + 1 + 1 = r3 by have := Q1.out; have := Q2.out; have := Q3.out; first | omega | (simp only [s0, s1]; omega) | simp only [s0, s1]]; exact t0
      ·rw [show r0 + 1 + 1 + 1 + ((cntI nw0 : Nat) : Int) = r4 by have := Q1.out; have := Q2.out; have := Q3.out; have := Q4.out; first | omega | (simp only [s0, s1]; omega) | simp only [s0, s1]]; (try rfl)
      ·rw [show r0 + 1 + 1 + 1 + ((cntI nw0 : Nat) : Int) + 1 = r5 by have := Q1.out; have := Q2.out; have := Q3.out; have := Q4.out; have := Q5.out; first | omega | (simp only [s0, s1]; omega) | simp only [s0, s1]]; exact t1
      ·rw [show r0 + 1 + 1 + 1 + ((cntI nw0 : Nat) : Int) + 1 + ((cntI nw1 : Nat) : Int) = r6 by have := Q1.out; have := Q2.out; have := Q3.out; have := Q4.out; have := Q5.out; have := Q6.out; first | omega | (simp only [s0, s1]; omega) | simp only [s0, s1]]; (try rfl)
     ·rw [show (L'.set j ⟨r0, r1, r2, nw0, r4, nw1, r6⟩).getD i e0 = L'.getD i e0 by simp [List.getD, List.getElem?_set, Ne.symm e], List.take_set_of_le (by omega)]
      exact HYES.out i (by omega)
    ·exact hB.trans (but.midS e1 hSg)
   case measure => simp [intOf]; omega
  ·have hkn : j = n := by omega
   subst hkn; have HT : Hid (L.take j = L) := Lib.hid (List.take_of_length_le (by rw [HN.out]; exact Nat.le_refl _)); have HF := Lib.hid (And.intro hcm (And.intro hyes (And.intro hO (And.intro hB hlen)))); clear hcm hyes hO hB hlen; go_wp2
   go_ret
   obtain ⟨hcm, hyes, hO, hB, hlen⟩ := HF.out; refine ⟨L', by first | rfl | (rw [HT.out]; rfl), ?_, hlen, fun i hi => hyes i (by omega), hO, hB⟩; unfold cntQS; rw [hcm]
set_option maxHeartbeats 4000000 in
theorem hdQS_any (v : Value) (L : List Ent) (k : Int) (w : World) (h : RdQS w v L) (hm : MkQS k L) (hk0 : 0 ≤ k) (hk : k + (cntQS L : Nat) ≤ 40000000) :
  Calls Tryz.prog 85 #[v, .int .i64 k] w fun e w' => e = .returned (.int .i64 (k + (cntQS L : Nat))) ∧ Below w.heap.size w w' := by
 have hnn := h.1; obtain ⟨a, c, rfl, hc⟩ := h.el; obtain ⟨n, hn⟩ : ∃ n, n = L.length := ⟨_, rfl⟩; rw [← hn] at hc hnn ⊢; have HN := Lib.hid hn; have HM := Lib.hid hm; clear h hn hm
 go_enter Tryz.func85, Tryz.ntmps85
 go_wp2
 go_loopw [1, 5] (fun s i wr => ∃ j : Nat, j ≤ n ∧ i = .int .i64 j ∧ s = .int .i64 (k + (cntQS (L.take j) : Nat)) ∧ Below w.heap.size w wr) (fun _ i _ => n - (intOf i).toNat)
 case atStart => exact ⟨0, Nat.zero_le _, rfl, by simp [cntQS], Below.refl _ _⟩
 case round =>
  obtain ⟨j, hj, rfl, rfl, hB⟩ := hrel
  by_cases hlt : j < n
  ·have hltI : (j : Int) < (n : Int) := by omega
   obtain ⟨b, o, rfl, hE⟩ := hc j hlt; obtain ⟨x, hx⟩ : ∃ x, L.getD j e0 = x := ⟨_, rfl⟩; have hmx := HM.out j (by rw [← HN.out]; exact hlt); rw [hx] at hE hmx; obtain ⟨pv, cv, ⟨o0, o1⟩, g0, g1, g2, g3, g4, g5, g6⟩ := hE.keep hB; have hcnt := cntQS_take (L := L) (j := j) (by rw [← HN.out]; exact hlt); rw [hx] at hcnt; have hle := cntQS_le L (j + 1); obtain ⟨r0, hr0⟩ : ∃ r : Int, r = k + (cntQS (L.take j) : Nat) := ⟨_, rfl⟩; have hend : r0 + (cntQ x : Nat) = k + (cntQS (L.take (j + 1)) : Nat) := by omega
   have hbd : 0 ≤ r0 ∧ r0 + (cntQ x : Nat) ≤ 40000000 := by omega
   rw [← hr0] at hmx ⊢; have HEND := Lib.hid hend; have HC := Lib.hid hc; clear hr0 hend hcnt hle hx hc hE; unfold cntQ at hbd; unfold MkQ at hmx; obtain ⟨a0, a1, a2, a3, a4, a5, a6⟩ := hmx; obtain ⟨r1, hr1⟩ : ∃ r : Int, r = r0 + 1 := ⟨_, rfl⟩; have t0 : x.a = r0 := by rw [a0]; (try omega)
   rw [t0] at g0; obtain ⟨r2, hr2⟩ : ∃ r : Int, r = r1 + 1 := ⟨_, rfl⟩; have t1 : x.n = r1 := by rw [a1]; (try omega)
   rw [t1] at g1; obtain ⟨r3, hr3⟩ : ∃ r : Int, r = r2 + 1 := ⟨_, rfl⟩; have t2 : x.pe = r2 := by rw [a2]; (try omega)
   rw [t2] at g2; obtain ⟨r4, hr4⟩ : ∃ r : Int, r = r3 + (cntI x.p : Nat) := ⟨_, rfl⟩
   have t3 : MkI r3 x.p := by
    have e : r0 + 1 + 1 + 1 = r3 := by omega
    rw [← e]; exact a3
   obtain ⟨r5, hr5⟩ : ∃ r : Int, r = r4 + 1 := ⟨_, rfl⟩; have t4 : x.pr = r4 := by rw [a4]; (try omega)
   rw [t4] at g4; obtain ⟨r6, hr6⟩ : ∃ r : Int, r = r5 + (cntI x.c : Nat) := ⟨_, rfl⟩
   have t5 : MkI r5 x.c := by
    have e : r0 + 1 + 1 + 1 + ((cntI x.p : Nat) : Int) + 1 = r5 := by omega
    rw [← e]; exact a5
   obtain ⟨r7, hr7⟩ : ∃ r : Int, r = r6 + 1 := ⟨_, rfl⟩; have t6 : x.bw = r6 := by rw [a6]; (try omega)
   rw [t6] at g6; have b0 : 0 ≤ r0 ∧ r0 ≤ 40000000 := by omega
   have b1 : 0 ≤ r1 ∧ r1 ≤ 40000000 := by omega
   have b2 : 0 ≤ r2 ∧ r2 ≤ 40000000 := by omega
   have b3 : 0 ≤ r3 ∧ r3 ≤ 40000000 := by omega
   have b4 : 0 ≤ r4 ∧ r4 ≤ 40000000 := by omega
   have b5 : 0 ≤ r5 ∧ r5 ≤ 40000000 := by omega
   have b6 : 0 ≤ r6 ∧ r6 ≤ 40000000 := by omega
   have b7 : 0 ≤ r7 ∧ r7 ≤ 40000000 := by omega
   have ng0 : ¬ r0 < 0 := by omega
   have ng1 : ¬ r1 < 0 := by omega
   have ng2 : ¬ r2 < 0 := by omega
   have ng3 : ¬ r3 < 0 := by omega
   have ng4 : ¬ r4 < 0 := by omega
   have ng5 : ¬ r5 < 0 := by omega
   have ng6 : ¬ r6 < 0 := by omega
   have ng7 : ¬ r7 < 0 := by omega
   have w0 : IntKind.i64.wrap (r0 + 1) = r1 := by rw [hr1]; exact wrap64_in _ (by omega) (by omega)
   have e0 : (r0 != r0) = false := by simp
   have w1 : IntKind.i64.wrap (r1 + 1) = r2 := by rw [hr2]; exact wrap64_in _ (by omega) (by omega)
   have e1 : (r1 != r1) = false := by simp
   have w2 : IntKind.i64.wrap (r2 + 1) = r3 := by rw [hr3]; exact wrap64_in _ (by omega) (by omega)
   have e2 : (r2 != r2) = false := by simp
   have w4 : IntKind.i64.wrap (r4 + 1) = r5 := by rw [hr5]; exact wrap64_in _ (by omega) (by omega)
   have e4 : (r4 != r4) = false := by simp
   have w6 : IntKind.i64.wrap (r6 + 1) = r7 := by rw [hr7]; exact wrap64_in _ (by omega) (by omega)
   have e6 : (r6 != r6) = false := by simp
   have Q1 := Lib.hid hr1; have Q2 := Lib.hid hr2; have Q3 := Lib.hid hr3; have Q4 := Lib.hid hr4; have Q5 := Lib.hid hr5; have Q6 := Lib.hid hr6; have Q7 := Lib.hid hr7; clear hr1 hr2 hr3 hr4 hr5 hr6 hr7 hbd a0 a1 a2 a3 a4 a5 a6 t0 t1 t2 t4 t6; go_wp2_with fail; refine (hdIr_any _ x.p r3 _ o0 t3 (by omega) (by have := Q4.out; omega)).mono ?_; rintro e v3 ⟨rfl, hb⟩; rw [← Q4.out]; replace hB := below_step hB hb; replace g4 := cell_keep hb (World.block_lt_of_cell? _ _ g4) g4; replace g5 := cell_keep hb (World.block_lt_of_cell? _ _ g5) g5; replace g6 := cell_keep hb (World.block_lt_of_cell? _ _ g6) g6; replace o1 := o1.keep hb; clear hb; go_wp2_with fail; refine (hdIr_any _ x.c r5 _ o1 t5 (by omega) (by have := Q6.out; omega)).mono ?_; rintro e v5 ⟨rfl, hb⟩; rw [← Q6.out]; replace hB := below_step hB hb; replace g6 := cell_keep hb (World.block_lt_of_cell? _ _ g6) g6; clear hb; go_wp2
   go_roundw
   case rel => exact ⟨j + 1, by omega, by go_num, by rw [← HEND.out]; unfold cntQ; have := Q1.out; have := Q2.out; have := Q3.out; have := Q4.out; have := Q5.out; have := Q6.out; have := Q7.out; congr 1; omega, hB⟩
   case measure => simp [intOf]; omega
  ·have hkn : j = n := by omega
   subst hkn; have HT : Hid (L.take j = L) := Lib.hid (List.take_of_length_le (by rw [HN.out]; exact Nat.le_refl _)); clear hc; go_wp2
   go_ret
   exact ⟨by first | rfl | (rw [HT.out]; rfl), hB⟩
theorem rdQ_of {w : World} {v : Value} {L : List Ent} (h : RdE w v L) : RdQS w v L := by
 refine ⟨h.1, ?_⟩
 rcases h.2 with q | ⟨b, o, c, hv, hp, hc⟩
 ·exact .inl q
 ·refine .inr ⟨b, o, c, hv, hp, fun i hi => ?_⟩
  obtain ⟨pv, cv, h1, h2, h3⟩ := hc i hi
  exact ⟨pv, cv, ⟨h1, h2⟩, h3⟩
theorem rdE_of {w : World} {v : Value} {L : List Ent} (h : RdQS w v L) : RdE w v L := by
 refine ⟨h.1, ?_⟩
 rcases h.2 with q | ⟨b, o, c, hv, hp, hc⟩
 ·exact .inl q
 ·refine .inr ⟨b, o, c, hv, hp, fun i hi => ?_⟩
  obtain ⟨pv, cv, ⟨h1, h2⟩, h3⟩ := hc i hi
  exact ⟨pv, cv, h1, h2, h3⟩
end Go.Proofs.YtkodnipmogdgkaaGreat
