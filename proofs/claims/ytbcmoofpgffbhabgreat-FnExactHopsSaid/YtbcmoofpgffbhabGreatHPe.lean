/-
  Fabrics as arguments. Conditions: those in each contract.
  Sets of blocks and ranges. Conditions: those in each contract.
  Messages: lists of one's own, and marks on them. Conditions: those in each contract.
  Entries: lists of one's own, and marks on them. Conditions: those in each contract.
  Lists of messages and of entries that the laws copy: memory of their own. Conditions: those in each contract.
  Switches and links: lists of one's own, and marks on them. Conditions: those in each contract.
  Switches, links and fabrics that the laws copy: memory of their own. Conditions: those in each contract.
  Marks on fabrics. Conditions: those in each contract.
  Lists of prefixes: contracts of the model's test that they are valid and ascending, and of the library's comparison of two lists. Conditions: those in each contract.
  Messages: contracts of the program's comparisons. Conditions: those in each contract.
-/
import Derived.Test.YtbcmoofpgffbhabGreatHPd
import Derived.Test.YtbcmoofpgffbhabGreatHPc
import Derived.Test.YtbcmoofpgffbhabGreatHPb
import Derived.Laws.StructEq
namespace Go.Proofs.YtbcmoofpgffbhabGreat
open Go.ChangeShapes Go.WideShapes Go.ChangeAt Go.RowKit Go.BigFrame Go.Joins
set_option linter.unusedVariables false
set_option maxRecDepth 100000
set_option maxRecDepth 100000
set_option linter.unusedSimpArgs false
set_option maxRecDepth 100000

/-- a fabric -/
structure Fb where
 nodes : List Nd
 links : List Lk
 width : Int
def wtF (x : Fb) : Nat := (x.nodes.length + wtNS x.nodes) + (x.links.length + wtLS x.links)
def RdF (w : World) (nv lv : Value) (x : Fb) : Prop := RdNS w nv x.nodes ∧ RdLS w lv x.links
theorem RdF.keep {w w' : World} {nv lv : Value} {x : Fb} (h : RdF w nv lv x) (hb : Below w.heap.size w w') : RdF w' nv lv x := ⟨h.1.keep hb, h.2.keep hb⟩
def Is_Fabric (W : World) (v : Value) : Prop := ∃ (x : Fb) (nv lv : Value), v = .agg #[nv, lv, .int .i64 x.width] ∧ RdF W nv lv x
theorem array3F {α : Type} {xs : Array α} (h : xs.size = 3) : ∃ c0 c1 c2, xs = #[c0, c1, c2] := by
 obtain ⟨l⟩ := xs
 match l, h with
 | [c0, c1, c2], _ => exact ⟨c0, c1, c2, rfl⟩
theorem list3F {α : Type} {xs : List α} (h : xs.length = 3) : ∃ c0 c1 c2, xs = [c0, c1, c2] := by
 match xs, h with
 | [c0, c1, c2], _ => exact ⟨c0, c1, c2, rfl⟩
section
variable {H : Type} {enc : TypeId × Value → H} {W : World} {base : Nat} {d : DataW H} {p : List MemPlace} {v : Value}
theorem cellsF3 : Tryz.prog.cellsOf 69 = 3 := by kernel_rfl
theorem cellsNS1 : Tryz.prog.cellsOf 66 = 1 := by kernel_rfl
theorem cellsLS1 : Tryz.prog.cellsOf 67 = 1 := by kernel_rfl
theorem is_Fabric (hv : Value.okWide Tryz.prog W .any base 69 v) (h : DataW.Trod enc Tryz.prog W 0 (fun _ => true) true 69 v d p) : Is_Fabric W v := by
 obtain ⟨cs, rfl, hsz⟩ := okWide_struct Tryz.underlying69 hv; rw [cellsF3] at hsz; obtain ⟨c0, c1, c2, rfl⟩ := array3F hsz; obtain ⟨fuel, hf⟩ := h; obtain ⟨ys, n, _, hx, hl, hlen, hf⟩ := DataW.trod_struct Tryz.underlying69 hf; obtain ⟨y0, y1, y2, rfl⟩ := list3F hlen; have h0 := hf 0 _ rfl; have h1 := hf 1 _ rfl; have h2 := hf 2 _ rfl; clear hf
 simp [Value.cells, cellsI1e, cellsNS1, cellsLS1] at h0 h1 h2
 obtain ⟨x2, e2, -, -⟩ := DataW.trod_int Tryz.underlying3 h2; obtain ⟨l0, g0⟩ := rdNS_trod h0; obtain ⟨l1, g1⟩ := rdLS_trod h1
 simp at e2
 subst e2
 exact ⟨⟨l0, l1, x2⟩, c0, c1, rfl, g0, g1⟩
end
set_option maxHeartbeats 1000000 in
theorem szFabric_l (nv lv : Value) (x : Fb) (w : World) (h : RdF w nv lv x) :
  Calls Tryz.prog 30 #[.agg #[nv, lv, .int .i64 x.width], .int .i64 1048576] w fun e w' => ∃ r : Int, e = .returned (.int .i64 r) ∧ (¬ r < 0 → wtF x ≤ 1048576) ∧ Below w.heap.size w w' := by
 obtain ⟨bA, B0, z⟩ := one w [nv, lv, .int .i64 x.width] 69; replace h := h.keep B0; clear z; have a0 := bA.c 0 rfl
 go_enter Tryz.func30, Tryz.ntmps30
 go_wp2_with fail; clear a0; refine (szNS_l nv x.nodes 1048576 _ (h.1) (by omega) (by omega)).mono ?_; rintro e w1 ⟨r0, rfl, hr0, hm0, hb⟩; replace bA := bA.keep hb; replace h := h.keep hb; replace B0 := below_step B0 hb; have HR0 := Lib.hid hr0; clear hb hr0 hm0
 by_cases hn0 : r0 < 0
 ·go_wp2
  go_ret
  exact ⟨-1, rfl, fun h => by omega, B0⟩
 ·have hu0 : r0 ≤ 1048576 := by have := HR0.out hn0; omega
  have a1 := bA.c 1 rfl; go_wp2_with fail; clear a1; refine (szLS_l lv x.links r0 _ (h.2) (by omega) (by omega)).mono ?_; rintro e w2 ⟨r1, rfl, hr1, hm1, hb⟩; replace bA := bA.keep hb; replace h := h.keep hb; replace B0 := below_step B0 hb; have HR1 := Lib.hid hr1; clear hb hr1 hm1
  by_cases hn1 : r1 < 0
  ·go_wp2
   go_ret
   exact ⟨-1, rfl, fun h => by omega, B0⟩
  ·go_wp2
   go_ret
   refine ⟨r1, rfl, fun _ => ?_, B0⟩; have e0 := HR0.out hn0; have e1 := HR1.out (by omega); unfold wtF
   omega
set_option maxHeartbeats 2000000 in
theorem toFabric_f (s0 s1 : Value) (x : Fb) (w : World) (h : RdF w s0 s1 x) (hw : wtF x ≤ 1048576) :
  Calls Tryz.prog 32 #[.agg #[s0, s1, .int .i64 x.width]] w fun e w' => ∃ s0 s1, e = .returned (.agg #[s0, s1, .int .i64 x.width]) ∧ Fresh w.heap.size w' (fun W => RdF W s0 s1 x) ∧ Below w.heap.size w w' := by
 unfold wtF at hw; obtain ⟨bA, bR, bO, B1, z⟩ := three w [s0, s1, .int .i64 x.width] [.slice none 0 0, .slice none 0 0, .int .i64 0] [.slice none 0 0, .slice none 0 0, .int .i64 0] 69 60 60; have a0 := bA.c 0 rfl
 go_enter Tryz.func32, Tryz.ntmps32
 go_wp2_with fail; clear a0; refine (toNS_f s0 x.nodes _ (h.1.keep B1) (by omega)).mono ?_; rintro e w1 ⟨u0, rfl, f0, hb⟩; obtain ⟨p0, q0, rfl⟩ := f0.now.len; have hs := hb.size; rw [z] at f0 hs; replace bA := bA.keep hb; replace bR := bR.keep hb; replace bO := bO.keep hb; replace B1 := below_step B1 hb; clear hb; clear z; obtain ⟨A, hA⟩ : ∃ A, A = w.heap.size := ⟨_, rfl⟩; obtain ⟨R, hR⟩ : ∃ R, R = w.heap.size + 1 := ⟨_, rfl⟩; obtain ⟨O, hO⟩ : ∃ O, O = w.heap.size + 1 + 1 := ⟨_, rfl⟩; rw [← hA] at bA; rw [← hR] at bR; rw [← hO] at bO; rw [← hO, ← hR]
 try rw [← hA]
 have hO3 : O < w.heap.size + 3 := by omega
 have hRO : R ≠ O := by omega
 have hR3 : R < w.heap.size + 3 := by omega
 have hAO : A ≠ O := by omega
 have hwO : w.heap.size ≤ O := by omega
 have hwR : w.heap.size ≤ R := by omega
 clear hA hR hO; have o0 := bO.c 0 rfl; have of0 := bO.f 0 rfl; have a1 := bA.c 1 rfl; go_wp2_with fail; clear o0 of0 a1; replace hs := Nat.le_trans hs (grown_set _ O 0 (.slice p0 x.nodes.length q0)).size; replace bA := bA.far (o := 0) (u := .slice p0 x.nodes.length q0) hAO; replace bR := bR.far (o := 0) (u := .slice p0 x.nodes.length q0) hRO; replace bO := bO.set 0 (.slice p0 x.nodes.length q0); replace f0 := f0.far (o := 0) (u := .slice p0 x.nodes.length q0) hO3; replace B1 := B1.setCell (p := ⟨O, 0, none⟩) hwO (.slice p0 x.nodes.length q0); refine (toLS_f s1 x.links _ (h.2.keep B1) (by omega)).mono ?_; rintro e w2 ⟨u1, rfl, f1, hb⟩; obtain ⟨p1, q1, rfl⟩ := f1.now.len; replace f1 := f1.mono hs; replace hs := Nat.le_trans hs hb.size; replace bA := bA.keep hb; replace bR := bR.keep hb; replace bO := bO.keep hb; replace f0 := f0.keep hb; replace B1 := below_step B1 hb; clear hb; have o0 := bO.c 0 rfl; have of0 := bO.f 0 rfl; have o1 := bO.c 1 rfl; have of1 := bO.f 1 rfl; have o2 := bO.c 2 rfl; have of2 := bO.f 2 rfl; have r0 := bR.c 0 rfl; have rf0 := bR.f 0 rfl; have r1 := bR.c 1 rfl; have rf1 := bR.f 1 rfl; have r2 := bR.c 2 rfl; have rf2 := bR.f 2 rfl; have a2 := bA.c 2 rfl; go_wp2_with fail; have bE := (((((bR.far (o := 1) (u := .slice p1 x.links.length q1) hRO).far (o := 2) (u := .int .i64 x.width) hRO).set 0 (.slice p0 x.nodes.length q0)).set 1 (.slice p1 x.links.length q1)).set 2 (.int .i64 x.width)); have e0 := bE.c 0 rfl; have e1 := bE.c 1 rfl; have e2 := bE.c 2 rfl; have g0 := (((((f0.far (o := 1) (u := .slice p1 x.links.length q1) hO3).far (o := 2) (u := .int .i64 x.width) hO3).far (o := 0) (u := .slice p0 x.nodes.length q0) hR3).far (o := 1) (u := .slice p1 x.links.length q1) hR3).far (o := 2) (u := .int .i64 x.width) hR3); have g1 := (((((f1.far (o := 1) (u := .slice p1 x.links.length q1) hO3).far (o := 2) (u := .int .i64 x.width) hO3).far (o := 0) (u := .slice p0 x.nodes.length q0) hR3).far (o := 1) (u := .slice p1 x.links.length q1) hR3).far (o := 2) (u := .int .i64 x.width) hR3)
 exact bodyPost_ret (v := .agg #[.slice p0 x.nodes.length q0, .slice p1 x.links.length q1, .int .i64 x.width]) (by simp [results, Tryz.results32, go_sem, e0, e1, e2]) rfl
  ⟨_, _, rfl, fun W k => ⟨g0 W (k.up (by omega)), g1 W (k.up (by omega))⟩, (((((B1.setCell (p := ⟨O, 1, none⟩) hwO (.slice p1 x.links.length q1)).setCell (p := ⟨O, 2, none⟩) hwO (.int .i64 x.width)).setCell (p := ⟨R, 0, none⟩) hwR (.slice p0 x.nodes.length q0)).setCell (p := ⟨R, 1, none⟩) hwR (.slice p1 x.links.length q1)).setCell (p := ⟨R, 2, none⟩) hwR (.int .i64 x.width))⟩
theorem eqF_same (nv lv nv2 lv2 : Value) (x : Fb) (w : World) (h : RdF w nv lv x) (h2 : RdF w nv2 lv2 x) :
  Calls Tryz.prog 27 #[.agg #[nv, lv, .int .i64 x.width], .agg #[nv2, lv2, .int .i64 x.width]] w fun e w' => e = .returned (.bool true) ∧ Below w.heap.size w w' := by
 obtain ⟨bA, bB, B1, z⟩ := two w [nv, lv, .int .i64 x.width] [nv2, lv2, .int .i64 x.width] 60 60; replace h := h.keep B1; replace h2 := h2.keep B1; clear z; have q2 : (x.width != x.width) = false := by simp
 have a0 := bA.c 0 rfl; have b0 := bB.c 0 rfl
 go_enter Tryz.func27, Tryz.ntmps27
 go_wp2_with fail; refine (eqNS_same _ _ x.nodes _ (h.1) (h2.1)).mono ?_; rintro e w1 ⟨rfl, hb⟩; replace bA := bA.keep hb; replace bB := bB.keep hb; replace h := h.keep hb; replace h2 := h2.keep hb; replace B1 := below_step B1 hb; clear hb a0 b0; have a1 := bA.c 1 rfl; have b1 := bB.c 1 rfl; go_wp2_with fail; refine (eqLS_same _ _ x.links _ (h.2) (h2.2)).mono ?_; rintro e w2 ⟨rfl, hb⟩; replace bA := bA.keep hb; replace bB := bB.keep hb; replace h := h.keep hb; replace h2 := h2.keep hb; replace B1 := below_step B1 hb; clear hb a1 b1; have a2 := bA.c 2 rfl; have b2 := bB.c 2 rfl; go_wp2
 go_ret
 exact ⟨rfl, B1⟩
end Go.Proofs.YtbcmoofpgffbhabGreat
namespace Go.Proofs.YtbcmoofpgffbhabGreat
open Go.ChangeShapes Go.WideShapes Go.ChangeAt Go.RowKit Go.BigFrame Go.Joins
set_option linter.unusedVariables false
set_option maxRecDepth 100000
set_option linter.unusedSimpArgs false
set_option maxRecDepth 100000

end Go.Proofs.YtbcmoofpgffbhabGreat
namespace Go.Proofs.YtbcmoofpgffbhabGreat
open Go.ChangeShapes Go.WideShapes Go.ChangeAt Go.RowKit Go.BigFrame Go.Joins
set_option linter.unusedVariables false
set_option maxRecDepth 100000
set_option linter.unusedSimpArgs false
set_option maxRecDepth 100000

def OwM (w : World) (S : Nat → Prop) (gv cv pv mv : Value) (x : Mg) : Prop := ∃ S0 S1 S2 S3 : Nat → Prop, (∀ b, S0 b → S b) ∧ (∀ b, S1 b → S b) ∧ (∀ b, S2 b → S b) ∧ (∀ b, S3 b → S b) ∧ Dj S0 S1 ∧ Dj S0 S2 ∧ Dj S0 S3 ∧ Dj S1 S2 ∧ Dj S1 S3 ∧ Dj S2 S3 ∧ OwPr w S0 gv x.gs ∧ OwPr w S1 cv x.cs ∧ OwIr w S2 pv x.ps ∧ OwIr w S3 mv x.ms
theorem OwM.agr {w w' : World} {S : Nat → Prop} {gv cv pv mv : Value} {x : Mg} (h : OwM w S gv cv pv mv x) (a : AgrS S w w') : OwM w' S gv cv pv mv x := by
 obtain ⟨S0, S1, S2, S3, sb0, sb1, sb2, sb3, dj01, dj02, dj03, dj12, dj13, dj23, h0, h1, h2, h3⟩ := h
 exact ⟨S0, S1, S2, S3, sb0, sb1, sb2, sb3, dj01, dj02, dj03, dj12, dj13, dj23, h0.agr (a.sub sb0), h1.agr (a.sub sb1), h2.agr (a.sub sb2), h3.agr (a.sub sb3)⟩
theorem OwM.rd {w : World} {S : Nat → Prop} {gv cv pv mv : Value} {x : Mg} (h : OwM w S gv cv pv mv x) : RdM w gv cv pv mv x := by
 obtain ⟨S0, S1, S2, S3, -, -, -, -, -, -, -, -, -, -, h0, h1, h2, h3⟩ := h
 exact ⟨h0.rd, h1.rd, h2.rd, h3.rd⟩
/-- element i of the cells xs is that, its rows lie in blocks of E -/
def ElM (xs : List Value) (w : World) (E : Nat → Prop) (i : Nat) (x : Mg) : Prop := ∃ gv cv pv mv, OwM w E gv cv pv mv x ∧ xs[i * 11]? = some (.int .i64 x.kn) ∧ xs[i * 11 + 1]? = some (.int .i64 x.sa) ∧ xs[i * 11 + 2]? = some (.int .i64 x.ho) ∧ xs[i * 11 + 3]? = some (.int .i64 x.ix) ∧ xs[i * 11 + 4]? = some (gv) ∧ xs[i * 11 + 5]? = some (cv) ∧ xs[i * 11 + 6]? = some (pv) ∧ xs[i * 11 + 7]? = some (.int .i64 x.pr) ∧ xs[i * 11 + 8]? = some (mv) ∧ xs[i * 11 + 9]? = some (.int .i64 x.bw) ∧ xs[i * 11 + 10]? = some (.int .i64 x.er)
def OwMS (w : World) (S : Nat → Prop) (v : Value) (L : List Mg) : Prop :=
 L.length ≤ 1048576 ∧ ((v = .slice none 0 0 ∧ L = []) ∨ ∃ (g cap : Nat) (xs : List Value) (E : Nat → Nat → Prop), v = .slice (some ⟨g, 0, none⟩) L.length cap ∧ S g ∧ Bl w g xs ∧ xs.length = L.length * 11 ∧
  (∀ i, i < L.length → (∀ b, E i b → S b) ∧ ¬ E i g ∧ ElM xs w (E i) i (L.getD i m0)) ∧ ∀ i j, i < L.length → j < L.length → i ≠ j → Dj (E i) (E j))
theorem OwMS.agr {w w' : World} {S : Nat → Prop} {v : Value} {L : List Mg} (h : OwMS w S v L) (a : AgrS S w w') : OwMS w' S v L := by
 obtain ⟨hl, h | ⟨g, cap, xs, E, hv, h1, hB, hx, hE, hd⟩⟩ := h
 ·exact ⟨hl, .inl h⟩
 ·refine ⟨hl, .inr ⟨g, cap, xs, E, hv, h1, bl_agrS hB a h1, hx, fun i hi => ?_, hd⟩⟩
  obtain ⟨e1, e2, gv, cv, pv, mv, ho, e5⟩ := hE i hi
  exact ⟨e1, e2, gv, cv, pv, mv, ho.agr (a.sub e1), e5⟩
theorem OwMS.mono {w : World} {S S' : Nat → Prop} {v : Value} {L : List Mg} (h : OwMS w S v L) (hs : ∀ b, S b → S' b) : OwMS w S' v L := by
 obtain ⟨hl, h | ⟨g, cap, xs, E, hv, h1, hB, hx, hE, hd⟩⟩ := h
 ·exact ⟨hl, .inl h⟩
 ·exact ⟨hl, .inr ⟨g, cap, xs, E, hv, hs _ h1, hB, hx, fun i hi => ⟨fun b hb => hs _ ((hE i hi).1 b hb), (hE i hi).2⟩, hd⟩⟩
theorem OwMS.rd {w : World} {S : Nat → Prop} {v : Value} {L : List Mg} (h : OwMS w S v L) : RdMS w v L := by
 obtain ⟨hl, ⟨rfl, rfl⟩ | ⟨g, cap, xs, E, rfl, h1, hB, hx, hE, hd⟩⟩ := h
 ·exact RdMS.nil w
 ·refine ⟨by omega, ?_⟩
  by_cases h0 : L.length = 0
  ·exact .inl ⟨some ⟨g, 0, none⟩, cap, by rw [h0], List.eq_nil_of_length_eq_zero h0, fun h => by cases h⟩
  ·refine .inr ⟨g, 0, cap, rfl, by omega, fun i hi => ?_⟩
   obtain ⟨-, -, gv, cv, pv, mv, ho, e0, e1, e2, e3, e4, e5, e6, e7, e8, e9, e10⟩ := hE i hi; refine ⟨gv, cv, pv, mv, ho.rd, ?_⟩; simp only [Nat.zero_add]
   exact ⟨hB.c _ e0, hB.c _ e1, hB.c _ e2, hB.c _ e3, hB.c _ e4, hB.c _ e5, hB.c _ e6, hB.c _ e7, hB.c _ e8, hB.c _ e9, hB.c _ e10⟩
end Go.Proofs.YtbcmoofpgffbhabGreat
namespace Go.Proofs.YtbcmoofpgffbhabGreat
open Go.ChangeShapes Go.WideShapes Go.ChangeAt Go.RowKit Go.BigFrame Go.Joins
set_option linter.unusedVariables false
set_option maxRecDepth 100000
set_option linter.unusedSimpArgs false
set_option maxRecDepth 100000

def RdQ (w : World) (pv cv : Value) (x : Ent) : Prop := RdI w pv x.p ∧ RdI w cv x.c
theorem RdQ.keep {w w' : World} {pv cv : Value} {x : Ent} (h : RdQ w pv cv x) (hb : Below w.heap.size w w') : RdQ w' pv cv x := by
 obtain ⟨h0, h1⟩ := h
 exact ⟨h0.keep hb, h1.keep hb⟩
/-- the cells of block b from o on hold it -/
def AtQ (w : World) (b o : Nat) (x : Ent) : Prop :=
 ∃ pv cv, RdQ w pv cv x ∧ w.cell? ⟨b, o, none⟩ = some (.int .i64 x.a) ∧ w.cell? ⟨b, o + 1, none⟩ = some (.int .i64 x.n) ∧ w.cell? ⟨b, o + 2, none⟩ = some (.int .i64 x.pe) ∧ w.cell? ⟨b, o + 3, none⟩ = some (pv) ∧ w.cell? ⟨b, o + 4, none⟩ = some (.int .i64 x.pr) ∧ w.cell? ⟨b, o + 5, none⟩ = some (cv) ∧ w.cell? ⟨b, o + 6, none⟩ = some (.int .i64 x.bw)
theorem AtQ.keep {w w' : World} {b o : Nat} {x : Ent} (h : AtQ w b o x) (hb : Below w.heap.size w w') : AtQ w' b o x := by
 obtain ⟨pv, cv, hr, k0, k1, k2, k3, k4, k5, k6⟩ := h
 exact ⟨pv, cv, hr.keep hb, cell_keep hb (World.block_lt_of_cell? w _ k0) k0, cell_keep hb (World.block_lt_of_cell? w _ k1) k1, cell_keep hb (World.block_lt_of_cell? w _ k2) k2, cell_keep hb (World.block_lt_of_cell? w _ k3) k3, cell_keep hb (World.block_lt_of_cell? w _ k4) k4, cell_keep hb (World.block_lt_of_cell? w _ k5) k5, cell_keep hb (World.block_lt_of_cell? w _ k6) k6⟩
def RdQS (w : World) (v : Value) (L : List Ent) : Prop :=
 L.length ≤ 9223372036854775807 ∧
 ((∃ a c, v = .slice a 0 c ∧ L = [] ∧ (a = none → c = 0)) ∨
  ∃ b o c, v = .slice (some ⟨b, o, none⟩) L.length c ∧ 0 < L.length ∧ ∀ i, i < L.length → AtQ w b (o + i * 7) (L.getD i e0))
theorem RdQS.keep {w w' : World} {v : Value} {L : List Ent} (h : RdQS w v L) (hb : Below w.heap.size w w') : RdQS w' v L := by
 obtain ⟨h2, h3⟩ := h; refine ⟨h2, ?_⟩
 rcases h3 with h3 | ⟨b, o, c, hv, hp, hc⟩
 ·exact .inl h3
 ·exact .inr ⟨b, o, c, hv, hp, fun i hi => (hc i hi).keep hb⟩
theorem RdQS.len {w : World} {v : Value} {L : List Ent} (h : RdQS w v L) : ∃ a c, v = .slice a L.length c := by
 rcases h.2 with ⟨a, c, rfl, rfl, hac⟩ | ⟨b, o, c, rfl, _⟩
 ·exact ⟨a, c, rfl⟩
 ·exact ⟨_, c, rfl⟩
theorem RdQS.el {w : World} {v : Value} {L : List Ent} (h : RdQS w v L) : ∃ a c, v = .slice a L.length c ∧ ∀ i, i < L.length → ∃ b o, a = some ⟨b, o, none⟩ ∧ AtQ w b (o + i * 7) (L.getD i e0) := by
 rcases h.2 with ⟨a, c, rfl, rfl, -⟩ | ⟨b, o, c, rfl, -, hc⟩
 ·exact ⟨a, c, rfl, fun i hi => absurd hi (by simp)⟩
 ·exact ⟨_, c, rfl, fun i hi => ⟨b, o, rfl, hc i hi⟩⟩
theorem RdQS.nil (w : World) : RdQS w (.slice none 0 0) [] := ⟨by simp, .inl ⟨none, 0, rfl, rfl, fun _ => rfl⟩⟩
def OwQ (w : World) (S : Nat → Prop) (pv cv : Value) (x : Ent) : Prop := ∃ S0 S1 : Nat → Prop, (∀ b, S0 b → S b) ∧ (∀ b, S1 b → S b) ∧ Dj S0 S1 ∧ OwIr w S0 pv x.p ∧ OwIr w S1 cv x.c
theorem OwQ.agr {w w' : World} {S : Nat → Prop} {pv cv : Value} {x : Ent} (h : OwQ w S pv cv x) (a : AgrS S w w') : OwQ w' S pv cv x := by
 obtain ⟨S0, S1, sb0, sb1, dj01, h0, h1⟩ := h
 exact ⟨S0, S1, sb0, sb1, dj01, h0.agr (a.sub sb0), h1.agr (a.sub sb1)⟩
theorem OwQ.rd {w : World} {S : Nat → Prop} {pv cv : Value} {x : Ent} (h : OwQ w S pv cv x) : RdQ w pv cv x := by
 obtain ⟨S0, S1, -, -, -, h0, h1⟩ := h
 exact ⟨h0.rd, h1.rd⟩
/-- element i of the cells xs is that, its rows lie in blocks of E -/
def ElQ (xs : List Value) (w : World) (E : Nat → Prop) (i : Nat) (x : Ent) : Prop := ∃ pv cv, OwQ w E pv cv x ∧ xs[i * 7]? = some (.int .i64 x.a) ∧ xs[i * 7 + 1]? = some (.int .i64 x.n) ∧ xs[i * 7 + 2]? = some (.int .i64 x.pe) ∧ xs[i * 7 + 3]? = some (pv) ∧ xs[i * 7 + 4]? = some (.int .i64 x.pr) ∧ xs[i * 7 + 5]? = some (cv) ∧ xs[i * 7 + 6]? = some (.int .i64 x.bw)
def OwQS (w : World) (S : Nat → Prop) (v : Value) (L : List Ent) : Prop :=
 L.length ≤ 1048576 ∧ ((v = .slice none 0 0 ∧ L = []) ∨ ∃ (g cap : Nat) (xs : List Value) (E : Nat → Nat → Prop), v = .slice (some ⟨g, 0, none⟩) L.length cap ∧ S g ∧ Bl w g xs ∧ xs.length = L.length * 7 ∧
  (∀ i, i < L.length → (∀ b, E i b → S b) ∧ ¬ E i g ∧ ElQ xs w (E i) i (L.getD i e0)) ∧ ∀ i j, i < L.length → j < L.length → i ≠ j → Dj (E i) (E j))
theorem OwQS.agr {w w' : World} {S : Nat → Prop} {v : Value} {L : List Ent} (h : OwQS w S v L) (a : AgrS S w w') : OwQS w' S v L := by
 obtain ⟨hl, h | ⟨g, cap, xs, E, hv, h1, hB, hx, hE, hd⟩⟩ := h
 ·exact ⟨hl, .inl h⟩
 ·refine ⟨hl, .inr ⟨g, cap, xs, E, hv, h1, bl_agrS hB a h1, hx, fun i hi => ?_, hd⟩⟩
  obtain ⟨e1, e2, pv, cv, ho, e5⟩ := hE i hi
  exact ⟨e1, e2, pv, cv, ho.agr (a.sub e1), e5⟩
theorem OwQS.mono {w : World} {S S' : Nat → Prop} {v : Value} {L : List Ent} (h : OwQS w S v L) (hs : ∀ b, S b → S' b) : OwQS w S' v L := by
 obtain ⟨hl, h | ⟨g, cap, xs, E, hv, h1, hB, hx, hE, hd⟩⟩ := h
 ·exact ⟨hl, .inl h⟩
 ·exact ⟨hl, .inr ⟨g, cap, xs, E, hv, hs _ h1, hB, hx, fun i hi => ⟨fun b hb => hs _ ((hE i hi).1 b hb), (hE i hi).2⟩, hd⟩⟩
theorem OwQS.rd {w : World} {S : Nat → Prop} {v : Value} {L : List Ent} (h : OwQS w S v L) : RdQS w v L := by
 obtain ⟨hl, ⟨rfl, rfl⟩ | ⟨g, cap, xs, E, rfl, h1, hB, hx, hE, hd⟩⟩ := h
 ·exact RdQS.nil w
 ·refine ⟨by omega, ?_⟩
  by_cases h0 : L.length = 0
  ·exact .inl ⟨some ⟨g, 0, none⟩, cap, by rw [h0], List.eq_nil_of_length_eq_zero h0, fun h => by cases h⟩
  ·refine .inr ⟨g, 0, cap, rfl, by omega, fun i hi => ?_⟩
   obtain ⟨-, -, pv, cv, ho, e0, e1, e2, e3, e4, e5, e6⟩ := hE i hi; refine ⟨pv, cv, ho.rd, ?_⟩; simp only [Nat.zero_add]
   exact ⟨hB.c _ e0, hB.c _ e1, hB.c _ e2, hB.c _ e3, hB.c _ e4, hB.c _ e5, hB.c _ e6⟩
theorem rdE_of {w : World} {v : Value} {L : List Ent} (h : RdQS w v L) : RdE w v L := by
 refine ⟨h.1, ?_⟩
 rcases h.2 with q | ⟨b, o, c, hv, hp, hc⟩
 ·exact .inl q
 ·refine .inr ⟨b, o, c, hv, hp, fun i hi => ?_⟩
  obtain ⟨pv, cv, ⟨h1, h2⟩, h3⟩ := hc i hi
  exact ⟨pv, cv, h1, h2, h3⟩
end Go.Proofs.YtbcmoofpgffbhabGreat
namespace Go.Proofs.YtbcmoofpgffbhabGreat
open Go.ChangeShapes Go.WideShapes Go.ChangeAt Go.RowKit Go.BigFrame Go.Joins
set_option linter.unusedVariables false
set_option maxRecDepth 100000
set_option linter.unusedSimpArgs false
set_option maxRecDepth 100000

def MadeOM (w : World) (B n j : Nat) (L : List Mg) : Prop := ∃ (xs : List Value) (E : Nat → Nat → Prop), xs.length = n * 11 ∧ Bl w B xs ∧ (∀ i, i < j → (∀ b, E i b → B < b ∧ b < w.heap.size) ∧ ElM xs w (E i) i (L.getD i m0)) ∧ ∀ i i', i < j → i' < j → i ≠ i' → Dj (E i) (E i')
theorem MadeOM.keep {w w' : World} {B n j : Nat} {L : List Mg} (h : MadeOM w B n j L) (hb : Below w.heap.size w w') : MadeOM w' B n j L := by
 obtain ⟨xs, E, hl, hB, hx, hd⟩ := h; refine ⟨xs, E, hl, hB.keep hb, fun i hi => ?_, hd⟩; obtain ⟨h1, gv, cv, pv, mv, h2, h3⟩ := hx i hi
 exact ⟨fun b q => ⟨(h1 b q).1, Nat.lt_of_lt_of_le (h1 b q).2 hb.size⟩, gv, cv, pv, mv, h2.agr (.of_below hb), h3⟩
theorem MadeOM.cell {w : World} {B n k : Nat} {L : List Mg} (h : MadeOM w B n k L) (j : Nat) (hj : j < n * 11) : ∃ x, w.cell? ⟨B, j, none⟩ = some x ∧ w.frozen? ⟨B, j, none⟩ = false := by
 obtain ⟨xs, E, hl, hB, hx, -⟩ := h
 exact ⟨_, hB.c j (List.getElem?_eq_getElem (by omega)), hB.f j (List.getElem?_eq_getElem (by omega))⟩
/-- element j has been copied in the world from w0 on -/
theorem MadeOM.step {w0 w : World} {B n j : Nat} {L : List Mg} (h0 : MadeOM w0 B n j L) (hb : Below w0.heap.size w0 w) (hB0 : B < w0.heap.size) (hk : j < n) {gv cv pv mv : Value} {x : Mg} (hE : L.getD j m0 = x) (h1 : OwM w (Rg w0.heap.size w.heap.size) gv cv pv mv x) :
  MadeOM (((((((((((w.setCell ⟨B, j * 11, none⟩ (.int .i64 x.kn)).setCell ⟨B, j * 11 + 1, none⟩ (.int .i64 x.sa)).setCell ⟨B, j * 11 + 2, none⟩ (.int .i64 x.ho)).setCell ⟨B, j * 11 + 3, none⟩ (.int .i64 x.ix)).setCell ⟨B, j * 11 + 4, none⟩ (gv)).setCell ⟨B, j * 11 + 5, none⟩ (cv)).setCell ⟨B, j * 11 + 6, none⟩ (pv)).setCell ⟨B, j * 11 + 7, none⟩ (.int .i64 x.pr)).setCell ⟨B, j * 11 + 8, none⟩ (mv)).setCell ⟨B, j * 11 + 9, none⟩ (.int .i64 x.bw)).setCell ⟨B, j * 11 + 10, none⟩ (.int .i64 x.er)) B n (j + 1) L := by
 obtain ⟨xs, E, hl, hB, hx, hd⟩ := h0; replace hB := hB.keep hb; have hsz : (((((((((((w.setCell ⟨B, j * 11, none⟩ (.int .i64 x.kn)).setCell ⟨B, j * 11 + 1, none⟩ (.int .i64 x.sa)).setCell ⟨B, j * 11 + 2, none⟩ (.int .i64 x.ho)).setCell ⟨B, j * 11 + 3, none⟩ (.int .i64 x.ix)).setCell ⟨B, j * 11 + 4, none⟩ (gv)).setCell ⟨B, j * 11 + 5, none⟩ (cv)).setCell ⟨B, j * 11 + 6, none⟩ (pv)).setCell ⟨B, j * 11 + 7, none⟩ (.int .i64 x.pr)).setCell ⟨B, j * 11 + 8, none⟩ (mv)).setCell ⟨B, j * 11 + 9, none⟩ (.int .i64 x.bw)).setCell ⟨B, j * 11 + 10, none⟩ (.int .i64 x.er)).heap.size = w.heap.size := by simp
 refine ⟨(((((((((((xs.set (j * 11) (.int .i64 x.kn)).set (j * 11 + 1) (.int .i64 x.sa)).set (j * 11 + 2) (.int .i64 x.ho)).set (j * 11 + 3) (.int .i64 x.ix)).set (j * 11 + 4) (gv)).set (j * 11 + 5) (cv)).set (j * 11 + 6) (pv)).set (j * 11 + 7) (.int .i64 x.pr)).set (j * 11 + 8) (mv)).set (j * 11 + 9) (.int .i64 x.bw)).set (j * 11 + 10) (.int .i64 x.er)), fun i => if i = j then Rg w0.heap.size w.heap.size else E i, by simpa using hl, (((((((((((hB.set (j * 11) (.int .i64 x.kn)).set (j * 11 + 1) (.int .i64 x.sa)).set (j * 11 + 2) (.int .i64 x.ho)).set (j * 11 + 3) (.int .i64 x.ix)).set (j * 11 + 4) (gv)).set (j * 11 + 5) (cv)).set (j * 11 + 6) (pv)).set (j * 11 + 7) (.int .i64 x.pr)).set (j * 11 + 8) (mv)).set (j * 11 + 9) (.int .i64 x.bw)).set (j * 11 + 10) (.int .i64 x.er)), fun i hi => ?_, fun i i' hi hi' hne => ?_⟩
 ·by_cases e : i = j
  ·have e' := e.symm
   subst e'
   (try dsimp only)
   rw [if_pos rfl, hE]; have hn : ¬ Rg w0.heap.size w.heap.size B := fun q => by have := q.1; omega
   refine ⟨fun b q => ⟨by have := q.1; omega, by rw [hsz]; exact q.2⟩, gv, cv, pv, mv, h1.agr ((((((((((((AgrS.refl _ _).trans (agr_setS _ hn)).trans (agr_setS _ hn)).trans (agr_setS _ hn)).trans (agr_setS _ hn)).trans (agr_setS _ hn)).trans (agr_setS _ hn)).trans (agr_setS _ hn)).trans (agr_setS _ hn)).trans (agr_setS _ hn)).trans (agr_setS _ hn)).trans (agr_setS _ hn)), ?_, ?_, ?_, ?_, ?_, ?_, ?_, ?_, ?_, ?_, ?_⟩
   all_goals simp only [List.getElem?_set, List.length_set]
   all_goals simp (disch := omega) [hl]
   all_goals omega
  ·(try dsimp only)
   rw [if_neg e]; obtain ⟨g0, v0, v1, v2, v3, g1, c0, c1, c2, c3, c4, c5, c6, c7, c8, c9, c10⟩ := hx i (by omega); have hn : ¬ E i B := fun q => by have := (g0 B q).1; omega
   refine ⟨fun b q => ⟨(g0 b q).1, by rw [hsz]; exact Nat.lt_of_lt_of_le (g0 b q).2 hb.size⟩, v0, v1, v2, v3, (g1.agr (.of_below hb)).agr ((((((((((((AgrS.refl _ _).trans (agr_setS _ hn)).trans (agr_setS _ hn)).trans (agr_setS _ hn)).trans (agr_setS _ hn)).trans (agr_setS _ hn)).trans (agr_setS _ hn)).trans (agr_setS _ hn)).trans (agr_setS _ hn)).trans (agr_setS _ hn)).trans (agr_setS _ hn)).trans (agr_setS _ hn)), ?_, ?_, ?_, ?_, ?_, ?_, ?_, ?_, ?_, ?_, ?_⟩
   all_goals (repeat rw [List.getElem?_set_ne (by omega)])
   all_goals assumption
 ·intro b q1 q2
  (try dsimp only at q1 q2)
  by_cases e : i = j
  ·rw [if_pos e] at q1
   rw [if_neg (fun e' => hne (e.trans e'.symm))] at q2; have := ((hx i' (by omega)).1 b q2).2; have := q1.1
   omega
  ·rw [if_neg e] at q1
   by_cases e' : i' = j
   ·rw [if_pos e'] at q2
    have := ((hx i (by omega)).1 b q1).2; have := q2.1
    omega
   ·rw [if_neg e'] at q2
    exact hd i i' (by omega) (by omega) hne b q1 q2
theorem MadeOM.own {w : World} {B n a : Nat} {L : List Mg} (h : MadeOM w B n n L) (hn : n = L.length) (ha : a ≤ B) (hl : L.length ≤ 1048576) : OwMS w (Rg a w.heap.size) (.slice (some ⟨B, 0, none⟩) n n) L := by
 obtain ⟨xs, E, hxl, hB, hx, hd⟩ := h; subst hn; refine ⟨hl, .inr ⟨B, L.length, xs, E, rfl, ⟨ha, hB.lt⟩, hB, hxl, fun i hi => ?_, hd⟩⟩; obtain ⟨g0, g1⟩ := hx i hi
 exact ⟨fun b q => ⟨by have := (g0 b q).1; omega, (g0 b q).2⟩, fun q => by have := (g0 B q).1; omega, g1⟩
def MadeOQ (w : World) (B n j : Nat) (L : List Ent) : Prop := ∃ (xs : List Value) (E : Nat → Nat → Prop), xs.length = n * 7 ∧ Bl w B xs ∧ (∀ i, i < j → (∀ b, E i b → B < b ∧ b < w.heap.size) ∧ ElQ xs w (E i) i (L.getD i e0)) ∧ ∀ i i', i < j → i' < j → i ≠ i' → Dj (E i) (E i')
theorem MadeOQ.keep {w w' : World} {B n j : Nat} {L : List Ent} (h : MadeOQ w B n j L) (hb : Below w.heap.size w w') : MadeOQ w' B n j L := by
 obtain ⟨xs, E, hl, hB, hx, hd⟩ := h; refine ⟨xs, E, hl, hB.keep hb, fun i hi => ?_, hd⟩; obtain ⟨h1, pv, cv, h2, h3⟩ := hx i hi
 exact ⟨fun b q => ⟨(h1 b q).1, Nat.lt_of_lt_of_le (h1 b q).2 hb.size⟩, pv, cv, h2.agr (.of_below hb), h3⟩
theorem MadeOQ.cell {w : World} {B n k : Nat} {L : List Ent} (h : MadeOQ w B n k L) (j : Nat) (hj : j < n * 7) : ∃ x, w.cell? ⟨B, j, none⟩ = some x ∧ w.frozen? ⟨B, j, none⟩ = false := by
 obtain ⟨xs, E, hl, hB, hx, -⟩ := h
 exact ⟨_, hB.c j (List.getElem?_eq_getElem (by omega)), hB.f j (List.getElem?_eq_getElem (by omega))⟩
/-- element j has been copied in the world from w0 on -/
theorem MadeOQ.step {w0 w : World} {B n j : Nat} {L : List Ent} (h0 : MadeOQ w0 B n j L) (hb : Below w0.heap.size w0 w) (hB0 : B < w0.heap.size) (hk : j < n) {pv cv : Value} {x : Ent} (hE : L.getD j e0 = x) (h1 : OwQ w (Rg w0.heap.size w.heap.size) pv cv x) :
  MadeOQ (((((((w.setCell ⟨B, j * 7, none⟩ (.int .i64 x.a)).setCell ⟨B, j * 7 + 1, none⟩ (.int .i64 x.n)).setCell ⟨B, j * 7 + 2, none⟩ (.int .i64 x.pe)).setCell ⟨B, j * 7 + 3, none⟩ (pv)).setCell ⟨B, j * 7 + 4, none⟩ (.int .i64 x.pr)).setCell ⟨B, j * 7 + 5, none⟩ (cv)).setCell ⟨B, j * 7 + 6, none⟩ (.int .i64 x.bw)) B n (j + 1) L := by
 obtain ⟨xs, E, hl, hB, hx, hd⟩ := h0; replace hB := hB.keep hb; have hsz : (((((((w.setCell ⟨B, j * 7, none⟩ (.int .i64 x.a)).setCell ⟨B, j * 7 + 1, none⟩ (.int .i64 x.n)).setCell ⟨B, j * 7 + 2, none⟩ (.int .i64 x.pe)).setCell ⟨B, j * 7 + 3, none⟩ (pv)).setCell ⟨B, j * 7 + 4, none⟩ (.int .i64 x.pr)).setCell ⟨B, j * 7 + 5, none⟩ (cv)).setCell ⟨B, j * 7 + 6, none⟩ (.int .i64 x.bw)).heap.size = w.heap.size := by simp
 refine ⟨(((((((xs.set (j * 7) (.int .i64 x.a)).set (j * 7 + 1) (.int .i64 x.n)).set (j * 7 + 2) (.int .i64 x.pe)).set (j * 7 + 3) (pv)).set (j * 7 + 4) (.int .i64 x.pr)).set (j * 7 + 5) (cv)).set (j * 7 + 6) (.int .i64 x.bw)), fun i => if i = j then Rg w0.heap.size w.heap.size else E i, by simpa using hl, (((((((hB.set (j * 7) (.int .i64 x.a)).set (j * 7 + 1) (.int .i64 x.n)).set (j * 7 + 2) (.int .i64 x.pe)).set (j * 7 + 3) (pv)).set (j * 7 + 4) (.int .i64 x.pr)).set (j * 7 + 5) (cv)).set (j * 7 + 6) (.int .i64 x.bw)), fun i hi => ?_, fun i i' hi hi' hne => ?_⟩
 ·by_cases e : i = j
  ·have e' := e.symm
   subst e'
   (try dsimp only)
   rw [if_pos rfl, hE]; have hn : ¬ Rg w0.heap.size w.heap.size B := fun q => by have := q.1; omega
   refine ⟨fun b q => ⟨by have := q.1; omega, by rw [hsz]; exact q.2⟩, pv, cv, h1.agr ((((((((AgrS.refl _ _).trans (agr_setS _ hn)).trans (agr_setS _ hn)).trans (agr_setS _ hn)).trans (agr_setS _ hn)).trans (agr_setS _ hn)).trans (agr_setS _ hn)).trans (agr_setS _ hn)), ?_, ?_, ?_, ?_, ?_, ?_, ?_⟩
   all_goals simp only [List.getElem?_set, List.length_set]
   all_goals simp (disch := omega) [hl]
   all_goals omega
  ·(try dsimp only)
   rw [if_neg e]; obtain ⟨g0, v0, v1, g1, c0, c1, c2, c3, c4, c5, c6⟩ := hx i (by omega); have hn : ¬ E i B := fun q => by have := (g0 B q).1; omega
   refine ⟨fun b q => ⟨(g0 b q).1, by rw [hsz]; exact Nat.lt_of_lt_of_le (g0 b q).2 hb.size⟩, v0, v1, (g1.agr (.of_below hb)).agr ((((((((AgrS.refl _ _).trans (agr_setS _ hn)).trans (agr_setS _ hn)).trans (agr_setS _ hn)).trans (agr_setS _ hn)).trans (agr_setS _ hn)).trans (agr_setS _ hn)).trans (agr_setS _ hn)), ?_, ?_, ?_, ?_, ?_, ?_, ?_⟩
   all_goals (repeat rw [List.getElem?_set_ne (by omega)])
   all_goals assumption
 ·intro b q1 q2
  (try dsimp only at q1 q2)
  by_cases e : i = j
  ·rw [if_pos e] at q1
   rw [if_neg (fun e' => hne (e.trans e'.symm))] at q2; have := ((hx i' (by omega)).1 b q2).2; have := q1.1
   omega
  ·rw [if_neg e] at q1
   by_cases e' : i' = j
   ·rw [if_pos e'] at q2
    have := ((hx i (by omega)).1 b q1).2; have := q2.1
    omega
   ·rw [if_neg e'] at q2
    exact hd i i' (by omega) (by omega) hne b q1 q2
theorem MadeOQ.own {w : World} {B n a : Nat} {L : List Ent} (h : MadeOQ w B n n L) (hn : n = L.length) (ha : a ≤ B) (hl : L.length ≤ 1048576) : OwQS w (Rg a w.heap.size) (.slice (some ⟨B, 0, none⟩) n n) L := by
 obtain ⟨xs, E, hxl, hB, hx, hd⟩ := h; subst hn; refine ⟨hl, .inr ⟨B, L.length, xs, E, rfl, ⟨ha, hB.lt⟩, hB, hxl, fun i hi => ?_, hd⟩⟩; obtain ⟨g0, g1⟩ := hx i hi
 exact ⟨fun b q => ⟨by have := (g0 b q).1; omega, (g0 b q).2⟩, fun q => by have := (g0 B q).1; omega, g1⟩
end Go.Proofs.YtbcmoofpgffbhabGreat
namespace Go.Proofs.YtbcmoofpgffbhabGreat
open Go.ChangeShapes Go.WideShapes Go.ChangeAt Go.RowKit Go.BigFrame Go.Joins
set_option linter.unusedVariables false
set_option maxRecDepth 100000
set_option linter.unusedSimpArgs false
set_option maxRecDepth 100000

/-- rows of entries -/
def OwQE (w : World) (S : Nat → Prop) (v : Value) (l : List Ent) : Prop := OwQS w S v l
theorem OwQE.agr {w w' : World} {S : Nat → Prop} {v : Value} {l : List Ent} (h : OwQE w S v l) (a : AgrS S w w') : OwQE w' S v l := OwQS.agr h a
theorem OwQE.rd {w : World} {S : Nat → Prop} {v : Value} {l : List Ent} (h : OwQE w S v l) : RdE w v l := rdE_of (OwQS.rd h)
def OwN (w : World) (S : Nat → Prop) (ov rv sv : Value) (x : Nd) : Prop := ∃ S0 S1 S2 : Nat → Prop, (∀ b, S0 b → S b) ∧ (∀ b, S1 b → S b) ∧ (∀ b, S2 b → S b) ∧ Dj S0 S1 ∧ Dj S0 S2 ∧ Dj S1 S2 ∧ OwPr w S0 ov x.own ∧ OwQE w S1 rv x.rib ∧ OwQE w S2 sv x.sent
theorem OwN.agr {w w' : World} {S : Nat → Prop} {ov rv sv : Value} {x : Nd} (h : OwN w S ov rv sv x) (a : AgrS S w w') : OwN w' S ov rv sv x := by
 obtain ⟨S0, S1, S2, sb0, sb1, sb2, dj01, dj02, dj12, h0, h1, h2⟩ := h
 exact ⟨S0, S1, S2, sb0, sb1, sb2, dj01, dj02, dj12, h0.agr (a.sub sb0), h1.agr (a.sub sb1), h2.agr (a.sub sb2)⟩
theorem OwN.rd {w : World} {S : Nat → Prop} {ov rv sv : Value} {x : Nd} (h : OwN w S ov rv sv x) : RdN w ov rv sv x := by
 obtain ⟨S0, S1, S2, -, -, -, -, -, -, h0, h1, h2⟩ := h
 exact ⟨h0.rd, h1.rd, h2.rd⟩
/-- element i of the cells xs is that, its rows lie in blocks of E -/
def ElN (xs : List Value) (w : World) (E : Nat → Prop) (i : Nat) (x : Nd) : Prop := ∃ ov rv sv, OwN w E ov rv sv x ∧ xs[i * 6]? = some (.int .i64 x.an) ∧ xs[i * 6 + 1]? = some (ov) ∧ xs[i * 6 + 2]? = some (.int .i64 x.bw) ∧ xs[i * 6 + 3]? = some (.bool x.dr) ∧ xs[i * 6 + 4]? = some (rv) ∧ xs[i * 6 + 5]? = some (sv)
def OwNS (w : World) (S : Nat → Prop) (v : Value) (L : List Nd) : Prop :=
 L.length ≤ 1048576 ∧ ((v = .slice none 0 0 ∧ L = []) ∨ ∃ (g cap : Nat) (xs : List Value) (E : Nat → Nat → Prop), v = .slice (some ⟨g, 0, none⟩) L.length cap ∧ S g ∧ Bl w g xs ∧ xs.length = L.length * 6 ∧
  (∀ i, i < L.length → (∀ b, E i b → S b) ∧ ¬ E i g ∧ ElN xs w (E i) i (L.getD i n0)) ∧ ∀ i j, i < L.length → j < L.length → i ≠ j → Dj (E i) (E j))
theorem OwNS.agr {w w' : World} {S : Nat → Prop} {v : Value} {L : List Nd} (h : OwNS w S v L) (a : AgrS S w w') : OwNS w' S v L := by
 obtain ⟨hl, h | ⟨g, cap, xs, E, hv, h1, hB, hx, hE, hd⟩⟩ := h
 ·exact ⟨hl, .inl h⟩
 ·refine ⟨hl, .inr ⟨g, cap, xs, E, hv, h1, bl_agrS hB a h1, hx, fun i hi => ?_, hd⟩⟩
  obtain ⟨e1, e2, ov, rv, sv, ho, e5⟩ := hE i hi
  exact ⟨e1, e2, ov, rv, sv, ho.agr (a.sub e1), e5⟩
theorem OwNS.mono {w : World} {S S' : Nat → Prop} {v : Value} {L : List Nd} (h : OwNS w S v L) (hs : ∀ b, S b → S' b) : OwNS w S' v L := by
 obtain ⟨hl, h | ⟨g, cap, xs, E, hv, h1, hB, hx, hE, hd⟩⟩ := h
 ·exact ⟨hl, .inl h⟩
 ·exact ⟨hl, .inr ⟨g, cap, xs, E, hv, hs _ h1, hB, hx, fun i hi => ⟨fun b hb => hs _ ((hE i hi).1 b hb), (hE i hi).2⟩, hd⟩⟩
theorem OwNS.rd {w : World} {S : Nat → Prop} {v : Value} {L : List Nd} (h : OwNS w S v L) : RdNS w v L := by
 obtain ⟨hl, ⟨rfl, rfl⟩ | ⟨g, cap, xs, E, rfl, h1, hB, hx, hE, hd⟩⟩ := h
 ·exact RdNS.nil w
 ·refine ⟨by omega, ?_⟩
  by_cases h0 : L.length = 0
  ·exact .inl ⟨some ⟨g, 0, none⟩, cap, by rw [h0], List.eq_nil_of_length_eq_zero h0, fun h => by cases h⟩
  ·refine .inr ⟨g, 0, cap, rfl, by omega, fun i hi => ?_⟩
   obtain ⟨-, -, ov, rv, sv, ho, e0, e1, e2, e3, e4, e5⟩ := hE i hi; refine ⟨ov, rv, sv, ho.rd, ?_⟩; simp only [Nat.zero_add]
   exact ⟨hB.c _ e0, hB.c _ e1, hB.c _ e2, hB.c _ e3, hB.c _ e4, hB.c _ e5⟩
def OwL (w : World) (S : Nat → Prop) (av bv : Value) (x : Lk) : Prop := ∃ S0 S1 : Nat → Prop, (∀ b, S0 b → S b) ∧ (∀ b, S1 b → S b) ∧ Dj S0 S1 ∧ OwMS w S0 av x.ab ∧ OwMS w S1 bv x.ba
theorem OwL.agr {w w' : World} {S : Nat → Prop} {av bv : Value} {x : Lk} (h : OwL w S av bv x) (a : AgrS S w w') : OwL w' S av bv x := by
 obtain ⟨S0, S1, sb0, sb1, dj01, h0, h1⟩ := h
 exact ⟨S0, S1, sb0, sb1, dj01, h0.agr (a.sub sb0), h1.agr (a.sub sb1)⟩
theorem OwL.rd {w : World} {S : Nat → Prop} {av bv : Value} {x : Lk} (h : OwL w S av bv x) : RdL w av bv x := by
 obtain ⟨S0, S1, -, -, -, h0, h1⟩ := h
 exact ⟨h0.rd, h1.rd⟩
/-- element i of the cells xs is that, its rows lie in blocks of E -/
def ElL (xs : List Value) (w : World) (E : Nat → Prop) (i : Nat) (x : Lk) : Prop := ∃ av bv, OwL w E av bv x ∧ xs[i * 7]? = some (.int .i64 x.a) ∧ xs[i * 7 + 1]? = some (.int .i64 x.ai) ∧ xs[i * 7 + 2]? = some (.int .i64 x.b) ∧ xs[i * 7 + 3]? = some (.int .i64 x.bi) ∧ xs[i * 7 + 4]? = some (.bool x.up) ∧ xs[i * 7 + 5]? = some (av) ∧ xs[i * 7 + 6]? = some (bv)
def OwLS (w : World) (S : Nat → Prop) (v : Value) (L : List Lk) : Prop :=
 L.length ≤ 1048576 ∧ ((v = .slice none 0 0 ∧ L = []) ∨ ∃ (g cap : Nat) (xs : List Value) (E : Nat → Nat → Prop), v = .slice (some ⟨g, 0, none⟩) L.length cap ∧ S g ∧ Bl w g xs ∧ xs.length = L.length * 7 ∧
  (∀ i, i < L.length → (∀ b, E i b → S b) ∧ ¬ E i g ∧ ElL xs w (E i) i (L.getD i l0)) ∧ ∀ i j, i < L.length → j < L.length → i ≠ j → Dj (E i) (E j))
theorem OwLS.agr {w w' : World} {S : Nat → Prop} {v : Value} {L : List Lk} (h : OwLS w S v L) (a : AgrS S w w') : OwLS w' S v L := by
 obtain ⟨hl, h | ⟨g, cap, xs, E, hv, h1, hB, hx, hE, hd⟩⟩ := h
 ·exact ⟨hl, .inl h⟩
 ·refine ⟨hl, .inr ⟨g, cap, xs, E, hv, h1, bl_agrS hB a h1, hx, fun i hi => ?_, hd⟩⟩
  obtain ⟨e1, e2, av, bv, ho, e5⟩ := hE i hi
  exact ⟨e1, e2, av, bv, ho.agr (a.sub e1), e5⟩
theorem OwLS.mono {w : World} {S S' : Nat → Prop} {v : Value} {L : List Lk} (h : OwLS w S v L) (hs : ∀ b, S b → S' b) : OwLS w S' v L := by
 obtain ⟨hl, h | ⟨g, cap, xs, E, hv, h1, hB, hx, hE, hd⟩⟩ := h
 ·exact ⟨hl, .inl h⟩
 ·exact ⟨hl, .inr ⟨g, cap, xs, E, hv, hs _ h1, hB, hx, fun i hi => ⟨fun b hb => hs _ ((hE i hi).1 b hb), (hE i hi).2⟩, hd⟩⟩
theorem OwLS.rd {w : World} {S : Nat → Prop} {v : Value} {L : List Lk} (h : OwLS w S v L) : RdLS w v L := by
 obtain ⟨hl, ⟨rfl, rfl⟩ | ⟨g, cap, xs, E, rfl, h1, hB, hx, hE, hd⟩⟩ := h
 ·exact RdLS.nil w
 ·refine ⟨by omega, ?_⟩
  by_cases h0 : L.length = 0
  ·exact .inl ⟨some ⟨g, 0, none⟩, cap, by rw [h0], List.eq_nil_of_length_eq_zero h0, fun h => by cases h⟩
  ·refine .inr ⟨g, 0, cap, rfl, by omega, fun i hi => ?_⟩
   obtain ⟨-, -, av, bv, ho, e0, e1, e2, e3, e4, e5, e6⟩ := hE i hi; refine ⟨av, bv, ho.rd, ?_⟩; simp only [Nat.zero_add]
   exact ⟨hB.c _ e0, hB.c _ e1, hB.c _ e2, hB.c _ e3, hB.c _ e4, hB.c _ e5, hB.c _ e6⟩
end Go.Proofs.YtbcmoofpgffbhabGreat
namespace Go.Proofs.YtbcmoofpgffbhabGreat
open Go.ChangeShapes Go.WideShapes Go.ChangeAt Go.RowKit Go.BigFrame Go.Joins
set_option linter.unusedVariables false
set_option maxRecDepth 100000
set_option linter.unusedSimpArgs false
set_option maxRecDepth 100000

theorem OwQE.mono {w : World} {S S' : Nat → Prop} {v : Value} {l : List Ent} (h : OwQE w S v l) (hs : ∀ b, S b → S' b) : OwQE w S' v l := OwQS.mono h hs
def MadeON (w : World) (B n j : Nat) (L : List Nd) : Prop := ∃ (xs : List Value) (E : Nat → Nat → Prop), xs.length = n * 6 ∧ Bl w B xs ∧ (∀ i, i < j → (∀ b, E i b → B < b ∧ b < w.heap.size) ∧ ElN xs w (E i) i (L.getD i n0)) ∧ ∀ i i', i < j → i' < j → i ≠ i' → Dj (E i) (E i')
theorem MadeON.keep {w w' : World} {B n j : Nat} {L : List Nd} (h : MadeON w B n j L) (hb : Below w.heap.size w w') : MadeON w' B n j L := by
 obtain ⟨xs, E, hl, hB, hx, hd⟩ := h; refine ⟨xs, E, hl, hB.keep hb, fun i hi => ?_, hd⟩; obtain ⟨h1, ov, rv, sv, h2, h3⟩ := hx i hi
 exact ⟨fun b q => ⟨(h1 b q).1, Nat.lt_of_lt_of_le (h1 b q).2 hb.size⟩, ov, rv, sv, h2.agr (.of_below hb), h3⟩
theorem MadeON.cell {w : World} {B n k : Nat} {L : List Nd} (h : MadeON w B n k L) (j : Nat) (hj : j < n * 6) : ∃ x, w.cell? ⟨B, j, none⟩ = some x ∧ w.frozen? ⟨B, j, none⟩ = false := by
 obtain ⟨xs, E, hl, hB, hx, -⟩ := h
 exact ⟨_, hB.c j (List.getElem?_eq_getElem (by omega)), hB.f j (List.getElem?_eq_getElem (by omega))⟩
/-- element j has been copied in the world from w0 on -/
theorem MadeON.step {w0 w : World} {B n j : Nat} {L : List Nd} (h0 : MadeON w0 B n j L) (hb : Below w0.heap.size w0 w) (hB0 : B < w0.heap.size) (hk : j < n) {ov rv sv : Value} {x : Nd} (hE : L.getD j n0 = x) (h1 : OwN w (Rg w0.heap.size w.heap.size) ov rv sv x) :
  MadeON ((((((w.setCell ⟨B, j * 6, none⟩ (.int .i64 x.an)).setCell ⟨B, j * 6 + 1, none⟩ (ov)).setCell ⟨B, j * 6 + 2, none⟩ (.int .i64 x.bw)).setCell ⟨B, j * 6 + 3, none⟩ (.bool x.dr)).setCell ⟨B, j * 6 + 4, none⟩ (rv)).setCell ⟨B, j * 6 + 5, none⟩ (sv)) B n (j + 1) L := by
 obtain ⟨xs, E, hl, hB, hx, hd⟩ := h0; replace hB := hB.keep hb; have hsz : ((((((w.setCell ⟨B, j * 6, none⟩ (.int .i64 x.an)).setCell ⟨B, j * 6 + 1, none⟩ (ov)).setCell ⟨B, j * 6 + 2, none⟩ (.int .i64 x.bw)).setCell ⟨B, j * 6 + 3, none⟩ (.bool x.dr)).setCell ⟨B, j * 6 + 4, none⟩ (rv)).setCell ⟨B, j * 6 + 5, none⟩ (sv)).heap.size = w.heap.size := by simp
 refine ⟨((((((xs.set (j * 6) (.int .i64 x.an)).set (j * 6 + 1) (ov)).set (j * 6 + 2) (.int .i64 x.bw)).set (j * 6 + 3) (.bool x.dr)).set (j * 6 + 4) (rv)).set (j * 6 + 5) (sv)), fun i => if i = j then Rg w0.heap.size w.heap.size else E i, by simpa using hl, ((((((hB.set (j * 6) (.int .i64 x.an)).set (j * 6 + 1) (ov)).set (j * 6 + 2) (.int .i64 x.bw)).set (j * 6 + 3) (.bool x.dr)).set (j * 6 + 4) (rv)).set (j * 6 + 5) (sv)), fun i hi => ?_, fun i i' hi hi' hne => ?_⟩
 ·by_cases e : i = j
  ·have e' := e.symm
   subst e'
   (try dsimp only)
   rw [if_pos rfl, hE]; have hn : ¬ Rg w0.heap.size w.heap.size B := fun q => by have := q.1; omega
   refine ⟨fun b q => ⟨by have := q.1; omega, by rw [hsz]; exact q.2⟩, ov, rv, sv, h1.agr (((((((AgrS.refl _ _).trans (agr_setS _ hn)).trans (agr_setS _ hn)).trans (agr_setS _ hn)).trans (agr_setS _ hn)).trans (agr_setS _ hn)).trans (agr_setS _ hn)), ?_, ?_, ?_, ?_, ?_, ?_⟩
   all_goals simp only [List.getElem?_set, List.length_set]
   all_goals simp (disch := omega) [hl]
   all_goals omega
  ·(try dsimp only)
   rw [if_neg e]; obtain ⟨g0, v0, v1, v2, g1, c0, c1, c2, c3, c4, c5⟩ := hx i (by omega); have hn : ¬ E i B := fun q => by have := (g0 B q).1; omega
   refine ⟨fun b q => ⟨(g0 b q).1, by rw [hsz]; exact Nat.lt_of_lt_of_le (g0 b q).2 hb.size⟩, v0, v1, v2, (g1.agr (.of_below hb)).agr (((((((AgrS.refl _ _).trans (agr_setS _ hn)).trans (agr_setS _ hn)).trans (agr_setS _ hn)).trans (agr_setS _ hn)).trans (agr_setS _ hn)).trans (agr_setS _ hn)), ?_, ?_, ?_, ?_, ?_, ?_⟩
   all_goals (repeat rw [List.getElem?_set_ne (by omega)])
   all_goals assumption
 ·intro b q1 q2
  (try dsimp only at q1 q2)
  by_cases e : i = j
  ·rw [if_pos e] at q1
   rw [if_neg (fun e' => hne (e.trans e'.symm))] at q2; have := ((hx i' (by omega)).1 b q2).2; have := q1.1
   omega
  ·rw [if_neg e] at q1
   by_cases e' : i' = j
   ·rw [if_pos e'] at q2
    have := ((hx i (by omega)).1 b q1).2; have := q2.1
    omega
   ·rw [if_neg e'] at q2
    exact hd i i' (by omega) (by omega) hne b q1 q2
theorem MadeON.own {w : World} {B n a : Nat} {L : List Nd} (h : MadeON w B n n L) (hn : n = L.length) (ha : a ≤ B) (hl : L.length ≤ 1048576) : OwNS w (Rg a w.heap.size) (.slice (some ⟨B, 0, none⟩) n n) L := by
 obtain ⟨xs, E, hxl, hB, hx, hd⟩ := h; subst hn; refine ⟨hl, .inr ⟨B, L.length, xs, E, rfl, ⟨ha, hB.lt⟩, hB, hxl, fun i hi => ?_, hd⟩⟩; obtain ⟨g0, g1⟩ := hx i hi
 exact ⟨fun b q => ⟨by have := (g0 b q).1; omega, (g0 b q).2⟩, fun q => by have := (g0 B q).1; omega, g1⟩
def MadeOL (w : World) (B n j : Nat) (L : List Lk) : Prop := ∃ (xs : List Value) (E : Nat → Nat → Prop), xs.length = n * 7 ∧ Bl w B xs ∧ (∀ i, i < j → (∀ b, E i b → B < b ∧ b < w.heap.size) ∧ ElL xs w (E i) i (L.getD i l0)) ∧ ∀ i i', i < j → i' < j → i ≠ i' → Dj (E i) (E i')
theorem MadeOL.keep {w w' : World} {B n j : Nat} {L : List Lk} (h : MadeOL w B n j L) (hb : Below w.heap.size w w') : MadeOL w' B n j L := by
 obtain ⟨xs, E, hl, hB, hx, hd⟩ := h; refine ⟨xs, E, hl, hB.keep hb, fun i hi => ?_, hd⟩; obtain ⟨h1, av, bv, h2, h3⟩ := hx i hi
 exact ⟨fun b q => ⟨(h1 b q).1, Nat.lt_of_lt_of_le (h1 b q).2 hb.size⟩, av, bv, h2.agr (.of_below hb), h3⟩
theorem MadeOL.cell {w : World} {B n k : Nat} {L : List Lk} (h : MadeOL w B n k L) (j : Nat) (hj : j < n * 7) : ∃ x, w.cell? ⟨B, j, none⟩ = some x ∧ w.frozen? ⟨B, j, none⟩ = false := by
 obtain ⟨xs, E, hl, hB, hx, -⟩ := h
 exact ⟨_, hB.c j (List.getElem?_eq_getElem (by omega)), hB.f j (List.getElem?_eq_getElem (by omega))⟩
/-- element j has been copied in the world from w0 on -/
theorem MadeOL.step {w0 w : World} {B n j : Nat} {L : List Lk} (h0 : MadeOL w0 B n j L) (hb : Below w0.heap.size w0 w) (hB0 : B < w0.heap.size) (hk : j < n) {av bv : Value} {x : Lk} (hE : L.getD j l0 = x) (h1 : OwL w (Rg w0.heap.size w.heap.size) av bv x) :
  MadeOL (((((((w.setCell ⟨B, j * 7, none⟩ (.int .i64 x.a)).setCell ⟨B, j * 7 + 1, none⟩ (.int .i64 x.ai)).setCell ⟨B, j * 7 + 2, none⟩ (.int .i64 x.b)).setCell ⟨B, j * 7 + 3, none⟩ (.int .i64 x.bi)).setCell ⟨B, j * 7 + 4, none⟩ (.bool x.up)).setCell ⟨B, j * 7 + 5, none⟩ (av)).setCell ⟨B, j * 7 + 6, none⟩ (bv)) B n (j + 1) L := by
 obtain ⟨xs, E, hl, hB, hx, hd⟩ := h0; replace hB := hB.keep hb; have hsz : (((((((w.setCell ⟨B, j * 7, none⟩ (.int .i64 x.a)).setCell ⟨B, j * 7 + 1, none⟩ (.int .i64 x.ai)).setCell ⟨B, j * 7 + 2, none⟩ (.int .i64 x.b)).setCell ⟨B, j * 7 + 3, none⟩ (.int .i64 x.bi)).setCell ⟨B, j * 7 + 4, none⟩ (.bool x.up)).setCell ⟨B, j * 7 + 5, none⟩ (av)).setCell ⟨B, j * 7 + 6, none⟩ (bv)).heap.size = w.heap.size := by simp
 refine ⟨(((((((xs.set (j * 7) (.int .i64 x.a)).set (j * 7 + 1) (.int .i64 x.ai)).set (j * 7 + 2) (.int .i64 x.b)).set (j * 7 + 3) (.int .i64 x.bi)).set (j * 7 + 4) (.bool x.up)).set (j * 7 + 5) (av)).set (j * 7 + 6) (bv)), fun i => if i = j then Rg w0.heap.size w.heap.size else E i, by simpa using hl, (((((((hB.set (j * 7) (.int .i64 x.a)).set (j * 7 + 1) (.int .i64 x.ai)).set (j * 7 + 2) (.int .i64 x.b)).set (j * 7 + 3) (.int .i64 x.bi)).set (j * 7 + 4) (.bool x.up)).set (j * 7 + 5) (av)).set (j * 7 + 6) (bv)), fun i hi => ?_, fun i i' hi hi' hne => ?_⟩
 ·by_cases e : i = j
  ·have e' := e.symm
   subst e'
   (try dsimp only)
   rw [if_pos rfl, hE]; have hn : ¬ Rg w0.heap.size w.heap.size B := fun q => by have := q.1; omega
   refine ⟨fun b q => ⟨by have := q.1; omega, by rw [hsz]; exact q.2⟩, av, bv, h1.agr ((((((((AgrS.refl _ _).trans (agr_setS _ hn)).trans (agr_setS _ hn)).trans (agr_setS _ hn)).trans (agr_setS _ hn)).trans (agr_setS _ hn)).trans (agr_setS _ hn)).trans (agr_setS _ hn)), ?_, ?_, ?_, ?_, ?_, ?_, ?_⟩
   all_goals simp only [List.getElem?_set, List.length_set]
   all_goals simp (disch := omega) [hl]
   all_goals omega
  ·(try dsimp only)
   rw [if_neg e]; obtain ⟨g0, v0, v1, g1, c0, c1, c2, c3, c4, c5, c6⟩ := hx i (by omega); have hn : ¬ E i B := fun q => by have := (g0 B q).1; omega
   refine ⟨fun b q => ⟨(g0 b q).1, by rw [hsz]; exact Nat.lt_of_lt_of_le (g0 b q).2 hb.size⟩, v0, v1, (g1.agr (.of_below hb)).agr ((((((((AgrS.refl _ _).trans (agr_setS _ hn)).trans (agr_setS _ hn)).trans (agr_setS _ hn)).trans (agr_setS _ hn)).trans (agr_setS _ hn)).trans (agr_setS _ hn)).trans (agr_setS _ hn)), ?_, ?_, ?_, ?_, ?_, ?_, ?_⟩
   all_goals (repeat rw [List.getElem?_set_ne (by omega)])
   all_goals assumption
 ·intro b q1 q2
  (try dsimp only at q1 q2)
  by_cases e : i = j
  ·rw [if_pos e] at q1
   rw [if_neg (fun e' => hne (e.trans e'.symm))] at q2; have := ((hx i' (by omega)).1 b q2).2; have := q1.1
   omega
  ·rw [if_neg e] at q1
   by_cases e' : i' = j
   ·rw [if_pos e'] at q2
    have := ((hx i (by omega)).1 b q1).2; have := q2.1
    omega
   ·rw [if_neg e'] at q2
    exact hd i i' (by omega) (by omega) hne b q1 q2
theorem MadeOL.own {w : World} {B n a : Nat} {L : List Lk} (h : MadeOL w B n n L) (hn : n = L.length) (ha : a ≤ B) (hl : L.length ≤ 1048576) : OwLS w (Rg a w.heap.size) (.slice (some ⟨B, 0, none⟩) n n) L := by
 obtain ⟨xs, E, hxl, hB, hx, hd⟩ := h; subst hn; refine ⟨hl, .inr ⟨B, L.length, xs, E, rfl, ⟨ha, hB.lt⟩, hB, hxl, fun i hi => ?_, hd⟩⟩; obtain ⟨g0, g1⟩ := hx i hi
 exact ⟨fun b q => ⟨by have := (g0 b q).1; omega, (g0 b q).2⟩, fun q => by have := (g0 B q).1; omega, g1⟩
def OwF (w : World) (S : Nat → Prop) (nv lv : Value) (x : Fb) : Prop := ∃ S0 S1 : Nat → Prop, (∀ b, S0 b → S b) ∧ (∀ b, S1 b → S b) ∧ Dj S0 S1 ∧ OwNS w S0 nv x.nodes ∧ OwLS w S1 lv x.links
end Go.Proofs.YtbcmoofpgffbhabGreat
namespace Go.Proofs.YtbcmoofpgffbhabGreat
open Go.ChangeShapes Go.WideShapes Go.ChangeAt Go.RowKit Go.BigFrame Go.Joins
set_option linter.unusedVariables false
set_option maxRecDepth 100000
set_option linter.unusedSimpArgs false
set_option maxRecDepth 100000

theorem MidS.of_below {S : Nat → Prop} {w w' : World} (h : Below w.heap.size w w') : MidS S w w' := ⟨h.os, h.tape, h.output, h.size, fun i hi _ => h.block i hi⟩
theorem OwF.agr {w w' : World} {S : Nat → Prop} {nv lv : Value} {x : Fb} (h : OwF w S nv lv x) (a : AgrS S w w') : OwF w' S nv lv x := by
 obtain ⟨S0, S1, s0, s1, dj, h0, h1⟩ := h
 exact ⟨S0, S1, s0, s1, dj, h0.agr (a.sub s0), h1.agr (a.sub s1)⟩
theorem OwF.rd {w : World} {S : Nat → Prop} {nv lv : Value} {x : Fb} (h : OwF w S nv lv x) : RdF w nv lv x := by
 obtain ⟨S0, S1, -, -, -, h0, h1⟩ := h
 exact ⟨h0.rd, h1.rd⟩
end Go.Proofs.YtbcmoofpgffbhabGreat
namespace Go.Proofs.YtbcmoofpgffbhabGreat
open Go.ChangeShapes Go.WideShapes Go.ChangeAt Go.RowKit Go.BigFrame
set_option linter.unusedVariables false
set_option maxRecDepth 100000
set_option linter.unusedSimpArgs false

theorem spfx_any (v : Value) (l : List (Int × Int)) (w : World) (h : RdP w v l) :
  Calls Tryz.prog 113 #[v] w fun e w' => e = .returned (.bool (decide ((l.length : Int) ≤ 8) && pfxB l)) ∧ Below w.heap.size w w' := by
 have hm := h.1; obtain ⟨a, c, rfl, hc⟩ := h.el; obtain ⟨n, hn⟩ : ∃ n, n = l.length := ⟨_, rfl⟩; rw [← hn] at hc hm ⊢; have HN := Lib.hid hn; clear h hn
 go_enter Tryz.func113, Tryz.ntmps113
 go_wp2
 go_loopw [3] (fun q wr => ∃ k : Nat, k ≤ n ∧ q = .int .i64 k ∧ (∀ i, i < k → okAt l i) ∧ (∀ i, i + 1 < k → upAt l i) ∧ Below w.heap.size w wr) (fun q _ => n - (intOf q).toNat)
 case atStart => exact ⟨0, Nat.zero_le _, rfl, fun i hi => by omega, fun i hi => by omega, Below.refl _ _⟩
 case round =>
  obtain ⟨k, hk, rfl, hok, hup, hB⟩ := hrel; have HO := Lib.hid hok; have HU := Lib.hid hup; clear hok hup
  by_cases hlt : k < n
  ·have hltI : (k : Int) < (n : Int) := by omega
   obtain ⟨b, o, rfl, d0, d1⟩ := hc k hlt; have e0 := cell_keep hB (World.block_lt_of_cell? w _ d0) d0; have e1 := cell_keep hB (World.block_lt_of_cell? w _ d1) d1; obtain ⟨⟨x, y⟩, hx⟩ : ∃ q, l.getD k (0, 0) = q := ⟨_, rfl⟩; rw [hx] at e0 e1; have HX := Lib.hid hx; have HCC := Lib.hid hc; clear hx hc d0 d1; cases hp : pokB x y
   ·have HP := Lib.hid hp
    have HF := Lib.hid (pfxB_ok (by rw [← HN.out]; exact hlt) HX.out hp); clear hp; go_wp2; refine wp_region_class (C := Over (wr)) (by kernel_rfl) (by kernel_rfl) (over_drew _) ?_
    repeat (first | go_big_quiet_skip | (go_big_quiet_want; go_big_quiet_op; go_big_quiet_on) | (go_big_quiet_want; go_big_quiet_op; apply Exists.intro; refine ⟨fun w' hC => ?_, ?_⟩; ((first | (go_at_call 190; refine (spok_t _ HP).mono ?_; rintro e w1 ⟨rfl, hb1⟩; exact ⟨rfl, over_step hC hb1⟩))); go_big_quiet_on) | (go_big_quiet_want; apply Exists.intro; refine ⟨fun w' hC => ?_, ?_⟩; (have k0 := over_cell hC (World.block_lt_of_cell? _ _ e0) e0; have k1 := over_cell hC (World.block_lt_of_cell? _ _ e1) e1; simp [Oper.quietAt, Oper.quietUpon, go_sem, k0, k1, hltI, hlt]; first | done | rfl); go_big_quiet_on; simp only [Act.put, List.setIfInBounds_toArray, List.set_cons_zero, List.set_cons_succ]))
    refine wpQuiet_nil ?_; intro wr hC; have k0 := over_cell hC (World.block_lt_of_cell? _ _ e0) e0; have k1 := over_cell hC (World.block_lt_of_cell? _ _ e1) e1; go_wp2
    go_ret
    exact ⟨ret_bool (by rw [HF.out, Bool.and_false]), below_step hB hC⟩
   ·have HP := Lib.hid hp
    have HOK : Hid (∀ i, i < k + 1 → okAt l i) := Lib.hid fun i hi => by
     by_cases e : i = k
     ·unfold okAt; rw [e, HX.out]; exact hp
     ·exact HO.out i (by omega)
    clear hp
    rcases Nat.eq_zero_or_pos k with rfl | hpos
    ·simp only [Nat.zero_mul, Nat.add_zero] at e0 e1
     go_wp2; refine wp_region_class (C := Over (wr)) (by kernel_rfl) (by kernel_rfl) (over_drew _) ?_
     repeat (first | go_big_quiet_skip | (go_big_quiet_want; go_big_quiet_op; go_big_quiet_on) | (go_big_quiet_want; go_big_quiet_op; apply Exists.intro; refine ⟨fun w' hC => ?_, ?_⟩; ((first | (go_at_call 190; refine (spok_t _ HP).mono ?_; rintro e w1 ⟨rfl, hb1⟩; exact ⟨rfl, over_step hC hb1⟩))); go_big_quiet_on) | (go_big_quiet_want; apply Exists.intro; refine ⟨fun w' hC => ?_, ?_⟩; (have k0 := over_cell hC (World.block_lt_of_cell? _ _ e0) e0; have k1 := over_cell hC (World.block_lt_of_cell? _ _ e1) e1; simp [Oper.quietAt, Oper.quietUpon, go_sem, k0, k1, hltI, hlt]; first | done | rfl); go_big_quiet_on; simp only [Act.put, List.setIfInBounds_toArray, List.set_cons_zero, List.set_cons_succ]))
     refine wpQuiet_nil ?_; intro wr hC; have k0 := over_cell hC (World.block_lt_of_cell? _ _ e0) e0; have k1 := over_cell hC (World.block_lt_of_cell? _ _ e1) e1; go_wp2
     go_roundw
     case rel => exact ⟨0 + 1, by omega, by go_num, HOK.out, fun i hi => by omega, below_step hB hC⟩
     case measure => simp [intOf]; omega
    ·obtain ⟨j, rfl⟩ : ∃ j, k = j + 1 := ⟨k - 1, by omega⟩
     obtain ⟨b', o', hbo, d2, d3⟩ := HCC.out j (by omega); obtain ⟨rfl, rfl⟩ : b = b' ∧ o = o' := by simpa using hbo
     clear hbo; obtain ⟨⟨s, t⟩, hs⟩ : ∃ q, l.getD j (0, 0) = q := ⟨_, rfl⟩; rw [hs] at d2 d3; have HS := Lib.hid hs; obtain ⟨r, hr⟩ : ∃ r, cmp2 s t x y = r := ⟨_, rfl⟩; have HR := Lib.hid hr; clear hs hr
     by_cases hneg : r < 0
     ·have HUP : Hid (∀ i, i + 1 < j + 1 + 1 → upAt l i) := Lib.hid fun i hi => by
       by_cases e : i = j
       ·unfold upAt; rw [e, HS.out, HX.out, HR.out]; exact hneg
       ·exact HU.out i (by omega)
      have f0 := cell_keep hB (World.block_lt_of_cell? w _ d2) d2; have f1 := cell_keep hB (World.block_lt_of_cell? w _ d3) d3; clear d2 d3; have hwj : IntKind.i64.wrap (j : Int) = j := wrap64_in _ (by omega) (by omega); have hjI : (j : Int) < (n : Int) := by omega
      have hjN : j < n := by omega
      have hkJ : (j : Int) + 1 < (n : Int) := by omega
      have hkT : ((j : Int) + 1).toNat = j + 1 := by omega
      have hk0 : (0 : Int) ≤ (j : Int) + 1 := by omega
      go_wp2; refine wp_region_class (C := Over (wr)) (by kernel_rfl) (by kernel_rfl) (over_drew _) ?_
      repeat (first | go_big_quiet_skip | (go_big_quiet_want; go_big_quiet_op; go_big_quiet_on) | (go_big_quiet_want; go_big_quiet_op; apply Exists.intro; refine ⟨fun w' hC => ?_, ?_⟩; ((first | (go_at_call 190; refine (spok_t _ HP).mono ?_; rintro e w1 ⟨rfl, hb1⟩; exact ⟨rfl, over_step hC hb1⟩) | (go_at_call 191; refine (scmp_t _ HR).mono ?_; rintro e w1 ⟨rfl, hb1⟩; exact ⟨rfl, over_step hC hb1⟩))); go_big_quiet_on) | (go_big_quiet_want; apply Exists.intro; refine ⟨fun w' hC => ?_, ?_⟩; (have k0 := over_cell hC (World.block_lt_of_cell? _ _ e0) e0; have k1 := over_cell hC (World.block_lt_of_cell? _ _ e1) e1; have k2 := over_cell hC (World.block_lt_of_cell? _ _ f0) f0; have k3 := over_cell hC (World.block_lt_of_cell? _ _ f1) f1; simp [Oper.quietAt, Oper.quietUpon, go_sem, k0, k1, k2, k3, hltI, hlt, hwj, hjI, hjN, hkJ, hkT, hk0]; first | done | rfl); go_big_quiet_on; simp only [Act.put, List.setIfInBounds_toArray, List.set_cons_zero, List.set_cons_succ]))
      refine wpQuiet_nil ?_; intro wr hC; have k0 := over_cell hC (World.block_lt_of_cell? _ _ e0) e0; have k1 := over_cell hC (World.block_lt_of_cell? _ _ e1) e1; have k2 := over_cell hC (World.block_lt_of_cell? _ _ f0) f0; have k3 := over_cell hC (World.block_lt_of_cell? _ _ f1) f1; go_wp2
      go_roundw
      case rel => exact ⟨j + 1 + 1, by omega, by go_num, HOK.out, HUP.out, below_step hB hC⟩
      case measure => simp [intOf]; omega
     ·have HF := Lib.hid (pfxB_up (by rw [← HN.out]; exact hlt) HS.out HX.out (by rw [HR.out]; exact hneg))
      have f0 := cell_keep hB (World.block_lt_of_cell? w _ d2) d2; have f1 := cell_keep hB (World.block_lt_of_cell? w _ d3) d3; clear d2 d3; have hwj : IntKind.i64.wrap (j : Int) = j := wrap64_in _ (by omega) (by omega); have hjI : (j : Int) < (n : Int) := by omega
      have hjN : j < n := by omega
      have hkJ : (j : Int) + 1 < (n : Int) := by omega
      have hkT : ((j : Int) + 1).toNat = j + 1 := by omega
      have hk0 : (0 : Int) ≤ (j : Int) + 1 := by omega
      go_wp2; refine wp_region_class (C := Over (wr)) (by kernel_rfl) (by kernel_rfl) (over_drew _) ?_
      repeat (first | go_big_quiet_skip | (go_big_quiet_want; go_big_quiet_op; go_big_quiet_on) | (go_big_quiet_want; go_big_quiet_op; apply Exists.intro; refine ⟨fun w' hC => ?_, ?_⟩; ((first | (go_at_call 190; refine (spok_t _ HP).mono ?_; rintro e w1 ⟨rfl, hb1⟩; exact ⟨rfl, over_step hC hb1⟩) | (go_at_call 191; refine (scmp_t _ HR).mono ?_; rintro e w1 ⟨rfl, hb1⟩; exact ⟨rfl, over_step hC hb1⟩))); go_big_quiet_on) | (go_big_quiet_want; apply Exists.intro; refine ⟨fun w' hC => ?_, ?_⟩; (have k0 := over_cell hC (World.block_lt_of_cell? _ _ e0) e0; have k1 := over_cell hC (World.block_lt_of_cell? _ _ e1) e1; have k2 := over_cell hC (World.block_lt_of_cell? _ _ f0) f0; have k3 := over_cell hC (World.block_lt_of_cell? _ _ f1) f1; simp [Oper.quietAt, Oper.quietUpon, go_sem, k0, k1, k2, k3, hltI, hlt, hwj, hjI, hjN, hkJ, hkT, hk0]; first | done | rfl); go_big_quiet_on; simp only [Act.put, List.setIfInBounds_toArray, List.set_cons_zero, List.set_cons_succ]))
      refine wpQuiet_nil ?_; intro wr hC; have k0 := over_cell hC (World.block_lt_of_cell? _ _ e0) e0; have k1 := over_cell hC (World.block_lt_of_cell? _ _ e1) e1; have k2 := over_cell hC (World.block_lt_of_cell? _ _ f0) f0; have k3 := over_cell hC (World.block_lt_of_cell? _ _ f1) f1; go_wp2
      go_ret
      exact ⟨ret_bool (by rw [HF.out, Bool.and_false]), below_step hB hC⟩
  ·have hkn : k = n := by omega
   subst hkn; have HF := Lib.hid (pfxB_yes HN.out HO.out HU.out); clear hc; go_wp2
   all_goals
    go_ret
    exact ⟨ret_bool (by rw [HF.out, Bool.and_true]), hB⟩
/-- the library's comparison of two lists of prefixes -/
theorem slP_any (v u : Value) (l m : List (Int × Int)) (w : World) (h1 : RdP w v l) (h2 : RdP w u m) :
  Calls Tryz.prog 270 #[v, u] w fun e w' => e = .returned (.bool (decide (l = m))) ∧ Below w.heap.size w w' := by
 by_cases hlen : l.length = m.length
 ·have hm1 := h1.1
  obtain ⟨a, c, rfl, hc⟩ := h1.el; obtain ⟨a', c', rfl, hc'⟩ := h2.el; obtain ⟨n, hn⟩ : ∃ n, n = l.length := ⟨_, rfl⟩; have hn' : n = m.length := hn.trans hlen; rw [← hn'] at hc' ⊢; rw [← hn] at hc hm1 ⊢; have HN := Lib.hid hn; have HN' := Lib.hid hn'; clear hn hn' hlen h1 h2
  go_enter Tryz.func270, Tryz.ntmps270
  go_wp2
  go_loopw [13] (fun i wr => ∃ k : Nat, k ≤ n ∧ i = .int .i64 k ∧ l.take k = m.take k ∧ Below w.heap.size w wr) (fun i _ => n - (intOf i).toNat)
  case atStart => exact ⟨0, Nat.zero_le _, rfl, rfl, Below.refl _ _⟩
  case round =>
   obtain ⟨k, hk, rfl, ht, hB⟩ := hrel; have HT := Lib.hid ht; clear ht
   by_cases hlt : k < n
   ·have hltI : (k : Int) < (n : Int) := by omega
    obtain ⟨b, o, rfl, d0, d1⟩ := hc k hlt; obtain ⟨b', o', rfl, d0', d1'⟩ := hc' k hlt; have e0 := cell_keep hB (World.block_lt_of_cell? w _ d0) d0; have e1 := cell_keep hB (World.block_lt_of_cell? w _ d1) d1; have e2 := cell_keep hB (World.block_lt_of_cell? w _ d0') d0'; have e3 := cell_keep hB (World.block_lt_of_cell? w _ d1') d1'; obtain ⟨⟨x, y⟩, hx⟩ : ∃ q, l.getD k (0, 0) = q := ⟨_, rfl⟩; obtain ⟨⟨x', y'⟩, hx'⟩ : ∃ q, m.getD k (0, 0) = q := ⟨_, rfl⟩; rw [hx] at e0 e1; rw [hx'] at e2 e3; have HX := Lib.hid hx; have HY := Lib.hid hx'; clear hx hx' hc hc' d0 d1 d0' d1'
    by_cases hxy : x = x' ∧ y = y'
    ·obtain ⟨rfl, rfl⟩ := hxy
     go_wp2
     go_region
     go_wp2
     go_roundw
     case rel => exact ⟨k + 1, by omega, by go_num, takeP_succ HT.out (by rw [← HN.out]; exact hlt) (by rw [← HN'.out]; exact hlt) (by rw [HX.out, HY.out]), hB.drew⟩
     case measure => simp [intOf]; omega
    ·have hlm : decide (l = m) = false := by
      simp only [decide_eq_false_iff_not]; rintro rfl; have := HX.out.symm.trans HY.out; cases this
      exact hxy ⟨rfl, rfl⟩
     have HL := Lib.hid hlm; clear hlm
     by_cases hx : x = x'
     ·have hy : ¬ y = y' := fun e => hxy ⟨hx, e⟩
      subst hx; clear hxy; go_wp2
      go_region
      go_wp2
      go_ret
      exact ⟨ret_bool HL.out.symm, hB.drew⟩
     ·clear hxy
      go_wp2
      go_region
      go_wp2
      go_ret
      exact ⟨ret_bool HL.out.symm, hB.drew⟩
   ·have hkn : k = n := by omega
    have hlm : decide (l = m) = true := by
     have h := HT.out; rw [hkn, List.take_of_length_le (by rw [HN.out]; exact Nat.le_refl _), List.take_of_length_le (by rw [HN'.out]; exact Nat.le_refl _)] at h
     simp [h]
    have HL := Lib.hid hlm; clear hlm hkn hc hc'; go_wp2
    go_ret
    exact ⟨ret_bool HL.out.symm, hB⟩
 ·have hd : decide (l = m) = false := by
   simp only [decide_eq_false_iff_not]; rintro rfl
   exact hlen rfl
  rw [hd]; clear hd; obtain ⟨a, c, rfl⟩ := h1.len; obtain ⟨a', c', rfl⟩ := h2.len; have hne : ((l.length : Int) != (m.length : Int)) = true := by simp; omega
  clear h1 h2
  go_enter Tryz.func270, Tryz.ntmps270
  go_wp2
  go_ret
  exact ⟨rfl, Below.refl _ _⟩
end Go.Proofs.YtbcmoofpgffbhabGreat
namespace Go.Proofs.YtbcmoofpgffbhabGreat
open Go.ChangeShapes Go.WideShapes Go.ChangeAt Go.RowKit Go.BigFrame
set_option linter.unusedVariables false
set_option maxRecDepth 100000
set_option linter.unusedSimpArgs false

/-- the library's comparison of two lists of numbers -/
theorem slI_any (v u : Value) (l m : List Int) (w : World) (h1 : RdI w v l) (h2 : RdI w u m) :
  Calls Tryz.prog 253 #[v, u] w fun e w' => e = .returned (.bool (decide (l = m))) ∧ Below w.heap.size w w' := by
 by_cases hlen : l.length = m.length
 ·have hm1 : l.length ≤ 9223372036854775807 := by have := h1.2.1; unfold maxLen at this; omega
  obtain ⟨a, c, rfl, hc⟩ := h1.el; obtain ⟨a', c', rfl, hc'⟩ := h2.el; obtain ⟨n, hn⟩ : ∃ n, n = l.length := ⟨_, rfl⟩; have hn' : n = m.length := hn.trans hlen; rw [← hn'] at hc' ⊢; rw [← hn] at hc hm1 ⊢; have HN := Lib.hid hn; have HN' := Lib.hid hn'; clear hn hn' hlen h1 h2
  go_enter Tryz.func253, Tryz.ntmps253
  go_wp2
  go_loopw [13] (fun i wr => ∃ k : Nat, k ≤ n ∧ i = .int .i64 k ∧ l.take k = m.take k ∧ Below w.heap.size w wr) (fun i _ => n - (intOf i).toNat)
  case atStart => exact ⟨0, Nat.zero_le _, rfl, rfl, Below.refl _ _⟩
  case round =>
   obtain ⟨k, hk, rfl, ht, hB⟩ := hrel; have HT := Lib.hid ht; clear ht
   by_cases hlt : k < n
   ·have hltI : (k : Int) < (n : Int) := by omega
    obtain ⟨b, o, rfl, d0⟩ := hc k hlt; obtain ⟨b', o', rfl, d0'⟩ := hc' k hlt; have e0 := cell_keep hB (World.block_lt_of_cell? w _ d0) d0; have e2 := cell_keep hB (World.block_lt_of_cell? w _ d0') d0'; obtain ⟨x, hx⟩ : ∃ q, l.getD k 0 = q := ⟨_, rfl⟩; obtain ⟨x', hx'⟩ : ∃ q, m.getD k 0 = q := ⟨_, rfl⟩; rw [hx] at e0; rw [hx'] at e2; have HX := Lib.hid hx; have HY := Lib.hid hx'; clear hx hx' hc hc' d0 d0'
    by_cases hxy : x = x'
    ·subst hxy
     go_wp2
     go_region
     go_wp2
     go_roundw
     case rel => exact ⟨k + 1, by omega, by go_num, take_eq_succ_I HT.out (by rw [← HN.out]; exact hlt) (by rw [← HN'.out]; exact hlt) (by rw [HX.out, HY.out]), hB.drew⟩
     case measure => simp [intOf]; omega
    ·have hlm : decide (l = m) = false := by
      simp only [decide_eq_false_iff_not]; rintro rfl
      exact hxy (HX.out.symm.trans HY.out)
     have HL := Lib.hid hlm; have hne : (x != x') = true := by simp [hxy]
     clear hlm; go_wp2
     go_region
     go_wp2
     go_ret
     exact ⟨ret_bool HL.out.symm, hB.drew⟩
   ·have hkn : k = n := by omega
    have hlm : decide (l = m) = true := by
     have h := HT.out; rw [hkn, List.take_of_length_le (by rw [HN.out]; exact Nat.le_refl _), List.take_of_length_le (by rw [HN'.out]; exact Nat.le_refl _)] at h
     simp [h]
    have HL := Lib.hid hlm; clear hlm hkn hc hc'; go_wp2
    go_ret
    exact ⟨ret_bool HL.out.symm, hB⟩
 ·have hd : decide (l = m) = false := by
   simp only [decide_eq_false_iff_not]; rintro rfl
   exact hlen rfl
  rw [hd]; clear hd; obtain ⟨a, c, rfl⟩ := h1.len; obtain ⟨a', c', rfl⟩ := h2.len; have hne : ((l.length : Int) != (m.length : Int)) = true := by simp; omega
  clear h1 h2
  go_enter Tryz.func253, Tryz.ntmps253
  go_wp2
  go_ret
  exact ⟨rfl, Below.refl _ _⟩
theorem slI_t {v u : Value} {l m : List Int} {b : Bool} (w : World) (h1 : RdI w v l) (h2 : RdI w u m) (H : Hid (decide (l = m) = b)) :
  Calls Tryz.prog 253 #[v, u] w fun e w' => e = .returned (.bool b) ∧ Below w.heap.size w w' := H.out ▸ slI_any v u l m w h1 h2
theorem slP_t {v u : Value} {l m : List (Int × Int)} {b : Bool} (w : World) (h1 : RdP w v l) (h2 : RdP w u m) (H : Hid (decide (l = m) = b)) :
  Calls Tryz.prog 270 #[v, u] w fun e w' => e = .returned (.bool b) ∧ Below w.heap.size w w' := H.out ▸ slP_any v u l m w h1 h2
set_option maxHeartbeats 1000000 in
theorem isameA_any (pv mv pv2 mv2 : Value) (ps ms ps2 ms2 : List Int) (pr bw pr2 bw2 : Int) (w : World) (hp : RdI w pv ps) (hm : RdI w mv ms) (hp2 : RdI w pv2 ps2) (hm2 : RdI w mv2 ms2) :
  Calls Tryz.prog 213 #[.agg #[pv, .int .i64 pr, mv, .int .i64 bw], .agg #[pv2, .int .i64 pr2, mv2, .int .i64 bw2]] w fun e w' => e = .returned (.bool (decide (ps = ps2 ∧ pr = pr2 ∧ ms = ms2 ∧ bw = bw2))) ∧ Below w.heap.size w w' := by
 obtain ⟨bA, bB, B0, z⟩ := two w [pv, .int .i64 pr, mv, .int .i64 bw] [pv2, .int .i64 pr2, mv2, .int .i64 bw2] 50 50; replace hp := hp.keep B0; replace hm := hm.keep B0; replace hp2 := hp2.keep B0; replace hm2 := hm2.keep B0; clear z
 by_cases h0 : ps = ps2
 ·subst h0
  by_cases h1 : pr = pr2
  ·subst h1
   have e1 : (pr == pr) = true := by simp
   by_cases h2 : ms = ms2
   ·subst h2
    by_cases h3 : bw = bw2
    ·subst h3
     have e3 : (bw == bw) = true := by simp
     go_enter Tryz.func213, Tryz.ntmps213
     go_wp2_with fail; refine (slI_t (b := true) _ hp hp2 (Lib.hid (decide_eq_true rfl))).mono ?_; rintro e w1 ⟨rfl, hb⟩; replace bA := bA.keep hb; replace bB := bB.keep hb; replace hp := hp.keep hb; replace hm := hm.keep hb; replace hp2 := hp2.keep hb; replace hm2 := hm2.keep hb; replace B0 := below_step B0 hb; clear hb; have fa0 := bA.c 0 rfl; have fb0 := bB.c 0 rfl; have fa1 := bA.c 1 rfl; have fb1 := bB.c 1 rfl; have fa2 := bA.c 2 rfl; have fb2 := bB.c 2 rfl; have fa3 := bA.c 3 rfl; have fb3 := bB.c 3 rfl; go_wp2_with fail; clear fa0 fb0 fa1 fb1 fa2 fb2 fa3 fb3; refine (slI_t (b := true) _ hm hm2 (Lib.hid (decide_eq_true rfl))).mono ?_; rintro e w1 ⟨rfl, hb⟩; replace bA := bA.keep hb; replace bB := bB.keep hb; replace hp := hp.keep hb; replace hm := hm.keep hb; replace hp2 := hp2.keep hb; replace hm2 := hm2.keep hb; replace B0 := below_step B0 hb; clear hb; have fa0 := bA.c 0 rfl; have fb0 := bB.c 0 rfl; have fa1 := bA.c 1 rfl; have fb1 := bB.c 1 rfl; have fa2 := bA.c 2 rfl; have fb2 := bB.c 2 rfl; have fa3 := bA.c 3 rfl; have fb3 := bB.c 3 rfl; go_wp2_with fail
     go_ret
     exact ⟨ret_bool ((decide_eq_true (by simp)).symm), B0⟩
    ·have e3 : (bw == bw2) = false := beq_eq_false_iff_ne.mpr h3
     have H3 := Lib.hid h3; clear h3
     go_enter Tryz.func213, Tryz.ntmps213
     go_wp2_with fail; refine (slI_t (b := true) _ hp hp2 (Lib.hid (decide_eq_true rfl))).mono ?_; rintro e w1 ⟨rfl, hb⟩; replace bA := bA.keep hb; replace bB := bB.keep hb; replace hp := hp.keep hb; replace hm := hm.keep hb; replace hp2 := hp2.keep hb; replace hm2 := hm2.keep hb; replace B0 := below_step B0 hb; clear hb; have fa0 := bA.c 0 rfl; have fb0 := bB.c 0 rfl; have fa1 := bA.c 1 rfl; have fb1 := bB.c 1 rfl; have fa2 := bA.c 2 rfl; have fb2 := bB.c 2 rfl; have fa3 := bA.c 3 rfl; have fb3 := bB.c 3 rfl; go_wp2_with fail; clear fa0 fb0 fa1 fb1 fa2 fb2 fa3 fb3; refine (slI_t (b := true) _ hm hm2 (Lib.hid (decide_eq_true rfl))).mono ?_; rintro e w1 ⟨rfl, hb⟩; replace bA := bA.keep hb; replace bB := bB.keep hb; replace hp := hp.keep hb; replace hm := hm.keep hb; replace hp2 := hp2.keep hb; replace hm2 := hm2.keep hb; replace B0 := below_step B0 hb; clear hb; have fa0 := bA.c 0 rfl; have fb0 := bB.c 0 rfl; have fa1 := bA.c 1 rfl; have fb1 := bB.c 1 rfl; have fa2 := bA.c 2 rfl; have fb2 := bB.c 2 rfl; have fa3 := bA.c 3 rfl; have fb3 := bB.c 3 rfl; go_wp2_with fail
     go_ret
     exact ⟨ret_bool ((decide_eq_false (fun g => H3.out g.2.2.2)).symm), B0⟩
   ·have HM : Hid (decide (ms = ms2) = false) := Lib.hid (by simp [h2])
    have H2 := Lib.hid h2; clear h2
    go_enter Tryz.func213, Tryz.ntmps213
    go_wp2_with fail; refine (slI_t (b := true) _ hp hp2 (Lib.hid (decide_eq_true rfl))).mono ?_; rintro e w1 ⟨rfl, hb⟩; replace bA := bA.keep hb; replace bB := bB.keep hb; replace hp := hp.keep hb; replace hm := hm.keep hb; replace hp2 := hp2.keep hb; replace hm2 := hm2.keep hb; replace B0 := below_step B0 hb; clear hb; have fa0 := bA.c 0 rfl; have fb0 := bB.c 0 rfl; have fa1 := bA.c 1 rfl; have fb1 := bB.c 1 rfl; have fa2 := bA.c 2 rfl; have fb2 := bB.c 2 rfl; have fa3 := bA.c 3 rfl; have fb3 := bB.c 3 rfl; go_wp2_with fail; clear fa0 fb0 fa1 fb1 fa2 fb2 fa3 fb3; refine (slI_t _ hm hm2 HM).mono ?_; rintro e w1 ⟨rfl, hb⟩; replace bA := bA.keep hb; replace bB := bB.keep hb; replace hp := hp.keep hb; replace hm := hm.keep hb; replace hp2 := hp2.keep hb; replace hm2 := hm2.keep hb; replace B0 := below_step B0 hb; clear hb; have fa0 := bA.c 0 rfl; have fb0 := bB.c 0 rfl; have fa1 := bA.c 1 rfl; have fb1 := bB.c 1 rfl; have fa2 := bA.c 2 rfl; have fb2 := bB.c 2 rfl; have fa3 := bA.c 3 rfl; have fb3 := bB.c 3 rfl; go_wp2_with fail
    go_ret
    exact ⟨ret_bool ((decide_eq_false (fun g => H2.out g.2.2.1)).symm), B0⟩
  ·have e1 : (pr == pr2) = false := beq_eq_false_iff_ne.mpr h1
   have H1 := Lib.hid h1; clear h1
   go_enter Tryz.func213, Tryz.ntmps213
   go_wp2_with fail; refine (slI_t (b := true) _ hp hp2 (Lib.hid (decide_eq_true rfl))).mono ?_; rintro e w1 ⟨rfl, hb⟩; replace bA := bA.keep hb; replace bB := bB.keep hb; replace hp := hp.keep hb; replace hm := hm.keep hb; replace hp2 := hp2.keep hb; replace hm2 := hm2.keep hb; replace B0 := below_step B0 hb; clear hb; have fa0 := bA.c 0 rfl; have fb0 := bB.c 0 rfl; have fa1 := bA.c 1 rfl; have fb1 := bB.c 1 rfl; have fa2 := bA.c 2 rfl; have fb2 := bB.c 2 rfl; have fa3 := bA.c 3 rfl; have fb3 := bB.c 3 rfl; go_wp2_with fail
   go_ret
   exact ⟨ret_bool ((decide_eq_false (fun g => H1.out g.2.1)).symm), B0⟩
 ·have HP : Hid (decide (ps = ps2) = false) := Lib.hid (by simp [h0])
  have H0 := Lib.hid h0; clear h0
  go_enter Tryz.func213, Tryz.ntmps213
  go_wp2_with fail; refine (slI_t _ hp hp2 HP).mono ?_; rintro e w1 ⟨rfl, hb⟩; replace bA := bA.keep hb; replace bB := bB.keep hb; replace hp := hp.keep hb; replace hm := hm.keep hb; replace hp2 := hp2.keep hb; replace hm2 := hm2.keep hb; replace B0 := below_step B0 hb; clear hb; have fa0 := bA.c 0 rfl; have fb0 := bB.c 0 rfl; have fa1 := bA.c 1 rfl; have fb1 := bB.c 1 rfl; have fa2 := bA.c 2 rfl; have fb2 := bB.c 2 rfl; have fa3 := bA.c 3 rfl; have fb3 := bB.c 3 rfl; go_wp2_with fail
  go_ret
  exact ⟨ret_bool ((decide_eq_false (fun g => H0.out g.1)).symm), B0⟩
theorem isameA_t {pv mv pv2 mv2 : Value} {ps ms ps2 ms2 : List Int} {pr bw pr2 bw2 : Int} {b : Bool} (w : World) (hp : RdI w pv ps) (hm : RdI w mv ms) (hp2 : RdI w pv2 ps2) (hm2 : RdI w mv2 ms2) (H : Hid (decide (ps = ps2 ∧ pr = pr2 ∧ ms = ms2 ∧ bw = bw2) = b)) :
  Calls Tryz.prog 213 #[.agg #[pv, .int .i64 pr, mv, .int .i64 bw], .agg #[pv2, .int .i64 pr2, mv2, .int .i64 bw2]] w fun e w' => e = .returned (.bool b) ∧ Below w.heap.size w w' := H.out ▸ isameA_any pv mv pv2 mv2 ps ms ps2 ms2 pr bw pr2 bw2 w hp hm hp2 hm2
set_option maxHeartbeats 4000000 in
theorem isameM_any (gv cv pv mv gv2 cv2 pv2 mv2 : Value) (gs cs gs2 cs2 : List (Int × Int)) (ps ms ps2 ms2 : List Int) (kn sa ho ix pr bw er kn2 sa2 ho2 ix2 pr2 bw2 er2 : Int) (w : World) (hg : RdP w gv gs) (hc : RdP w cv cs) (hp : RdI w pv ps) (hm : RdI w mv ms)
  (hg2 : RdP w gv2 gs2) (hc2 : RdP w cv2 cs2) (hp2 : RdI w pv2 ps2) (hm2 : RdI w mv2 ms2) :
  Calls Tryz.prog 255 #[.agg #[.int .i64 kn, .int .i64 sa, .int .i64 ho, .int .i64 ix, gv, cv, pv, .int .i64 pr, mv, .int .i64 bw, .int .i64 er], .agg #[.int .i64 kn2, .int .i64 sa2, .int .i64 ho2, .int .i64 ix2, gv2, cv2, pv2, .int .i64 pr2, mv2, .int .i64 bw2, .int .i64 er2]] w fun e w' => e = .returned (.bool (decide (kn = kn2 ∧ sa = sa2 ∧ ho = ho2 ∧ ix = ix2 ∧ er = er2 ∧ gs = gs2 ∧ cs = cs2 ∧ ps = ps2 ∧ pr = pr2 ∧ ms = ms2 ∧ bw = bw2))) ∧ Below w.heap.size w w' := by
 obtain ⟨bA, bB, B0, z⟩ := two w [.int .i64 kn, .int .i64 sa, .int .i64 ho, .int .i64 ix, gv, cv, pv, .int .i64 pr, mv, .int .i64 bw, .int .i64 er] [.int .i64 kn2, .int .i64 sa2, .int .i64 ho2, .int .i64 ix2, gv2, cv2, pv2, .int .i64 pr2, mv2, .int .i64 bw2, .int .i64 er2] 52 52; replace hg := hg.keep B0; replace hc := hc.keep B0; replace hp := hp.keep B0; replace hm := hm.keep B0; replace hg2 := hg2.keep B0; replace hc2 := hc2.keep B0; replace hp2 := hp2.keep B0; replace hm2 := hm2.keep B0; clear z
 by_cases h0 : kn = kn2
 ·subst h0
  have e0 : (kn == kn) = true := by simp
  by_cases h1 : sa = sa2
  ·subst h1
   have e1 : (sa == sa) = true := by simp
   by_cases h2 : ho = ho2
   ·subst h2
    have e2 : (ho == ho) = true := by simp
    by_cases h3 : ix = ix2
    ·subst h3
     have e3 : (ix == ix) = true := by simp
     by_cases h4 : er = er2
     ·subst h4
      have e4 : (er == er) = true := by simp
      by_cases h5 : gs = gs2
      ·subst h5
       by_cases h6 : cs = cs2
       ·subst h6
        by_cases h7 : ps = ps2 ∧ pr = pr2 ∧ ms = ms2 ∧ bw = bw2
        ·have HA : Hid (decide (ps = ps2 ∧ pr = pr2 ∧ ms = ms2 ∧ bw = bw2) = true) := Lib.hid (decide_eq_true h7)
         have H7 := Lib.hid h7; clear h7
         go_enter Tryz.func255, Tryz.ntmps255
         go_wp2_with fail; refine (slP_t (b := true) _ hg hg2 (Lib.hid (decide_eq_true rfl))).mono ?_; rintro e w1 ⟨rfl, hb⟩; replace bA := bA.keep hb; replace bB := bB.keep hb; replace hg := hg.keep hb; replace hc := hc.keep hb; replace hp := hp.keep hb; replace hm := hm.keep hb; replace hg2 := hg2.keep hb; replace hc2 := hc2.keep hb; replace hp2 := hp2.keep hb; replace hm2 := hm2.keep hb; replace B0 := below_step B0 hb; clear hb; have fa0 := bA.c 0 rfl; have fb0 := bB.c 0 rfl; have fa1 := bA.c 1 rfl; have fb1 := bB.c 1 rfl; have fa2 := bA.c 2 rfl; have fb2 := bB.c 2 rfl; have fa3 := bA.c 3 rfl; have fb3 := bB.c 3 rfl; have fa4 := bA.c 4 rfl; have fb4 := bB.c 4 rfl; have fa5 := bA.c 5 rfl; have fb5 := bB.c 5 rfl; have fa6 := bA.c 6 rfl; have fb6 := bB.c 6 rfl; have fa7 := bA.c 7 rfl; have fb7 := bB.c 7 rfl; have fa8 := bA.c 8 rfl; have fb8 := bB.c 8 rfl; have fa9 := bA.c 9 rfl; have fb9 := bB.c 9 rfl; have fa10 := bA.c 10 rfl; have fb10 := bB.c 10 rfl; go_wp2_with fail; clear fa0 fb0 fa1 fb1 fa2 fb2 fa3 fb3 fa4 fb4 fa5 fb5 fa6 fb6 fa7 fb7 fa8 fb8 fa9 fb9 fa10 fb10; refine (slP_t (b := true) _ hc hc2 (Lib.hid (decide_eq_true rfl))).mono ?_; rintro e w1 ⟨rfl, hb⟩; replace bA := bA.keep hb; replace bB := bB.keep hb; replace hg := hg.keep hb; replace hc := hc.keep hb; replace hp := hp.keep hb; replace hm := hm.keep hb; replace hg2 := hg2.keep hb; replace hc2 := hc2.keep hb; replace hp2 := hp2.keep hb; replace hm2 := hm2.keep hb; replace B0 := below_step B0 hb; clear hb; have fa0 := bA.c 0 rfl; have fb0 := bB.c 0 rfl; have fa1 := bA.c 1 rfl; have fb1 := bB.c 1 rfl; have fa2 := bA.c 2 rfl; have fb2 := bB.c 2 rfl; have fa3 := bA.c 3 rfl; have fb3 := bB.c 3 rfl; have fa4 := bA.c 4 rfl; have fb4 := bB.c 4 rfl; have fa5 := bA.c 5 rfl; have fb5 := bB.c 5 rfl; have fa6 := bA.c 6 rfl; have fb6 := bB.c 6 rfl; have fa7 := bA.c 7 rfl; have fb7 := bB.c 7 rfl; have fa8 := bA.c 8 rfl; have fb8 := bB.c 8 rfl; have fa9 := bA.c 9 rfl; have fb9 := bB.c 9 rfl; have fa10 := bA.c 10 rfl; have fb10 := bB.c 10 rfl; go_wp2_with fail; clear fa0 fb0 fa1 fb1 fa2 fb2 fa3 fb3 fa4 fb4 fa5 fb5 fa6 fb6 fa7 fb7 fa8 fb8 fa9 fb9 fa10 fb10; refine (isameA_t _ hp hm hp2 hm2 HA).mono ?_; rintro e w1 ⟨rfl, hb⟩; replace bA := bA.keep hb; replace bB := bB.keep hb; replace hg := hg.keep hb; replace hc := hc.keep hb; replace hp := hp.keep hb; replace hm := hm.keep hb; replace hg2 := hg2.keep hb; replace hc2 := hc2.keep hb; replace hp2 := hp2.keep hb; replace hm2 := hm2.keep hb; replace B0 := below_step B0 hb; clear hb; have fa0 := bA.c 0 rfl; have fb0 := bB.c 0 rfl; have fa1 := bA.c 1 rfl; have fb1 := bB.c 1 rfl; have fa2 := bA.c 2 rfl; have fb2 := bB.c 2 rfl; have fa3 := bA.c 3 rfl; have fb3 := bB.c 3 rfl; have fa4 := bA.c 4 rfl; have fb4 := bB.c 4 rfl; have fa5 := bA.c 5 rfl; have fb5 := bB.c 5 rfl; have fa6 := bA.c 6 rfl; have fb6 := bB.c 6 rfl; have fa7 := bA.c 7 rfl; have fb7 := bB.c 7 rfl; have fa8 := bA.c 8 rfl; have fb8 := bB.c 8 rfl; have fa9 := bA.c 9 rfl; have fb9 := bB.c 9 rfl; have fa10 := bA.c 10 rfl; have fb10 := bB.c 10 rfl; go_wp2_with fail
         go_ret
         exact ⟨ret_bool ((decide_eq_true (by have h := H7.out; simpa using h)).symm), B0⟩
        ·have HA : Hid (decide (ps = ps2 ∧ pr = pr2 ∧ ms = ms2 ∧ bw = bw2) = false) := Lib.hid (decide_eq_false h7)
         have H7 := Lib.hid h7; clear h7
         go_enter Tryz.func255, Tryz.ntmps255
         go_wp2_with fail; refine (slP_t (b := true) _ hg hg2 (Lib.hid (decide_eq_true rfl))).mono ?_; rintro e w1 ⟨rfl, hb⟩; replace bA := bA.keep hb; replace bB := bB.keep hb; replace hg := hg.keep hb; replace hc := hc.keep hb; replace hp := hp.keep hb; replace hm := hm.keep hb; replace hg2 := hg2.keep hb; replace hc2 := hc2.keep hb; replace hp2 := hp2.keep hb; replace hm2 := hm2.keep hb; replace B0 := below_step B0 hb; clear hb; have fa0 := bA.c 0 rfl; have fb0 := bB.c 0 rfl; have fa1 := bA.c 1 rfl; have fb1 := bB.c 1 rfl; have fa2 := bA.c 2 rfl; have fb2 := bB.c 2 rfl; have fa3 := bA.c 3 rfl; have fb3 := bB.c 3 rfl; have fa4 := bA.c 4 rfl; have fb4 := bB.c 4 rfl; have fa5 := bA.c 5 rfl; have fb5 := bB.c 5 rfl; have fa6 := bA.c 6 rfl; have fb6 := bB.c 6 rfl; have fa7 := bA.c 7 rfl; have fb7 := bB.c 7 rfl; have fa8 := bA.c 8 rfl; have fb8 := bB.c 8 rfl; have fa9 := bA.c 9 rfl; have fb9 := bB.c 9 rfl; have fa10 := bA.c 10 rfl; have fb10 := bB.c 10 rfl; go_wp2_with fail; clear fa0 fb0 fa1 fb1 fa2 fb2 fa3 fb3 fa4 fb4 fa5 fb5 fa6 fb6 fa7 fb7 fa8 fb8 fa9 fb9 fa10 fb10; refine (slP_t (b := true) _ hc hc2 (Lib.hid (decide_eq_true rfl))).mono ?_; rintro e w1 ⟨rfl, hb⟩; replace bA := bA.keep hb; replace bB := bB.keep hb; replace hg := hg.keep hb; replace hc := hc.keep hb; replace hp := hp.keep hb; replace hm := hm.keep hb; replace hg2 := hg2.keep hb; replace hc2 := hc2.keep hb; replace hp2 := hp2.keep hb; replace hm2 := hm2.keep hb; replace B0 := below_step B0 hb; clear hb; have fa0 := bA.c 0 rfl; have fb0 := bB.c 0 rfl; have fa1 := bA.c 1 rfl; have fb1 := bB.c 1 rfl; have fa2 := bA.c 2 rfl; have fb2 := bB.c 2 rfl; have fa3 := bA.c 3 rfl; have fb3 := bB.c 3 rfl; have fa4 := bA.c 4 rfl; have fb4 := bB.c 4 rfl; have fa5 := bA.c 5 rfl; have fb5 := bB.c 5 rfl; have fa6 := bA.c 6 rfl; have fb6 := bB.c 6 rfl; have fa7 := bA.c 7 rfl; have fb7 := bB.c 7 rfl; have fa8 := bA.c 8 rfl; have fb8 := bB.c 8 rfl; have fa9 := bA.c 9 rfl; have fb9 := bB.c 9 rfl; have fa10 := bA.c 10 rfl; have fb10 := bB.c 10 rfl; go_wp2_with fail; clear fa0 fb0 fa1 fb1 fa2 fb2 fa3 fb3 fa4 fb4 fa5 fb5 fa6 fb6 fa7 fb7 fa8 fb8 fa9 fb9 fa10 fb10; refine (isameA_t _ hp hm hp2 hm2 HA).mono ?_; rintro e w1 ⟨rfl, hb⟩; replace bA := bA.keep hb; replace bB := bB.keep hb; replace hg := hg.keep hb; replace hc := hc.keep hb; replace hp := hp.keep hb; replace hm := hm.keep hb; replace hg2 := hg2.keep hb; replace hc2 := hc2.keep hb; replace hp2 := hp2.keep hb; replace hm2 := hm2.keep hb; replace B0 := below_step B0 hb; clear hb; have fa0 := bA.c 0 rfl; have fb0 := bB.c 0 rfl; have fa1 := bA.c 1 rfl; have fb1 := bB.c 1 rfl; have fa2 := bA.c 2 rfl; have fb2 := bB.c 2 rfl; have fa3 := bA.c 3 rfl; have fb3 := bB.c 3 rfl; have fa4 := bA.c 4 rfl; have fb4 := bB.c 4 rfl; have fa5 := bA.c 5 rfl; have fb5 := bB.c 5 rfl; have fa6 := bA.c 6 rfl; have fb6 := bB.c 6 rfl; have fa7 := bA.c 7 rfl; have fb7 := bB.c 7 rfl; have fa8 := bA.c 8 rfl; have fb8 := bB.c 8 rfl; have fa9 := bA.c 9 rfl; have fb9 := bB.c 9 rfl; have fa10 := bA.c 10 rfl; have fb10 := bB.c 10 rfl; go_wp2_with fail
         go_ret
         exact ⟨ret_bool ((decide_eq_false (fun g => H7.out g.2.2.2.2.2.2.2)).symm), B0⟩
       ·have HC : Hid (decide (cs = cs2) = false) := Lib.hid (by simp [h6])
        have H6 := Lib.hid h6; clear h6
        go_enter Tryz.func255, Tryz.ntmps255
        go_wp2_with fail; refine (slP_t (b := true) _ hg hg2 (Lib.hid (decide_eq_true rfl))).mono ?_; rintro e w1 ⟨rfl, hb⟩; replace bA := bA.keep hb; replace bB := bB.keep hb; replace hg := hg.keep hb; replace hc := hc.keep hb; replace hp := hp.keep hb; replace hm := hm.keep hb; replace hg2 := hg2.keep hb; replace hc2 := hc2.keep hb; replace hp2 := hp2.keep hb; replace hm2 := hm2.keep hb; replace B0 := below_step B0 hb; clear hb; have fa0 := bA.c 0 rfl; have fb0 := bB.c 0 rfl; have fa1 := bA.c 1 rfl; have fb1 := bB.c 1 rfl; have fa2 := bA.c 2 rfl; have fb2 := bB.c 2 rfl; have fa3 := bA.c 3 rfl; have fb3 := bB.c 3 rfl; have fa4 := bA.c 4 rfl; have fb4 := bB.c 4 rfl; have fa5 := bA.c 5 rfl; have fb5 := bB.c 5 rfl; have fa6 := bA.c 6 rfl; have fb6 := bB.c 6 rfl; have fa7 := bA.c 7 rfl; have fb7 := bB.c 7 rfl; have fa8 := bA.c 8 rfl; have fb8 := bB.c 8 rfl; have fa9 := bA.c 9 rfl; have fb9 := bB.c 9 rfl; have fa10 := bA.c 10 rfl; have fb10 := bB.c 10 rfl; go_wp2_with fail; clear fa0 fb0 fa1 fb1 fa2 fb2 fa3 fb3 fa4 fb4 fa5 fb5 fa6 fb6 fa7 fb7 fa8 fb8 fa9 fb9 fa10 fb10; refine (slP_t _ hc hc2 HC).mono ?_; rintro e w1 ⟨rfl, hb⟩; replace bA := bA.keep hb; replace bB := bB.keep hb; replace hg := hg.keep hb; replace hc := hc.keep hb; replace hp := hp.keep hb; replace hm := hm.keep hb; replace hg2 := hg2.keep hb; replace hc2 := hc2.keep hb; replace hp2 := hp2.keep hb; replace hm2 := hm2.keep hb; replace B0 := below_step B0 hb; clear hb; have fa0 := bA.c 0 rfl; have fb0 := bB.c 0 rfl; have fa1 := bA.c 1 rfl; have fb1 := bB.c 1 rfl; have fa2 := bA.c 2 rfl; have fb2 := bB.c 2 rfl; have fa3 := bA.c 3 rfl; have fb3 := bB.c 3 rfl; have fa4 := bA.c 4 rfl; have fb4 := bB.c 4 rfl; have fa5 := bA.c 5 rfl; have fb5 := bB.c 5 rfl; have fa6 := bA.c 6 rfl; have fb6 := bB.c 6 rfl; have fa7 := bA.c 7 rfl; have fb7 := bB.c 7 rfl; have fa8 := bA.c 8 rfl; have fb8 := bB.c 8 rfl; have fa9 := bA.c 9 rfl; have fb9 := bB.c 9 rfl; have fa10 := bA.c 10 rfl; have fb10 := bB.c 10 rfl; go_wp2_with fail
        go_ret
        exact ⟨ret_bool ((decide_eq_false (fun g => H6.out g.2.2.2.2.2.2.1)).symm), B0⟩
      ·have HG : Hid (decide (gs = gs2) = false) := Lib.hid (by simp [h5])
       have H5 := Lib.hid h5; clear h5
       go_enter Tryz.func255, Tryz.ntmps255
       go_wp2_with fail; refine (slP_t _ hg hg2 HG).mono ?_; rintro e w1 ⟨rfl, hb⟩; replace bA := bA.keep hb; replace bB := bB.keep hb; replace hg := hg.keep hb; replace hc := hc.keep hb; replace hp := hp.keep hb; replace hm := hm.keep hb; replace hg2 := hg2.keep hb; replace hc2 := hc2.keep hb; replace hp2 := hp2.keep hb; replace hm2 := hm2.keep hb; replace B0 := below_step B0 hb; clear hb; have fa0 := bA.c 0 rfl; have fb0 := bB.c 0 rfl; have fa1 := bA.c 1 rfl; have fb1 := bB.c 1 rfl; have fa2 := bA.c 2 rfl; have fb2 := bB.c 2 rfl; have fa3 := bA.c 3 rfl; have fb3 := bB.c 3 rfl; have fa4 := bA.c 4 rfl; have fb4 := bB.c 4 rfl; have fa5 := bA.c 5 rfl; have fb5 := bB.c 5 rfl; have fa6 := bA.c 6 rfl; have fb6 := bB.c 6 rfl; have fa7 := bA.c 7 rfl; have fb7 := bB.c 7 rfl; have fa8 := bA.c 8 rfl; have fb8 := bB.c 8 rfl; have fa9 := bA.c 9 rfl; have fb9 := bB.c 9 rfl; have fa10 := bA.c 10 rfl; have fb10 := bB.c 10 rfl; go_wp2_with fail
       go_ret
       exact ⟨ret_bool ((decide_eq_false (fun g => H5.out g.2.2.2.2.2.1)).symm), B0⟩
     ·have e4 : (er == er2) = false := beq_eq_false_iff_ne.mpr h4
      have H4 := Lib.hid h4; clear h4
      go_enter Tryz.func255, Tryz.ntmps255
      go_wp2_with fail
      go_ret
      exact ⟨ret_bool ((decide_eq_false (fun g => H4.out g.2.2.2.2.1)).symm), B0⟩
    ·have e3 : (ix == ix2) = false := beq_eq_false_iff_ne.mpr h3
     have H3 := Lib.hid h3; clear h3
     go_enter Tryz.func255, Tryz.ntmps255
     go_wp2_with fail
     go_ret
     exact ⟨ret_bool ((decide_eq_false (fun g => H3.out g.2.2.2.1)).symm), B0⟩
   ·have e2 : (ho == ho2) = false := beq_eq_false_iff_ne.mpr h2
    have H2 := Lib.hid h2; clear h2
    go_enter Tryz.func255, Tryz.ntmps255
    go_wp2_with fail
    go_ret
    exact ⟨ret_bool ((decide_eq_false (fun g => H2.out g.2.2.1)).symm), B0⟩
  ·have e1 : (sa == sa2) = false := beq_eq_false_iff_ne.mpr h1
   have H1 := Lib.hid h1; clear h1
   go_enter Tryz.func255, Tryz.ntmps255
   go_wp2_with fail
   go_ret
   exact ⟨ret_bool ((decide_eq_false (fun g => H1.out g.2.1)).symm), B0⟩
 ·have e0 : (kn == kn2) = false := beq_eq_false_iff_ne.mpr h0
  have H0 := Lib.hid h0; clear h0
  go_enter Tryz.func255, Tryz.ntmps255
  go_wp2_with fail
  go_ret
  exact ⟨ret_bool ((decide_eq_false (fun g => H0.out g.1)).symm), B0⟩
end Go.Proofs.YtbcmoofpgffbhabGreat
