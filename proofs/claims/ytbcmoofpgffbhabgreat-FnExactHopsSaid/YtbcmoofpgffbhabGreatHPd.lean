/-
  Messages: what an argument that is one reads as; contracts of the laws' own functions that size, copy and compare them. Conditions: those in each contract.
  Memory that nobody else has; lists of messages. Conditions: those in each contract.
  Lists of switches. Conditions: those in each contract.
  Links. Conditions: those in each contract.
-/
import Derived.Test.YtbcmoofpgffbhabGreatHPa
import Derived.Test.YtbcmoofpgffbhabGreatHPc
import Derived.Deep.RegionHeld
namespace Go.Proofs.YtbcmoofpgffbhabGreat
open Go.ChangeShapes Go.WideShapes Go.ChangeAt Go.RowKit Go.BigFrame Go.Joins
set_option linter.unusedVariables false
set_option maxRecDepth 100000
set_option maxRecDepth 100000
set_option linter.unusedSimpArgs false

theorem list8 {α : Type} {xs : List α} (h : xs.length = 8) : ∃ c0 c1 c2 c3 c4 c5 c6 c7, xs = [c0, c1, c2, c3, c4, c5, c6, c7] := by
 match xs, h with
 | [c0, c1, c2, c3, c4, c5, c6, c7], _ => exact ⟨c0, c1, c2, c3, c4, c5, c6, c7, rfl⟩
section
variable {H : Type} {enc : TypeId × Value → H} {W : World} {base : Nat} {d : DataW H} {p : List MemPlace} {v : Value}
theorem cellsI1 : Tryz.prog.cellsOf 3 = 1 := by kernel_rfl
theorem cellsP1 : Tryz.prog.cellsOf 22 = 1 := by kernel_rfl
theorem cellsIS1 : Tryz.prog.cellsOf 42 = 1 := by kernel_rfl
end
/-- a fresh message: four rows of its own, apart -/
def NewM (w : World) (gs cs : List (Int × Int)) (ps ms : List Int) (kn sa ho ix pr bw er : Int) (e : Ending) (w' : World) : Prop :=
 ∃ ga gx ca cx pa px ma mx, e = .returned (.agg #[.int .i64 kn, .int .i64 sa, .int .i64 ho, .int .i64 ix, .slice ga gs.length gx, .slice ca cs.length cx, .slice pa ps.length px, .int .i64 pr, .slice ma ms.length mx, .int .i64 bw, .int .i64 er]) ∧ OwnP w' w.heap.size (.slice ga gs.length gx) gs ∧ OwnP w' w.heap.size (.slice ca cs.length cx) cs ∧ OwnI w' w.heap.size (.slice pa ps.length px) ps ∧ OwnI w' w.heap.size (.slice ma ms.length mx) ms ∧
  Apart (.slice ga gs.length gx) (.slice ca cs.length cx) ∧ Apart (.slice ga gs.length gx) (.slice pa ps.length px) ∧ Apart (.slice ga gs.length gx) (.slice ma ms.length mx) ∧ Apart (.slice ca cs.length cx) (.slice pa ps.length px) ∧ Apart (.slice ca cs.length cx) (.slice ma ms.length mx) ∧ Apart (.slice pa ps.length px) (.slice ma ms.length mx) ∧ Below w.heap.size w w'
theorem apartL {w w' : World} {b1 b2 n1 n2 : Nat} {t1 t2 : TypeId} {s1 s2 : Nat} {v u : Value} {l m : List Value} (h1 : w.ownsRow b1 t1 n1 v s1 l) (h2 : w'.ownsRow b2 t2 n2 u s2 m) (h : w.heap.size ≤ b2) : Apart v u := by
 have a : v.ownBlock = none ∨ v.ownBlock ≠ u.ownBlock := by
  cases hv : v.ownBlock with
  | none => exact .inl rfl
  | some k =>
   refine .inr (fun e => ?_); have a1 := (World.ownsRow.lt h1 k hv).2; have a2 := (World.ownsRow.lt h2 k e.symm).1
   omega
 refine ⟨a, ?_⟩
 rcases a with h0 | h0
 ·cases hu : u.ownBlock with
  | none => exact .inl rfl
  | some k => exact .inr (by rw [h0]; simp)
 ·exact .inr (Ne.symm h0)
set_option maxHeartbeats 1000000 in
theorem toM_any (gv cv pv mv : Value) (gs cs : List (Int × Int)) (ps ms : List Int) (kn sa ho ix pr bw er : Int) (w : World) (hg : RdP w gv gs) (hc : RdP w cv cs) (hp : RdI w pv ps) (hm : RdI w mv ms) (h0 : gs.length ≤ 1048576) (h1 : cs.length ≤ 1048576) (h2 : ps.length ≤ 1048576) (h3 : ms.length ≤ 1048576) :
  Calls Tryz.prog 20 #[.agg #[.int .i64 kn, .int .i64 sa, .int .i64 ho, .int .i64 ix, gv, cv, pv, .int .i64 pr, mv, .int .i64 bw, .int .i64 er]] w (NewM w gs cs ps ms kn sa ho ix pr bw er) := by
 obtain ⟨bA, bR, bO, B1, z⟩ := three w [.int .i64 kn, .int .i64 sa, .int .i64 ho, .int .i64 ix, gv, cv, pv, .int .i64 pr, mv, .int .i64 bw, .int .i64 er] [.int .i64 0, .int .i64 0, .int .i64 0, .int .i64 0, .slice none 0 0, .slice none 0 0, .slice none 0 0, .int .i64 0, .slice none 0 0, .int .i64 0, .int .i64 0] [.int .i64 kn, .int .i64 sa, .int .i64 ho, .int .i64 ix, .slice none 0 0, .slice none 0 0, .slice none 0 0, .int .i64 0, .slice none 0 0, .int .i64 0, .int .i64 0] 46 52 52
 go_enter Tryz.func20, Tryz.ntmps20
 go_wp2_with fail; refine (toP_any gv gs _ (hg.keep B1) h0).mono ?_; rintro e w1 ⟨ga, gx, rfl, hG, hb⟩; have hs := hb.size; rw [z] at hG hs; replace bA := bA.keep hb; replace bR := bR.keep hb; replace bO := bO.keep hb; replace B1 := below_step B1 hb; clear z hb; obtain ⟨A, hA⟩ : ∃ A, A = w.heap.size := ⟨_, rfl⟩; obtain ⟨R, hR⟩ : ∃ R, R = w.heap.size + 1 := ⟨_, rfl⟩; obtain ⟨O, hO⟩ : ∃ O, O = w.heap.size + 1 + 1 := ⟨_, rfl⟩; rw [← hA] at bA; rw [← hR] at bR; rw [← hO] at bO; rw [← hO, ← hR, ← hA]; have hO3 : O < w.heap.size + 3 := by omega
 have hRO : R ≠ O := by omega
 have hR3 : R < w.heap.size + 3 := by omega
 have hAO : A ≠ O := by omega
 have hwO : w.heap.size ≤ O := by omega
 have hwR : w.heap.size ≤ R := by omega
 clear hA hR hO; have a5 := bA.c 5 rfl; have o4 := bO.c 4 rfl; have of4 := bO.f 4 rfl; go_wp2_with fail; clear a5 o4 of4; have hs' := Nat.le_trans hs (grown_set w1 O 4 (.slice ga gs.length gx)).size; replace bA := bA.far (o := 4) (u := .slice ga gs.length gx) hAO; replace bR := bR.far (o := 4) (u := .slice ga gs.length gx) hRO; replace bO := bO.set 4 (.slice ga gs.length gx); replace hG := hG.far (o := 4) (u := .slice ga gs.length gx) hO3; replace B1 := B1.setCell (p := ⟨O, 4, none⟩) hwO (.slice ga gs.length gx); refine (toP_any cv cs _ (hc.keep B1) h1).mono ?_; rintro e w2 ⟨ca, cx, rfl, hC, hb⟩; have apGC := apartL hG hC (Nat.le_refl _); replace hC := hC.mono hs'; have hs2 := Nat.le_trans hs' hb.size; replace bA := bA.keep hb; replace bR := bR.keep hb; replace bO := bO.keep hb; replace hG := hG.keep hb; replace B1 := below_step B1 hb; clear hb hs hs'; have a6 := bA.c 6 rfl; have a7 := bA.c 7 rfl; have a8 := bA.c 8 rfl; have a9 := bA.c 9 rfl; have o5 := bO.c 5 rfl; have of5 := bO.f 5 rfl; go_wp2_with fail; clear a6 a7 a8 a9 o5 of5; have hs' := Nat.le_trans hs2 (grown_set w2 O 5 (.slice ca cs.length cx)).size; replace bA := bA.far (o := 5) (u := .slice ca cs.length cx) hAO; replace bR := bR.far (o := 5) (u := .slice ca cs.length cx) hRO; replace bO := bO.set 5 (.slice ca cs.length cx); replace hG := hG.far (o := 5) (u := .slice ca cs.length cx) hO3; replace hC := hC.far (o := 5) (u := .slice ca cs.length cx) hO3; replace B1 := B1.setCell (p := ⟨O, 5, none⟩) hwO (.slice ca cs.length cx); refine (toA_any pv mv ps ms pr bw _ (hp.keep B1) (hm.keep B1) h2 h3).mono ?_; rintro e w3 ⟨pa, px, ma, mx, rfl, hP, hM, apPM, hb⟩; have apGP := apartL hG hP (Nat.le_refl _); have apGM := apartL hG hM (Nat.le_refl _); have apCP := apartL hC hP (Nat.le_refl _); have apCM := apartL hC hM (Nat.le_refl _); replace hP := hP.mono hs'; replace hM := hM.mono hs'; replace bA := bA.keep hb; replace bR := bR.keep hb; replace bO := bO.keep hb; replace hG := hG.keep hb; replace hC := hC.keep hb; replace B1 := below_step B1 hb; clear hb hs2 hs'; have a10 := bA.c 10 rfl; have o0 := bO.c 0 rfl; have o1 := bO.c 1 rfl; have o2 := bO.c 2 rfl; have o3 := bO.c 3 rfl; have o4 := bO.c 4 rfl; have o5 := bO.c 5 rfl; have o6 := bO.c 6 rfl; have o7 := bO.c 7 rfl; have o8 := bO.c 8 rfl; have o9 := bO.c 9 rfl; have o10 := bO.c 10 rfl; have of0 := bO.f 0 rfl; have of1 := bO.f 1 rfl; have of2 := bO.f 2 rfl; have of3 := bO.f 3 rfl; have of4 := bO.f 4 rfl; have of5 := bO.f 5 rfl; have of6 := bO.f 6 rfl; have of7 := bO.f 7 rfl; have of8 := bO.f 8 rfl; have of9 := bO.f 9 rfl; have of10 := bO.f 10 rfl; have r0 := bR.c 0 rfl; have r1 := bR.c 1 rfl; have r2 := bR.c 2 rfl; have r3 := bR.c 3 rfl; have r4 := bR.c 4 rfl; have r5 := bR.c 5 rfl; have r6 := bR.c 6 rfl; have r7 := bR.c 7 rfl; have r8 := bR.c 8 rfl; have r9 := bR.c 9 rfl; have r10 := bR.c 10 rfl; have rf0 := bR.f 0 rfl; have rf1 := bR.f 1 rfl; have rf2 := bR.f 2 rfl; have rf3 := bR.f 3 rfl; have rf4 := bR.f 4 rfl; have rf5 := bR.f 5 rfl; have rf6 := bR.f 6 rfl; have rf7 := bR.f 7 rfl; have rf8 := bR.f 8 rfl; have rf9 := bR.f 9 rfl; have rf10 := bR.f 10 rfl; go_wp2_with fail; have bE := ((((((((((((((((bR.far (o := 6) (u := .slice pa ps.length px) hRO).far (o := 7) (u := .int .i64 pr) hRO).far (o := 8) (u := .slice ma ms.length mx) hRO).far (o := 9) (u := .int .i64 bw) hRO).far (o := 10) (u := .int .i64 er) hRO).set 0 (.int .i64 kn)).set 1 (.int .i64 sa)).set 2 (.int .i64 ho)).set 3 (.int .i64 ix)).set 4 (.slice ga gs.length gx)).set 5 (.slice ca cs.length cx)).set 6 (.slice pa ps.length px)).set 7 (.int .i64 pr)).set 8 (.slice ma ms.length mx)).set 9 (.int .i64 bw)).set 10 (.int .i64 er)); have e0 := bE.c 0 rfl; have e1 := bE.c 1 rfl; have e2 := bE.c 2 rfl; have e3 := bE.c 3 rfl; have e4 := bE.c 4 rfl; have e5 := bE.c 5 rfl; have e6 := bE.c 6 rfl; have e7 := bE.c 7 rfl; have e8 := bE.c 8 rfl; have e9 := bE.c 9 rfl; have e10 := bE.c 10 rfl
 exact bodyPost_ret (v := .agg #[.int .i64 kn, .int .i64 sa, .int .i64 ho, .int .i64 ix, .slice ga gs.length gx, .slice ca cs.length cx, .slice pa ps.length px, .int .i64 pr, .slice ma ms.length mx, .int .i64 bw, .int .i64 er]) (by simp [results, Tryz.results20, go_sem, e0, e1, e2, e3, e4, e5, e6, e7, e8, e9, e10]) rfl
  ⟨ga, gx, ca, cx, pa, px, ma, mx, rfl, (((((((((((((((((hG.far (o := 6) hO3).far (o := 7) hO3).far (o := 8) hO3).far (o := 9) hO3).far (o := 10) hO3).far (o := 0) hR3).far (o := 1) hR3).far (o := 2) hR3).far (o := 3) hR3).far (o := 4) hR3).far (o := 5) hR3).far (o := 6) hR3).far (o := 7) hR3).far (o := 8) hR3).far (o := 9) hR3).far (o := 10) hR3)).mono (by omega), (((((((((((((((((hC.far (o := 6) hO3).far (o := 7) hO3).far (o := 8) hO3).far (o := 9) hO3).far (o := 10) hO3).far (o := 0) hR3).far (o := 1) hR3).far (o := 2) hR3).far (o := 3) hR3).far (o := 4) hR3).far (o := 5) hR3).far (o := 6) hR3).far (o := 7) hR3).far (o := 8) hR3).far (o := 9) hR3).far (o := 10) hR3)).mono (by omega), (((((((((((((((((hP.far (o := 6) hO3).far (o := 7) hO3).far (o := 8) hO3).far (o := 9) hO3).far (o := 10) hO3).far (o := 0) hR3).far (o := 1) hR3).far (o := 2) hR3).far (o := 3) hR3).far (o := 4) hR3).far (o := 5) hR3).far (o := 6) hR3).far (o := 7) hR3).far (o := 8) hR3).far (o := 9) hR3).far (o := 10) hR3)).mono (by omega), (((((((((((((((((hM.far (o := 6) hO3).far (o := 7) hO3).far (o := 8) hO3).far (o := 9) hO3).far (o := 10) hO3).far (o := 0) hR3).far (o := 1) hR3).far (o := 2) hR3).far (o := 3) hR3).far (o := 4) hR3).far (o := 5) hR3).far (o := 6) hR3).far (o := 7) hR3).far (o := 8) hR3).far (o := 9) hR3).far (o := 10) hR3)).mono (by omega), apGC, apGP, apGM, apCP, apCM, apPM, ((((((((((((((((B1.setCell (p := ⟨O, 6, none⟩) hwO _).setCell (p := ⟨O, 7, none⟩) hwO _).setCell (p := ⟨O, 8, none⟩) hwO _).setCell (p := ⟨O, 9, none⟩) hwO _).setCell (p := ⟨O, 10, none⟩) hwO _).setCell (p := ⟨R, 0, none⟩) hwR _).setCell (p := ⟨R, 1, none⟩) hwR _).setCell (p := ⟨R, 2, none⟩) hwR _).setCell (p := ⟨R, 3, none⟩) hwR _).setCell (p := ⟨R, 4, none⟩) hwR _).setCell (p := ⟨R, 5, none⟩) hwR _).setCell (p := ⟨R, 6, none⟩) hwR _).setCell (p := ⟨R, 7, none⟩) hwR _).setCell (p := ⟨R, 8, none⟩) hwR _).setCell (p := ⟨R, 9, none⟩) hwR _).setCell (p := ⟨R, 10, none⟩) hwR _)⟩
/-- two messages that read alike -/
theorem eqM_same (gv cv pv mv : Value) (gs cs : List (Int × Int)) (ps ms : List Int) (kn sa ho ix pr bw er : Int) (gv2 cv2 pv2 mv2 : Value) (w : World) (hg : RdP w gv gs) (hc : RdP w cv cs) (hp : RdI w pv ps) (hm : RdI w mv ms) (hg2 : RdP w gv2 gs) (hc2 : RdP w cv2 cs) (hp2 : RdI w pv2 ps) (hm2 : RdI w mv2 ms) :
  Calls Tryz.prog 22 #[.agg #[.int .i64 kn, .int .i64 sa, .int .i64 ho, .int .i64 ix, gv, cv, pv, .int .i64 pr, mv, .int .i64 bw, .int .i64 er], .agg #[.int .i64 kn, .int .i64 sa, .int .i64 ho, .int .i64 ix, gv2, cv2, pv2, .int .i64 pr, mv2, .int .i64 bw, .int .i64 er]] w fun e w' => e = .returned (.bool true) ∧ Below w.heap.size w w' := by
 obtain ⟨bA, bB, B1, z⟩ := two w [.int .i64 kn, .int .i64 sa, .int .i64 ho, .int .i64 ix, gv, cv, pv, .int .i64 pr, mv, .int .i64 bw, .int .i64 er] [.int .i64 kn, .int .i64 sa, .int .i64 ho, .int .i64 ix, gv2, cv2, pv2, .int .i64 pr, mv2, .int .i64 bw, .int .i64 er] 52 52; replace hg := hg.keep B1; replace hc := hc.keep B1; replace hp := hp.keep B1; replace hm := hm.keep B1; replace hg2 := hg2.keep B1; replace hc2 := hc2.keep B1; replace hp2 := hp2.keep B1; replace hm2 := hm2.keep B1; clear z; have q0 : (kn != kn) = false := by simp
 have q1 : (sa != sa) = false := by simp
 have q2 : (ho != ho) = false := by simp
 have q3 : (ix != ix) = false := by simp
 have q4 : (er != er) = false := by simp
 go_enter Tryz.func22, Tryz.ntmps22
 go_wp2_with fail; refine (eqPS_same _ _ gs _ hg hg2).mono ?_; rintro e w1 ⟨rfl, hb⟩; replace bA := bA.keep hb; replace bB := bB.keep hb; replace hg := hg.keep hb; replace hc := hc.keep hb; replace hp := hp.keep hb; replace hm := hm.keep hb; replace hg2 := hg2.keep hb; replace hc2 := hc2.keep hb; replace hp2 := hp2.keep hb; replace hm2 := hm2.keep hb; replace B1 := below_step B1 hb; clear hb; have a5 := bA.c 5 rfl; have b5 := bB.c 5 rfl; go_wp2_with fail; clear a5 b5; refine (eqPS_same _ _ cs _ hc hc2).mono ?_; rintro e w2 ⟨rfl, hb⟩; replace bA := bA.keep hb; replace bB := bB.keep hb; replace hg := hg.keep hb; replace hc := hc.keep hb; replace hp := hp.keep hb; replace hm := hm.keep hb; replace hg2 := hg2.keep hb; replace hc2 := hc2.keep hb; replace hp2 := hp2.keep hb; replace hm2 := hm2.keep hb; replace B1 := below_step B1 hb; clear hb; have a6 := bA.c 6 rfl; have b6 := bB.c 6 rfl; have a7 := bA.c 7 rfl; have b7 := bB.c 7 rfl; have a8 := bA.c 8 rfl; have b8 := bB.c 8 rfl; have a9 := bA.c 9 rfl; have b9 := bB.c 9 rfl; go_wp2_with fail; clear a6 a7 a8 a9 b6 b7 b8 b9; refine (eqA_same _ _ _ _ ps ms pr bw _ hp hm hp2 hm2).mono ?_; rintro e w3 ⟨rfl, hb⟩; replace bA := bA.keep hb; replace bB := bB.keep hb; replace hg := hg.keep hb; replace hc := hc.keep hb; replace hp := hp.keep hb; replace hm := hm.keep hb; replace hg2 := hg2.keep hb; replace hc2 := hc2.keep hb; replace hp2 := hp2.keep hb; replace hm2 := hm2.keep hb; replace B1 := below_step B1 hb; clear hb; have a10 := bA.c 10 rfl; have b10 := bB.c 10 rfl; go_wp2
 go_ret
 exact ⟨rfl, B1⟩
end Go.Proofs.YtbcmoofpgffbhabGreat
namespace Go.Proofs.YtbcmoofpgffbhabGreat
open Go.ChangeShapes Go.WideShapes Go.ChangeAt Go.RowKit Go.BigFrame Go.Joins
set_option linter.unusedVariables false
set_option maxRecDepth 100000
set_option linter.unusedSimpArgs false
set_option maxRecDepth 100000

/-- w' is a later world in which the blocks of w from base on lie as they lay -/
def Agr (base : Nat) (w w' : World) : Prop := w.heap.size ≤ w'.heap.size ∧ ∀ i, base ≤ i → i < w.heap.size → w'.heap[i]? = w.heap[i]?
theorem Agr.refl (b : Nat) (w : World) : Agr b w w := ⟨Nat.le_refl _, fun _ _ _ => rfl⟩
theorem Agr.trans {b : Nat} {w w1 w2 : World} (h : Agr b w w1) (k : Agr b w1 w2) : Agr b w w2 := ⟨Nat.le_trans h.1 k.1, fun i h1 h2 => (k.2 i h1 (Nat.lt_of_lt_of_le h2 h.1)).trans (h.2 i h1 h2)⟩
theorem Agr.of_below {b : Nat} {w w' : World} (h : Below w.heap.size w w') : Agr b w w' := ⟨h.size, fun i _ hi => h.block i hi⟩
theorem Agr.up {b b' : Nat} {w w' : World} (h : Agr b w w') (hb : b ≤ b') : Agr b' w w' := ⟨h.1, fun i h1 h2 => h.2 i (Nat.le_trans hb h1) h2⟩
theorem agr_set {b B o : Nat} (w : World) {u : Value} (h : B < b) : Agr b w (w.setCell ⟨B, o, none⟩ u) := ⟨(grown_set w B o u).size, fun i hi hl => (grown_set w B o u).block i hl (by intro e; cases e; omega)⟩
/-- so it is in w, and in every later world in which the blocks from base on lie as they lay -/
def Fresh (b : Nat) (w : World) (P : World → Prop) : Prop := ∀ w', Agr b w w' → P w'
theorem Fresh.now {b : Nat} {w : World} {P : World → Prop} (h : Fresh b w P) : P w := h w (Agr.refl _ _)
theorem Fresh.agr {b : Nat} {w w' : World} {P : World → Prop} (h : Fresh b w P) (k : Agr b w w') : Fresh b w' P := fun x q => h x (k.trans q)
theorem Fresh.keep {b : Nat} {w w' : World} {P : World → Prop} (h : Fresh b w P) (k : Below w.heap.size w w') : Fresh b w' P := h.agr (.of_below k)
theorem Fresh.mono {b b' : Nat} {w : World} {P : World → Prop} (h : Fresh b w P) (k : b' ≤ b) : Fresh b' w P := fun x q => h x (q.up k)
theorem Fresh.far {b B o : Nat} {w : World} {u : Value} {P : World → Prop} (h : Fresh b w P) (k : B < b) : Fresh b (w.setCell ⟨B, o, none⟩ u) P := h.agr (agr_set w k)
theorem Fresh.imp {b : Nat} {w : World} {P Q : World → Prop} (h : Fresh b w P) (k : ∀ x, P x → Q x) : Fresh b w Q := fun x q => k x (h x q)
theorem ownsRow_agr {b e s n : Nat} {w w' : World} {v : Value} {xs : List Value} (h : w.ownsRow b e s v n xs) (k : Agr b w w') : w'.ownsRow b e s v n xs := by
 refine ⟨h.1, ?_⟩
 rcases h.2 with hn | ⟨g, cap, cur, hv, hb, hg, rest⟩
 ·exact .inl hn
 ·exact .inr ⟨g, cap, cur, hv, hb, (k.2 g hb (Array.getElem?_eq_some_iff.1 hg).1).trans hg, rest⟩
theorem bl_agr {b B : Nat} {w w' : World} {xs : List Value} (h : Bl w B xs) (k : Agr b w w') (hb : b ≤ B) : Bl w' B xs :=
 ⟨Nat.lt_of_lt_of_le h.lt k.1, fun i x e => (World.cell?_of_block (k.2 B hb h.lt)).trans (h.cs i x e), fun i hi => (World.frozen?_of_block (k.2 B hb h.lt)).trans (h.fz i hi)⟩
theorem OwnP.fresh {b : Nat} {w : World} {v : Value} {l : List (Int × Int)} (h : OwnP w b v l) : Fresh b w (fun W => RdP W v l) := fun w' k => OwnP.rd (w := w') (base := b) (ownsRow_agr h k)
theorem OwnI.fresh {b : Nat} {w : World} {v : Value} {l : List Int} (h : OwnI w b v l) (hl : ∀ x ∈ l, -9223372036854775808 ≤ x ∧ x ≤ 9223372036854775807) : Fresh b w (fun W => RdI W v l) := fun w' k => OwnI.rd (w := w') (base := b) (ownsRow_agr h k) hl
theorem OwnE.fresh {b : Nat} {w : World} {v : Value} {L : List Ent} (h : OwnE w b v L) (hd : ∀ i, i < L.length → BdE (L.getD i e0)) (hn : L.length ≤ 1048576) : Fresh b w (fun W => RdE W v L) := by
 intro w' k; obtain ⟨B, rfl, h1, xs, hl, hB, hx⟩ := h; refine OwnE.rd (base := b) ⟨B, rfl, h1, xs, hl, bl_agr hB k h1, fun i hi => ?_⟩ hd hn; obtain ⟨u1, u2, g1, g2, g3⟩ := hx i hi
 exact ⟨u1, u2, ownsRow_agr g1 (k.up (by omega)), ownsRow_agr g2 (k.up (by omega)), g3⟩
/-- a message -/
structure Mg where
 kn : Int
 sa : Int
 ho : Int
 ix : Int
 gs : List (Int × Int)
 cs : List (Int × Int)
 ps : List Int
 pr : Int
 ms : List Int
 bw : Int
 er : Int
def m0 : Mg := ⟨0, 0, 0, 0, [], [], [], 0, [], 0, 0⟩
instance : Inhabited Mg := ⟨m0⟩
def wtM (x : Mg) : Nat := x.gs.length + x.cs.length + x.ps.length + x.ms.length
def RdM (w : World) (gv cv pv mv : Value) (x : Mg) : Prop := RdP w gv x.gs ∧ RdP w cv x.cs ∧ RdI w pv x.ps ∧ RdI w mv x.ms
theorem RdM.keep {w w' : World} {gv cv pv mv : Value} {x : Mg} (h : RdM w gv cv pv mv x) (hb : Below w.heap.size w w') : RdM w' gv cv pv mv x := by
 obtain ⟨h0, h1, h2, h3⟩ := h
 exact ⟨h0.keep hb, h1.keep hb, h2.keep hb, h3.keep hb⟩
/-- the cells of block b from o on hold it -/
def AtM (w : World) (b o : Nat) (x : Mg) : Prop :=
 ∃ gv cv pv mv, RdM w gv cv pv mv x ∧ w.cell? ⟨b, o, none⟩ = some (.int .i64 x.kn) ∧ w.cell? ⟨b, o + 1, none⟩ = some (.int .i64 x.sa) ∧ w.cell? ⟨b, o + 2, none⟩ = some (.int .i64 x.ho) ∧ w.cell? ⟨b, o + 3, none⟩ = some (.int .i64 x.ix) ∧ w.cell? ⟨b, o + 4, none⟩ = some (gv) ∧ w.cell? ⟨b, o + 5, none⟩ = some (cv) ∧ w.cell? ⟨b, o + 6, none⟩ = some (pv) ∧ w.cell? ⟨b, o + 7, none⟩ = some (.int .i64 x.pr) ∧ w.cell? ⟨b, o + 8, none⟩ = some (mv) ∧ w.cell? ⟨b, o + 9, none⟩ = some (.int .i64 x.bw) ∧ w.cell? ⟨b, o + 10, none⟩ = some (.int .i64 x.er)
theorem AtM.keep {w w' : World} {b o : Nat} {x : Mg} (h : AtM w b o x) (hb : Below w.heap.size w w') : AtM w' b o x := by
 obtain ⟨gv, cv, pv, mv, hr, k0, k1, k2, k3, k4, k5, k6, k7, k8, k9, k10⟩ := h
 exact ⟨gv, cv, pv, mv, hr.keep hb, cell_keep hb (World.block_lt_of_cell? w _ k0) k0, cell_keep hb (World.block_lt_of_cell? w _ k1) k1, cell_keep hb (World.block_lt_of_cell? w _ k2) k2, cell_keep hb (World.block_lt_of_cell? w _ k3) k3, cell_keep hb (World.block_lt_of_cell? w _ k4) k4, cell_keep hb (World.block_lt_of_cell? w _ k5) k5, cell_keep hb (World.block_lt_of_cell? w _ k6) k6, cell_keep hb (World.block_lt_of_cell? w _ k7) k7, cell_keep hb (World.block_lt_of_cell? w _ k8) k8, cell_keep hb (World.block_lt_of_cell? w _ k9) k9, cell_keep hb (World.block_lt_of_cell? w _ k10) k10⟩
def RdMS (w : World) (v : Value) (L : List Mg) : Prop :=
 L.length ≤ 9223372036854775807 ∧
 ((∃ a c, v = .slice a 0 c ∧ L = [] ∧ (a = none → c = 0)) ∨
  ∃ b o c, v = .slice (some ⟨b, o, none⟩) L.length c ∧ 0 < L.length ∧ ∀ i, i < L.length → AtM w b (o + i * 11) (L.getD i m0))
theorem RdMS.keep {w w' : World} {v : Value} {L : List Mg} (h : RdMS w v L) (hb : Below w.heap.size w w') : RdMS w' v L := by
 obtain ⟨h2, h3⟩ := h; refine ⟨h2, ?_⟩
 rcases h3 with h3 | ⟨b, o, c, hv, hp, hc⟩
 ·exact .inl h3
 ·exact .inr ⟨b, o, c, hv, hp, fun i hi => (hc i hi).keep hb⟩
theorem RdMS.len {w : World} {v : Value} {L : List Mg} (h : RdMS w v L) : ∃ a c, v = .slice a L.length c := by
 rcases h.2 with ⟨a, c, rfl, rfl, hac⟩ | ⟨b, o, c, rfl, _⟩
 ·exact ⟨a, c, rfl⟩
 ·exact ⟨_, c, rfl⟩
theorem RdMS.el {w : World} {v : Value} {L : List Mg} (h : RdMS w v L) : ∃ a c, v = .slice a L.length c ∧ ∀ i, i < L.length → ∃ b o, a = some ⟨b, o, none⟩ ∧ AtM w b (o + i * 11) (L.getD i m0) := by
 rcases h.2 with ⟨a, c, rfl, rfl, -⟩ | ⟨b, o, c, rfl, -, hc⟩
 ·exact ⟨a, c, rfl, fun i hi => absurd hi (by simp)⟩
 ·exact ⟨_, c, rfl, fun i hi => ⟨b, o, rfl, hc i hi⟩⟩
theorem RdMS.nil (w : World) : RdMS w (.slice none 0 0) [] := ⟨by simp, .inl ⟨none, 0, rfl, rfl, fun _ => rfl⟩⟩
def wtMS (L : List Mg) : Nat := (L.map wtM).sum
theorem wtM_take {L : List Mg} {j : Nat} (h : j < L.length) : wtMS (L.take (j + 1)) = wtMS (L.take j) + wtM (L.getD j m0) := by
 unfold wtMS; rw [List.take_succ_eq_append_getElem h, List.map_append, List.sum_append]; have e : L.getD j m0 = L[j] := by simp [List.getD, h]
 rw [e]
 simp
theorem wtM_le (L : List Mg) (j : Nat) : wtMS (L.take j) ≤ wtMS L := by
 conv => rhs; rw [← List.take_append_drop j L]
 unfold wtMS; rw [List.map_append, List.sum_append]
 omega
theorem wtM_at {L : List Mg} {j : Nat} (h : j < L.length) : wtM (L.getD j m0) ≤ wtMS L := by
 have h1 := wtM_take h; have h2 := wtM_le L (j + 1)
 omega
section
variable {H : Type} {enc : TypeId × Value → H} {W : World} {base : Nat} {d : DataW H} {p : List MemPlace} {v : Value}
theorem M_trod {fuel : Nat} {x0 x1 x2 x3 x4 x5 x6 x7 x8 x9 x10 : Value} {y : DataW H × List MemPlace} (h : DataW.trod enc Tryz.prog W 0 (fun _ => true) true fuel 46 [x0, x1, x2, x3, x4, x5, x6, x7, x8, x9, x10] = some y) :
  ∃ E : Mg, x0 = .int .i64 E.kn ∧ x1 = .int .i64 E.sa ∧ x2 = .int .i64 E.ho ∧ x3 = .int .i64 E.ix ∧ x7 = .int .i64 E.pr ∧ x9 = .int .i64 E.bw ∧ x10 = .int .i64 E.er ∧ RdM W x4 x5 x6 x8 E := by
 obtain ⟨ys, n, _, hx, hl, hlen, hf⟩ := DataW.trod_struct Tryz.underlying46 h; obtain ⟨y0, y1, y2, y3, y4, y5, y6, y7, rfl⟩ := list8 hlen; clear hlen hl hx; have h0 := hf 0 _ rfl; have h1 := hf 1 _ rfl; have h2 := hf 2 _ rfl; have h3 := hf 3 _ rfl; have h4 := hf 4 _ rfl; have h5 := hf 5 _ rfl; have h6 := hf 6 _ rfl; have h7 := hf 7 _ rfl; clear hf
 simp [cellsI1, cellsP1, cellsA] at h0 h1 h2 h3 h4 h5 h6 h7
 obtain ⟨z0, z1, z2, z3, n2, -, -, g0, g1, g2, g3⟩ := trod_struct4 Tryz.underlying44 h6
 simp [cellsI1, cellsIS1] at g0 g1 g2 g3
 obtain ⟨q0, e0, -, -⟩ := DataW.trod_int Tryz.underlying3 h0; obtain ⟨q1, e1, -, -⟩ := DataW.trod_int Tryz.underlying3 h1; obtain ⟨q2, e2, -, -⟩ := DataW.trod_int Tryz.underlying3 h2; obtain ⟨q3, e3, -, -⟩ := DataW.trod_int Tryz.underlying3 h3; obtain ⟨q7, e7, -, -⟩ := DataW.trod_int Tryz.underlying3 g1; obtain ⟨q9, e9, -, -⟩ := DataW.trod_int Tryz.underlying3 g3; obtain ⟨q10, e10, -, -⟩ := DataW.trod_int Tryz.underlying3 h7; obtain ⟨gs, hg⟩ := rdP_trod h4; obtain ⟨cs, hc⟩ := rdP_trod h5; obtain ⟨ps, hp⟩ := rdI_trod g0; obtain ⟨ms, hm⟩ := rdI_trod g2
 simp at e0 e1 e2 e3 e7 e9 e10
 exact ⟨⟨q0, q1, q2, q3, gs, cs, ps, q7, ms, q9, q10⟩, e0, e1, e2, e3, e7, e9, e10, hg, hc, hp, hm⟩
theorem cellsMS : Tryz.prog.cellsOf 46 = 11 := by kernel_rfl
theorem listM {α : Type} {xs : List α} (h : xs.length = 11) : ∃ c0 c1 c2 c3 c4 c5 c6 c7 c8 c9 c10, xs = [c0, c1, c2, c3, c4, c5, c6, c7, c8, c9, c10] := by
 match xs, h with
 | [c0, c1, c2, c3, c4, c5, c6, c7, c8, c9, c10], _ => exact ⟨c0, c1, c2, c3, c4, c5, c6, c7, c8, c9, c10, rfl⟩
theorem rdMS_trod {fuel : Nat} {y : DataW H × List MemPlace} (h : DataW.trod enc Tryz.prog W 0 (fun _ => true) true fuel 195 [v] = some y) : ∃ L, RdMS W v L := by
 rcases Deep.open_slice Tryz.underlying195 h with ⟨hcs, _⟩ | ⟨a, len, cap, m, n, D, Pl, hcs, _, hl, hm, hmm, _, hx⟩
 ·obtain ⟨rfl, -⟩ := List.cons.inj hcs
  exact ⟨[], RdMS.nil W⟩
 ·obtain ⟨rfl, -⟩ := List.cons.inj hcs
  have hlm : len ≤ m := by rw [hmm]; split <;> omega
  obtain ⟨b, off, spot⟩ := a
  by_cases h0 : len = 0
  ·subst h0
   exact ⟨[], by simp, .inl ⟨_, cap, rfl, rfl, fun h => by cases h⟩⟩
  ·have hspot : spot = none := by
    obtain ⟨cs', h1, _⟩ := hx 0 (by omega); rw [cellsMS] at h1; obtain ⟨_, hlen, hcell⟩ := World.cells?_some h1; have h2 := hcell 0 (by omega); rw [List.getElem?_eq_getElem (by omega)] at h2
    simpa [Addr.add] using World.cell?_spot h2
   subst hspot; have hadd : ∀ o k, (⟨b, o, none⟩ : Addr).add k = ⟨b, o + k, none⟩ := fun o k => by unfold Addr.add; split <;> simp_all
   have hex : ∀ i, i < len → ∃ E : Mg, AtM W b (off + i * 11) E := by
    intro i hi; obtain ⟨cs', h1, h2⟩ := hx i (by omega); rw [cellsMS] at h1; obtain ⟨_, hlen, hcell⟩ := World.cells?_some h1; obtain ⟨x0, x1, x2, x3, x4, x5, x6, x7, x8, x9, x10, rfl⟩ := listM hlen; obtain ⟨E, rfl, rfl, rfl, rfl, rfl, rfl, rfl, hr⟩ := M_trod h2; have e0 := hcell 0 (by omega); have e1 := hcell 1 (by omega); have e2 := hcell 2 (by omega); have e3 := hcell 3 (by omega); have e4 := hcell 4 (by omega); have e5 := hcell 5 (by omega); have e6 := hcell 6 (by omega); have e7 := hcell 7 (by omega); have e8 := hcell 8 (by omega); have e9 := hcell 9 (by omega); have e10 := hcell 10 (by omega); simp only [hadd] at e0 e1 e2 e3 e4 e5 e6 e7 e8 e9 e10
    exact ⟨E, x4, x5, x6, x8, hr, e0, e1, e2, e3, e4, e5, e6, e7, e8, e9, e10⟩
   obtain ⟨f, hf⟩ := Deep.choose_lt hex; refine ⟨(List.range len).map f, by simp; unfold maxLen at hm; omega, .inr ⟨b, off, cap, by simp, by simp; omega, fun i hi => ?_⟩⟩; have hi : i < len := by simpa using hi
   rw [show ((List.range len).map f).getD i m0 = f i by simp [List.getD, hi]]
   exact hf i hi
end
set_option maxHeartbeats 1000000 in
theorem szM_l (gv cv pv mv : Value) (x : Mg) (left : Int) (w : World) (h : RdM w gv cv pv mv x) (hl0 : 0 ≤ left) (hl1 : left ≤ 1048576) :
  Calls Tryz.prog 18 #[.agg #[.int .i64 x.kn, .int .i64 x.sa, .int .i64 x.ho, .int .i64 x.ix, gv, cv, pv, .int .i64 x.pr, mv, .int .i64 x.bw, .int .i64 x.er], .int .i64 left] w fun e w' => ∃ r : Int, e = .returned (.int .i64 r) ∧ (¬ r < 0 → r = left - (wtM x : Nat)) ∧ (r < 0 → r = -1) ∧ Below w.heap.size w w' := by
 obtain ⟨bA, B0, z⟩ := one w [.int .i64 x.kn, .int .i64 x.sa, .int .i64 x.ho, .int .i64 x.ix, gv, cv, pv, .int .i64 x.pr, mv, .int .i64 x.bw, .int .i64 x.er] 46; replace h := h.keep B0; clear z
 by_cases h1 : left < x.gs.length
 ·have HE := Lib.hid (szN_lt h1)
  clear h1
  go_enter Tryz.func18, Tryz.ntmps18
  go_wp2_with fail; refine (szP_any _ x.gs _ _ h.1 hl0 hl1).mono ?_; rintro e w1 ⟨rfl, rfl⟩; rw [HE.out]; go_wp2
  go_ret
  exact ⟨-1, rfl, fun h => by omega, fun _ => rfl, B0⟩
 have h1' := szN_ge h1; obtain ⟨l1, hl1'⟩ : ∃ l1 : Int, left - x.gs.length = l1 := ⟨_, rfl⟩; have hl1a : 0 ≤ l1 := by omega
 have hl1b : l1 ≤ 1048576 := by omega
 have hn1 : ¬ l1 < 0 := by omega
 rw [hl1'] at h1'; have HE1 := Lib.hid h1'; have HL1 := Lib.hid hl1'; clear h1 h1' hl1'
 by_cases h2 : l1 < x.cs.length
 ·have HE2 := Lib.hid (szN_lt h2)
  clear h2
  go_enter Tryz.func18, Tryz.ntmps18
  go_wp2_with fail; refine (szP_any _ x.gs _ _ h.1 hl0 hl1).mono ?_; rintro e w1 ⟨rfl, rfl⟩; rw [HE1.out]; go_wp2_with fail; refine (szP_any _ x.cs _ _ h.2.1 hl1a hl1b).mono ?_; rintro e w1 ⟨rfl, rfl⟩; rw [HE2.out]; go_wp2
  go_ret
  exact ⟨-1, rfl, fun h => by omega, fun _ => rfl, B0⟩
 have h2' := szN_ge h2; obtain ⟨l2, hl2'⟩ : ∃ l2 : Int, l1 - x.cs.length = l2 := ⟨_, rfl⟩; have hl2a : 0 ≤ l2 := by omega
 have hl2b : l2 ≤ 1048576 := by omega
 have hn2 : ¬ l2 < 0 := by omega
 rw [hl2'] at h2'; have HE2 := Lib.hid h2'; have HL2 := Lib.hid hl2'; clear h2 h2' hl2'; obtain ⟨r, hr⟩ : ∃ r, szA l2 x.ps x.ms = r := ⟨_, rfl⟩; have hr1 : r < 0 → r = -1 := fun q => by rw [← hr] at q ⊢; exact szA_neg hl2a q
 have hr2 : ¬ r < 0 → r = l2 - (x.ps.length + x.ms.length : Nat) := fun q => by rw [← hr] at q ⊢; exact szA_eq q
 have HR := Lib.hid hr; have HR1 := Lib.hid hr1; have HR2 := Lib.hid hr2; clear hr hr1 hr2
 by_cases h3 : r < 0
 ·go_enter Tryz.func18, Tryz.ntmps18
  go_wp2_with fail; refine (szP_any _ x.gs _ _ h.1 hl0 hl1).mono ?_; rintro e w1 ⟨rfl, rfl⟩; rw [HE1.out]; go_wp2_with fail; refine (szP_any _ x.cs _ _ h.2.1 hl1a hl1b).mono ?_; rintro e w1 ⟨rfl, rfl⟩; rw [HE2.out]; go_wp2_with fail; refine (szA_any _ _ x.ps x.ms _ _ _ _ h.2.2.1 h.2.2.2 hl2a hl2b).mono ?_; rw [HR.out]; rintro e w1 ⟨rfl, hb⟩; replace B0 := below_step B0 hb; clear hb; go_wp2
  go_ret
  exact ⟨-1, rfl, fun h => by omega, fun _ => rfl, B0⟩
 ·go_enter Tryz.func18, Tryz.ntmps18
  go_wp2_with fail; refine (szP_any _ x.gs _ _ h.1 hl0 hl1).mono ?_; rintro e w1 ⟨rfl, rfl⟩; rw [HE1.out]; go_wp2_with fail; refine (szP_any _ x.cs _ _ h.2.1 hl1a hl1b).mono ?_; rintro e w1 ⟨rfl, rfl⟩; rw [HE2.out]; go_wp2_with fail; refine (szA_any _ _ x.ps x.ms _ _ _ _ h.2.2.1 h.2.2.2 hl2a hl2b).mono ?_; rw [HR.out]; rintro e w1 ⟨rfl, hb⟩; replace B0 := below_step B0 hb; clear hb; go_wp2
  go_ret
  refine ⟨r, rfl, fun h => ?_, fun h => by omega, B0⟩; have a1 := HR2.out h3; have a2 := HL1.out; have a3 := HL2.out; unfold wtM
  omega
theorem toM_f (gv cv pv mv : Value) (x : Mg) (w : World) (h : RdM w gv cv pv mv x) (hw : wtM x ≤ 1048576) :
  Calls Tryz.prog 20 #[.agg #[.int .i64 x.kn, .int .i64 x.sa, .int .i64 x.ho, .int .i64 x.ix, gv, cv, pv, .int .i64 x.pr, mv, .int .i64 x.bw, .int .i64 x.er]] w fun e w' => ∃ gv cv pv mv, e = .returned (.agg #[.int .i64 x.kn, .int .i64 x.sa, .int .i64 x.ho, .int .i64 x.ix, gv, cv, pv, .int .i64 x.pr, mv, .int .i64 x.bw, .int .i64 x.er]) ∧ Fresh w.heap.size w' (fun W => RdM W gv cv pv mv x) ∧ Below w.heap.size w w' := by
 unfold wtM at hw; refine (toM_any gv cv pv mv x.gs x.cs x.ps x.ms x.kn x.sa x.ho x.ix x.pr x.bw x.er w h.1 h.2.1 h.2.2.1 h.2.2.2 (by omega) (by omega) (by omega) (by omega)).mono ?_; rintro e w' ⟨ga, gx, ca, cx, pa, px, ma, mx, rfl, hG, hC, hP, hM, -, -, -, -, -, -, hb⟩
 exact ⟨_, _, _, _, rfl, fun W k => ⟨hG.fresh W k, hC.fresh W k, hP.fresh h.2.2.1.1 W k, hM.fresh h.2.2.2.1 W k⟩, hb⟩
theorem eqM_same' (gv cv pv mv gv2 cv2 pv2 mv2 : Value) (x : Mg) (w : World) (h : RdM w gv cv pv mv x) (h2 : RdM w gv2 cv2 pv2 mv2 x) :
  Calls Tryz.prog 22 #[.agg #[.int .i64 x.kn, .int .i64 x.sa, .int .i64 x.ho, .int .i64 x.ix, gv, cv, pv, .int .i64 x.pr, mv, .int .i64 x.bw, .int .i64 x.er], .agg #[.int .i64 x.kn, .int .i64 x.sa, .int .i64 x.ho, .int .i64 x.ix, gv2, cv2, pv2, .int .i64 x.pr, mv2, .int .i64 x.bw, .int .i64 x.er]] w fun e w' => e = .returned (.bool true) ∧ Below w.heap.size w w' :=
 eqM_same gv cv pv mv x.gs x.cs x.ps x.ms x.kn x.sa x.ho x.ix x.pr x.bw x.er gv2 cv2 pv2 mv2 w h.1 h.2.1 h.2.2.1 h.2.2.2 h2.1 h2.2.1 h2.2.2.1 h2.2.2.2
theorem szMS_l (v : Value) (L : List Mg) (left : Int) (w : World) (h : RdMS w v L) (hl0 : 0 ≤ left) (hl1 : left ≤ 1048576) :
  Calls Tryz.prog 225 #[v, .int .i64 left] w fun e w' => ∃ r : Int, e = .returned (.int .i64 r) ∧ (¬ r < 0 → r = left - (L.length : Nat) - (wtMS L : Nat)) ∧ (r < 0 → r = -1) ∧ Below w.heap.size w w' := by
 have hm := h.1; obtain ⟨a, c, rfl, hc⟩ := h.el; obtain ⟨n, hn⟩ : ∃ n, n = L.length := ⟨_, rfl⟩; rw [← hn] at hc hm ⊢; have HN := Lib.hid hn; clear h hn
 by_cases hbig : left - n < 0
 ·go_enter Tryz.func225, Tryz.ntmps225
  have hw1 : IntKind.i64.wrap (left - (n : Int)) = left - (n : Int) := wrap64_in _ (by omega) (by omega); go_wp2
  go_ret
  exact ⟨-1, rfl, fun h => by omega, fun _ => rfl, Below.refl _ _⟩
 ·have hnn : (n : Int) ≤ 1048576 := by omega
  have hw1 : IntKind.i64.wrap (left - (n : Int)) = left - (n : Int) := wrap64_in _ (by omega) (by omega)
  go_enter Tryz.func225, Tryz.ntmps225
  go_wp2
  go_loopw [1, 5] (fun q i wr => ∃ j : Nat, j ≤ n ∧ i = .int .i64 j ∧ (∃ l : Int, q = .int .i64 l ∧ 0 ≤ l ∧ l = left - (n : Int) - (wtMS (L.take j) : Nat)) ∧ Below w.heap.size w wr) (fun _ i _ => n - (intOf i).toNat)
  case atStart => exact ⟨0, Nat.zero_le _, rfl, ⟨_, rfl, by omega, by simp [wtMS]⟩, Below.refl _ _⟩
  case round =>
   obtain ⟨j, hj, rfl, ⟨l, rfl, hl0, hl⟩, hB⟩ := hrel; have HL := Lib.hid hl; have hl1 : l ≤ 1048576 := by omega
   clear hl
   by_cases hlt : j < n
   ·have hltI : (j : Int) < (n : Int) := by omega
    obtain ⟨b, o, rfl, hE⟩ := hc j hlt; obtain ⟨x, hx⟩ : ∃ x, L.getD j m0 = x := ⟨_, rfl⟩; rw [hx] at hE; obtain ⟨gv, cv, pv, mv, hr, k0, k1, k2, k3, k4, k5, k6, k7, k8, k9, k10⟩ := hE.keep hB; have HX := Lib.hid hx; have HCC := Lib.hid hc; clear hx hc hE; go_wp2_with fail; refine (szM_l gv cv pv mv x l _ hr hl0 hl1).mono ?_; rintro e w1 ⟨r, rfl, hr1, hr2, hb⟩; have hB2 := below_step hB hb; have HR1 := Lib.hid hr1; have HR2 := Lib.hid hr2; clear hb hB k0 k1 k2 k3 k4 k5 k6 k7 k8 k9 k10 hr hr1 hr2
    by_cases hneg : r < 0
    ·go_wp2
     go_ret
     exact ⟨-1, rfl, fun h => by omega, fun _ => rfl, hB2⟩
    ·go_wp2
     go_roundw
     case rel =>
      refine ⟨j + 1, by omega, by go_num, ⟨r, rfl, by omega, ?_⟩, hB2⟩; have h1 := wtM_take (L := L) (j := j) (by rw [← HN.out]; exact hlt); rw [HX.out] at h1; have h2 := HR1.out hneg; have h3 := HL.out
      omega
     case measure => simp [intOf]; omega
   ·have hkn : j = n := by omega
    subst hkn; have hw : wtMS (L.take j) = wtMS L := by rw [List.take_of_length_le (by rw [HN.out]; exact Nat.le_refl _)]
    have HW := Lib.hid hw; clear hc hw; go_wp2
    go_ret
    refine ⟨l, rfl, fun _ => ?_, fun h => by omega, hB⟩; have h3 := HL.out; rw [HW.out] at h3
    omega
/-- element i of the cells xs is that, its slices lie in blocks from base on -/
def MX (xs : List Value) (w : World) (base i : Nat) (x : Mg) : Prop :=
 ∃ gv cv pv mv, Fresh base w (fun W => RdM W gv cv pv mv x) ∧ xs[i * 11]? = some (.int .i64 x.kn) ∧ xs[i * 11 + 1]? = some (.int .i64 x.sa) ∧ xs[i * 11 + 2]? = some (.int .i64 x.ho) ∧ xs[i * 11 + 3]? = some (.int .i64 x.ix) ∧ xs[i * 11 + 4]? = some (gv) ∧ xs[i * 11 + 5]? = some (cv) ∧ xs[i * 11 + 6]? = some (pv) ∧ xs[i * 11 + 7]? = some (.int .i64 x.pr) ∧ xs[i * 11 + 8]? = some (mv) ∧ xs[i * 11 + 9]? = some (.int .i64 x.bw) ∧ xs[i * 11 + 10]? = some (.int .i64 x.er)
def MadeM (w : World) (B n k : Nat) (L : List Mg) : Prop := ∃ xs : List Value, xs.length = n * 11 ∧ Bl w B xs ∧ ∀ i, i < k → MX xs w (B + 1) i (L.getD i m0)
theorem MadeM.keep {w w' : World} {B n k : Nat} {L : List Mg} (h : MadeM w B n k L) (hb : Below w.heap.size w w') : MadeM w' B n k L := by
 obtain ⟨xs, hl, hB, hx⟩ := h; refine ⟨xs, hl, hB.keep hb, fun i hi => ?_⟩; obtain ⟨gv, cv, pv, mv, h1, h3⟩ := hx i hi
 exact ⟨gv, cv, pv, mv, h1.agr (.of_below hb), h3⟩
theorem MadeM.cell {w : World} {B n k : Nat} {L : List Mg} (h : MadeM w B n k L) (j : Nat) (hj : j < n * 11) : ∃ x, w.cell? ⟨B, j, none⟩ = some x ∧ w.frozen? ⟨B, j, none⟩ = false := by
 obtain ⟨xs, hl, hB, hx⟩ := h
 exact ⟨_, hB.c j (List.getElem?_eq_getElem (by omega)), hB.f j (List.getElem?_eq_getElem (by omega))⟩
theorem MadeM.step {w : World} {B n j : Nat} {L : List Mg} (h : MadeM w B n j L) (hk : j < n) {gv cv pv mv : Value} {x : Mg} (hE : L.getD j m0 = x) (h1 : Fresh (B + 1) w (fun W => RdM W gv cv pv mv x)) :
  MadeM (((((((((((w.setCell ⟨B, j * 11, none⟩ (.int .i64 x.kn)).setCell ⟨B, j * 11 + 1, none⟩ (.int .i64 x.sa)).setCell ⟨B, j * 11 + 2, none⟩ (.int .i64 x.ho)).setCell ⟨B, j * 11 + 3, none⟩ (.int .i64 x.ix)).setCell ⟨B, j * 11 + 4, none⟩ (gv)).setCell ⟨B, j * 11 + 5, none⟩ (cv)).setCell ⟨B, j * 11 + 6, none⟩ (pv)).setCell ⟨B, j * 11 + 7, none⟩ (.int .i64 x.pr)).setCell ⟨B, j * 11 + 8, none⟩ (mv)).setCell ⟨B, j * 11 + 9, none⟩ (.int .i64 x.bw)).setCell ⟨B, j * 11 + 10, none⟩ (.int .i64 x.er)) B n (j + 1) L := by
 obtain ⟨xs, hl, hB, hx⟩ := h; have ha : Agr (B + 1) w (((((((((((w.setCell ⟨B, j * 11, none⟩ (.int .i64 x.kn)).setCell ⟨B, j * 11 + 1, none⟩ (.int .i64 x.sa)).setCell ⟨B, j * 11 + 2, none⟩ (.int .i64 x.ho)).setCell ⟨B, j * 11 + 3, none⟩ (.int .i64 x.ix)).setCell ⟨B, j * 11 + 4, none⟩ (gv)).setCell ⟨B, j * 11 + 5, none⟩ (cv)).setCell ⟨B, j * 11 + 6, none⟩ (pv)).setCell ⟨B, j * 11 + 7, none⟩ (.int .i64 x.pr)).setCell ⟨B, j * 11 + 8, none⟩ (mv)).setCell ⟨B, j * 11 + 9, none⟩ (.int .i64 x.bw)).setCell ⟨B, j * 11 + 10, none⟩ (.int .i64 x.er)) := (((((((((((Agr.refl _ _).trans (agr_set _ (Nat.lt_succ_self B))).trans (agr_set _ (Nat.lt_succ_self B))).trans (agr_set _ (Nat.lt_succ_self B))).trans (agr_set _ (Nat.lt_succ_self B))).trans (agr_set _ (Nat.lt_succ_self B))).trans (agr_set _ (Nat.lt_succ_self B))).trans (agr_set _ (Nat.lt_succ_self B))).trans (agr_set _ (Nat.lt_succ_self B))).trans (agr_set _ (Nat.lt_succ_self B))).trans (agr_set _ (Nat.lt_succ_self B))).trans (agr_set _ (Nat.lt_succ_self B)); refine ⟨(((((((((((xs.set (j * 11) (.int .i64 x.kn)).set (j * 11 + 1) (.int .i64 x.sa)).set (j * 11 + 2) (.int .i64 x.ho)).set (j * 11 + 3) (.int .i64 x.ix)).set (j * 11 + 4) (gv)).set (j * 11 + 5) (cv)).set (j * 11 + 6) (pv)).set (j * 11 + 7) (.int .i64 x.pr)).set (j * 11 + 8) (mv)).set (j * 11 + 9) (.int .i64 x.bw)).set (j * 11 + 10) (.int .i64 x.er)), by simpa using hl, (((((((((((hB.set (j * 11) (.int .i64 x.kn)).set (j * 11 + 1) (.int .i64 x.sa)).set (j * 11 + 2) (.int .i64 x.ho)).set (j * 11 + 3) (.int .i64 x.ix)).set (j * 11 + 4) (gv)).set (j * 11 + 5) (cv)).set (j * 11 + 6) (pv)).set (j * 11 + 7) (.int .i64 x.pr)).set (j * 11 + 8) (mv)).set (j * 11 + 9) (.int .i64 x.bw)).set (j * 11 + 10) (.int .i64 x.er)), fun i hi => ?_⟩
 by_cases e : i = j
 ·have e' := e.symm
  subst e'; rw [hE]; refine ⟨gv, cv, pv, mv, h1.agr ha, ?_, ?_, ?_, ?_, ?_, ?_, ?_, ?_, ?_, ?_, ?_⟩
  all_goals simp only [List.getElem?_set, List.length_set]
  all_goals simp (disch := omega) [hl]
  all_goals omega
 ·obtain ⟨v0, v1, v2, v3, g1, c0, c1, c2, c3, c4, c5, c6, c7, c8, c9, c10⟩ := hx i (by omega)
  refine ⟨v0, v1, v2, v3, g1.agr ha, ?_, ?_, ?_, ?_, ?_, ?_, ?_, ?_, ?_, ?_, ?_⟩
  all_goals (repeat rw [List.getElem?_set_ne (by omega)])
  all_goals assumption
theorem MadeM.fresh {w : World} {B n b : Nat} {L : List Mg} (h : MadeM w B n n L) (hn : n = L.length) (hb : b ≤ B) (hl : L.length ≤ 1048576) : Fresh b w (fun W => RdMS W (.slice (some ⟨B, 0, none⟩) n n) L) := by
 obtain ⟨xs, hxl, hB, hx⟩ := h; intro w' k; subst hn; refine ⟨by omega, ?_⟩
 by_cases h0 : L.length = 0
 ·refine .inl ⟨some ⟨B, 0, none⟩, 0, by rw [h0], List.eq_nil_of_length_eq_zero h0, fun h => by cases h⟩
 ·refine .inr ⟨B, 0, L.length, rfl, by omega, fun i hi => ?_⟩
  obtain ⟨gv, cv, pv, mv, g1, c0, c1, c2, c3, c4, c5, c6, c7, c8, c9, c10⟩ := hx i hi; have hB' := bl_agr hB k hb; refine ⟨gv, cv, pv, mv, g1 w' (k.up (by omega)), ?_⟩; simp only [Nat.zero_add]
  exact ⟨hB'.c _ c0, hB'.c _ c1, hB'.c _ c2, hB'.c _ c3, hB'.c _ c4, hB'.c _ c5, hB'.c _ c6, hB'.c _ c7, hB'.c _ c8, hB'.c _ c9, hB'.c _ c10⟩
theorem infoMS : (Tryz.prog.info? 52).map (fun i => (i.zero, i.size, i.bytes)) = some (some (.agg #[.int .i64 0, .int .i64 0, .int .i64 0, .int .i64 0, .slice none 0 0, .slice none 0 0, .slice none 0 0, .int .i64 0, .slice none 0 0, .int .i64 0, .int .i64 0]), 11, 152) := by kernel_rfl
theorem make_MS (t : TypeId) (ht : Tryz.prog.underlying t = some (.slice 52)) (n : Nat) (hn : n ≤ 1048576) (w : World) :
  (Instr.makeSlice t (.int .i64 (n : Int)) (.int .i64 (n : Int))).run Tryz.prog w = .ok (.slice (some ⟨w.heap.size, 0, none⟩) n n) (w.alloc (.cells (madeCells #[Value.int .i64 0, Value.int .i64 0, Value.int .i64 0, Value.int .i64 0, Value.slice none 0 0, Value.slice none 0 0, Value.slice none 0 0, Value.int .i64 0, Value.slice none 0 0, Value.int .i64 0, Value.int .i64 0] (n * 11)) 52)) := by
 obtain ⟨i, hi, hzz⟩ := Option.map_eq_some_iff.1 infoMS; simp only [Prod.mk.injEq] at hzz; obtain ⟨hz, hs, hb⟩ := hzz; have hr := run_make (P := Tryz.prog) w t 52 i _ ht hi hz .i64 .i64 n n (by omega) (Int.le_refl _) (by rw [hb]; omega) (by omega)
 simpa only [Int.toNat_natCast, hs, Value.cells] using hr
theorem madeM_start (w : World) (n : Nat) (L : List Mg) : MadeM (w.alloc (.cells (madeCells #[Value.int .i64 0, Value.int .i64 0, Value.int .i64 0, Value.int .i64 0, Value.slice none 0 0, Value.slice none 0 0, Value.slice none 0 0, Value.int .i64 0, Value.slice none 0 0, Value.int .i64 0, Value.int .i64 0] (n * 11)) 52)) w.heap.size n 0 L := by
 refine ⟨(madeCells #[Value.int .i64 0, Value.int .i64 0, Value.int .i64 0, Value.int .i64 0, Value.slice none 0 0, Value.slice none 0 0, Value.slice none 0 0, Value.int .i64 0, Value.slice none 0 0, Value.int .i64 0, Value.int .i64 0] (n * 11)).toList, by simp [size_madeCells], ?_, fun i hi => absurd hi (Nat.not_lt_zero _)⟩; have := Bl.new w (madeCells #[Value.int .i64 0, Value.int .i64 0, Value.int .i64 0, Value.int .i64 0, Value.slice none 0 0, Value.slice none 0 0, Value.slice none 0 0, Value.int .i64 0, Value.slice none 0 0, Value.int .i64 0, Value.int .i64 0] (n * 11)).toList 52 w.heap.size rfl
 simpa using this
set_option maxHeartbeats 2000000 in
theorem toMS_f (v : Value) (L : List Mg) (w : World) (h : RdMS w v L) (hn : L.length + wtMS L ≤ 1048576) :
  Calls Tryz.prog 227 #[v] w fun e w' => ∃ u, e = .returned u ∧ Fresh w.heap.size w' (fun W => RdMS W u L) ∧ Below w.heap.size w w' := by
 have hmk := fun W => make_MS 140 Tryz.underlying140 L.length (by omega) W
 obtain ⟨a, c, rfl, hc⟩ := h.el; obtain ⟨n, hn'⟩ : ∃ n, n = L.length := ⟨_, rfl⟩; rw [← hn'] at hc hn hmk ⊢; have hnn : n ≤ 1048576 := by omega
 have HN := Lib.hid hn'; have HW := Lib.hid hn; clear hn' h hn; obtain ⟨B, hBB⟩ : ∃ B, B = w.heap.size := ⟨_, rfl⟩; have hst := madeM_start w n L; rw [← hBB] at hst; have HS := Lib.hid hst; have HBB := Lib.hid hBB; have hwB : w.heap.size ≤ B := by omega
 clear hst
 go_enter Tryz.func227, Tryz.ntmps227
 go_wp2; rw [← hBB]; clear hmk hBB
 go_loopw [4] (fun i wr => ∃ j : Nat, j ≤ n ∧ i = .int .i64 j ∧ MadeM wr B n j L ∧ Below w.heap.size w wr) (fun i _ => n - (intOf i).toNat)
 case atStart => exact ⟨0, Nat.zero_le _, rfl, HS.out, (Below.refl _ _).alloc (Nat.le_refl _) _⟩
 case round =>
  obtain ⟨j, hj, rfl, hM, hB⟩ := hrel
  by_cases hlt : j < n
  ·have hltI : (j : Int) < (n : Int) := by omega
   obtain ⟨b, o, rfl, hE⟩ := hc j hlt; obtain ⟨x, hx⟩ : ∃ x, L.getD j m0 = x := ⟨_, rfl⟩; rw [hx] at hE; obtain ⟨gv, cv, pv, mv, hr, k0, k1, k2, k3, k4, k5, k6, k7, k8, k9, k10⟩ := hE.keep hB; have HX := Lib.hid hx; have HCC := Lib.hid hc; clear hx hc hE
   have hwx : wtM x ≤ 1048576 := by
    have h1 := wtM_at (L := L) (j := j) (by rw [← HN.out]; exact hlt); rw [HX.out] at h1; have := HW.out
    omega
   have hBW : B < wr.heap.size := by
    obtain ⟨xs, hl, hBl, -⟩ := hM
    exact hBl.lt
   go_wp2_with fail; refine (toM_f gv cv pv mv x _ hr hwx).mono ?_; clear hr hwx k0 k1 k2 k3 k4 k5 k6 k7 k8 k9 k10; rintro e w2 ⟨gv, cv, pv, mv, rfl, h1, hb⟩; have hM2 := hM.keep hb; have hB2 := below_step hB hb; replace h1 := h1.mono (Nat.succ_le_of_lt hBW); clear hM hB hb hBW; obtain ⟨gva, gvx, rfl⟩ := (h1.now.1).len; obtain ⟨cva, cvx, rfl⟩ := (h1.now.2.1).len; obtain ⟨pva, pvx, rfl⟩ := (h1.now.2.2.1).len; obtain ⟨mva, mvx, rfl⟩ := (h1.now.2.2.2).len; obtain ⟨p0, g0, f0⟩ := hM2.cell (j * 11) (by omega); obtain ⟨p1, g1, f1⟩ := hM2.cell (j * 11 + 1) (by omega); obtain ⟨p2, g2, f2⟩ := hM2.cell (j * 11 + 2) (by omega); obtain ⟨p3, g3, f3⟩ := hM2.cell (j * 11 + 3) (by omega); obtain ⟨p4, g4, f4⟩ := hM2.cell (j * 11 + 4) (by omega); obtain ⟨p5, g5, f5⟩ := hM2.cell (j * 11 + 5) (by omega); obtain ⟨p6, g6, f6⟩ := hM2.cell (j * 11 + 6) (by omega); obtain ⟨p7, g7, f7⟩ := hM2.cell (j * 11 + 7) (by omega); obtain ⟨p8, g8, f8⟩ := hM2.cell (j * 11 + 8) (by omega); obtain ⟨p9, g9, f9⟩ := hM2.cell (j * 11 + 9) (by omega); obtain ⟨p10, g10, f10⟩ := hM2.cell (j * 11 + 10) (by omega); have HM := Lib.hid (hM2.step hlt HX.out h1); have hB3 := (((((((((((hB2.setCell (p := ⟨B, j * 11, none⟩) hwB (.int .i64 x.kn)).setCell (p := ⟨B, j * 11 + 1, none⟩) hwB (.int .i64 x.sa)).setCell (p := ⟨B, j * 11 + 2, none⟩) hwB (.int .i64 x.ho)).setCell (p := ⟨B, j * 11 + 3, none⟩) hwB (.int .i64 x.ix)).setCell (p := ⟨B, j * 11 + 4, none⟩) hwB (.slice gva x.gs.length gvx)).setCell (p := ⟨B, j * 11 + 5, none⟩) hwB (.slice cva x.cs.length cvx)).setCell (p := ⟨B, j * 11 + 6, none⟩) hwB (.slice pva x.ps.length pvx)).setCell (p := ⟨B, j * 11 + 7, none⟩) hwB (.int .i64 x.pr)).setCell (p := ⟨B, j * 11 + 8, none⟩) hwB (.slice mva x.ms.length mvx)).setCell (p := ⟨B, j * 11 + 9, none⟩) hwB (.int .i64 x.bw)).setCell (p := ⟨B, j * 11 + 10, none⟩) hwB (.int .i64 x.er)); clear hM2 hB2 h1; go_wp2
   go_roundw
   case rel => exact ⟨j + 1, by omega, by go_num, HM.out, hB3⟩
   case measure => simp [intOf]; omega
  ·have hkn : j = n := by omega
   subst hkn; clear hc; have HF := Lib.hid (hM.fresh (b := w.heap.size) HN.out hwB (by rw [← HN.out]; exact hnn)); go_wp2
   go_ret
   exact ⟨.slice (some ⟨B, 0, none⟩) j j, rfl, HF.out, hB⟩
set_option maxHeartbeats 4000000 in
theorem eqMS_same (v u : Value) (L : List Mg) (w : World) (h1 : RdMS w v L) (h2 : RdMS w u L) :
  Calls Tryz.prog 224 #[v, u] w fun e w' => e = .returned (.bool true) ∧ Below w.heap.size w w' := by
 have hm1 := h1.1; obtain ⟨a, c, rfl, hc⟩ := h1.el; obtain ⟨a', c', rfl, hc'⟩ := h2.el; obtain ⟨n, hn⟩ : ∃ n, n = L.length := ⟨_, rfl⟩; rw [← hn] at hc hc' hm1 ⊢; have HN := Lib.hid hn; clear hn h1 h2; have hnn : ((n : Int) != (n : Int)) = false := by simp
 go_enter Tryz.func224, Tryz.ntmps224
 go_wp2
 go_loopw [5] (fun i wr => ∃ j : Nat, j ≤ n ∧ i = .int .i64 j ∧ Below w.heap.size w wr) (fun i _ => n - (intOf i).toNat)
 case atStart => exact ⟨0, Nat.zero_le _, rfl, Below.refl _ _⟩
 case round =>
  obtain ⟨j, hk, rfl, hB⟩ := hrel
  by_cases hlt : j < n
  ·have hltI : (j : Int) < (n : Int) := by omega
   obtain ⟨b, o, rfl, hE⟩ := hc j hlt; obtain ⟨b', o', rfl, hE'⟩ := hc' j hlt; obtain ⟨x, hx⟩ : ∃ x, L.getD j m0 = x := ⟨_, rfl⟩; rw [hx] at hE hE'; obtain ⟨gv, cv, pv, mv, hr, k0, k1, k2, k3, k4, k5, k6, k7, k8, k9, k10⟩ := hE.keep hB; obtain ⟨gv2, cv2, pv2, mv2, hr2, m0, m1, m2, m3, m4, m5, m6, m7, m8, m9, m10⟩ := hE'.keep hB; clear hx hc hc' hE hE'; go_wp2
   go_region_held3 (fun w' => Over wr w' ∧ w'.cell? ⟨b, o + j * 11, none⟩ = some (.int .i64 x.kn) ∧ w'.cell? ⟨b, o + j * 11 + 1, none⟩ = some (.int .i64 x.sa) ∧ w'.cell? ⟨b, o + j * 11 + 2, none⟩ = some (.int .i64 x.ho) ∧ w'.cell? ⟨b, o + j * 11 + 3, none⟩ = some (.int .i64 x.ix) ∧ w'.cell? ⟨b, o + j * 11 + 4, none⟩ = some (gv) ∧ w'.cell? ⟨b, o + j * 11 + 5, none⟩ = some (cv) ∧ w'.cell? ⟨b, o + j * 11 + 6, none⟩ = some (pv) ∧ w'.cell? ⟨b, o + j * 11 + 7, none⟩ = some (.int .i64 x.pr) ∧ w'.cell? ⟨b, o + j * 11 + 8, none⟩ = some (mv) ∧ w'.cell? ⟨b, o + j * 11 + 9, none⟩ = some (.int .i64 x.bw) ∧ w'.cell? ⟨b, o + j * 11 + 10, none⟩ = some (.int .i64 x.er) ∧ w'.cell? ⟨b', o' + j * 11, none⟩ = some (.int .i64 x.kn) ∧ w'.cell? ⟨b', o' + j * 11 + 1, none⟩ = some (.int .i64 x.sa) ∧ w'.cell? ⟨b', o' + j * 11 + 2, none⟩ = some (.int .i64 x.ho) ∧ w'.cell? ⟨b', o' + j * 11 + 3, none⟩ = some (.int .i64 x.ix) ∧ w'.cell? ⟨b', o' + j * 11 + 4, none⟩ = some (gv2) ∧ w'.cell? ⟨b', o' + j * 11 + 5, none⟩ = some (cv2) ∧ w'.cell? ⟨b', o' + j * 11 + 6, none⟩ = some (pv2) ∧ w'.cell? ⟨b', o' + j * 11 + 7, none⟩ = some (.int .i64 x.pr) ∧ w'.cell? ⟨b', o' + j * 11 + 8, none⟩ = some (mv2) ∧ w'.cell? ⟨b', o' + j * 11 + 9, none⟩ = some (.int .i64 x.bw) ∧ w'.cell? ⟨b', o' + j * 11 + 10, none⟩ = some (.int .i64 x.er))
    ((first | exact ⟨over_drew _, k0, k1, k2, k3, k4, k5, k6, k7, k8, k9, k10, m0, m1, m2, m3, m4, m5, m6, m7, m8, m9, m10⟩ | exact (fun o => ⟨o, over_cell o (World.block_lt_of_cell? wr _ k0) k0, over_cell o (World.block_lt_of_cell? wr _ k1) k1, over_cell o (World.block_lt_of_cell? wr _ k2) k2, over_cell o (World.block_lt_of_cell? wr _ k3) k3, over_cell o (World.block_lt_of_cell? wr _ k4) k4, over_cell o (World.block_lt_of_cell? wr _ k5) k5, over_cell o (World.block_lt_of_cell? wr _ k6) k6, over_cell o (World.block_lt_of_cell? wr _ k7) k7, over_cell o (World.block_lt_of_cell? wr _ k8) k8, over_cell o (World.block_lt_of_cell? wr _ k9) k9, over_cell o (World.block_lt_of_cell? wr _ k10) k10, over_cell o (World.block_lt_of_cell? wr _ m0) m0, over_cell o (World.block_lt_of_cell? wr _ m1) m1, over_cell o (World.block_lt_of_cell? wr _ m2) m2, over_cell o (World.block_lt_of_cell? wr _ m3) m3, over_cell o (World.block_lt_of_cell? wr _ m4) m4, over_cell o (World.block_lt_of_cell? wr _ m5) m5, over_cell o (World.block_lt_of_cell? wr _ m6) m6, over_cell o (World.block_lt_of_cell? wr _ m7) m7, over_cell o (World.block_lt_of_cell? wr _ m8) m8, over_cell o (World.block_lt_of_cell? wr _ m9) m9, over_cell o (World.block_lt_of_cell? wr _ m10) m10⟩) (over_step (by assumption : Over wr _ ∧ _).1 (by assumption))))
    ((first | (go_at_call 22; refine (eqM_same' gv cv pv mv gv2 cv2 pv2 mv2 x _ (hr.keep (‹Over wr _ ∧ _›).1) (hr2.keep (‹Over wr _ ∧ _›).1)).mono ?_; rintro e w6 ⟨rfl, hbb⟩)))
   rename_i hH
   replace hB := below_step hB hH.1; clear hH hbb k0 k1 k2 k3 k4 k5 k6 k7 k8 k9 k10 m0 m1 m2 m3 m4 m5 m6 m7 m8 m9 m10 hr hr2; go_wp2
   go_roundw
   case rel => exact ⟨j + 1, by omega, by go_num, hB⟩
   case measure => simp [intOf]; omega
  ·have hkn : j = n := by omega
   clear hc hc'; go_wp2
   go_ret
   exact ⟨rfl, hB⟩
end Go.Proofs.YtbcmoofpgffbhabGreat
namespace Go.Proofs.YtbcmoofpgffbhabGreat
open Go.ChangeShapes Go.WideShapes Go.ChangeAt Go.RowKit Go.BigFrame Go.Joins
set_option linter.unusedVariables false
set_option maxRecDepth 100000
set_option linter.unusedSimpArgs false
set_option maxRecDepth 100000

def n0 : Nd := ⟨0, [], 0, false, [], []⟩
instance : Inhabited Nd := ⟨n0⟩
/-- the cells of block b from o on hold it -/
def AtN (w : World) (b o : Nat) (x : Nd) : Prop :=
 ∃ ov rv sv, RdN w ov rv sv x ∧ w.cell? ⟨b, o, none⟩ = some (.int .i64 x.an) ∧ w.cell? ⟨b, o + 1, none⟩ = some (ov) ∧ w.cell? ⟨b, o + 2, none⟩ = some (.int .i64 x.bw) ∧ w.cell? ⟨b, o + 3, none⟩ = some (.bool x.dr) ∧ w.cell? ⟨b, o + 4, none⟩ = some (rv) ∧ w.cell? ⟨b, o + 5, none⟩ = some (sv)
theorem AtN.keep {w w' : World} {b o : Nat} {x : Nd} (h : AtN w b o x) (hb : Below w.heap.size w w') : AtN w' b o x := by
 obtain ⟨ov, rv, sv, hr, k0, k1, k2, k3, k4, k5⟩ := h
 exact ⟨ov, rv, sv, hr.keep hb, cell_keep hb (World.block_lt_of_cell? w _ k0) k0, cell_keep hb (World.block_lt_of_cell? w _ k1) k1, cell_keep hb (World.block_lt_of_cell? w _ k2) k2, cell_keep hb (World.block_lt_of_cell? w _ k3) k3, cell_keep hb (World.block_lt_of_cell? w _ k4) k4, cell_keep hb (World.block_lt_of_cell? w _ k5) k5⟩
def RdNS (w : World) (v : Value) (L : List Nd) : Prop :=
 L.length ≤ 9223372036854775807 ∧
 ((∃ a c, v = .slice a 0 c ∧ L = [] ∧ (a = none → c = 0)) ∨
  ∃ b o c, v = .slice (some ⟨b, o, none⟩) L.length c ∧ 0 < L.length ∧ ∀ i, i < L.length → AtN w b (o + i * 6) (L.getD i n0))
theorem RdNS.keep {w w' : World} {v : Value} {L : List Nd} (h : RdNS w v L) (hb : Below w.heap.size w w') : RdNS w' v L := by
 obtain ⟨h2, h3⟩ := h; refine ⟨h2, ?_⟩
 rcases h3 with h3 | ⟨b, o, c, hv, hp, hc⟩
 ·exact .inl h3
 ·exact .inr ⟨b, o, c, hv, hp, fun i hi => (hc i hi).keep hb⟩
theorem RdNS.len {w : World} {v : Value} {L : List Nd} (h : RdNS w v L) : ∃ a c, v = .slice a L.length c := by
 rcases h.2 with ⟨a, c, rfl, rfl, hac⟩ | ⟨b, o, c, rfl, _⟩
 ·exact ⟨a, c, rfl⟩
 ·exact ⟨_, c, rfl⟩
theorem RdNS.el {w : World} {v : Value} {L : List Nd} (h : RdNS w v L) : ∃ a c, v = .slice a L.length c ∧ ∀ i, i < L.length → ∃ b o, a = some ⟨b, o, none⟩ ∧ AtN w b (o + i * 6) (L.getD i n0) := by
 rcases h.2 with ⟨a, c, rfl, rfl, -⟩ | ⟨b, o, c, rfl, -, hc⟩
 ·exact ⟨a, c, rfl, fun i hi => absurd hi (by simp)⟩
 ·exact ⟨_, c, rfl, fun i hi => ⟨b, o, rfl, hc i hi⟩⟩
theorem RdNS.nil (w : World) : RdNS w (.slice none 0 0) [] := ⟨by simp, .inl ⟨none, 0, rfl, rfl, fun _ => rfl⟩⟩
def wtNS (L : List Nd) : Nat := (L.map wtN).sum
theorem wtN_take {L : List Nd} {j : Nat} (h : j < L.length) : wtNS (L.take (j + 1)) = wtNS (L.take j) + wtN (L.getD j n0) := by
 unfold wtNS; rw [List.take_succ_eq_append_getElem h, List.map_append, List.sum_append]; have e : L.getD j n0 = L[j] := by simp [List.getD, h]
 rw [e]
 simp
theorem wtN_le (L : List Nd) (j : Nat) : wtNS (L.take j) ≤ wtNS L := by
 conv => rhs; rw [← List.take_append_drop j L]
 unfold wtNS; rw [List.map_append, List.sum_append]
 omega
theorem wtN_at {L : List Nd} {j : Nat} (h : j < L.length) : wtN (L.getD j n0) ≤ wtNS L := by
 have h1 := wtN_take h; have h2 := wtN_le L (j + 1)
 omega
section
variable {H : Type} {enc : TypeId × Value → H} {W : World} {base : Nat} {d : DataW H} {p : List MemPlace} {v : Value}
theorem N_trod {fuel : Nat} {c0 c1 c2 c3 c4 c5 : Value} {y : DataW H × List MemPlace} (h : DataW.trod enc Tryz.prog W 0 (fun _ => true) true fuel 27 [c0, c1, c2, c3, c4, c5] = some y) :
  ∃ E : Nd, c0 = .int .i64 E.an ∧ c2 = .int .i64 E.bw ∧ c3 = .bool E.dr ∧ RdN W c1 c4 c5 E := by
 obtain ⟨ys, n, _, hx, hl, hlen, hf⟩ := DataW.trod_struct Tryz.underlying27 h; obtain ⟨y0, y1, y2, y3, y4, y5, rfl⟩ := list6 hlen; have h0 := hf 0 _ rfl; have h1 := hf 1 _ rfl; have h2 := hf 2 _ rfl; have h3 := hf 3 _ rfl; have h4 := hf 4 _ rfl; have h5 := hf 5 _ rfl; clear hf
 simp [cellsI1e, cellsPS1n, cellsB1n, cellsRb] at h0 h1 h2 h3 h4 h5
 obtain ⟨x0, e0, -, -⟩ := DataW.trod_int Tryz.underlying3 h0; obtain ⟨x2, e2, -, -⟩ := DataW.trod_int Tryz.underlying3 h2; obtain ⟨x3, e3, -⟩ := DataW.trod_bool Tryz.underlying4 h3; obtain ⟨l1, g1⟩ := rdP_trod h1; obtain ⟨l4, g4⟩ := rib_trod h4; obtain ⟨l5, g5⟩ := rib_trod h5
 simp at e0 e2 e3
 exact ⟨⟨x0, l1, x2, x3, l4, l5⟩, e0, e2, e3, g1, g4, g5⟩
theorem cellsNS : Tryz.prog.cellsOf 27 = 6 := by kernel_rfl
theorem listN {α : Type} {xs : List α} (h : xs.length = 6) : ∃ c0 c1 c2 c3 c4 c5, xs = [c0, c1, c2, c3, c4, c5] := by
 match xs, h with
 | [c0, c1, c2, c3, c4, c5], _ => exact ⟨c0, c1, c2, c3, c4, c5, rfl⟩
theorem rdNS_trod {fuel : Nat} {y : DataW H × List MemPlace} (h : DataW.trod enc Tryz.prog W 0 (fun _ => true) true fuel 66 [v] = some y) : ∃ L, RdNS W v L := by
 rcases Deep.open_slice Tryz.underlying66 h with ⟨hcs, _⟩ | ⟨a, len, cap, m, n, D, Pl, hcs, _, hl, hm, hmm, _, hx⟩
 ·obtain ⟨rfl, -⟩ := List.cons.inj hcs
  exact ⟨[], RdNS.nil W⟩
 ·obtain ⟨rfl, -⟩ := List.cons.inj hcs
  have hlm : len ≤ m := by rw [hmm]; split <;> omega
  obtain ⟨b, off, spot⟩ := a
  by_cases h0 : len = 0
  ·subst h0
   exact ⟨[], by simp, .inl ⟨_, cap, rfl, rfl, fun h => by cases h⟩⟩
  ·have hspot : spot = none := by
    obtain ⟨cs', h1, _⟩ := hx 0 (by omega); rw [cellsNS] at h1; obtain ⟨_, hlen, hcell⟩ := World.cells?_some h1; have h2 := hcell 0 (by omega); rw [List.getElem?_eq_getElem (by omega)] at h2
    simpa [Addr.add] using World.cell?_spot h2
   subst hspot; have hadd : ∀ o k, (⟨b, o, none⟩ : Addr).add k = ⟨b, o + k, none⟩ := fun o k => by unfold Addr.add; split <;> simp_all
   have hex : ∀ i, i < len → ∃ E : Nd, AtN W b (off + i * 6) E := by
    intro i hi; obtain ⟨cs', h1, h2⟩ := hx i (by omega); rw [cellsNS] at h1; obtain ⟨_, hlen, hcell⟩ := World.cells?_some h1; obtain ⟨x0, x1, x2, x3, x4, x5, rfl⟩ := listN hlen; obtain ⟨E, rfl, rfl, rfl, hr⟩ := N_trod h2; have e0 := hcell 0 (by omega); have e1 := hcell 1 (by omega); have e2 := hcell 2 (by omega); have e3 := hcell 3 (by omega); have e4 := hcell 4 (by omega); have e5 := hcell 5 (by omega); simp only [hadd] at e0 e1 e2 e3 e4 e5
    exact ⟨E, x1, x4, x5, hr, e0, e1, e2, e3, e4, e5⟩
   obtain ⟨f, hf⟩ := Deep.choose_lt hex; refine ⟨(List.range len).map f, by simp; unfold maxLen at hm; omega, .inr ⟨b, off, cap, by simp, by simp; omega, fun i hi => ?_⟩⟩; have hi : i < len := by simpa using hi
   rw [show ((List.range len).map f).getD i n0 = f i by simp [List.getD, hi]]
   exact hf i hi
end
theorem szN_l (ov rv sv : Value) (N : Nd) (left : Int) (w : World) (h : RdN w ov rv sv N) (hl0 : 0 ≤ left) (hl1 : left ≤ 1048576) :
  Calls Tryz.prog 9 #[.agg #[.int .i64 N.an, ov, .int .i64 N.bw, .bool N.dr, rv, sv], .int .i64 left] w fun e w' => ∃ r : Int, e = .returned (.int .i64 r) ∧ (¬ r < 0 → r = left - (wtN N : Nat)) ∧ (r < 0 → r = -1) ∧ Below w.heap.size w w' := by
 obtain ⟨bA, B0, z⟩ := one w [.int .i64 N.an, ov, .int .i64 N.bw, .bool N.dr, rv, sv] 27; replace h := h.keep B0; clear z; have a1 := bA.c 1 rfl
 by_cases hlt : left < (N.own.length : Int)
 ·have e := szN_lt hlt
  have HE := Lib.hid e; clear e
  go_enter Tryz.func9, Tryz.ntmps9
  go_wp2_with fail; refine (szP_any ov N.own _ _ h.1 (by omega) (by omega)).mono ?_; rw [HE.out]; rintro e w1 ⟨rfl, rfl⟩; go_wp2
  go_ret
  exact ⟨-1, rfl, fun q => by omega, fun _ => rfl, B0⟩
 ·have e := szN_ge hlt
  obtain ⟨r, hr⟩ : ∃ r : Int, r = left - (N.own.length : Int) := ⟨_, rfl⟩; have hr0 : 0 ≤ r := by omega
  have hr1 : r ≤ 1048576 := by omega
  have hrn : ¬ r < 0 := by omega
  rw [← hr] at e; have HE := Lib.hid e; have HR := Lib.hid hr; clear e hr hlt
  go_enter Tryz.func9, Tryz.ntmps9
  go_wp2_with fail; refine (szP_any ov N.own _ _ h.1 (by omega) (by omega)).mono ?_; rw [HE.out]; rintro e w1 ⟨rfl, rfl⟩; have a4 := bA.c 4 rfl; go_wp2_with fail; refine (szRb_l rv N.rib r _ h.2.1 hr0 hr1).mono ?_; rintro e w2 ⟨q, rfl, hq, hb⟩; replace bA := bA.keep hb; replace h := h.keep hb; replace B0 := below_step B0 hb; have HQ := Lib.hid hq; clear hb hq a4
  by_cases hqn : q < 0
  ·go_wp2_with fail
   go_ret
   exact ⟨-1, rfl, fun q => by omega, fun _ => rfl, B0⟩
  ·have hq1 : q ≤ 1048576 := by have := HQ.out hqn; omega
   have hq0 : 0 ≤ q := by omega
   have a5 := bA.c 5 rfl; go_wp2_with fail; refine (szRb_l sv N.sent q _ h.2.2 hq0 hq1).mono ?_; rintro e w3 ⟨s, rfl, hs, hb⟩; replace B0 := below_step B0 hb; have HS := Lib.hid hs; clear hb hs a5
   by_cases hsn : s < 0
   ·go_wp2_with fail
    go_ret
    exact ⟨-1, rfl, fun q => by omega, fun _ => rfl, B0⟩
   ·go_wp2_with fail
    go_ret
    refine ⟨s, rfl, fun _ => ?_, fun q => by omega, B0⟩; have e1 := HS.out hsn; have e2 := HQ.out hqn; have e3 := HR.out; unfold wtN
    omega
theorem toN_f (ov rv sv : Value) (x : Nd) (w : World) (h : RdN w ov rv sv x) (hw : wtN x ≤ 1048576) :
  Calls Tryz.prog 11 #[.agg #[.int .i64 x.an, ov, .int .i64 x.bw, .bool x.dr, rv, sv]] w fun e w' => ∃ ov rv sv, e = .returned (.agg #[.int .i64 x.an, ov, .int .i64 x.bw, .bool x.dr, rv, sv]) ∧ Fresh w.heap.size w' (fun W => RdN W ov rv sv x) ∧ Below w.heap.size w w' := by
 refine (toNd_any ov rv sv x w h hw).mono ?_; rintro e w' ⟨ov, ru, su, h1, h2, rfl, ho, -, hr, -, hs, -, q1, q2, -, hb⟩; unfold wtN at hw
 exact ⟨_, _, _, rfl, fun W k => ⟨ho.fresh W k, hr.fresh h.2.1.bd (by omega) W (k.up q1), hs.fresh h.2.2.bd (by omega) W (k.up (Nat.le_trans q1 q2))⟩, hb⟩
theorem eqN_same (ov rv sv ov2 rv2 sv2 : Value) (x : Nd) (w : World) (h : RdN w ov rv sv x) (h2 : RdN w ov2 rv2 sv2 x) :
  Calls Tryz.prog 14 #[.agg #[.int .i64 x.an, ov, .int .i64 x.bw, .bool x.dr, rv, sv], .agg #[.int .i64 x.an, ov2, .int .i64 x.bw, .bool x.dr, rv2, sv2]] w fun e w' => e = .returned (.bool true) ∧ Below w.heap.size w w' := eqNd_same ov rv sv ov2 rv2 sv2 x w h h2
theorem szNS_l (v : Value) (L : List Nd) (left : Int) (w : World) (h : RdNS w v L) (hl0 : 0 ≤ left) (hl1 : left ≤ 1048576) :
  Calls Tryz.prog 85 #[v, .int .i64 left] w fun e w' => ∃ r : Int, e = .returned (.int .i64 r) ∧ (¬ r < 0 → r = left - (L.length : Nat) - (wtNS L : Nat)) ∧ (r < 0 → r = -1) ∧ Below w.heap.size w w' := by
 have hm := h.1; obtain ⟨a, c, rfl, hc⟩ := h.el; obtain ⟨n, hn⟩ : ∃ n, n = L.length := ⟨_, rfl⟩; rw [← hn] at hc hm ⊢; have HN := Lib.hid hn; clear h hn
 by_cases hbig : left - n < 0
 ·go_enter Tryz.func85, Tryz.ntmps85
  have hw1 : IntKind.i64.wrap (left - (n : Int)) = left - (n : Int) := wrap64_in _ (by omega) (by omega); go_wp2
  go_ret
  exact ⟨-1, rfl, fun h => by omega, fun _ => rfl, Below.refl _ _⟩
 ·have hnn : (n : Int) ≤ 1048576 := by omega
  have hw1 : IntKind.i64.wrap (left - (n : Int)) = left - (n : Int) := wrap64_in _ (by omega) (by omega)
  go_enter Tryz.func85, Tryz.ntmps85
  go_wp2
  go_loopw [1, 5] (fun q i wr => ∃ j : Nat, j ≤ n ∧ i = .int .i64 j ∧ (∃ l : Int, q = .int .i64 l ∧ 0 ≤ l ∧ l = left - (n : Int) - (wtNS (L.take j) : Nat)) ∧ Below w.heap.size w wr) (fun _ i _ => n - (intOf i).toNat)
  case atStart => exact ⟨0, Nat.zero_le _, rfl, ⟨_, rfl, by omega, by simp [wtNS]⟩, Below.refl _ _⟩
  case round =>
   obtain ⟨j, hj, rfl, ⟨l, rfl, hl0, hl⟩, hB⟩ := hrel; have HL := Lib.hid hl; have hl1 : l ≤ 1048576 := by omega
   clear hl
   by_cases hlt : j < n
   ·have hltI : (j : Int) < (n : Int) := by omega
    obtain ⟨b, o, rfl, hE⟩ := hc j hlt; obtain ⟨x, hx⟩ : ∃ x, L.getD j n0 = x := ⟨_, rfl⟩; rw [hx] at hE; obtain ⟨ov, rv, sv, hr, k0, k1, k2, k3, k4, k5⟩ := hE.keep hB; have HX := Lib.hid hx; have HCC := Lib.hid hc; clear hx hc hE; go_wp2_with fail; refine (szN_l ov rv sv x l _ hr hl0 hl1).mono ?_; rintro e w1 ⟨r, rfl, hr1, hr2, hb⟩; have hB2 := below_step hB hb; have HR1 := Lib.hid hr1; have HR2 := Lib.hid hr2; clear hb hB k0 k1 k2 k3 k4 k5 hr hr1 hr2
    by_cases hneg : r < 0
    ·go_wp2
     go_ret
     exact ⟨-1, rfl, fun h => by omega, fun _ => rfl, hB2⟩
    ·go_wp2
     go_roundw
     case rel =>
      refine ⟨j + 1, by omega, by go_num, ⟨r, rfl, by omega, ?_⟩, hB2⟩; have h1 := wtN_take (L := L) (j := j) (by rw [← HN.out]; exact hlt); rw [HX.out] at h1; have h2 := HR1.out hneg; have h3 := HL.out
      omega
     case measure => simp [intOf]; omega
   ·have hkn : j = n := by omega
    subst hkn; have hw : wtNS (L.take j) = wtNS L := by rw [List.take_of_length_le (by rw [HN.out]; exact Nat.le_refl _)]
    have HW := Lib.hid hw; clear hc hw; go_wp2
    go_ret
    refine ⟨l, rfl, fun _ => ?_, fun h => by omega, hB⟩; have h3 := HL.out; rw [HW.out] at h3
    omega
/-- element i of the cells xs is that, its slices lie in blocks from base on -/
def NX (xs : List Value) (w : World) (base i : Nat) (x : Nd) : Prop :=
 ∃ ov rv sv, Fresh base w (fun W => RdN W ov rv sv x) ∧ xs[i * 6]? = some (.int .i64 x.an) ∧ xs[i * 6 + 1]? = some (ov) ∧ xs[i * 6 + 2]? = some (.int .i64 x.bw) ∧ xs[i * 6 + 3]? = some (.bool x.dr) ∧ xs[i * 6 + 4]? = some (rv) ∧ xs[i * 6 + 5]? = some (sv)
def MadeN (w : World) (B n k : Nat) (L : List Nd) : Prop := ∃ xs : List Value, xs.length = n * 6 ∧ Bl w B xs ∧ ∀ i, i < k → NX xs w (B + 1) i (L.getD i n0)
theorem MadeN.keep {w w' : World} {B n k : Nat} {L : List Nd} (h : MadeN w B n k L) (hb : Below w.heap.size w w') : MadeN w' B n k L := by
 obtain ⟨xs, hl, hB, hx⟩ := h; refine ⟨xs, hl, hB.keep hb, fun i hi => ?_⟩; obtain ⟨ov, rv, sv, h1, h3⟩ := hx i hi
 exact ⟨ov, rv, sv, h1.agr (.of_below hb), h3⟩
theorem MadeN.cell {w : World} {B n k : Nat} {L : List Nd} (h : MadeN w B n k L) (j : Nat) (hj : j < n * 6) : ∃ x, w.cell? ⟨B, j, none⟩ = some x ∧ w.frozen? ⟨B, j, none⟩ = false := by
 obtain ⟨xs, hl, hB, hx⟩ := h
 exact ⟨_, hB.c j (List.getElem?_eq_getElem (by omega)), hB.f j (List.getElem?_eq_getElem (by omega))⟩
theorem MadeN.step {w : World} {B n j : Nat} {L : List Nd} (h : MadeN w B n j L) (hk : j < n) {ov rv sv : Value} {x : Nd} (hE : L.getD j n0 = x) (h1 : Fresh (B + 1) w (fun W => RdN W ov rv sv x)) :
  MadeN ((((((w.setCell ⟨B, j * 6, none⟩ (.int .i64 x.an)).setCell ⟨B, j * 6 + 1, none⟩ (ov)).setCell ⟨B, j * 6 + 2, none⟩ (.int .i64 x.bw)).setCell ⟨B, j * 6 + 3, none⟩ (.bool x.dr)).setCell ⟨B, j * 6 + 4, none⟩ (rv)).setCell ⟨B, j * 6 + 5, none⟩ (sv)) B n (j + 1) L := by
 obtain ⟨xs, hl, hB, hx⟩ := h; have ha : Agr (B + 1) w ((((((w.setCell ⟨B, j * 6, none⟩ (.int .i64 x.an)).setCell ⟨B, j * 6 + 1, none⟩ (ov)).setCell ⟨B, j * 6 + 2, none⟩ (.int .i64 x.bw)).setCell ⟨B, j * 6 + 3, none⟩ (.bool x.dr)).setCell ⟨B, j * 6 + 4, none⟩ (rv)).setCell ⟨B, j * 6 + 5, none⟩ (sv)) := ((((((Agr.refl _ _).trans (agr_set _ (Nat.lt_succ_self B))).trans (agr_set _ (Nat.lt_succ_self B))).trans (agr_set _ (Nat.lt_succ_self B))).trans (agr_set _ (Nat.lt_succ_self B))).trans (agr_set _ (Nat.lt_succ_self B))).trans (agr_set _ (Nat.lt_succ_self B)); refine ⟨((((((xs.set (j * 6) (.int .i64 x.an)).set (j * 6 + 1) (ov)).set (j * 6 + 2) (.int .i64 x.bw)).set (j * 6 + 3) (.bool x.dr)).set (j * 6 + 4) (rv)).set (j * 6 + 5) (sv)), by simpa using hl, ((((((hB.set (j * 6) (.int .i64 x.an)).set (j * 6 + 1) (ov)).set (j * 6 + 2) (.int .i64 x.bw)).set (j * 6 + 3) (.bool x.dr)).set (j * 6 + 4) (rv)).set (j * 6 + 5) (sv)), fun i hi => ?_⟩
 by_cases e : i = j
 ·have e' := e.symm
  subst e'; rw [hE]; refine ⟨ov, rv, sv, h1.agr ha, ?_, ?_, ?_, ?_, ?_, ?_⟩
  all_goals simp only [List.getElem?_set, List.length_set]
  all_goals simp (disch := omega) [hl]
  all_goals omega
 ·obtain ⟨v0, v1, v2, g1, c0, c1, c2, c3, c4, c5⟩ := hx i (by omega)
  refine ⟨v0, v1, v2, g1.agr ha, ?_, ?_, ?_, ?_, ?_, ?_⟩
  all_goals (repeat rw [List.getElem?_set_ne (by omega)])
  all_goals assumption
theorem MadeN.fresh {w : World} {B n b : Nat} {L : List Nd} (h : MadeN w B n n L) (hn : n = L.length) (hb : b ≤ B) (hl : L.length ≤ 1048576) : Fresh b w (fun W => RdNS W (.slice (some ⟨B, 0, none⟩) n n) L) := by
 obtain ⟨xs, hxl, hB, hx⟩ := h; intro w' k; subst hn; refine ⟨by omega, ?_⟩
 by_cases h0 : L.length = 0
 ·refine .inl ⟨some ⟨B, 0, none⟩, 0, by rw [h0], List.eq_nil_of_length_eq_zero h0, fun h => by cases h⟩
 ·refine .inr ⟨B, 0, L.length, rfl, by omega, fun i hi => ?_⟩
  obtain ⟨ov, rv, sv, g1, c0, c1, c2, c3, c4, c5⟩ := hx i hi; have hB' := bl_agr hB k hb; refine ⟨ov, rv, sv, g1 w' (k.up (by omega)), ?_⟩; simp only [Nat.zero_add]
  exact ⟨hB'.c _ c0, hB'.c _ c1, hB'.c _ c2, hB'.c _ c3, hB'.c _ c4, hB'.c _ c5⟩
theorem infoNS : (Tryz.prog.info? 35).map (fun i => (i.zero, i.size, i.bytes)) = some (some (.agg #[.int .i64 0, .slice none 0 0, .int .i64 0, .bool false, .slice none 0 0, .slice none 0 0]), 6, 96) := by kernel_rfl
theorem make_NS (t : TypeId) (ht : Tryz.prog.underlying t = some (.slice 35)) (n : Nat) (hn : n ≤ 1048576) (w : World) :
  (Instr.makeSlice t (.int .i64 (n : Int)) (.int .i64 (n : Int))).run Tryz.prog w = .ok (.slice (some ⟨w.heap.size, 0, none⟩) n n) (w.alloc (.cells (madeCells #[Value.int .i64 0, Value.slice none 0 0, Value.int .i64 0, Value.bool false, Value.slice none 0 0, Value.slice none 0 0] (n * 6)) 35)) := by
 obtain ⟨i, hi, hzz⟩ := Option.map_eq_some_iff.1 infoNS; simp only [Prod.mk.injEq] at hzz; obtain ⟨hz, hs, hb⟩ := hzz; have hr := run_make (P := Tryz.prog) w t 35 i _ ht hi hz .i64 .i64 n n (by omega) (Int.le_refl _) (by rw [hb]; omega) (by omega)
 simpa only [Int.toNat_natCast, hs, Value.cells] using hr
theorem madeN_start (w : World) (n : Nat) (L : List Nd) : MadeN (w.alloc (.cells (madeCells #[Value.int .i64 0, Value.slice none 0 0, Value.int .i64 0, Value.bool false, Value.slice none 0 0, Value.slice none 0 0] (n * 6)) 35)) w.heap.size n 0 L := by
 refine ⟨(madeCells #[Value.int .i64 0, Value.slice none 0 0, Value.int .i64 0, Value.bool false, Value.slice none 0 0, Value.slice none 0 0] (n * 6)).toList, by simp [size_madeCells], ?_, fun i hi => absurd hi (Nat.not_lt_zero _)⟩; have := Bl.new w (madeCells #[Value.int .i64 0, Value.slice none 0 0, Value.int .i64 0, Value.bool false, Value.slice none 0 0, Value.slice none 0 0] (n * 6)).toList 35 w.heap.size rfl
 simpa using this
set_option maxHeartbeats 2000000 in
theorem toNS_f (v : Value) (L : List Nd) (w : World) (h : RdNS w v L) (hn : L.length + wtNS L ≤ 1048576) :
  Calls Tryz.prog 89 #[v] w fun e w' => ∃ u, e = .returned u ∧ Fresh w.heap.size w' (fun W => RdNS W u L) ∧ Below w.heap.size w w' := by
 have hmk := fun W => make_NS 57 Tryz.underlying57 L.length (by omega) W
 obtain ⟨a, c, rfl, hc⟩ := h.el; obtain ⟨n, hn'⟩ : ∃ n, n = L.length := ⟨_, rfl⟩; rw [← hn'] at hc hn hmk ⊢; have hnn : n ≤ 1048576 := by omega
 have HN := Lib.hid hn'; have HW := Lib.hid hn; clear hn' h hn; obtain ⟨B, hBB⟩ : ∃ B, B = w.heap.size := ⟨_, rfl⟩; have hst := madeN_start w n L; rw [← hBB] at hst; have HS := Lib.hid hst; have HBB := Lib.hid hBB; have hwB : w.heap.size ≤ B := by omega
 clear hst
 go_enter Tryz.func89, Tryz.ntmps89
 go_wp2; rw [← hBB]; clear hmk hBB
 go_loopw [4] (fun i wr => ∃ j : Nat, j ≤ n ∧ i = .int .i64 j ∧ MadeN wr B n j L ∧ Below w.heap.size w wr) (fun i _ => n - (intOf i).toNat)
 case atStart => exact ⟨0, Nat.zero_le _, rfl, HS.out, (Below.refl _ _).alloc (Nat.le_refl _) _⟩
 case round =>
  obtain ⟨j, hj, rfl, hM, hB⟩ := hrel
  by_cases hlt : j < n
  ·have hltI : (j : Int) < (n : Int) := by omega
   obtain ⟨b, o, rfl, hE⟩ := hc j hlt; obtain ⟨x, hx⟩ : ∃ x, L.getD j n0 = x := ⟨_, rfl⟩; rw [hx] at hE; obtain ⟨ov, rv, sv, hr, k0, k1, k2, k3, k4, k5⟩ := hE.keep hB; have HX := Lib.hid hx; have HCC := Lib.hid hc; clear hx hc hE
   have hwx : wtN x ≤ 1048576 := by
    have h1 := wtN_at (L := L) (j := j) (by rw [← HN.out]; exact hlt); rw [HX.out] at h1; have := HW.out
    omega
   have hBW : B < wr.heap.size := by
    obtain ⟨xs, hl, hBl, -⟩ := hM
    exact hBl.lt
   go_wp2_with fail; refine (toN_f ov rv sv x _ hr hwx).mono ?_; clear hr hwx k0 k1 k2 k3 k4 k5; rintro e w2 ⟨ov, rv, sv, rfl, h1, hb⟩; have hM2 := hM.keep hb; have hB2 := below_step hB hb; replace h1 := h1.mono (Nat.succ_le_of_lt hBW); clear hM hB hb hBW; obtain ⟨ova, ovx, rfl⟩ := (h1.now.1).len; obtain ⟨rva, rvx, rfl⟩ := (h1.now.2.1).len; obtain ⟨sva, svx, rfl⟩ := (h1.now.2.2).len; obtain ⟨p0, g0, f0⟩ := hM2.cell (j * 6) (by omega); obtain ⟨p1, g1, f1⟩ := hM2.cell (j * 6 + 1) (by omega); obtain ⟨p2, g2, f2⟩ := hM2.cell (j * 6 + 2) (by omega); obtain ⟨p3, g3, f3⟩ := hM2.cell (j * 6 + 3) (by omega); obtain ⟨p4, g4, f4⟩ := hM2.cell (j * 6 + 4) (by omega); obtain ⟨p5, g5, f5⟩ := hM2.cell (j * 6 + 5) (by omega); have HM := Lib.hid (hM2.step hlt HX.out h1); have hB3 := ((((((hB2.setCell (p := ⟨B, j * 6, none⟩) hwB (.int .i64 x.an)).setCell (p := ⟨B, j * 6 + 1, none⟩) hwB (.slice ova x.own.length ovx)).setCell (p := ⟨B, j * 6 + 2, none⟩) hwB (.int .i64 x.bw)).setCell (p := ⟨B, j * 6 + 3, none⟩) hwB (.bool x.dr)).setCell (p := ⟨B, j * 6 + 4, none⟩) hwB (.slice rva x.rib.length rvx)).setCell (p := ⟨B, j * 6 + 5, none⟩) hwB (.slice sva x.sent.length svx)); clear hM2 hB2 h1; go_wp2
   go_roundw
   case rel => exact ⟨j + 1, by omega, by go_num, HM.out, hB3⟩
   case measure => simp [intOf]; omega
  ·have hkn : j = n := by omega
   subst hkn; clear hc; have HF := Lib.hid (hM.fresh (b := w.heap.size) HN.out hwB (by rw [← HN.out]; exact hnn)); go_wp2
   go_ret
   exact ⟨.slice (some ⟨B, 0, none⟩) j j, rfl, HF.out, hB⟩
set_option maxHeartbeats 4000000 in
theorem eqNS_same (v u : Value) (L : List Nd) (w : World) (h1 : RdNS w v L) (h2 : RdNS w u L) :
  Calls Tryz.prog 79 #[v, u] w fun e w' => e = .returned (.bool true) ∧ Below w.heap.size w w' := by
 have hm1 := h1.1; obtain ⟨a, c, rfl, hc⟩ := h1.el; obtain ⟨a', c', rfl, hc'⟩ := h2.el; obtain ⟨n, hn⟩ : ∃ n, n = L.length := ⟨_, rfl⟩; rw [← hn] at hc hc' hm1 ⊢; have HN := Lib.hid hn; clear hn h1 h2; have hnn : ((n : Int) != (n : Int)) = false := by simp
 go_enter Tryz.func79, Tryz.ntmps79
 go_wp2
 go_loopw [5] (fun i wr => ∃ j : Nat, j ≤ n ∧ i = .int .i64 j ∧ Below w.heap.size w wr) (fun i _ => n - (intOf i).toNat)
 case atStart => exact ⟨0, Nat.zero_le _, rfl, Below.refl _ _⟩
 case round =>
  obtain ⟨j, hk, rfl, hB⟩ := hrel
  by_cases hlt : j < n
  ·have hltI : (j : Int) < (n : Int) := by omega
   obtain ⟨b, o, rfl, hE⟩ := hc j hlt; obtain ⟨b', o', rfl, hE'⟩ := hc' j hlt; obtain ⟨x, hx⟩ : ∃ x, L.getD j n0 = x := ⟨_, rfl⟩; rw [hx] at hE hE'; obtain ⟨ov, rv, sv, hr, k0, k1, k2, k3, k4, k5⟩ := hE.keep hB; obtain ⟨ov2, rv2, sv2, hr2, m0, m1, m2, m3, m4, m5⟩ := hE'.keep hB; clear hx hc hc' hE hE'; go_wp2
   go_region_held3 (fun w' => Over wr w' ∧ w'.cell? ⟨b, o + j * 6, none⟩ = some (.int .i64 x.an) ∧ w'.cell? ⟨b, o + j * 6 + 1, none⟩ = some (ov) ∧ w'.cell? ⟨b, o + j * 6 + 2, none⟩ = some (.int .i64 x.bw) ∧ w'.cell? ⟨b, o + j * 6 + 3, none⟩ = some (.bool x.dr) ∧ w'.cell? ⟨b, o + j * 6 + 4, none⟩ = some (rv) ∧ w'.cell? ⟨b, o + j * 6 + 5, none⟩ = some (sv) ∧ w'.cell? ⟨b', o' + j * 6, none⟩ = some (.int .i64 x.an) ∧ w'.cell? ⟨b', o' + j * 6 + 1, none⟩ = some (ov2) ∧ w'.cell? ⟨b', o' + j * 6 + 2, none⟩ = some (.int .i64 x.bw) ∧ w'.cell? ⟨b', o' + j * 6 + 3, none⟩ = some (.bool x.dr) ∧ w'.cell? ⟨b', o' + j * 6 + 4, none⟩ = some (rv2) ∧ w'.cell? ⟨b', o' + j * 6 + 5, none⟩ = some (sv2))
    ((first | exact ⟨over_drew _, k0, k1, k2, k3, k4, k5, m0, m1, m2, m3, m4, m5⟩ | exact (fun o => ⟨o, over_cell o (World.block_lt_of_cell? wr _ k0) k0, over_cell o (World.block_lt_of_cell? wr _ k1) k1, over_cell o (World.block_lt_of_cell? wr _ k2) k2, over_cell o (World.block_lt_of_cell? wr _ k3) k3, over_cell o (World.block_lt_of_cell? wr _ k4) k4, over_cell o (World.block_lt_of_cell? wr _ k5) k5, over_cell o (World.block_lt_of_cell? wr _ m0) m0, over_cell o (World.block_lt_of_cell? wr _ m1) m1, over_cell o (World.block_lt_of_cell? wr _ m2) m2, over_cell o (World.block_lt_of_cell? wr _ m3) m3, over_cell o (World.block_lt_of_cell? wr _ m4) m4, over_cell o (World.block_lt_of_cell? wr _ m5) m5⟩) (over_step (by assumption : Over wr _ ∧ _).1 (by assumption))))
    ((first | (go_at_call 14; refine (eqN_same ov rv sv ov2 rv2 sv2 x _ (hr.keep (‹Over wr _ ∧ _›).1) (hr2.keep (‹Over wr _ ∧ _›).1)).mono ?_; rintro e w6 ⟨rfl, hbb⟩)))
   rename_i hH
   replace hB := below_step hB hH.1; clear hH hbb k0 k1 k2 k3 k4 k5 m0 m1 m2 m3 m4 m5 hr hr2; go_wp2
   go_roundw
   case rel => exact ⟨j + 1, by omega, by go_num, hB⟩
   case measure => simp [intOf]; omega
  ·have hkn : j = n := by omega
   clear hc hc'; go_wp2
   go_ret
   exact ⟨rfl, hB⟩
end Go.Proofs.YtbcmoofpgffbhabGreat
namespace Go.Proofs.YtbcmoofpgffbhabGreat
open Go.ChangeShapes Go.WideShapes Go.ChangeAt Go.RowKit Go.BigFrame Go.Joins
set_option linter.unusedVariables false
set_option maxRecDepth 100000
set_option linter.unusedSimpArgs false
set_option maxRecDepth 100000

/-- a link -/
structure Lk where
 a : Int
 ai : Int
 b : Int
 bi : Int
 up : Bool
 ab : List Mg
 ba : List Mg
def l0 : Lk := ⟨0, 0, 0, 0, false, [], []⟩
instance : Inhabited Lk := ⟨l0⟩
def wtL (x : Lk) : Nat := (x.ab.length + wtMS x.ab) + (x.ba.length + wtMS x.ba)
def RdL (w : World) (av bv : Value) (x : Lk) : Prop := RdMS w av x.ab ∧ RdMS w bv x.ba
theorem RdL.keep {w w' : World} {av bv : Value} {x : Lk} (h : RdL w av bv x) (hb : Below w.heap.size w w') : RdL w' av bv x := by
 obtain ⟨h0, h1⟩ := h
 exact ⟨h0.keep hb, h1.keep hb⟩
/-- the cells of block b from o on hold it -/
def AtL (w : World) (b o : Nat) (x : Lk) : Prop :=
 ∃ av bv, RdL w av bv x ∧ w.cell? ⟨b, o, none⟩ = some (.int .i64 x.a) ∧ w.cell? ⟨b, o + 1, none⟩ = some (.int .i64 x.ai) ∧ w.cell? ⟨b, o + 2, none⟩ = some (.int .i64 x.b) ∧ w.cell? ⟨b, o + 3, none⟩ = some (.int .i64 x.bi) ∧ w.cell? ⟨b, o + 4, none⟩ = some (.bool x.up) ∧ w.cell? ⟨b, o + 5, none⟩ = some (av) ∧ w.cell? ⟨b, o + 6, none⟩ = some (bv)
theorem AtL.keep {w w' : World} {b o : Nat} {x : Lk} (h : AtL w b o x) (hb : Below w.heap.size w w') : AtL w' b o x := by
 obtain ⟨av, bv, hr, k0, k1, k2, k3, k4, k5, k6⟩ := h
 exact ⟨av, bv, hr.keep hb, cell_keep hb (World.block_lt_of_cell? w _ k0) k0, cell_keep hb (World.block_lt_of_cell? w _ k1) k1, cell_keep hb (World.block_lt_of_cell? w _ k2) k2, cell_keep hb (World.block_lt_of_cell? w _ k3) k3, cell_keep hb (World.block_lt_of_cell? w _ k4) k4, cell_keep hb (World.block_lt_of_cell? w _ k5) k5, cell_keep hb (World.block_lt_of_cell? w _ k6) k6⟩
def RdLS (w : World) (v : Value) (L : List Lk) : Prop :=
 L.length ≤ 9223372036854775807 ∧
 ((∃ a c, v = .slice a 0 c ∧ L = [] ∧ (a = none → c = 0)) ∨
  ∃ b o c, v = .slice (some ⟨b, o, none⟩) L.length c ∧ 0 < L.length ∧ ∀ i, i < L.length → AtL w b (o + i * 7) (L.getD i l0))
theorem RdLS.keep {w w' : World} {v : Value} {L : List Lk} (h : RdLS w v L) (hb : Below w.heap.size w w') : RdLS w' v L := by
 obtain ⟨h2, h3⟩ := h; refine ⟨h2, ?_⟩
 rcases h3 with h3 | ⟨b, o, c, hv, hp, hc⟩
 ·exact .inl h3
 ·exact .inr ⟨b, o, c, hv, hp, fun i hi => (hc i hi).keep hb⟩
theorem RdLS.len {w : World} {v : Value} {L : List Lk} (h : RdLS w v L) : ∃ a c, v = .slice a L.length c := by
 rcases h.2 with ⟨a, c, rfl, rfl, hac⟩ | ⟨b, o, c, rfl, _⟩
 ·exact ⟨a, c, rfl⟩
 ·exact ⟨_, c, rfl⟩
theorem RdLS.el {w : World} {v : Value} {L : List Lk} (h : RdLS w v L) : ∃ a c, v = .slice a L.length c ∧ ∀ i, i < L.length → ∃ b o, a = some ⟨b, o, none⟩ ∧ AtL w b (o + i * 7) (L.getD i l0) := by
 rcases h.2 with ⟨a, c, rfl, rfl, -⟩ | ⟨b, o, c, rfl, -, hc⟩
 ·exact ⟨a, c, rfl, fun i hi => absurd hi (by simp)⟩
 ·exact ⟨_, c, rfl, fun i hi => ⟨b, o, rfl, hc i hi⟩⟩
theorem RdLS.nil (w : World) : RdLS w (.slice none 0 0) [] := ⟨by simp, .inl ⟨none, 0, rfl, rfl, fun _ => rfl⟩⟩
def wtLS (L : List Lk) : Nat := (L.map wtL).sum
theorem wtL_take {L : List Lk} {j : Nat} (h : j < L.length) : wtLS (L.take (j + 1)) = wtLS (L.take j) + wtL (L.getD j l0) := by
 unfold wtLS; rw [List.take_succ_eq_append_getElem h, List.map_append, List.sum_append]; have e : L.getD j l0 = L[j] := by simp [List.getD, h]
 rw [e]
 simp
theorem wtL_le (L : List Lk) (j : Nat) : wtLS (L.take j) ≤ wtLS L := by
 conv => rhs; rw [← List.take_append_drop j L]
 unfold wtLS; rw [List.map_append, List.sum_append]
 omega
theorem wtL_at {L : List Lk} {j : Nat} (h : j < L.length) : wtL (L.getD j l0) ≤ wtLS L := by
 have h1 := wtL_take h; have h2 := wtL_le L (j + 1)
 omega
section
variable {H : Type} {enc : TypeId × Value → H} {W : World} {base : Nat} {d : DataW H} {p : List MemPlace} {v : Value}
theorem cellsMS1 : Tryz.prog.cellsOf 195 = 1 := by kernel_rfl
theorem L_trod {fuel : Nat} {c0 c1 c2 c3 c4 c5 c6 : Value} {y : DataW H × List MemPlace} (h : DataW.trod enc Tryz.prog W 0 (fun _ => true) true fuel 197 [c0, c1, c2, c3, c4, c5, c6] = some y) :
  ∃ E : Lk, c0 = .int .i64 E.a ∧ c1 = .int .i64 E.ai ∧ c2 = .int .i64 E.b ∧ c3 = .int .i64 E.bi ∧ c4 = .bool E.up ∧ RdL W c5 c6 E := by
 obtain ⟨ys, n, _, hx, hl, hlen, hf⟩ := DataW.trod_struct Tryz.underlying197 h; obtain ⟨y0, y1, y2, y3, y4, y5, y6, rfl⟩ := list7 hlen; have h0 := hf 0 _ rfl; have h1 := hf 1 _ rfl; have h2 := hf 2 _ rfl; have h3 := hf 3 _ rfl; have h4 := hf 4 _ rfl; have h5 := hf 5 _ rfl; have h6 := hf 6 _ rfl; clear hf
 simp [cellsI1e, cellsMS1, cellsB1n] at h0 h1 h2 h3 h4 h5 h6
 obtain ⟨x0, e0, -, -⟩ := DataW.trod_int Tryz.underlying3 h0; obtain ⟨x1, e1, -, -⟩ := DataW.trod_int Tryz.underlying3 h1; obtain ⟨x2, e2, -, -⟩ := DataW.trod_int Tryz.underlying3 h2; obtain ⟨x3, e3, -, -⟩ := DataW.trod_int Tryz.underlying3 h3; obtain ⟨x4, e4, -⟩ := DataW.trod_bool Tryz.underlying4 h4; obtain ⟨l5, g5⟩ := rdMS_trod h5; obtain ⟨l6, g6⟩ := rdMS_trod h6
 simp at e0 e1 e2 e3 e4
 exact ⟨⟨x0, x1, x2, x3, x4, l5, l6⟩, e0, e1, e2, e3, e4, g5, g6⟩
theorem cellsLS : Tryz.prog.cellsOf 197 = 7 := by kernel_rfl
theorem listL {α : Type} {xs : List α} (h : xs.length = 7) : ∃ c0 c1 c2 c3 c4 c5 c6, xs = [c0, c1, c2, c3, c4, c5, c6] := by
 match xs, h with
 | [c0, c1, c2, c3, c4, c5, c6], _ => exact ⟨c0, c1, c2, c3, c4, c5, c6, rfl⟩
theorem rdLS_trod {fuel : Nat} {y : DataW H × List MemPlace} (h : DataW.trod enc Tryz.prog W 0 (fun _ => true) true fuel 67 [v] = some y) : ∃ L, RdLS W v L := by
 rcases Deep.open_slice Tryz.underlying67 h with ⟨hcs, _⟩ | ⟨a, len, cap, m, n, D, Pl, hcs, _, hl, hm, hmm, _, hx⟩
 ·obtain ⟨rfl, -⟩ := List.cons.inj hcs
  exact ⟨[], RdLS.nil W⟩
 ·obtain ⟨rfl, -⟩ := List.cons.inj hcs
  have hlm : len ≤ m := by rw [hmm]; split <;> omega
  obtain ⟨b, off, spot⟩ := a
  by_cases h0 : len = 0
  ·subst h0
   exact ⟨[], by simp, .inl ⟨_, cap, rfl, rfl, fun h => by cases h⟩⟩
  ·have hspot : spot = none := by
    obtain ⟨cs', h1, _⟩ := hx 0 (by omega); rw [cellsLS] at h1; obtain ⟨_, hlen, hcell⟩ := World.cells?_some h1; have h2 := hcell 0 (by omega); rw [List.getElem?_eq_getElem (by omega)] at h2
    simpa [Addr.add] using World.cell?_spot h2
   subst hspot; have hadd : ∀ o k, (⟨b, o, none⟩ : Addr).add k = ⟨b, o + k, none⟩ := fun o k => by unfold Addr.add; split <;> simp_all
   have hex : ∀ i, i < len → ∃ E : Lk, AtL W b (off + i * 7) E := by
    intro i hi; obtain ⟨cs', h1, h2⟩ := hx i (by omega); rw [cellsLS] at h1; obtain ⟨_, hlen, hcell⟩ := World.cells?_some h1; obtain ⟨x0, x1, x2, x3, x4, x5, x6, rfl⟩ := listL hlen; obtain ⟨E, rfl, rfl, rfl, rfl, rfl, hr⟩ := L_trod h2; have e0 := hcell 0 (by omega); have e1 := hcell 1 (by omega); have e2 := hcell 2 (by omega); have e3 := hcell 3 (by omega); have e4 := hcell 4 (by omega); have e5 := hcell 5 (by omega); have e6 := hcell 6 (by omega); simp only [hadd] at e0 e1 e2 e3 e4 e5 e6
    exact ⟨E, x5, x6, hr, e0, e1, e2, e3, e4, e5, e6⟩
   obtain ⟨f, hf⟩ := Deep.choose_lt hex; refine ⟨(List.range len).map f, by simp; unfold maxLen at hm; omega, .inr ⟨b, off, cap, by simp, by simp; omega, fun i hi => ?_⟩⟩; have hi : i < len := by simpa using hi
   rw [show ((List.range len).map f).getD i l0 = f i by simp [List.getD, hi]]
   exact hf i hi
end
set_option maxHeartbeats 1000000 in
theorem szL_l (av bv : Value) (x : Lk) (left : Int) (w : World) (h : RdL w av bv x) (hl0 : 0 ≤ left) (hl1 : left ≤ 1048576) :
  Calls Tryz.prog 160 #[.agg #[.int .i64 x.a, .int .i64 x.ai, .int .i64 x.b, .int .i64 x.bi, .bool x.up, av, bv], .int .i64 left] w fun e w' => ∃ r : Int, e = .returned (.int .i64 r) ∧ (¬ r < 0 → r = left - (wtL x : Nat)) ∧ (r < 0 → r = -1) ∧ Below w.heap.size w w' := by
 obtain ⟨bA, B0, z⟩ := one w [.int .i64 x.a, .int .i64 x.ai, .int .i64 x.b, .int .i64 x.bi, .bool x.up, av, bv] 197; replace h := h.keep B0; clear z; have a0 := bA.c 5 rfl
 go_enter Tryz.func160, Tryz.ntmps160
 go_wp2_with fail; clear a0; refine (szMS_l av x.ab left _ (h.1) hl0 hl1).mono ?_; rintro e w1 ⟨r0, rfl, hr0, hm0, hb⟩; replace bA := bA.keep hb; replace h := h.keep hb; replace B0 := below_step B0 hb; have HR0 := Lib.hid hr0; clear hb hr0 hm0
 by_cases hn0 : r0 < 0
 ·go_wp2
  go_ret
  exact ⟨-1, rfl, fun h => by omega, fun _ => rfl, B0⟩
 ·have hu0 : r0 ≤ 1048576 := by have := HR0.out hn0; omega
  have a1 := bA.c 6 rfl; go_wp2_with fail; clear a1; refine (szMS_l bv x.ba r0 _ (h.2) (by omega) (by omega)).mono ?_; rintro e w2 ⟨r1, rfl, hr1, hm1, hb⟩; replace bA := bA.keep hb; replace h := h.keep hb; replace B0 := below_step B0 hb; have HR1 := Lib.hid hr1; clear hb hr1 hm1
  by_cases hn1 : r1 < 0
  ·go_wp2
   go_ret
   exact ⟨-1, rfl, fun h => by omega, fun _ => rfl, B0⟩
  ·go_wp2
   go_ret
   refine ⟨r1, rfl, fun _ => ?_, fun q => absurd q (by omega), B0⟩; have e0 := HR0.out hn0; have e1 := HR1.out (by omega); unfold wtL
   omega
set_option maxHeartbeats 2000000 in
theorem toL_f (s0 s1 : Value) (x : Lk) (w : World) (h : RdL w s0 s1 x) (hw : wtL x ≤ 1048576) :
  Calls Tryz.prog 164 #[.agg #[.int .i64 x.a, .int .i64 x.ai, .int .i64 x.b, .int .i64 x.bi, .bool x.up, s0, s1]] w fun e w' => ∃ s0 s1, e = .returned (.agg #[.int .i64 x.a, .int .i64 x.ai, .int .i64 x.b, .int .i64 x.bi, .bool x.up, s0, s1]) ∧ Fresh w.heap.size w' (fun W => RdL W s0 s1 x) ∧ Below w.heap.size w w' := by
 unfold wtL at hw; obtain ⟨bA, bR, bO, B1, z⟩ := three w [.int .i64 x.a, .int .i64 x.ai, .int .i64 x.b, .int .i64 x.bi, .bool x.up, s0, s1] [.int .i64 0, .int .i64 0, .int .i64 0, .int .i64 0, .bool false, .slice none 0 0, .slice none 0 0] [.int .i64 x.a, .int .i64 x.ai, .int .i64 x.b, .int .i64 x.bi, .bool x.up, .slice none 0 0, .slice none 0 0] 197 142 142; have a5 := bA.c 5 rfl
 go_enter Tryz.func164, Tryz.ntmps164
 go_wp2_with fail; clear a5; refine (toMS_f s0 x.ab _ (h.1.keep B1) (by omega)).mono ?_; rintro e w1 ⟨u0, rfl, f0, hb⟩; obtain ⟨p0, q0, rfl⟩ := f0.now.len; have hs := hb.size; rw [z] at f0 hs; replace bA := bA.keep hb; replace bR := bR.keep hb; replace bO := bO.keep hb; replace B1 := below_step B1 hb; clear hb; clear z; obtain ⟨A, hA⟩ : ∃ A, A = w.heap.size := ⟨_, rfl⟩; obtain ⟨R, hR⟩ : ∃ R, R = w.heap.size + 1 := ⟨_, rfl⟩; obtain ⟨O, hO⟩ : ∃ O, O = w.heap.size + 1 + 1 := ⟨_, rfl⟩; rw [← hA] at bA; rw [← hR] at bR; rw [← hO] at bO; rw [← hO, ← hR]
 try rw [← hA]
 have hO3 : O < w.heap.size + 3 := by omega
 have hRO : R ≠ O := by omega
 have hR3 : R < w.heap.size + 3 := by omega
 have hAO : A ≠ O := by omega
 have hwO : w.heap.size ≤ O := by omega
 have hwR : w.heap.size ≤ R := by omega
 clear hA hR hO; have o5 := bO.c 5 rfl; have of5 := bO.f 5 rfl; have a6 := bA.c 6 rfl; go_wp2_with fail; clear o5 of5 a6; replace hs := Nat.le_trans hs (grown_set _ O 5 (.slice p0 x.ab.length q0)).size; replace bA := bA.far (o := 5) (u := .slice p0 x.ab.length q0) hAO; replace bR := bR.far (o := 5) (u := .slice p0 x.ab.length q0) hRO; replace bO := bO.set 5 (.slice p0 x.ab.length q0); replace f0 := f0.far (o := 5) (u := .slice p0 x.ab.length q0) hO3; replace B1 := B1.setCell (p := ⟨O, 5, none⟩) hwO (.slice p0 x.ab.length q0); refine (toMS_f s1 x.ba _ (h.2.keep B1) (by omega)).mono ?_; rintro e w2 ⟨u1, rfl, f1, hb⟩; obtain ⟨p1, q1, rfl⟩ := f1.now.len; replace f1 := f1.mono hs; replace hs := Nat.le_trans hs hb.size; replace bA := bA.keep hb; replace bR := bR.keep hb; replace bO := bO.keep hb; replace f0 := f0.keep hb; replace B1 := below_step B1 hb; clear hb; have o0 := bO.c 0 rfl; have of0 := bO.f 0 rfl; have o1 := bO.c 1 rfl; have of1 := bO.f 1 rfl; have o2 := bO.c 2 rfl; have of2 := bO.f 2 rfl; have o3 := bO.c 3 rfl; have of3 := bO.f 3 rfl; have o4 := bO.c 4 rfl; have of4 := bO.f 4 rfl; have o5 := bO.c 5 rfl; have of5 := bO.f 5 rfl; have o6 := bO.c 6 rfl; have of6 := bO.f 6 rfl; have r0 := bR.c 0 rfl; have rf0 := bR.f 0 rfl; have r1 := bR.c 1 rfl; have rf1 := bR.f 1 rfl; have r2 := bR.c 2 rfl; have rf2 := bR.f 2 rfl; have r3 := bR.c 3 rfl; have rf3 := bR.f 3 rfl; have r4 := bR.c 4 rfl; have rf4 := bR.f 4 rfl; have r5 := bR.c 5 rfl; have rf5 := bR.f 5 rfl; have r6 := bR.c 6 rfl; have rf6 := bR.f 6 rfl; go_wp2_with fail; have bE := ((((((((bR.far (o := 6) (u := .slice p1 x.ba.length q1) hRO).set 0 (.int .i64 x.a)).set 1 (.int .i64 x.ai)).set 2 (.int .i64 x.b)).set 3 (.int .i64 x.bi)).set 4 (.bool x.up)).set 5 (.slice p0 x.ab.length q0)).set 6 (.slice p1 x.ba.length q1)); have e0 := bE.c 0 rfl; have e1 := bE.c 1 rfl; have e2 := bE.c 2 rfl; have e3 := bE.c 3 rfl; have e4 := bE.c 4 rfl; have e5 := bE.c 5 rfl; have e6 := bE.c 6 rfl; have g0 := ((((((((f0.far (o := 6) (u := .slice p1 x.ba.length q1) hO3).far (o := 0) (u := .int .i64 x.a) hR3).far (o := 1) (u := .int .i64 x.ai) hR3).far (o := 2) (u := .int .i64 x.b) hR3).far (o := 3) (u := .int .i64 x.bi) hR3).far (o := 4) (u := .bool x.up) hR3).far (o := 5) (u := .slice p0 x.ab.length q0) hR3).far (o := 6) (u := .slice p1 x.ba.length q1) hR3); have g1 := ((((((((f1.far (o := 6) (u := .slice p1 x.ba.length q1) hO3).far (o := 0) (u := .int .i64 x.a) hR3).far (o := 1) (u := .int .i64 x.ai) hR3).far (o := 2) (u := .int .i64 x.b) hR3).far (o := 3) (u := .int .i64 x.bi) hR3).far (o := 4) (u := .bool x.up) hR3).far (o := 5) (u := .slice p0 x.ab.length q0) hR3).far (o := 6) (u := .slice p1 x.ba.length q1) hR3)
 exact bodyPost_ret (v := .agg #[.int .i64 x.a, .int .i64 x.ai, .int .i64 x.b, .int .i64 x.bi, .bool x.up, .slice p0 x.ab.length q0, .slice p1 x.ba.length q1]) (by simp [results, Tryz.results164, go_sem, e0, e1, e2, e3, e4, e5, e6]) rfl
  ⟨_, _, rfl, fun W k => ⟨g0 W (k.up (by omega)), g1 W (k.up (by omega))⟩, ((((((((B1.setCell (p := ⟨O, 6, none⟩) hwO (.slice p1 x.ba.length q1)).setCell (p := ⟨R, 0, none⟩) hwR (.int .i64 x.a)).setCell (p := ⟨R, 1, none⟩) hwR (.int .i64 x.ai)).setCell (p := ⟨R, 2, none⟩) hwR (.int .i64 x.b)).setCell (p := ⟨R, 3, none⟩) hwR (.int .i64 x.bi)).setCell (p := ⟨R, 4, none⟩) hwR (.bool x.up)).setCell (p := ⟨R, 5, none⟩) hwR (.slice p0 x.ab.length q0)).setCell (p := ⟨R, 6, none⟩) hwR (.slice p1 x.ba.length q1))⟩
theorem eqL_same (av bv av2 bv2 : Value) (x : Lk) (w : World) (h : RdL w av bv x) (h2 : RdL w av2 bv2 x) :
  Calls Tryz.prog 157 #[.agg #[.int .i64 x.a, .int .i64 x.ai, .int .i64 x.b, .int .i64 x.bi, .bool x.up, av, bv], .agg #[.int .i64 x.a, .int .i64 x.ai, .int .i64 x.b, .int .i64 x.bi, .bool x.up, av2, bv2]] w fun e w' => e = .returned (.bool true) ∧ Below w.heap.size w w' := by
 obtain ⟨bA, bB, B1, z⟩ := two w [.int .i64 x.a, .int .i64 x.ai, .int .i64 x.b, .int .i64 x.bi, .bool x.up, av, bv] [.int .i64 x.a, .int .i64 x.ai, .int .i64 x.b, .int .i64 x.bi, .bool x.up, av2, bv2] 142 142; replace h := h.keep B1; replace h2 := h2.keep B1; clear z; have q0 : (x.a != x.a) = false := by simp
 have q1 : (x.ai != x.ai) = false := by simp
 have q2 : (x.b != x.b) = false := by simp
 have q3 : (x.bi != x.bi) = false := by simp
 have q4 : (x.up != x.up) = false := by simp
 have a0 := bA.c 0 rfl; have b0 := bB.c 0 rfl; have a1 := bA.c 1 rfl; have b1 := bB.c 1 rfl; have a2 := bA.c 2 rfl; have b2 := bB.c 2 rfl; have a3 := bA.c 3 rfl; have b3 := bB.c 3 rfl; have a4 := bA.c 4 rfl; have b4 := bB.c 4 rfl; have a5 := bA.c 5 rfl; have b5 := bB.c 5 rfl
 go_enter Tryz.func157, Tryz.ntmps157
 go_wp2_with fail; refine (eqMS_same _ _ x.ab _ (h.1) (h2.1)).mono ?_; rintro e w1 ⟨rfl, hb⟩; replace bA := bA.keep hb; replace bB := bB.keep hb; replace h := h.keep hb; replace h2 := h2.keep hb; replace B1 := below_step B1 hb; clear hb a0 b0 a1 b1 a2 b2 a3 b3 a4 b4 a5 b5; have a6 := bA.c 6 rfl; have b6 := bB.c 6 rfl; go_wp2_with fail; refine (eqMS_same _ _ x.ba _ (h.2) (h2.2)).mono ?_; rintro e w2 ⟨rfl, hb⟩; replace bA := bA.keep hb; replace bB := bB.keep hb; replace h := h.keep hb; replace h2 := h2.keep hb; replace B1 := below_step B1 hb; clear hb a6 b6; go_wp2
 go_ret
 exact ⟨rfl, B1⟩
theorem szLS_l (v : Value) (L : List Lk) (left : Int) (w : World) (h : RdLS w v L) (hl0 : 0 ≤ left) (hl1 : left ≤ 1048576) :
  Calls Tryz.prog 86 #[v, .int .i64 left] w fun e w' => ∃ r : Int, e = .returned (.int .i64 r) ∧ (¬ r < 0 → r = left - (L.length : Nat) - (wtLS L : Nat)) ∧ (r < 0 → r = -1) ∧ Below w.heap.size w w' := by
 have hm := h.1; obtain ⟨a, c, rfl, hc⟩ := h.el; obtain ⟨n, hn⟩ : ∃ n, n = L.length := ⟨_, rfl⟩; rw [← hn] at hc hm ⊢; have HN := Lib.hid hn; clear h hn
 by_cases hbig : left - n < 0
 ·go_enter Tryz.func86, Tryz.ntmps86
  have hw1 : IntKind.i64.wrap (left - (n : Int)) = left - (n : Int) := wrap64_in _ (by omega) (by omega); go_wp2
  go_ret
  exact ⟨-1, rfl, fun h => by omega, fun _ => rfl, Below.refl _ _⟩
 ·have hnn : (n : Int) ≤ 1048576 := by omega
  have hw1 : IntKind.i64.wrap (left - (n : Int)) = left - (n : Int) := wrap64_in _ (by omega) (by omega)
  go_enter Tryz.func86, Tryz.ntmps86
  go_wp2
  go_loopw [1, 5] (fun q i wr => ∃ j : Nat, j ≤ n ∧ i = .int .i64 j ∧ (∃ l : Int, q = .int .i64 l ∧ 0 ≤ l ∧ l = left - (n : Int) - (wtLS (L.take j) : Nat)) ∧ Below w.heap.size w wr) (fun _ i _ => n - (intOf i).toNat)
  case atStart => exact ⟨0, Nat.zero_le _, rfl, ⟨_, rfl, by omega, by simp [wtLS]⟩, Below.refl _ _⟩
  case round =>
   obtain ⟨j, hj, rfl, ⟨l, rfl, hl0, hl⟩, hB⟩ := hrel; have HL := Lib.hid hl; have hl1 : l ≤ 1048576 := by omega
   clear hl
   by_cases hlt : j < n
   ·have hltI : (j : Int) < (n : Int) := by omega
    obtain ⟨b, o, rfl, hE⟩ := hc j hlt; obtain ⟨x, hx⟩ : ∃ x, L.getD j l0 = x := ⟨_, rfl⟩; rw [hx] at hE; obtain ⟨av, bv, hr, k0, k1, k2, k3, k4, k5, k6⟩ := hE.keep hB; have HX := Lib.hid hx; have HCC := Lib.hid hc; clear hx hc hE; go_wp2_with fail; refine (szL_l av bv x l _ hr hl0 hl1).mono ?_; rintro e w1 ⟨r, rfl, hr1, hr2, hb⟩; have hB2 := below_step hB hb; have HR1 := Lib.hid hr1; have HR2 := Lib.hid hr2; clear hb hB k0 k1 k2 k3 k4 k5 k6 hr hr1 hr2
    by_cases hneg : r < 0
    ·go_wp2
     go_ret
     exact ⟨-1, rfl, fun h => by omega, fun _ => rfl, hB2⟩
    ·go_wp2
     go_roundw
     case rel =>
      refine ⟨j + 1, by omega, by go_num, ⟨r, rfl, by omega, ?_⟩, hB2⟩; have h1 := wtL_take (L := L) (j := j) (by rw [← HN.out]; exact hlt); rw [HX.out] at h1; have h2 := HR1.out hneg; have h3 := HL.out
      omega
     case measure => simp [intOf]; omega
   ·have hkn : j = n := by omega
    subst hkn; have hw : wtLS (L.take j) = wtLS L := by rw [List.take_of_length_le (by rw [HN.out]; exact Nat.le_refl _)]
    have HW := Lib.hid hw; clear hc hw; go_wp2
    go_ret
    refine ⟨l, rfl, fun _ => ?_, fun h => by omega, hB⟩; have h3 := HL.out; rw [HW.out] at h3
    omega
/-- element i of the cells xs is that, its slices lie in blocks from base on -/
def LX (xs : List Value) (w : World) (base i : Nat) (x : Lk) : Prop :=
 ∃ av bv, Fresh base w (fun W => RdL W av bv x) ∧ xs[i * 7]? = some (.int .i64 x.a) ∧ xs[i * 7 + 1]? = some (.int .i64 x.ai) ∧ xs[i * 7 + 2]? = some (.int .i64 x.b) ∧ xs[i * 7 + 3]? = some (.int .i64 x.bi) ∧ xs[i * 7 + 4]? = some (.bool x.up) ∧ xs[i * 7 + 5]? = some (av) ∧ xs[i * 7 + 6]? = some (bv)
def MadeL (w : World) (B n k : Nat) (L : List Lk) : Prop := ∃ xs : List Value, xs.length = n * 7 ∧ Bl w B xs ∧ ∀ i, i < k → LX xs w (B + 1) i (L.getD i l0)
theorem MadeL.keep {w w' : World} {B n k : Nat} {L : List Lk} (h : MadeL w B n k L) (hb : Below w.heap.size w w') : MadeL w' B n k L := by
 obtain ⟨xs, hl, hB, hx⟩ := h; refine ⟨xs, hl, hB.keep hb, fun i hi => ?_⟩; obtain ⟨av, bv, h1, h3⟩ := hx i hi
 exact ⟨av, bv, h1.agr (.of_below hb), h3⟩
theorem MadeL.cell {w : World} {B n k : Nat} {L : List Lk} (h : MadeL w B n k L) (j : Nat) (hj : j < n * 7) : ∃ x, w.cell? ⟨B, j, none⟩ = some x ∧ w.frozen? ⟨B, j, none⟩ = false := by
 obtain ⟨xs, hl, hB, hx⟩ := h
 exact ⟨_, hB.c j (List.getElem?_eq_getElem (by omega)), hB.f j (List.getElem?_eq_getElem (by omega))⟩
theorem MadeL.step {w : World} {B n j : Nat} {L : List Lk} (h : MadeL w B n j L) (hk : j < n) {av bv : Value} {x : Lk} (hE : L.getD j l0 = x) (h1 : Fresh (B + 1) w (fun W => RdL W av bv x)) :
  MadeL (((((((w.setCell ⟨B, j * 7, none⟩ (.int .i64 x.a)).setCell ⟨B, j * 7 + 1, none⟩ (.int .i64 x.ai)).setCell ⟨B, j * 7 + 2, none⟩ (.int .i64 x.b)).setCell ⟨B, j * 7 + 3, none⟩ (.int .i64 x.bi)).setCell ⟨B, j * 7 + 4, none⟩ (.bool x.up)).setCell ⟨B, j * 7 + 5, none⟩ (av)).setCell ⟨B, j * 7 + 6, none⟩ (bv)) B n (j + 1) L := by
 obtain ⟨xs, hl, hB, hx⟩ := h; have ha : Agr (B + 1) w (((((((w.setCell ⟨B, j * 7, none⟩ (.int .i64 x.a)).setCell ⟨B, j * 7 + 1, none⟩ (.int .i64 x.ai)).setCell ⟨B, j * 7 + 2, none⟩ (.int .i64 x.b)).setCell ⟨B, j * 7 + 3, none⟩ (.int .i64 x.bi)).setCell ⟨B, j * 7 + 4, none⟩ (.bool x.up)).setCell ⟨B, j * 7 + 5, none⟩ (av)).setCell ⟨B, j * 7 + 6, none⟩ (bv)) := (((((((Agr.refl _ _).trans (agr_set _ (Nat.lt_succ_self B))).trans (agr_set _ (Nat.lt_succ_self B))).trans (agr_set _ (Nat.lt_succ_self B))).trans (agr_set _ (Nat.lt_succ_self B))).trans (agr_set _ (Nat.lt_succ_self B))).trans (agr_set _ (Nat.lt_succ_self B))).trans (agr_set _ (Nat.lt_succ_self B)); refine ⟨(((((((xs.set (j * 7) (.int .i64 x.a)).set (j * 7 + 1) (.int .i64 x.ai)).set (j * 7 + 2) (.int .i64 x.b)).set (j * 7 + 3) (.int .i64 x.bi)).set (j * 7 + 4) (.bool x.up)).set (j * 7 + 5) (av)).set (j * 7 + 6) (bv)), by simpa using hl, (((((((hB.set (j * 7) (.int .i64 x.a)).set (j * 7 + 1) (.int .i64 x.ai)).set (j * 7 + 2) (.int .i64 x.b)).set (j * 7 + 3) (.int .i64 x.bi)).set (j * 7 + 4) (.bool x.up)).set (j * 7 + 5) (av)).set (j * 7 + 6) (bv)), fun i hi => ?_⟩
 by_cases e : i = j
 ·have e' := e.symm
  subst e'; rw [hE]; refine ⟨av, bv, h1.agr ha, ?_, ?_, ?_, ?_, ?_, ?_, ?_⟩
  all_goals simp only [List.getElem?_set, List.length_set]
  all_goals simp (disch := omega) [hl]
  all_goals omega
 ·obtain ⟨v0, v1, g1, c0, c1, c2, c3, c4, c5, c6⟩ := hx i (by omega)
  refine ⟨v0, v1, g1.agr ha, ?_, ?_, ?_, ?_, ?_, ?_, ?_⟩
  all_goals (repeat rw [List.getElem?_set_ne (by omega)])
  all_goals assumption
theorem MadeL.fresh {w : World} {B n b : Nat} {L : List Lk} (h : MadeL w B n n L) (hn : n = L.length) (hb : b ≤ B) (hl : L.length ≤ 1048576) : Fresh b w (fun W => RdLS W (.slice (some ⟨B, 0, none⟩) n n) L) := by
 obtain ⟨xs, hxl, hB, hx⟩ := h; intro w' k; subst hn; refine ⟨by omega, ?_⟩
 by_cases h0 : L.length = 0
 ·refine .inl ⟨some ⟨B, 0, none⟩, 0, by rw [h0], List.eq_nil_of_length_eq_zero h0, fun h => by cases h⟩
 ·refine .inr ⟨B, 0, L.length, rfl, by omega, fun i hi => ?_⟩
  obtain ⟨av, bv, g1, c0, c1, c2, c3, c4, c5, c6⟩ := hx i hi; have hB' := bl_agr hB k hb; refine ⟨av, bv, g1 w' (k.up (by omega)), ?_⟩; simp only [Nat.zero_add]
  exact ⟨hB'.c _ c0, hB'.c _ c1, hB'.c _ c2, hB'.c _ c3, hB'.c _ c4, hB'.c _ c5, hB'.c _ c6⟩
theorem infoLS : (Tryz.prog.info? 142).map (fun i => (i.zero, i.size, i.bytes)) = some (some (.agg #[.int .i64 0, .int .i64 0, .int .i64 0, .int .i64 0, .bool false, .slice none 0 0, .slice none 0 0]), 7, 88) := by kernel_rfl
theorem make_LS (t : TypeId) (ht : Tryz.prog.underlying t = some (.slice 142)) (n : Nat) (hn : n ≤ 1048576) (w : World) :
  (Instr.makeSlice t (.int .i64 (n : Int)) (.int .i64 (n : Int))).run Tryz.prog w = .ok (.slice (some ⟨w.heap.size, 0, none⟩) n n) (w.alloc (.cells (madeCells #[Value.int .i64 0, Value.int .i64 0, Value.int .i64 0, Value.int .i64 0, Value.bool false, Value.slice none 0 0, Value.slice none 0 0] (n * 7)) 142)) := by
 obtain ⟨i, hi, hzz⟩ := Option.map_eq_some_iff.1 infoLS; simp only [Prod.mk.injEq] at hzz; obtain ⟨hz, hs, hb⟩ := hzz; have hr := run_make (P := Tryz.prog) w t 142 i _ ht hi hz .i64 .i64 n n (by omega) (Int.le_refl _) (by rw [hb]; omega) (by omega)
 simpa only [Int.toNat_natCast, hs, Value.cells] using hr
theorem madeL_start (w : World) (n : Nat) (L : List Lk) : MadeL (w.alloc (.cells (madeCells #[Value.int .i64 0, Value.int .i64 0, Value.int .i64 0, Value.int .i64 0, Value.bool false, Value.slice none 0 0, Value.slice none 0 0] (n * 7)) 142)) w.heap.size n 0 L := by
 refine ⟨(madeCells #[Value.int .i64 0, Value.int .i64 0, Value.int .i64 0, Value.int .i64 0, Value.bool false, Value.slice none 0 0, Value.slice none 0 0] (n * 7)).toList, by simp [size_madeCells], ?_, fun i hi => absurd hi (Nat.not_lt_zero _)⟩; have := Bl.new w (madeCells #[Value.int .i64 0, Value.int .i64 0, Value.int .i64 0, Value.int .i64 0, Value.bool false, Value.slice none 0 0, Value.slice none 0 0] (n * 7)).toList 142 w.heap.size rfl
 simpa using this
set_option maxHeartbeats 2000000 in
theorem toLS_f (v : Value) (L : List Lk) (w : World) (h : RdLS w v L) (hn : L.length + wtLS L ≤ 1048576) :
  Calls Tryz.prog 90 #[v] w fun e w' => ∃ u, e = .returned u ∧ Fresh w.heap.size w' (fun W => RdLS W u L) ∧ Below w.heap.size w w' := by
 have hmk := fun W => make_LS 58 Tryz.underlying58 L.length (by omega) W
 obtain ⟨a, c, rfl, hc⟩ := h.el; obtain ⟨n, hn'⟩ : ∃ n, n = L.length := ⟨_, rfl⟩; rw [← hn'] at hc hn hmk ⊢; have hnn : n ≤ 1048576 := by omega
 have HN := Lib.hid hn'; have HW := Lib.hid hn; clear hn' h hn; obtain ⟨B, hBB⟩ : ∃ B, B = w.heap.size := ⟨_, rfl⟩; have hst := madeL_start w n L; rw [← hBB] at hst; have HS := Lib.hid hst; have HBB := Lib.hid hBB; have hwB : w.heap.size ≤ B := by omega
 clear hst
 go_enter Tryz.func90, Tryz.ntmps90
 go_wp2; rw [← hBB]; clear hmk hBB
 go_loopw [4] (fun i wr => ∃ j : Nat, j ≤ n ∧ i = .int .i64 j ∧ MadeL wr B n j L ∧ Below w.heap.size w wr) (fun i _ => n - (intOf i).toNat)
 case atStart => exact ⟨0, Nat.zero_le _, rfl, HS.out, (Below.refl _ _).alloc (Nat.le_refl _) _⟩
 case round =>
  obtain ⟨j, hj, rfl, hM, hB⟩ := hrel
  by_cases hlt : j < n
  ·have hltI : (j : Int) < (n : Int) := by omega
   obtain ⟨b, o, rfl, hE⟩ := hc j hlt; obtain ⟨x, hx⟩ : ∃ x, L.getD j l0 = x := ⟨_, rfl⟩; rw [hx] at hE; obtain ⟨av, bv, hr, k0, k1, k2, k3, k4, k5, k6⟩ := hE.keep hB; have HX := Lib.hid hx; have HCC := Lib.hid hc; clear hx hc hE
   have hwx : wtL x ≤ 1048576 := by
    have h1 := wtL_at (L := L) (j := j) (by rw [← HN.out]; exact hlt); rw [HX.out] at h1; have := HW.out
    omega
   have hBW : B < wr.heap.size := by
    obtain ⟨xs, hl, hBl, -⟩ := hM
    exact hBl.lt
   go_wp2_with fail; refine (toL_f av bv x _ hr hwx).mono ?_; clear hr hwx k0 k1 k2 k3 k4 k5 k6; rintro e w2 ⟨av, bv, rfl, h1, hb⟩; have hM2 := hM.keep hb; have hB2 := below_step hB hb; replace h1 := h1.mono (Nat.succ_le_of_lt hBW); clear hM hB hb hBW; obtain ⟨ava, avx, rfl⟩ := (h1.now.1).len; obtain ⟨bva, bvx, rfl⟩ := (h1.now.2).len; obtain ⟨p0, g0, f0⟩ := hM2.cell (j * 7) (by omega); obtain ⟨p1, g1, f1⟩ := hM2.cell (j * 7 + 1) (by omega); obtain ⟨p2, g2, f2⟩ := hM2.cell (j * 7 + 2) (by omega); obtain ⟨p3, g3, f3⟩ := hM2.cell (j * 7 + 3) (by omega); obtain ⟨p4, g4, f4⟩ := hM2.cell (j * 7 + 4) (by omega); obtain ⟨p5, g5, f5⟩ := hM2.cell (j * 7 + 5) (by omega); obtain ⟨p6, g6, f6⟩ := hM2.cell (j * 7 + 6) (by omega); have HM := Lib.hid (hM2.step hlt HX.out h1); have hB3 := (((((((hB2.setCell (p := ⟨B, j * 7, none⟩) hwB (.int .i64 x.a)).setCell (p := ⟨B, j * 7 + 1, none⟩) hwB (.int .i64 x.ai)).setCell (p := ⟨B, j * 7 + 2, none⟩) hwB (.int .i64 x.b)).setCell (p := ⟨B, j * 7 + 3, none⟩) hwB (.int .i64 x.bi)).setCell (p := ⟨B, j * 7 + 4, none⟩) hwB (.bool x.up)).setCell (p := ⟨B, j * 7 + 5, none⟩) hwB (.slice ava x.ab.length avx)).setCell (p := ⟨B, j * 7 + 6, none⟩) hwB (.slice bva x.ba.length bvx)); clear hM2 hB2 h1; go_wp2
   go_roundw
   case rel => exact ⟨j + 1, by omega, by go_num, HM.out, hB3⟩
   case measure => simp [intOf]; omega
  ·have hkn : j = n := by omega
   subst hkn; clear hc; have HF := Lib.hid (hM.fresh (b := w.heap.size) HN.out hwB (by rw [← HN.out]; exact hnn)); go_wp2
   go_ret
   exact ⟨.slice (some ⟨B, 0, none⟩) j j, rfl, HF.out, hB⟩
set_option maxHeartbeats 4000000 in
theorem eqLS_same (v u : Value) (L : List Lk) (w : World) (h1 : RdLS w v L) (h2 : RdLS w u L) :
  Calls Tryz.prog 80 #[v, u] w fun e w' => e = .returned (.bool true) ∧ Below w.heap.size w w' := by
 have hm1 := h1.1; obtain ⟨a, c, rfl, hc⟩ := h1.el; obtain ⟨a', c', rfl, hc'⟩ := h2.el; obtain ⟨n, hn⟩ : ∃ n, n = L.length := ⟨_, rfl⟩; rw [← hn] at hc hc' hm1 ⊢; have HN := Lib.hid hn; clear hn h1 h2; have hnn : ((n : Int) != (n : Int)) = false := by simp
 go_enter Tryz.func80, Tryz.ntmps80
 go_wp2
 go_loopw [5] (fun i wr => ∃ j : Nat, j ≤ n ∧ i = .int .i64 j ∧ Below w.heap.size w wr) (fun i _ => n - (intOf i).toNat)
 case atStart => exact ⟨0, Nat.zero_le _, rfl, Below.refl _ _⟩
 case round =>
  obtain ⟨j, hk, rfl, hB⟩ := hrel
  by_cases hlt : j < n
  ·have hltI : (j : Int) < (n : Int) := by omega
   obtain ⟨b, o, rfl, hE⟩ := hc j hlt; obtain ⟨b', o', rfl, hE'⟩ := hc' j hlt; obtain ⟨x, hx⟩ : ∃ x, L.getD j l0 = x := ⟨_, rfl⟩; rw [hx] at hE hE'; obtain ⟨av, bv, hr, k0, k1, k2, k3, k4, k5, k6⟩ := hE.keep hB; obtain ⟨av2, bv2, hr2, m0, m1, m2, m3, m4, m5, m6⟩ := hE'.keep hB; clear hx hc hc' hE hE'; go_wp2
   go_region_held3 (fun w' => Over wr w' ∧ w'.cell? ⟨b, o + j * 7, none⟩ = some (.int .i64 x.a) ∧ w'.cell? ⟨b, o + j * 7 + 1, none⟩ = some (.int .i64 x.ai) ∧ w'.cell? ⟨b, o + j * 7 + 2, none⟩ = some (.int .i64 x.b) ∧ w'.cell? ⟨b, o + j * 7 + 3, none⟩ = some (.int .i64 x.bi) ∧ w'.cell? ⟨b, o + j * 7 + 4, none⟩ = some (.bool x.up) ∧ w'.cell? ⟨b, o + j * 7 + 5, none⟩ = some (av) ∧ w'.cell? ⟨b, o + j * 7 + 6, none⟩ = some (bv) ∧ w'.cell? ⟨b', o' + j * 7, none⟩ = some (.int .i64 x.a) ∧ w'.cell? ⟨b', o' + j * 7 + 1, none⟩ = some (.int .i64 x.ai) ∧ w'.cell? ⟨b', o' + j * 7 + 2, none⟩ = some (.int .i64 x.b) ∧ w'.cell? ⟨b', o' + j * 7 + 3, none⟩ = some (.int .i64 x.bi) ∧ w'.cell? ⟨b', o' + j * 7 + 4, none⟩ = some (.bool x.up) ∧ w'.cell? ⟨b', o' + j * 7 + 5, none⟩ = some (av2) ∧ w'.cell? ⟨b', o' + j * 7 + 6, none⟩ = some (bv2))
    ((first | exact ⟨over_drew _, k0, k1, k2, k3, k4, k5, k6, m0, m1, m2, m3, m4, m5, m6⟩ | exact (fun o => ⟨o, over_cell o (World.block_lt_of_cell? wr _ k0) k0, over_cell o (World.block_lt_of_cell? wr _ k1) k1, over_cell o (World.block_lt_of_cell? wr _ k2) k2, over_cell o (World.block_lt_of_cell? wr _ k3) k3, over_cell o (World.block_lt_of_cell? wr _ k4) k4, over_cell o (World.block_lt_of_cell? wr _ k5) k5, over_cell o (World.block_lt_of_cell? wr _ k6) k6, over_cell o (World.block_lt_of_cell? wr _ m0) m0, over_cell o (World.block_lt_of_cell? wr _ m1) m1, over_cell o (World.block_lt_of_cell? wr _ m2) m2, over_cell o (World.block_lt_of_cell? wr _ m3) m3, over_cell o (World.block_lt_of_cell? wr _ m4) m4, over_cell o (World.block_lt_of_cell? wr _ m5) m5, over_cell o (World.block_lt_of_cell? wr _ m6) m6⟩) (over_step (by assumption : Over wr _ ∧ _).1 (by assumption))))
    ((first | (go_at_call 157; refine (eqL_same av bv av2 bv2 x _ (hr.keep (‹Over wr _ ∧ _›).1) (hr2.keep (‹Over wr _ ∧ _›).1)).mono ?_; rintro e w6 ⟨rfl, hbb⟩)))
   rename_i hH
   replace hB := below_step hB hH.1; clear hH hbb k0 k1 k2 k3 k4 k5 k6 m0 m1 m2 m3 m4 m5 m6 hr hr2; go_wp2
   go_roundw
   case rel => exact ⟨j + 1, by omega, by go_num, hB⟩
   case measure => simp [intOf]; omega
  ·have hkn : j = n := by omega
   clear hc hc'; go_wp2
   go_ret
   exact ⟨rfl, hB⟩
end Go.Proofs.YtbcmoofpgffbhabGreat
