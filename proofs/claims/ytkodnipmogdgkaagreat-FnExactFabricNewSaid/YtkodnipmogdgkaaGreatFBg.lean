/-
  Switches, links and fabrics that the laws copy: memory of their own. Conditions: those in each contract.
  Marks on fabrics. Conditions: those in each contract.
  Lists of prefixes: contracts of the model's test that they are valid and ascending, and of the library's comparison of two lists. Conditions: those in each contract.
  Messages: contracts of the program's comparisons. Conditions: those in each contract.
  Valid switches: words on them; contracts of the program's small functions on entries. Conditions: those in each contract.
-/
import Derived.Test.YtkodnipmogdgkaaGreatFBf
import Derived.Test.YtkodnipmogdgkaaGreatFBc
import Derived.Laws.StructEq
import Derived.Test.YtkodnipmogdgkaaGreatFBd
import Derived.Test.YtkodnipmogdgkaaGreatFBb
namespace Go.Proofs.YtkodnipmogdgkaaGreat
open Go.ChangeShapes Go.WideShapes Go.ChangeAt Go.RowKit Go.BigFrame Go.Joins
set_option linter.unusedVariables false
set_option maxRecDepth 100000
set_option maxRecDepth 100000
set_option linter.unusedSimpArgs false
set_option maxRecDepth 100000

theorem toPS_o (v : Value) (l : List (Int × Int)) (w : World) (h : RdP w v l) (hl : l.length ≤ 1048576) :
  Calls Tryz.prog 91 #[v] w fun e w' => ∃ u, e = .returned u ∧ OwPr w' (Rg w.heap.size w'.heap.size) u l ∧ Below w.heap.size w w' := by
 refine (toP_any v l w h hl).mono ?_; rintro e w' ⟨a, c, rfl, ho, hb⟩
 exact ⟨_, rfl, ⟨ho.mono (Nat.zero_le _), fun k q => World.ownsRow.lt ho k q, hl⟩, hb⟩
theorem toQE_o (v : Value) (l : List Ent) (w : World) (h : RdE w v l) (hl : l.length + wtE l ≤ 1048576) :
  Calls Tryz.prog 146 #[v] w fun e w' => ∃ u, e = .returned u ∧ OwQE w' (Rg w.heap.size w'.heap.size) u l ∧ Below w.heap.size w w' := toQS_o v l w (rdQ_of h) hl
theorem OwQE.mono {w : World} {S S' : Nat → Prop} {v : Value} {l : List Ent} (h : OwQE w S v l) (hs : ∀ b, S b → S' b) : OwQE w S' v l := OwQS.mono h hs
set_option maxHeartbeats 2000000 in
theorem toRb_o (s0 : Value) (x : List Ent) (w : World) (h : RdE w s0 x) (hw : x.length + wtE x ≤ 1048576) :
  Calls Tryz.prog 92 #[.agg #[s0]] w fun e w' => ∃ s0, e = .returned (.agg #[s0]) ∧ OwQE w' (Rg w.heap.size w'.heap.size) s0 x ∧ Below w.heap.size w w' := by
 obtain ⟨bA, bR, bO, B1, z⟩ := three w [s0] [.slice none 0 0] [.slice none 0 0] 83 56 56; have a0 := bA.c 0 rfl
 go_enter Tryz.func92, Tryz.ntmps92
 go_wp2_with fail; clear a0; obtain ⟨lo0, hlo0⟩ : ∃ n, n = w.heap.size + 3 := ⟨_, rfl⟩; refine (toQE_o s0 x _ (h.keep B1) (by omega)).mono ?_; rintro e w1 ⟨u0, rfl, f0, hb⟩; obtain ⟨p0, q0, rfl⟩ := f0.rd.len; have hs := hb.size; rw [z, ← hlo0] at f0 hs; obtain ⟨hi0, hhi0⟩ : ∃ n, n = w1.heap.size := ⟨_, rfl⟩; rw [← hhi0] at f0; replace bA := bA.keep hb; replace bR := bR.keep hb; replace bO := bO.keep hb; replace B1 := below_step B1 hb; clear hb; clear z; obtain ⟨A, hA⟩ : ∃ A, A = w.heap.size := ⟨_, rfl⟩; obtain ⟨R, hR⟩ : ∃ R, R = w.heap.size + 1 := ⟨_, rfl⟩; obtain ⟨O, hO⟩ : ∃ O, O = w.heap.size + 1 + 1 := ⟨_, rfl⟩; rw [← hA] at bA; rw [← hR] at bR; rw [← hO] at bO; rw [← hO, ← hR]
 try rw [← hA]
 have hO3 : O < lo0 := by omega
 have hRO : R ≠ O := by omega
 have hR3 : R < lo0 := by omega
 have hAO : A ≠ O := by omega
 have hwO : w.heap.size ≤ O := by omega
 have hwR : w.heap.size ≤ R := by omega
 have hw3 : w.heap.size ≤ lo0 := by omega
 clear hA hR hO hlo0; have HHI0 := Lib.hid hhi0; clear hhi0; have o0 := bO.c 0 rfl; have of0 := bO.f 0 rfl; have r0 := bR.c 0 rfl; have rf0 := bR.f 0 rfl; go_wp2_with fail; have hll0 : lo0 ≤ hi0 := by rw [HHI0.out]; exact hs
 have bE := ((bR.far (o := 0) (u := .slice p0 x.length q0) hRO).set 0 (.slice p0 x.length q0)); have e0 := bE.c 0 rfl; have g0 := ((f0.agr (agr_setS (g := O) (o := 0) (u := .slice p0 x.length q0) _ (fun q => by have := q.1; omega))).agr (agr_setS (g := R) (o := 0) (u := .slice p0 x.length q0) _ (fun q => by have := q.1; omega)))
 exact bodyPost_ret (v := .agg #[.slice p0 x.length q0]) (by simp [results, Tryz.results92, go_sem, e0]) rfl
  ⟨_, rfl, (g0.mono (fun b q => ⟨by have := q.1; omega, by have := q.2; have := HHI0.out; simp; omega⟩)), ((B1.setCell (p := ⟨O, 0, none⟩) hwO (.slice p0 x.length q0)).setCell (p := ⟨R, 0, none⟩) hwR (.slice p0 x.length q0))⟩
set_option maxHeartbeats 2000000 in
theorem toN_o (s0 s1 s2 : Value) (x : Nd) (w : World) (h : RdN w s0 s1 s2 x) (hw : wtN x ≤ 1048576) :
  Calls Tryz.prog 49 #[.agg #[.int .i64 x.an, s0, .int .i64 x.bw, .bool x.dr, s1, s2]] w fun e w' => ∃ s0 s1 s2, e = .returned (.agg #[.int .i64 x.an, s0, .int .i64 x.bw, .bool x.dr, s1, s2]) ∧ OwN w' (Rg w.heap.size w'.heap.size) s0 s1 s2 x ∧ Below w.heap.size w w' := by
 unfold wtN at hw; obtain ⟨bA, bR, bO, B1, z⟩ := three w [.int .i64 x.an, s0, .int .i64 x.bw, .bool x.dr, s1, s2] [.int .i64 0, .slice none 0 0, .int .i64 0, .bool false, .slice none 0 0, .slice none 0 0] [.int .i64 x.an, .slice none 0 0, .int .i64 0, .bool false, .slice none 0 0, .slice none 0 0] 85 58 58; have a1 := bA.c 1 rfl
 go_enter Tryz.func49, Tryz.ntmps49
 go_wp2_with fail; clear a1; obtain ⟨lo0, hlo0⟩ : ∃ n, n = w.heap.size + 3 := ⟨_, rfl⟩; refine (toPS_o s0 x.own _ (h.1.keep B1) (by omega)).mono ?_; rintro e w1 ⟨u0, rfl, f0, hb⟩; obtain ⟨p0, q0, rfl⟩ := f0.rd.len; have hs := hb.size; rw [z, ← hlo0] at f0 hs; obtain ⟨hi0, hhi0⟩ : ∃ n, n = w1.heap.size := ⟨_, rfl⟩; rw [← hhi0] at f0; replace bA := bA.keep hb; replace bR := bR.keep hb; replace bO := bO.keep hb; replace B1 := below_step B1 hb; clear hb; clear z; obtain ⟨A, hA⟩ : ∃ A, A = w.heap.size := ⟨_, rfl⟩; obtain ⟨R, hR⟩ : ∃ R, R = w.heap.size + 1 := ⟨_, rfl⟩; obtain ⟨O, hO⟩ : ∃ O, O = w.heap.size + 1 + 1 := ⟨_, rfl⟩; rw [← hA] at bA; rw [← hR] at bR; rw [← hO] at bO; rw [← hO, ← hR]
 try rw [← hA]
 have hO3 : O < lo0 := by omega
 have hRO : R ≠ O := by omega
 have hR3 : R < lo0 := by omega
 have hAO : A ≠ O := by omega
 have hwO : w.heap.size ≤ O := by omega
 have hwR : w.heap.size ≤ R := by omega
 have hw3 : w.heap.size ≤ lo0 := by omega
 clear hA hR hO hlo0; have HHI0 := Lib.hid hhi0; clear hhi0; have o1 := bO.c 1 rfl; have of1 := bO.f 1 rfl; have o2 := bO.c 2 rfl; have of2 := bO.f 2 rfl; have o3 := bO.c 3 rfl; have of3 := bO.f 3 rfl; have a2 := bA.c 2 rfl; have a3 := bA.c 3 rfl; have a4 := bA.c 4 rfl; go_wp2_with fail; clear o1 of1 o2 of2 o3 of3 a2 a3 a4; replace bA := bA.far (o := 1) (u := .slice p0 x.own.length q0) hAO; replace bR := bR.far (o := 1) (u := .slice p0 x.own.length q0) hRO; replace bO := bO.set 1 (.slice p0 x.own.length q0); replace f0 := f0.agr (agr_setS (g := O) (o := 1) (u := .slice p0 x.own.length q0) _ (fun q => by have := q.1; omega)); replace B1 := B1.setCell (p := ⟨O, 1, none⟩) hwO (.slice p0 x.own.length q0); replace bA := bA.far (o := 2) (u := .int .i64 x.bw) hAO; replace bR := bR.far (o := 2) (u := .int .i64 x.bw) hRO; replace bO := bO.set 2 (.int .i64 x.bw); replace f0 := f0.agr (agr_setS (g := O) (o := 2) (u := .int .i64 x.bw) _ (fun q => by have := q.1; omega)); replace B1 := B1.setCell (p := ⟨O, 2, none⟩) hwO (.int .i64 x.bw); replace bA := bA.far (o := 3) (u := .bool x.dr) hAO; replace bR := bR.far (o := 3) (u := .bool x.dr) hRO; replace bO := bO.set 3 (.bool x.dr); replace f0 := f0.agr (agr_setS (g := O) (o := 3) (u := .bool x.dr) _ (fun q => by have := q.1; omega)); replace B1 := B1.setCell (p := ⟨O, 3, none⟩) hwO (.bool x.dr); obtain ⟨lo1, hlo1⟩ : ∃ n, n = (((w1.setCell ⟨O, 1, none⟩ (.slice p0 x.own.length q0)).setCell ⟨O, 2, none⟩ (.int .i64 x.bw)).setCell ⟨O, 3, none⟩ (.bool x.dr)).heap.size := ⟨_, rfl⟩; have hle0 : hi0 ≤ lo1 := by rw [hlo1, HHI0.out]; simp
 have hll0 : lo0 ≤ hi0 := by rw [HHI0.out]; exact hs
 refine (toRb_o s1 x.rib _ (h.2.1.keep B1) (by omega)).mono ?_; rintro e w2 ⟨u1, rfl, f1, hb⟩; obtain ⟨p1, q1, rfl⟩ := f1.rd.len; have hs1 := hb.size; rw [← hlo1] at f1 hs1; obtain ⟨hi1, hhi1⟩ : ∃ n, n = w2.heap.size := ⟨_, rfl⟩; rw [← hhi1] at f1; replace bA := bA.keep hb; replace bR := bR.keep hb; replace bO := bO.keep hb; replace f0 := f0.agr (.of_below hb); replace B1 := below_step B1 hb; clear hb; have HHI1 := Lib.hid hhi1; clear hhi1; have o4 := bO.c 4 rfl; have of4 := bO.f 4 rfl; have a5 := bA.c 5 rfl; go_wp2_with fail; clear o4 of4 a5; replace bA := bA.far (o := 4) (u := .slice p1 x.rib.length q1) hAO; replace bR := bR.far (o := 4) (u := .slice p1 x.rib.length q1) hRO; replace bO := bO.set 4 (.slice p1 x.rib.length q1); replace f0 := f0.agr (agr_setS (g := O) (o := 4) (u := .slice p1 x.rib.length q1) _ (fun q => by have := q.1; omega)); replace f1 := f1.agr (agr_setS (g := O) (o := 4) (u := .slice p1 x.rib.length q1) _ (fun q => by have := q.1; omega)); replace B1 := B1.setCell (p := ⟨O, 4, none⟩) hwO (.slice p1 x.rib.length q1); obtain ⟨lo2, hlo2⟩ : ∃ n, n = (w2.setCell ⟨O, 4, none⟩ (.slice p1 x.rib.length q1)).heap.size := ⟨_, rfl⟩; have hle1 : hi1 ≤ lo2 := by rw [hlo2, HHI1.out]; simp
 have hll1 : lo1 ≤ hi1 := by rw [HHI1.out]; exact hs1
 refine (toRb_o s2 x.sent _ (h.2.2.keep B1) (by omega)).mono ?_; rintro e w3 ⟨u2, rfl, f2, hb⟩; obtain ⟨p2, q2, rfl⟩ := f2.rd.len; have hs2 := hb.size; rw [← hlo2] at f2 hs2; obtain ⟨hi2, hhi2⟩ : ∃ n, n = w3.heap.size := ⟨_, rfl⟩; rw [← hhi2] at f2; replace bA := bA.keep hb; replace bR := bR.keep hb; replace bO := bO.keep hb; replace f0 := f0.agr (.of_below hb); replace f1 := f1.agr (.of_below hb); replace B1 := below_step B1 hb; clear hb; have HHI2 := Lib.hid hhi2; clear hhi2; have o0 := bO.c 0 rfl; have of0 := bO.f 0 rfl; have o1 := bO.c 1 rfl; have of1 := bO.f 1 rfl; have o2 := bO.c 2 rfl; have of2 := bO.f 2 rfl; have o3 := bO.c 3 rfl; have of3 := bO.f 3 rfl; have o4 := bO.c 4 rfl; have of4 := bO.f 4 rfl; have o5 := bO.c 5 rfl; have of5 := bO.f 5 rfl; have r0 := bR.c 0 rfl; have rf0 := bR.f 0 rfl; have r1 := bR.c 1 rfl; have rf1 := bR.f 1 rfl; have r2 := bR.c 2 rfl; have rf2 := bR.f 2 rfl; have r3 := bR.c 3 rfl; have rf3 := bR.f 3 rfl; have r4 := bR.c 4 rfl; have rf4 := bR.f 4 rfl; have r5 := bR.c 5 rfl; have rf5 := bR.f 5 rfl; go_wp2_with fail; have hll2 : lo2 ≤ hi2 := by rw [HHI2.out]; exact hs2
 have bE := (((((((bR.far (o := 5) (u := .slice p2 x.sent.length q2) hRO).set 0 (.int .i64 x.an)).set 1 (.slice p0 x.own.length q0)).set 2 (.int .i64 x.bw)).set 3 (.bool x.dr)).set 4 (.slice p1 x.rib.length q1)).set 5 (.slice p2 x.sent.length q2)); have e0 := bE.c 0 rfl; have e1 := bE.c 1 rfl; have e2 := bE.c 2 rfl; have e3 := bE.c 3 rfl; have e4 := bE.c 4 rfl; have e5 := bE.c 5 rfl; have g0 := (((((((f0.agr (agr_setS (g := O) (o := 5) (u := .slice p2 x.sent.length q2) _ (fun q => by have := q.1; omega))).agr (agr_setS (g := R) (o := 0) (u := .int .i64 x.an) _ (fun q => by have := q.1; omega))).agr (agr_setS (g := R) (o := 1) (u := .slice p0 x.own.length q0) _ (fun q => by have := q.1; omega))).agr (agr_setS (g := R) (o := 2) (u := .int .i64 x.bw) _ (fun q => by have := q.1; omega))).agr (agr_setS (g := R) (o := 3) (u := .bool x.dr) _ (fun q => by have := q.1; omega))).agr (agr_setS (g := R) (o := 4) (u := .slice p1 x.rib.length q1) _ (fun q => by have := q.1; omega))).agr (agr_setS (g := R) (o := 5) (u := .slice p2 x.sent.length q2) _ (fun q => by have := q.1; omega))); have g1 := (((((((f1.agr (agr_setS (g := O) (o := 5) (u := .slice p2 x.sent.length q2) _ (fun q => by have := q.1; omega))).agr (agr_setS (g := R) (o := 0) (u := .int .i64 x.an) _ (fun q => by have := q.1; omega))).agr (agr_setS (g := R) (o := 1) (u := .slice p0 x.own.length q0) _ (fun q => by have := q.1; omega))).agr (agr_setS (g := R) (o := 2) (u := .int .i64 x.bw) _ (fun q => by have := q.1; omega))).agr (agr_setS (g := R) (o := 3) (u := .bool x.dr) _ (fun q => by have := q.1; omega))).agr (agr_setS (g := R) (o := 4) (u := .slice p1 x.rib.length q1) _ (fun q => by have := q.1; omega))).agr (agr_setS (g := R) (o := 5) (u := .slice p2 x.sent.length q2) _ (fun q => by have := q.1; omega))); have g2 := (((((((f2.agr (agr_setS (g := O) (o := 5) (u := .slice p2 x.sent.length q2) _ (fun q => by have := q.1; omega))).agr (agr_setS (g := R) (o := 0) (u := .int .i64 x.an) _ (fun q => by have := q.1; omega))).agr (agr_setS (g := R) (o := 1) (u := .slice p0 x.own.length q0) _ (fun q => by have := q.1; omega))).agr (agr_setS (g := R) (o := 2) (u := .int .i64 x.bw) _ (fun q => by have := q.1; omega))).agr (agr_setS (g := R) (o := 3) (u := .bool x.dr) _ (fun q => by have := q.1; omega))).agr (agr_setS (g := R) (o := 4) (u := .slice p1 x.rib.length q1) _ (fun q => by have := q.1; omega))).agr (agr_setS (g := R) (o := 5) (u := .slice p2 x.sent.length q2) _ (fun q => by have := q.1; omega)))
 exact bodyPost_ret (v := .agg #[.int .i64 x.an, .slice p0 x.own.length q0, .int .i64 x.bw, .bool x.dr, .slice p1 x.rib.length q1, .slice p2 x.sent.length q2]) (by simp [results, Tryz.results49, go_sem, e0, e1, e2, e3, e4, e5]) rfl
  ⟨_, _, _, rfl, ⟨Rg lo0 hi0, Rg lo1 hi1, Rg lo2 hi2, (fun b q => ⟨by have := q.1; omega, by have := q.2; have := HHI2.out; simp; omega⟩), (fun b q => ⟨by have := q.1; omega, by have := q.2; have := HHI2.out; simp; omega⟩), (fun b q => ⟨by have := q.1; omega, by have := q.2; have := HHI2.out; simp; omega⟩), (fun b q1 q2 => by have := q1.2; have := q2.1; omega), (fun b q1 q2 => by have := q1.2; have := q2.1; omega), (fun b q1 q2 => by have := q1.2; have := q2.1; omega), g0, g1, g2⟩, (((((((B1.setCell (p := ⟨O, 5, none⟩) hwO (.slice p2 x.sent.length q2)).setCell (p := ⟨R, 0, none⟩) hwR (.int .i64 x.an)).setCell (p := ⟨R, 1, none⟩) hwR (.slice p0 x.own.length q0)).setCell (p := ⟨R, 2, none⟩) hwR (.int .i64 x.bw)).setCell (p := ⟨R, 3, none⟩) hwR (.bool x.dr)).setCell (p := ⟨R, 4, none⟩) hwR (.slice p1 x.rib.length q1)).setCell (p := ⟨R, 5, none⟩) hwR (.slice p2 x.sent.length q2))⟩
def MadeON (w : World) (B n j : Nat) (L : List Nd) : Prop := ∃ (xs : List Value) (E : Nat → Nat → Prop), xs.length = n * 6 ∧ Bl w B xs ∧ (∀ i, i < j → (∀ b, E i b → B < b ∧ b < w.heap.size) ∧ ElN xs w (E i) i (L.getD i n0)) ∧ ∀ i i', i < j → i' < j → i ≠ i' → Dj (E i) (E i')
theorem MadeON.keep {w w' : World} {B n j : Nat} {L : List Nd} (h : MadeON w B n j L) (hb : Below w.heap.size w w') : MadeON w' B n j L := by
 obtain ⟨xs, E, hl, hB, hx, hd⟩ := h; refine ⟨xs, E, hl, hB.keep hb, fun i hi => ?_, hd⟩; obtain ⟨h1, ov, rv, sv, h2, h3⟩ := hx i hi
 exact ⟨fun b q => ⟨(h1 b q).1, Nat.lt_of_lt_of_le (h1 b q).2 hb.size⟩, ov, rv, sv, h2.agr (.of_below hb), h3⟩
theorem MadeON.cell {w : World} {B n k : Nat} {L : List Nd} (h : MadeON w B n k L) (j : Nat) (hj : j < n * 6) : ∃ x, w.cell? ⟨B, j, none⟩ = some x ∧ w.frozen? ⟨B, j, none⟩ = false := by
 obtain ⟨xs, E, hl, hB, hx, -⟩ := h
 exact ⟨_, hB.c j (List.getElem?_eq_getElem (by omega)), hB.f j (List.getElem?_eq_getElem (by omega))⟩
/-- element j has been copied in the world from w0 on -/
theorem MadeON.step {w0 w : World} {B n j : Nat} {L : List Nd} (h0 : MadeON w0 B n j L) (hb : Below w0.heap.size w0 w) (hB0 : B < w0.heap.size) (hk : j < n) {ov rv sv : Value} {x : Nd} (hE : L.getD j n0 = x) (h1 : OwN w (Rg w0.heap.size w.heap.size) ov rv sv x) :
  MadeON ((((((w.setCell ⟨B, j * 6, none⟩ (.int .i64 x.an)).setCell ⟨B, j * 6 + 1, none⟩ (ov)).setCell ⟨B, j * 6 + 2, none⟩ (.int .i64 x.bw)).setCell ⟨B, j * 6 + 3, none⟩ (.bool x.dr)).setCell ⟨B, j * 6 + 4, none⟩ (rv)).setCell ⟨B, j * 6 + 5, none⟩ (sv)) B n (j + 1) L := by
 obtain ⟨xs, E, hl, hB, hx, hd⟩ := h0; replace hB := hB.keep hb; have hsz : ((((((w.setCell ⟨B, j * 6, none⟩ (.int .i64 x.an)).setCell ⟨B, j * 6 + 1, none⟩ (ov)).setCell ⟨B, j * 6 + 2, none⟩ (.int .i64 x.bw)).setCell ⟨B, j * 6 + 3, none⟩ (.bool x.dr)).setCell ⟨B, j * 6 + 4, none⟩ (rv)).setCell ⟨B, j * 6 + 5, none⟩ (sv)).heap.size = w.heap.size := by simp
 refine ⟨((((((xs.set (j * 6) (.int .i64 x.an)).set (j * 6 + 1) (ov)).set (j * 6 + 2) (.int .i64 x.bw)).set (j * 6 + 3) (.bool x.dr)).set (j * 6 + 4) (rv)).set (j * 6 + 5) (sv)), fun i => if i = j then Rg w0.heap.size w.heap.size else E i, by simpa using hl, ((((((hB.set (j * 6) (.int .i64 x.an)).set (j * 6 + 1) (ov)).set (j * 6 + 2) (.int .i64 x.bw)).set (j * 6 + 3) (.bool x.dr)).set (j * 6 + 4) (rv)).set (j * 6 + 5) (sv)), fun i hi => ?_, fun i i' hi hi' hne => ?_⟩
 ·by_cases e : i = j
  ·have e' := e.symm
   subst e'
   (try dsimp only)
   rw [if_pos rfl, hE]; have hn : ¬ Rg w0.heap.size w.heap.size B := fun q => by have := q.1; omega
   refine ⟨fun b q => ⟨by have := q.1; omega, by rw [hsz]; exact q.2⟩, ov, rv, sv, h1.agr (((((((AgrS.refl _ _).trans (agr_setS _ hn)).trans (agr_setS _ hn)).trans (agr_setS _ hn)).trans (agr_setS _ hn)).trans (agr_setS _ hn)).trans (agr_setS _ hn)), ?_, ?_, ?_, ?_, ?_, ?_⟩
   all_goals simp only [List.getElem?_set, List.length_set]
   all_goals simp (disch := omega) [hl]
   all_goals omega
  ·(try dsimp only)
   rw [if_neg e]; obtain ⟨g0, v0, v1, v2, g1, c0, c1, c2, c3, c4, c5⟩ := hx i (by omega); have hn : ¬ E i B := fun q => by have := (g0 B q).1; omega
   refine ⟨fun b q => ⟨(g0 b q).1, by rw [hsz]; exact Nat.lt_of_lt_of_le (g0 b q).2 hb.size⟩, v0, v1, v2, (g1.agr (.of_below hb)).agr (((((((AgrS.refl _ _).trans (agr_setS _ hn)).trans (agr_setS _ hn)).trans (agr_setS _ hn)).trans (agr_setS _ hn)).trans (agr_setS _ hn)).trans (agr_setS _ hn)), ?_, ?_, ?_, ?_, ?_, ?_⟩
   all_goals (repeat rw [List.getElem?_set_ne (by omega)])
   all_goals assumption
 ·intro b q1 q2
  (try dsimp only at q1 q2)
  by_cases e : i = j
  ·rw [if_pos e] at q1
   rw [if_neg (fun e' => hne (e.trans e'.symm))] at q2; have := ((hx i' (by omega)).1 b q2).2; have := q1.1
   omega
  ·rw [if_neg e] at q1
   by_cases e' : i' = j
   ·rw [if_pos e'] at q2
    have := ((hx i (by omega)).1 b q1).2; have := q2.1
    omega
   ·rw [if_neg e'] at q2
    exact hd i i' (by omega) (by omega) hne b q1 q2
theorem MadeON.own {w : World} {B n a : Nat} {L : List Nd} (h : MadeON w B n n L) (hn : n = L.length) (ha : a ≤ B) (hl : L.length ≤ 1048576) : OwNS w (Rg a w.heap.size) (.slice (some ⟨B, 0, none⟩) n n) L := by
 obtain ⟨xs, E, hxl, hB, hx, hd⟩ := h; subst hn; refine ⟨hl, .inr ⟨B, L.length, xs, E, rfl, ⟨ha, hB.lt⟩, hB, hxl, fun i hi => ?_, hd⟩⟩; obtain ⟨g0, g1⟩ := hx i hi
 exact ⟨fun b q => ⟨by have := (g0 b q).1; omega, (g0 b q).2⟩, fun q => by have := (g0 B q).1; omega, g1⟩
theorem infoON : (Tryz.prog.info? 58).map (fun i => (i.zero, i.size, i.bytes)) = some (some (.agg #[.int .i64 0, .slice none 0 0, .int .i64 0, .bool false, .slice none 0 0, .slice none 0 0]), 6, 96) := by kernel_rfl
theorem makeO_N (t : TypeId) (ht : Tryz.prog.underlying t = some (.slice 58)) (n : Nat) (hn : n ≤ 1048576) (w : World) :
  (Instr.makeSlice t (.int .i64 (n : Int)) (.int .i64 (n : Int))).run Tryz.prog w = .ok (.slice (some ⟨w.heap.size, 0, none⟩) n n) (w.alloc (.cells (madeCells #[Value.int .i64 0, Value.slice none 0 0, Value.int .i64 0, Value.bool false, Value.slice none 0 0, Value.slice none 0 0] (n * 6)) 58)) := by
 obtain ⟨i, hi, hzz⟩ := Option.map_eq_some_iff.1 infoON; simp only [Prod.mk.injEq] at hzz; obtain ⟨hz, hs, hb⟩ := hzz; have hr := run_make (P := Tryz.prog) w t 58 i _ ht hi hz .i64 .i64 n n (by omega) (Int.le_refl _) (by rw [hb]; omega) (by omega)
 simpa only [Int.toNat_natCast, hs, Value.cells] using hr
theorem madeON_start (w : World) (n : Nat) (L : List Nd) : MadeON (w.alloc (.cells (madeCells #[Value.int .i64 0, Value.slice none 0 0, Value.int .i64 0, Value.bool false, Value.slice none 0 0, Value.slice none 0 0] (n * 6)) 58)) w.heap.size n 0 L := by
 refine ⟨(madeCells #[Value.int .i64 0, Value.slice none 0 0, Value.int .i64 0, Value.bool false, Value.slice none 0 0, Value.slice none 0 0] (n * 6)).toList, fun _ _ => False, by simp [size_madeCells], ?_, fun i hi => absurd hi (Nat.not_lt_zero _), fun i i' hi => absurd hi (Nat.not_lt_zero _)⟩; have := Bl.new w (madeCells #[Value.int .i64 0, Value.slice none 0 0, Value.int .i64 0, Value.bool false, Value.slice none 0 0, Value.slice none 0 0] (n * 6)).toList 58 w.heap.size rfl
 simpa using this
set_option maxHeartbeats 2000000 in
theorem toNS_o (v : Value) (L : List Nd) (w : World) (h : RdNS w v L) (hn : L.length + wtNS L ≤ 1048576) :
  Calls Tryz.prog 20 #[v] w fun e w' => ∃ u, e = .returned u ∧ OwNS w' (Rg w.heap.size w'.heap.size) u L ∧ Below w.heap.size w w' := by
 have hmk := fun W => makeO_N 27 Tryz.underlying27 L.length (by omega) W
 obtain ⟨a, c, rfl, hc⟩ := h.el; obtain ⟨n, hn'⟩ : ∃ n, n = L.length := ⟨_, rfl⟩; rw [← hn'] at hc hn hmk ⊢; have hnn : n ≤ 1048576 := by omega
 have HN := Lib.hid hn'; have HW := Lib.hid hn; clear hn' h hn; obtain ⟨B, hBB⟩ : ∃ B, B = w.heap.size := ⟨_, rfl⟩; have hst := madeON_start w n L; rw [← hBB] at hst; have HS := Lib.hid hst; have HBB := Lib.hid hBB; have hwB : w.heap.size ≤ B := by omega
 clear hst
 go_enter Tryz.func20, Tryz.ntmps20
 go_wp2; rw [← hBB]; clear hmk hBB
 go_loopw [4] (fun i wr => ∃ j : Nat, j ≤ n ∧ i = .int .i64 j ∧ MadeON wr B n j L ∧ Below w.heap.size w wr) (fun i _ => n - (intOf i).toNat)
 case atStart => exact ⟨0, Nat.zero_le _, rfl, HS.out, (Below.refl _ _).alloc (Nat.le_refl _) _⟩
 case round =>
  obtain ⟨j, hj, rfl, hM, hB⟩ := hrel
  by_cases hlt : j < n
  ·have hltI : (j : Int) < (n : Int) := by omega
   obtain ⟨b, o, rfl, hE⟩ := hc j hlt; obtain ⟨x, hx⟩ : ∃ x, L.getD j n0 = x := ⟨_, rfl⟩; rw [hx] at hE; obtain ⟨ov, rv, sv, hr, k0, k1, k2, k3, k4, k5⟩ := hE.keep hB; have HX := Lib.hid hx; have HCC := Lib.hid hc; clear hx hc hE
   have hwx : wtN x ≤ 1048576 := by
    have h1 := wtN_at (L := L) (j := j) (by rw [← HN.out]; exact hlt); rw [HX.out] at h1; have := HW.out
    omega
   have hBW : B < wr.heap.size := by
    obtain ⟨xs, E, hl, hBl, -⟩ := hM
    exact hBl.lt
   have HMM := Lib.hid hM; go_wp2_with fail; refine (toN_o ov rv sv x _ hr hwx).mono ?_; clear hr hwx k0 k1 k2 k3 k4 k5; rintro e w2 ⟨ov, rv, sv, rfl, h1, hb⟩; have hM2 := hM.keep hb; have hB2 := below_step hB hb; clear hM hB; obtain ⟨ova, ovx, rfl⟩ := (h1.rd.1).len; obtain ⟨rva, rvx, rfl⟩ := (h1.rd.2.1).len; obtain ⟨sva, svx, rfl⟩ := (h1.rd.2.2).len; obtain ⟨p0, g0, f0⟩ := hM2.cell (j * 6) (by omega); obtain ⟨p1, g1, f1⟩ := hM2.cell (j * 6 + 1) (by omega); obtain ⟨p2, g2, f2⟩ := hM2.cell (j * 6 + 2) (by omega); obtain ⟨p3, g3, f3⟩ := hM2.cell (j * 6 + 3) (by omega); obtain ⟨p4, g4, f4⟩ := hM2.cell (j * 6 + 4) (by omega); obtain ⟨p5, g5, f5⟩ := hM2.cell (j * 6 + 5) (by omega); have HM := Lib.hid (HMM.out.step hb hBW hlt HX.out h1); have hB3 := ((((((hB2.setCell (p := ⟨B, j * 6, none⟩) hwB (.int .i64 x.an)).setCell (p := ⟨B, j * 6 + 1, none⟩) hwB (.slice ova x.own.length ovx)).setCell (p := ⟨B, j * 6 + 2, none⟩) hwB (.int .i64 x.bw)).setCell (p := ⟨B, j * 6 + 3, none⟩) hwB (.bool x.dr)).setCell (p := ⟨B, j * 6 + 4, none⟩) hwB (.slice rva x.rib.length rvx)).setCell (p := ⟨B, j * 6 + 5, none⟩) hwB (.slice sva x.sent.length svx)); clear hM2 hB2 h1 hb; go_wp2
   go_roundw
   case rel => exact ⟨j + 1, by omega, by go_num, HM.out, hB3⟩
   case measure => simp [intOf]; omega
  ·have hkn : j = n := by omega
   subst hkn; clear hc; have HF := Lib.hid (hM.own (a := w.heap.size) HN.out hwB (by rw [← HN.out]; exact hnn)); go_wp2
   go_ret
   exact ⟨.slice (some ⟨B, 0, none⟩) j j, rfl, HF.out, hB⟩
def MadeOL (w : World) (B n j : Nat) (L : List Lk) : Prop := ∃ (xs : List Value) (E : Nat → Nat → Prop), xs.length = n * 7 ∧ Bl w B xs ∧ (∀ i, i < j → (∀ b, E i b → B < b ∧ b < w.heap.size) ∧ ElL xs w (E i) i (L.getD i l0)) ∧ ∀ i i', i < j → i' < j → i ≠ i' → Dj (E i) (E i')
theorem MadeOL.keep {w w' : World} {B n j : Nat} {L : List Lk} (h : MadeOL w B n j L) (hb : Below w.heap.size w w') : MadeOL w' B n j L := by
 obtain ⟨xs, E, hl, hB, hx, hd⟩ := h; refine ⟨xs, E, hl, hB.keep hb, fun i hi => ?_, hd⟩; obtain ⟨h1, av, bv, h2, h3⟩ := hx i hi
 exact ⟨fun b q => ⟨(h1 b q).1, Nat.lt_of_lt_of_le (h1 b q).2 hb.size⟩, av, bv, h2.agr (.of_below hb), h3⟩
theorem MadeOL.cell {w : World} {B n k : Nat} {L : List Lk} (h : MadeOL w B n k L) (j : Nat) (hj : j < n * 7) : ∃ x, w.cell? ⟨B, j, none⟩ = some x ∧ w.frozen? ⟨B, j, none⟩ = false := by
 obtain ⟨xs, E, hl, hB, hx, -⟩ := h
 exact ⟨_, hB.c j (List.getElem?_eq_getElem (by omega)), hB.f j (List.getElem?_eq_getElem (by omega))⟩
/-- element j has been copied in the world from w0 on -/
theorem MadeOL.step {w0 w : World} {B n j : Nat} {L : List Lk} (h0 : MadeOL w0 B n j L) (hb : Below w0.heap.size w0 w) (hB0 : B < w0.heap.size) (hk : j < n) {av bv : Value} {x : Lk} (hE : L.getD j l0 = x) (h1 : OwL w (Rg w0.heap.size w.heap.size) av bv x) :
  MadeOL (((((((w.setCell ⟨B, j * 7, none⟩ (.int .i64 x.a)).setCell ⟨B, j * 7 + 1, none⟩ (.int .i64 x.ai)).setCell ⟨B, j * 7 + 2, none⟩ (.int .i64 x.b)).setCell ⟨B, j * 7 + 3, none⟩ (.int .i64 x.bi)).setCell ⟨B, j * 7 + 4, none⟩ (.bool x.up)).setCell ⟨B, j * 7 + 5, none⟩ (av)).setCell ⟨B, j * 7 + 6, none⟩ (bv)) B n (j + 1) L := by
 obtain ⟨xs, E, hl, hB, hx, hd⟩ := h0; replace hB := hB.keep hb; have hsz : (((((((w.setCell ⟨B, j * 7, none⟩ (.int .i64 x.a)).setCell ⟨B, j * 7 + 1, none⟩ (.int .i64 x.ai)).setCell ⟨B, j * 7 + 2, none⟩ (.int .i64 x.b)).setCell ⟨B, j * 7 + 3, none⟩ (.int .i64 x.bi)).setCell ⟨B, j * 7 + 4, none⟩ (.bool x.up)).setCell ⟨B, j * 7 + 5, none⟩ (av)).setCell ⟨B, j * 7 + 6, none⟩ (bv)).heap.size = w.heap.size := by simp
 refine ⟨(((((((xs.set (j * 7) (.int .i64 x.a)).set (j * 7 + 1) (.int .i64 x.ai)).set (j * 7 + 2) (.int .i64 x.b)).set (j * 7 + 3) (.int .i64 x.bi)).set (j * 7 + 4) (.bool x.up)).set (j * 7 + 5) (av)).set (j * 7 + 6) (bv)), fun i => if i = j then Rg w0.heap.size w.heap.size else E i, by simpa using hl, (((((((hB.set (j * 7) (.int .i64 x.a)).set (j * 7 + 1) (.int .i64 x.ai)).set (j * 7 + 2) (.int .i64 x.b)).set (j * 7 + 3) (.int .i64 x.bi)).set (j * 7 + 4) (.bool x.up)).set (j * 7 + 5) (av)).set (j * 7 + 6) (bv)), fun i hi => ?_, fun i i' hi hi' hne => ?_⟩
 ·by_cases e : i = j
  ·have e' := e.symm
   subst e'
   (try dsimp only)
   rw [if_pos rfl, hE]; have hn : ¬ Rg w0.heap.size w.heap.size B := fun q => by have := q.1; omega
   refine ⟨fun b q => ⟨by have := q.1; omega, by rw [hsz]; exact q.2⟩, av, bv, h1.agr ((((((((AgrS.refl _ _).trans (agr_setS _ hn)).trans (agr_setS _ hn)).trans (agr_setS _ hn)).trans (agr_setS _ hn)).trans (agr_setS _ hn)).trans (agr_setS _ hn)).trans (agr_setS _ hn)), ?_, ?_, ?_, ?_, ?_, ?_, ?_⟩
   all_goals simp only [List.getElem?_set, List.length_set]
   all_goals simp (disch := omega) [hl]
   all_goals omega
  ·(try dsimp only)
   rw [if_neg e]; obtain ⟨g0, v0, v1, g1, c0, c1, c2, c3, c4, c5, c6⟩ := hx i (by omega); have hn : ¬ E i B := fun q => by have := (g0 B q).1; omega
   refine ⟨fun b q => ⟨(g0 b q).1, by rw [hsz]; exact Nat.lt_of_lt_of_le (g0 b q).2 hb.size⟩, v0, v1, (g1.agr (.of_below hb)).agr ((((((((AgrS.refl _ _).trans (agr_setS _ hn)).trans (agr_setS _ hn)).trans (agr_setS _ hn)).trans (agr_setS _ hn)).trans (agr_setS _ hn)).trans (agr_setS _ hn)).trans (agr_setS _ hn)), ?_, ?_, ?_, ?_, ?_, ?_, ?_⟩
   all_goals (repeat rw [List.getElem?_set_ne (by omega)])
   all_goals assumption
 ·intro b q1 q2
  (try dsimp only at q1 q2)
  by_cases e : i = j
  ·rw [if_pos e] at q1
   rw [if_neg (fun e' => hne (e.trans e'.symm))] at q2; have := ((hx i' (by omega)).1 b q2).2; have := q1.1
   omega
  ·rw [if_neg e] at q1
   by_cases e' : i' = j
   ·rw [if_pos e'] at q2
    have := ((hx i (by omega)).1 b q1).2; have := q2.1
    omega
   ·rw [if_neg e'] at q2
    exact hd i i' (by omega) (by omega) hne b q1 q2
theorem MadeOL.own {w : World} {B n a : Nat} {L : List Lk} (h : MadeOL w B n n L) (hn : n = L.length) (ha : a ≤ B) (hl : L.length ≤ 1048576) : OwLS w (Rg a w.heap.size) (.slice (some ⟨B, 0, none⟩) n n) L := by
 obtain ⟨xs, E, hxl, hB, hx, hd⟩ := h; subst hn; refine ⟨hl, .inr ⟨B, L.length, xs, E, rfl, ⟨ha, hB.lt⟩, hB, hxl, fun i hi => ?_, hd⟩⟩; obtain ⟨g0, g1⟩ := hx i hi
 exact ⟨fun b q => ⟨by have := (g0 b q).1; omega, (g0 b q).2⟩, fun q => by have := (g0 B q).1; omega, g1⟩
theorem infoOL : (Tryz.prog.info? 70).map (fun i => (i.zero, i.size, i.bytes)) = some (some (.agg #[.int .i64 0, .int .i64 0, .int .i64 0, .int .i64 0, .bool false, .slice none 0 0, .slice none 0 0]), 7, 88) := by kernel_rfl
def OwF (w : World) (S : Nat → Prop) (nv lv : Value) (x : Fb) : Prop := ∃ S0 S1 : Nat → Prop, (∀ b, S0 b → S b) ∧ (∀ b, S1 b → S b) ∧ Dj S0 S1 ∧ OwNS w S0 nv x.nodes ∧ OwLS w S1 lv x.links
end Go.Proofs.YtkodnipmogdgkaaGreat
namespace Go.Proofs.YtkodnipmogdgkaaGreat
open Go.ChangeShapes Go.WideShapes Go.ChangeAt Go.RowKit Go.BigFrame Go.Joins
set_option linter.unusedVariables false
set_option maxRecDepth 100000
set_option linter.unusedSimpArgs false
set_option maxRecDepth 100000

theorem MidS.of_below {S : Nat → Prop} {w w' : World} (h : Below w.heap.size w w') : MidS S w w' := ⟨h.os, h.tape, h.output, h.size, fun i hi _ => h.block i hi⟩
theorem MidS.wide {S T : Nat → Prop} {w w' : World} (h : MidS S w w') (hs : ∀ b, S b → T b) : MidS T w w' := ⟨h.os, h.tape, h.output, h.size, fun i hi hc => h.block i hi (fun q => hc (hs i q))⟩
theorem OwF.agr {w w' : World} {S : Nat → Prop} {nv lv : Value} {x : Fb} (h : OwF w S nv lv x) (a : AgrS S w w') : OwF w' S nv lv x := by
 obtain ⟨S0, S1, s0, s1, dj, h0, h1⟩ := h
 exact ⟨S0, S1, s0, s1, dj, h0.agr (a.sub s0), h1.agr (a.sub s1)⟩
theorem OwF.rd {w : World} {S : Nat → Prop} {nv lv : Value} {x : Fb} (h : OwF w S nv lv x) : RdF w nv lv x := by
 obtain ⟨S0, S1, -, -, -, h0, h1⟩ := h
 exact ⟨h0.rd, h1.rd⟩
def cntF (x : Fb) : Nat := cntNS x.nodes + cntLS x.links
def MkF (k : Int) (x : Fb) : Prop := MkNS k x.nodes ∧ MkLS (k + (cntNS x.nodes : Nat)) x.links
theorem mkF_any (nv lv : Value) (x : Fb) (k : Int) (S : Nat → Prop) (w : World) (h : OwF w S nv lv x) (hS : ∀ b, S b → b < w.heap.size) (hk0 : 0 ≤ k) (hk : k + (cntF x : Nat) ≤ 40000000) :
  Calls Tryz.prog 13 #[.agg #[nv, lv, .int .i64 x.width], .int .i64 k] w fun e w' => ∃ x' : Fb, e = .returned (.int .i64 (k + (cntF x : Nat))) ∧ cntF x' = cntF x ∧ x'.width = x.width ∧ MkF k x' ∧ OwF w' S nv lv x' ∧ MidS S w w' := by
 obtain ⟨S0, S1, s0, s1, dj, h0, h1⟩ := h; unfold cntF at hk; obtain ⟨bA, B0, z⟩ := one w [nv, lv, .int .i64 x.width] 30; replace h0 := h0.agr (.of_below B0); replace h1 := h1.agr (.of_below B0); have mS : MidS S w (w.alloc (.cells #[nv, lv, .int .i64 x.width] 30)) := .of_below B0; have hnb : ∀ b, S b → b ≠ w.heap.size := fun b q e => by have := hS b q; omega
 have a0 := bA.c 0 rfl
 go_enter Tryz.func13, Tryz.ntmps13
 go_wp2_with fail; clear a0; refine (mkNS_any _ x.nodes k S0 _ h0 hk0 (by omega)).mono ?_; rintro e w1 ⟨N', rfl, c0, ln0, t0, o0, mid⟩; replace bA := mid.bl bA (fun q => hnb _ (s0 _ q) rfl); replace h1 := h1.agr (mid.agr dj.symm); replace mS := mS.trans (mid.wide s0); obtain ⟨r1, hr1⟩ : ∃ r : Int, r = k + (cntNS x.nodes : Nat) := ⟨_, rfl⟩; have hb1 : 0 ≤ r1 ∧ r1 + (cntLS x.links : Nat) ≤ 40000000 := by omega
 rw [← hr1]; have HR1 := Lib.hid hr1; have a1 := bA.c 1 rfl; clear mid hr1; go_wp2_with fail; refine (mkLS_any _ x.links r1 S1 _ h1 hb1.1 hb1.2).mono ?_; rintro e w2 ⟨L', rfl, c1, ln1, t1, o1, mid⟩; replace o0 := o0.agr (mid.agr dj); replace mS := mS.trans (mid.wide s1); obtain ⟨r2, hr2⟩ : ∃ r : Int, r = r1 + (cntLS x.links : Nat) := ⟨_, rfl⟩; rw [← hr2]; have HR2 := Lib.hid hr2; clear mid hr2; go_wp2
 go_ret
 refine ⟨⟨N', L', x.width⟩, ?_, ?_, rfl, ⟨t0, ?_⟩, ⟨S0, S1, s0, s1, dj, o0, o1⟩, mS⟩
 ·have e1 := HR1.out
  have e2 := HR2.out; have e : r2 = k + (cntF x : Nat) := by unfold cntF; omega
  rw [← e]
  rfl
 ·unfold cntF; dsimp only; omega
 ·rw [c0, ← HR1.out]; exact t1
theorem hdF_any (nv lv : Value) (x : Fb) (k : Int) (w : World) (h : RdF w nv lv x) (hm : MkF k x) (hk0 : 0 ≤ k) (hk : k + (cntF x : Nat) ≤ 40000000) :
  Calls Tryz.prog 14 #[.agg #[nv, lv, .int .i64 x.width], .int .i64 k] w fun e w' => e = .returned (.int .i64 (k + (cntF x : Nat))) ∧ Below w.heap.size w w' := by
 unfold cntF at hk; obtain ⟨bA, B0, z⟩ := one w [nv, lv, .int .i64 x.width] 30; replace h := h.keep B0; obtain ⟨t0, t1⟩ := hm; have a0 := bA.c 0 rfl
 go_enter Tryz.func14, Tryz.ntmps14
 go_wp2_with fail; clear a0; refine (hdNS_any _ x.nodes k _ h.1 t0 hk0 (by omega)).mono ?_; rintro e w1 ⟨rfl, hb⟩; replace bA := bA.keep hb; replace h := h.keep hb; replace B0 := below_step B0 hb; obtain ⟨r1, hr1⟩ : ∃ r : Int, r = k + (cntNS x.nodes : Nat) := ⟨_, rfl⟩; have hb1 : 0 ≤ r1 ∧ r1 + (cntLS x.links : Nat) ≤ 40000000 := by omega
 have hn1 : ¬ r1 < 0 := by omega
 rw [← hr1] at t1 ⊢; have HR1 := Lib.hid hr1; have a1 := bA.c 1 rfl; clear hb hr1; go_wp2_with fail; refine (hdLS_any _ x.links r1 _ h.2 t1 hb1.1 hb1.2).mono ?_; rintro e w2 ⟨rfl, hb⟩; replace B0 := below_step B0 hb; obtain ⟨r2, hr2⟩ : ∃ r : Int, r = r1 + (cntLS x.links : Nat) := ⟨_, rfl⟩; have hn2 : ¬ r2 < 0 := by omega
 rw [← hr2]; have HR2 := Lib.hid hr2; clear hb hr2; go_wp2
 go_ret
 refine ⟨?_, B0⟩; have e1 := HR1.out; have e2 := HR2.out; have e : r2 = k + (cntF x : Nat) := by unfold cntF; omega
 rw [← e]
 rfl
end Go.Proofs.YtkodnipmogdgkaaGreat
namespace Go.Proofs.YtkodnipmogdgkaaGreat
open Go.ChangeShapes Go.WideShapes Go.ChangeAt Go.RowKit Go.BigFrame
set_option linter.unusedVariables false
set_option maxRecDepth 100000
set_option linter.unusedSimpArgs false

theorem spfx_any (v : Value) (l : List (Int × Int)) (w : World) (h : RdP w v l) :
  Calls Tryz.prog 122 #[v] w fun e w' => e = .returned (.bool (decide ((l.length : Int) ≤ 8) && pfxB l)) ∧ Below w.heap.size w w' := by
 have hm := h.1; obtain ⟨a, c, rfl, hc⟩ := h.el; obtain ⟨n, hn⟩ : ∃ n, n = l.length := ⟨_, rfl⟩; rw [← hn] at hc hm ⊢; have HN := Lib.hid hn; clear h hn
 go_enter Tryz.func122, Tryz.ntmps122
 go_wp2
 go_loopw [3] (fun q wr => ∃ k : Nat, k ≤ n ∧ q = .int .i64 k ∧ (∀ i, i < k → okAt l i) ∧ (∀ i, i + 1 < k → upAt l i) ∧ Below w.heap.size w wr) (fun q _ => n - (intOf q).toNat)
 case atStart => exact ⟨0, Nat.zero_le _, rfl, fun i hi => by omega, fun i hi => by omega, Below.refl _ _⟩
 case round =>
  obtain ⟨k, hk, rfl, hok, hup, hB⟩ := hrel; have HO := Lib.hid hok; have HU := Lib.hid hup; clear hok hup
  by_cases hlt : k < n
  ·have hltI : (k : Int) < (n : Int) := by omega
   obtain ⟨b, o, rfl, d0, d1⟩ := hc k hlt; have e0 := cell_keep hB (World.block_lt_of_cell? w _ d0) d0; have e1 := cell_keep hB (World.block_lt_of_cell? w _ d1) d1; obtain ⟨⟨x, y⟩, hx⟩ : ∃ q, l.getD k (0, 0) = q := ⟨_, rfl⟩; rw [hx] at e0 e1; have HX := Lib.hid hx; have HCC := Lib.hid hc; clear hx hc d0 d1; cases hp : pokB x y
   ·have HP := Lib.hid hp
    have HF := Lib.hid (pfxB_ok (by rw [← HN.out]; exact hlt) HX.out hp); clear hp; go_wp2; refine wp_region_class (C := Over (wr)) (by kernel_rfl) (by kernel_rfl) (over_drew _) ?_
    repeat (first | go_big_quiet_skip | (go_big_quiet_want; go_big_quiet_op; go_big_quiet_on) | (go_big_quiet_want; go_big_quiet_op; apply Exists.intro; refine ⟨fun w' hC => ?_, ?_⟩; ((first | (go_at_call 171; refine (spok_t _ HP).mono ?_; rintro e w1 ⟨rfl, hb1⟩; exact ⟨rfl, over_step hC hb1⟩))); go_big_quiet_on) | (go_big_quiet_want; apply Exists.intro; refine ⟨fun w' hC => ?_, ?_⟩; (have k0 := over_cell hC (World.block_lt_of_cell? _ _ e0) e0; have k1 := over_cell hC (World.block_lt_of_cell? _ _ e1) e1; simp [Oper.quietAt, Oper.quietUpon, go_sem, k0, k1, hltI, hlt]; first | done | rfl); go_big_quiet_on; simp only [Act.put, List.setIfInBounds_toArray, List.set_cons_zero, List.set_cons_succ]))
    refine wpQuiet_nil ?_; intro wr hC; have k0 := over_cell hC (World.block_lt_of_cell? _ _ e0) e0; have k1 := over_cell hC (World.block_lt_of_cell? _ _ e1) e1; go_wp2
    go_ret
    exact ⟨ret_bool (by rw [HF.out, Bool.and_false]), below_step hB hC⟩
   ·have HP := Lib.hid hp
    have HOK : Hid (∀ i, i < k + 1 → okAt l i) := Lib.hid fun i hi => by
     by_cases e : i = k
     ·unfold okAt; rw [e, HX.out]; exact hp
     ·exact HO.out i (by omega)
    clear hp
    rcases Nat.eq_zero_or_pos k with rfl | hpos
    ·simp only [Nat.zero_mul, Nat.add_zero] at e0 e1
     go_wp2; refine wp_region_class (C := Over (wr)) (by kernel_rfl) (by kernel_rfl) (over_drew _) ?_
     repeat (first | go_big_quiet_skip | (go_big_quiet_want; go_big_quiet_op; go_big_quiet_on) | (go_big_quiet_want; go_big_quiet_op; apply Exists.intro; refine ⟨fun w' hC => ?_, ?_⟩; ((first | (go_at_call 171; refine (spok_t _ HP).mono ?_; rintro e w1 ⟨rfl, hb1⟩; exact ⟨rfl, over_step hC hb1⟩))); go_big_quiet_on) | (go_big_quiet_want; apply Exists.intro; refine ⟨fun w' hC => ?_, ?_⟩; (have k0 := over_cell hC (World.block_lt_of_cell? _ _ e0) e0; have k1 := over_cell hC (World.block_lt_of_cell? _ _ e1) e1; simp [Oper.quietAt, Oper.quietUpon, go_sem, k0, k1, hltI, hlt]; first | done | rfl); go_big_quiet_on; simp only [Act.put, List.setIfInBounds_toArray, List.set_cons_zero, List.set_cons_succ]))
     refine wpQuiet_nil ?_; intro wr hC; have k0 := over_cell hC (World.block_lt_of_cell? _ _ e0) e0; have k1 := over_cell hC (World.block_lt_of_cell? _ _ e1) e1; go_wp2
     go_roundw
     case rel => exact ⟨0 + 1, by omega, by go_num, HOK.out, fun i hi => by omega, below_step hB hC⟩
     case measure => simp [intOf]; omega
    ·obtain ⟨j, rfl⟩ : ∃ j, k = j + 1 := ⟨k - 1, by omega⟩
     obtain ⟨b', o', hbo, d2, d3⟩ := HCC.out j (by omega); obtain ⟨rfl, rfl⟩ : b = b' ∧ o = o' := by simpa using hbo
     clear hbo; obtain ⟨⟨s, t⟩, hs⟩ : ∃ q, l.getD j (0, 0) = q := ⟨_, rfl⟩; rw [hs] at d2 d3; have HS := Lib.hid hs; obtain ⟨r, hr⟩ : ∃ r, cmp2 s t x y = r := ⟨_, rfl⟩; have HR := Lib.hid hr; clear hs hr
     by_cases hneg : r < 0
     ·have HUP : Hid (∀ i, i + 1 < j + 1 + 1 → upAt l i) := Lib.hid fun i hi => by
       by_cases e : i = j
       ·unfold upAt; rw [e, HS.out, HX.out, HR.out]; exact hneg
       ·exact HU.out i (by omega)
      have f0 := cell_keep hB (World.block_lt_of_cell? w _ d2) d2; have f1 := cell_keep hB (World.block_lt_of_cell? w _ d3) d3; clear d2 d3; have hwj : IntKind.i64.wrap (j : Int) = j := wrap64_in _ (by omega) (by omega); have hjI : (j : Int) < (n : Int) := by omega
      have hjN : j < n := by omega
      have hkJ : (j : Int) + 1 < (n : Int) := by omega
      have hkT : ((j : Int) + 1).toNat = j + 1 := by omega
      have hk0 : (0 : Int) ≤ (j : Int) + 1 := by omega
      go_wp2; refine wp_region_class (C := Over (wr)) (by kernel_rfl) (by kernel_rfl) (over_drew _) ?_
      repeat (first | go_big_quiet_skip | (go_big_quiet_want; go_big_quiet_op; go_big_quiet_on) | (go_big_quiet_want; go_big_quiet_op; apply Exists.intro; refine ⟨fun w' hC => ?_, ?_⟩; ((first | (go_at_call 171; refine (spok_t _ HP).mono ?_; rintro e w1 ⟨rfl, hb1⟩; exact ⟨rfl, over_step hC hb1⟩) | (go_at_call 172; refine (scmp_t _ HR).mono ?_; rintro e w1 ⟨rfl, hb1⟩; exact ⟨rfl, over_step hC hb1⟩))); go_big_quiet_on) | (go_big_quiet_want; apply Exists.intro; refine ⟨fun w' hC => ?_, ?_⟩; (have k0 := over_cell hC (World.block_lt_of_cell? _ _ e0) e0; have k1 := over_cell hC (World.block_lt_of_cell? _ _ e1) e1; have k2 := over_cell hC (World.block_lt_of_cell? _ _ f0) f0; have k3 := over_cell hC (World.block_lt_of_cell? _ _ f1) f1; simp [Oper.quietAt, Oper.quietUpon, go_sem, k0, k1, k2, k3, hltI, hlt, hwj, hjI, hjN, hkJ, hkT, hk0]; first | done | rfl); go_big_quiet_on; simp only [Act.put, List.setIfInBounds_toArray, List.set_cons_zero, List.set_cons_succ]))
      refine wpQuiet_nil ?_; intro wr hC; have k0 := over_cell hC (World.block_lt_of_cell? _ _ e0) e0; have k1 := over_cell hC (World.block_lt_of_cell? _ _ e1) e1; have k2 := over_cell hC (World.block_lt_of_cell? _ _ f0) f0; have k3 := over_cell hC (World.block_lt_of_cell? _ _ f1) f1; go_wp2
      go_roundw
      case rel => exact ⟨j + 1 + 1, by omega, by go_num, HOK.out, HUP.out, below_step hB hC⟩
      case measure => simp [intOf]; omega
     ·have HF := Lib.hid (pfxB_up (by rw [← HN.out]; exact hlt) HS.out HX.out (by rw [HR.out]; exact hneg))
      have f0 := cell_keep hB (World.block_lt_of_cell? w _ d2) d2; have f1 := cell_keep hB (World.block_lt_of_cell? w _ d3) d3; clear d2 d3; have hwj : IntKind.i64.wrap (j : Int) = j := wrap64_in _ (by omega) (by omega); have hjI : (j : Int) < (n : Int) := by omega
      have hjN : j < n := by omega
      have hkJ : (j : Int) + 1 < (n : Int) := by omega
      have hkT : ((j : Int) + 1).toNat = j + 1 := by omega
      have hk0 : (0 : Int) ≤ (j : Int) + 1 := by omega
      go_wp2; refine wp_region_class (C := Over (wr)) (by kernel_rfl) (by kernel_rfl) (over_drew _) ?_
      repeat (first | go_big_quiet_skip | (go_big_quiet_want; go_big_quiet_op; go_big_quiet_on) | (go_big_quiet_want; go_big_quiet_op; apply Exists.intro; refine ⟨fun w' hC => ?_, ?_⟩; ((first | (go_at_call 171; refine (spok_t _ HP).mono ?_; rintro e w1 ⟨rfl, hb1⟩; exact ⟨rfl, over_step hC hb1⟩) | (go_at_call 172; refine (scmp_t _ HR).mono ?_; rintro e w1 ⟨rfl, hb1⟩; exact ⟨rfl, over_step hC hb1⟩))); go_big_quiet_on) | (go_big_quiet_want; apply Exists.intro; refine ⟨fun w' hC => ?_, ?_⟩; (have k0 := over_cell hC (World.block_lt_of_cell? _ _ e0) e0; have k1 := over_cell hC (World.block_lt_of_cell? _ _ e1) e1; have k2 := over_cell hC (World.block_lt_of_cell? _ _ f0) f0; have k3 := over_cell hC (World.block_lt_of_cell? _ _ f1) f1; simp [Oper.quietAt, Oper.quietUpon, go_sem, k0, k1, k2, k3, hltI, hlt, hwj, hjI, hjN, hkJ, hkT, hk0]; first | done | rfl); go_big_quiet_on; simp only [Act.put, List.setIfInBounds_toArray, List.set_cons_zero, List.set_cons_succ]))
      refine wpQuiet_nil ?_; intro wr hC; have k0 := over_cell hC (World.block_lt_of_cell? _ _ e0) e0; have k1 := over_cell hC (World.block_lt_of_cell? _ _ e1) e1; have k2 := over_cell hC (World.block_lt_of_cell? _ _ f0) f0; have k3 := over_cell hC (World.block_lt_of_cell? _ _ f1) f1; go_wp2
      go_ret
      exact ⟨ret_bool (by rw [HF.out, Bool.and_false]), below_step hB hC⟩
  ·have hkn : k = n := by omega
   subst hkn; have HF := Lib.hid (pfxB_yes HN.out HO.out HU.out); clear hc; go_wp2
   all_goals
    go_ret
    exact ⟨ret_bool (by rw [HF.out, Bool.and_true]), hB⟩
/-- the library's comparison of two lists of prefixes -/
theorem slP_any (v u : Value) (l m : List (Int × Int)) (w : World) (h1 : RdP w v l) (h2 : RdP w u m) :
  Calls Tryz.prog 214 #[v, u] w fun e w' => e = .returned (.bool (decide (l = m))) ∧ Below w.heap.size w w' := by
 by_cases hlen : l.length = m.length
 ·have hm1 := h1.1
  obtain ⟨a, c, rfl, hc⟩ := h1.el; obtain ⟨a', c', rfl, hc'⟩ := h2.el; obtain ⟨n, hn⟩ : ∃ n, n = l.length := ⟨_, rfl⟩; have hn' : n = m.length := hn.trans hlen; rw [← hn'] at hc' ⊢; rw [← hn] at hc hm1 ⊢; have HN := Lib.hid hn; have HN' := Lib.hid hn'; clear hn hn' hlen h1 h2
  go_enter Tryz.func214, Tryz.ntmps214
  go_wp2
  go_loopw [13] (fun i wr => ∃ k : Nat, k ≤ n ∧ i = .int .i64 k ∧ l.take k = m.take k ∧ Below w.heap.size w wr) (fun i _ => n - (intOf i).toNat)
  case atStart => exact ⟨0, Nat.zero_le _, rfl, rfl, Below.refl _ _⟩
  case round =>
   obtain ⟨k, hk, rfl, ht, hB⟩ := hrel; have HT := Lib.hid ht; clear ht
   by_cases hlt : k < n
   ·have hltI : (k : Int) < (n : Int) := by omega
    obtain ⟨b, o, rfl, d0, d1⟩ := hc k hlt; obtain ⟨b', o', rfl, d0', d1'⟩ := hc' k hlt; have e0 := cell_keep hB (World.block_lt_of_cell? w _ d0) d0; have e1 := cell_keep hB (World.block_lt_of_cell? w _ d1) d1; have e2 := cell_keep hB (World.block_lt_of_cell? w _ d0') d0'; have e3 := cell_keep hB (World.block_lt_of_cell? w _ d1') d1'; obtain ⟨⟨x, y⟩, hx⟩ : ∃ q, l.getD k (0, 0) = q := ⟨_, rfl⟩; obtain ⟨⟨x', y'⟩, hx'⟩ : ∃ q, m.getD k (0, 0) = q := ⟨_, rfl⟩; rw [hx] at e0 e1; rw [hx'] at e2 e3; have HX := Lib.hid hx; have HY := Lib.hid hx'; clear hx hx' hc hc' d0 d1 d0' d1'
    by_cases hxy : x = x' ∧ y = y'
    ·obtain ⟨rfl, rfl⟩ := hxy
     go_wp2
     go_region
     go_wp2
     go_roundw
     case rel => exact ⟨k + 1, by omega, by go_num, takeP_succ HT.out (by rw [← HN.out]; exact hlt) (by rw [← HN'.out]; exact hlt) (by rw [HX.out, HY.out]), hB.drew⟩
     case measure => simp [intOf]; omega
    ·have hlm : decide (l = m) = false := by
      simp only [decide_eq_false_iff_not]; rintro rfl; have := HX.out.symm.trans HY.out; cases this
      exact hxy ⟨rfl, rfl⟩
     have HL := Lib.hid hlm; clear hlm
     by_cases hx : x = x'
     ·have hy : ¬ y = y' := fun e => hxy ⟨hx, e⟩
      subst hx; clear hxy; go_wp2
      go_region
      go_wp2
      go_ret
      exact ⟨ret_bool HL.out.symm, hB.drew⟩
     ·clear hxy
      go_wp2
      go_region
      go_wp2
      go_ret
      exact ⟨ret_bool HL.out.symm, hB.drew⟩
   ·have hkn : k = n := by omega
    have hlm : decide (l = m) = true := by
     have h := HT.out; rw [hkn, List.take_of_length_le (by rw [HN.out]; exact Nat.le_refl _), List.take_of_length_le (by rw [HN'.out]; exact Nat.le_refl _)] at h
     simp [h]
    have HL := Lib.hid hlm; clear hlm hkn hc hc'; go_wp2
    go_ret
    exact ⟨ret_bool HL.out.symm, hB⟩
 ·have hd : decide (l = m) = false := by
   simp only [decide_eq_false_iff_not]; rintro rfl
   exact hlen rfl
  rw [hd]; clear hd; obtain ⟨a, c, rfl⟩ := h1.len; obtain ⟨a', c', rfl⟩ := h2.len; have hne : ((l.length : Int) != (m.length : Int)) = true := by simp; omega
  clear h1 h2
  go_enter Tryz.func214, Tryz.ntmps214
  go_wp2
  go_ret
  exact ⟨rfl, Below.refl _ _⟩
end Go.Proofs.YtkodnipmogdgkaaGreat
namespace Go.Proofs.YtkodnipmogdgkaaGreat
open Go.ChangeShapes Go.WideShapes Go.ChangeAt Go.RowKit Go.BigFrame
set_option linter.unusedVariables false
set_option maxRecDepth 100000
set_option linter.unusedSimpArgs false

/-- the library's comparison of two lists of numbers -/
theorem slI_any (v u : Value) (l m : List Int) (w : World) (h1 : RdI w v l) (h2 : RdI w u m) :
  Calls Tryz.prog 196 #[v, u] w fun e w' => e = .returned (.bool (decide (l = m))) ∧ Below w.heap.size w w' := by
 by_cases hlen : l.length = m.length
 ·have hm1 : l.length ≤ 9223372036854775807 := by have := h1.2.1; unfold maxLen at this; omega
  obtain ⟨a, c, rfl, hc⟩ := h1.el; obtain ⟨a', c', rfl, hc'⟩ := h2.el; obtain ⟨n, hn⟩ : ∃ n, n = l.length := ⟨_, rfl⟩; have hn' : n = m.length := hn.trans hlen; rw [← hn'] at hc' ⊢; rw [← hn] at hc hm1 ⊢; have HN := Lib.hid hn; have HN' := Lib.hid hn'; clear hn hn' hlen h1 h2
  go_enter Tryz.func196, Tryz.ntmps196
  go_wp2
  go_loopw [13] (fun i wr => ∃ k : Nat, k ≤ n ∧ i = .int .i64 k ∧ l.take k = m.take k ∧ Below w.heap.size w wr) (fun i _ => n - (intOf i).toNat)
  case atStart => exact ⟨0, Nat.zero_le _, rfl, rfl, Below.refl _ _⟩
  case round =>
   obtain ⟨k, hk, rfl, ht, hB⟩ := hrel; have HT := Lib.hid ht; clear ht
   by_cases hlt : k < n
   ·have hltI : (k : Int) < (n : Int) := by omega
    obtain ⟨b, o, rfl, d0⟩ := hc k hlt; obtain ⟨b', o', rfl, d0'⟩ := hc' k hlt; have e0 := cell_keep hB (World.block_lt_of_cell? w _ d0) d0; have e2 := cell_keep hB (World.block_lt_of_cell? w _ d0') d0'; obtain ⟨x, hx⟩ : ∃ q, l.getD k 0 = q := ⟨_, rfl⟩; obtain ⟨x', hx'⟩ : ∃ q, m.getD k 0 = q := ⟨_, rfl⟩; rw [hx] at e0; rw [hx'] at e2; have HX := Lib.hid hx; have HY := Lib.hid hx'; clear hx hx' hc hc' d0 d0'
    by_cases hxy : x = x'
    ·subst hxy
     go_wp2
     go_region
     go_wp2
     go_roundw
     case rel => exact ⟨k + 1, by omega, by go_num, take_eq_succ_I HT.out (by rw [← HN.out]; exact hlt) (by rw [← HN'.out]; exact hlt) (by rw [HX.out, HY.out]), hB.drew⟩
     case measure => simp [intOf]; omega
    ·have hlm : decide (l = m) = false := by
      simp only [decide_eq_false_iff_not]; rintro rfl
      exact hxy (HX.out.symm.trans HY.out)
     have HL := Lib.hid hlm; have hne : (x != x') = true := by simp [hxy]
     clear hlm; go_wp2
     go_region
     go_wp2
     go_ret
     exact ⟨ret_bool HL.out.symm, hB.drew⟩
   ·have hkn : k = n := by omega
    have hlm : decide (l = m) = true := by
     have h := HT.out; rw [hkn, List.take_of_length_le (by rw [HN.out]; exact Nat.le_refl _), List.take_of_length_le (by rw [HN'.out]; exact Nat.le_refl _)] at h
     simp [h]
    have HL := Lib.hid hlm; clear hlm hkn hc hc'; go_wp2
    go_ret
    exact ⟨ret_bool HL.out.symm, hB⟩
 ·have hd : decide (l = m) = false := by
   simp only [decide_eq_false_iff_not]; rintro rfl
   exact hlen rfl
  rw [hd]; clear hd; obtain ⟨a, c, rfl⟩ := h1.len; obtain ⟨a', c', rfl⟩ := h2.len; have hne : ((l.length : Int) != (m.length : Int)) = true := by simp; omega
  clear h1 h2
  go_enter Tryz.func196, Tryz.ntmps196
  go_wp2
  go_ret
  exact ⟨rfl, Below.refl _ _⟩
theorem slI_t {v u : Value} {l m : List Int} {b : Bool} (w : World) (h1 : RdI w v l) (h2 : RdI w u m) (H : Hid (decide (l = m) = b)) :
  Calls Tryz.prog 196 #[v, u] w fun e w' => e = .returned (.bool b) ∧ Below w.heap.size w w' := H.out ▸ slI_any v u l m w h1 h2
theorem slP_t {v u : Value} {l m : List (Int × Int)} {b : Bool} (w : World) (h1 : RdP w v l) (h2 : RdP w u m) (H : Hid (decide (l = m) = b)) :
  Calls Tryz.prog 214 #[v, u] w fun e w' => e = .returned (.bool b) ∧ Below w.heap.size w w' := H.out ▸ slP_any v u l m w h1 h2
set_option maxHeartbeats 1000000 in
theorem isameA_any (pv mv pv2 mv2 : Value) (ps ms ps2 ms2 : List Int) (pr bw pr2 bw2 : Int) (w : World) (hp : RdI w pv ps) (hm : RdI w mv ms) (hp2 : RdI w pv2 ps2) (hm2 : RdI w mv2 ms2) :
  Calls Tryz.prog 165 #[.agg #[pv, .int .i64 pr, mv, .int .i64 bw], .agg #[pv2, .int .i64 pr2, mv2, .int .i64 bw2]] w fun e w' => e = .returned (.bool (decide (ps = ps2 ∧ pr = pr2 ∧ ms = ms2 ∧ bw = bw2))) ∧ Below w.heap.size w w' := by
 obtain ⟨bA, bB, B0, z⟩ := two w [pv, .int .i64 pr, mv, .int .i64 bw] [pv2, .int .i64 pr2, mv2, .int .i64 bw2] 134 134; replace hp := hp.keep B0; replace hm := hm.keep B0; replace hp2 := hp2.keep B0; replace hm2 := hm2.keep B0; clear z
 by_cases h0 : ps = ps2
 ·subst h0
  by_cases h1 : pr = pr2
  ·subst h1
   have e1 : (pr == pr) = true := by simp
   by_cases h2 : ms = ms2
   ·subst h2
    by_cases h3 : bw = bw2
    ·subst h3
     have e3 : (bw == bw) = true := by simp
     go_enter Tryz.func165, Tryz.ntmps165
     go_wp2_with fail; refine (slI_t (b := true) _ hp hp2 (Lib.hid (decide_eq_true rfl))).mono ?_; rintro e w1 ⟨rfl, hb⟩; replace bA := bA.keep hb; replace bB := bB.keep hb; replace hp := hp.keep hb; replace hm := hm.keep hb; replace hp2 := hp2.keep hb; replace hm2 := hm2.keep hb; replace B0 := below_step B0 hb; clear hb; have fa0 := bA.c 0 rfl; have fb0 := bB.c 0 rfl; have fa1 := bA.c 1 rfl; have fb1 := bB.c 1 rfl; have fa2 := bA.c 2 rfl; have fb2 := bB.c 2 rfl; have fa3 := bA.c 3 rfl; have fb3 := bB.c 3 rfl; go_wp2_with fail; clear fa0 fb0 fa1 fb1 fa2 fb2 fa3 fb3; refine (slI_t (b := true) _ hm hm2 (Lib.hid (decide_eq_true rfl))).mono ?_; rintro e w1 ⟨rfl, hb⟩; replace bA := bA.keep hb; replace bB := bB.keep hb; replace hp := hp.keep hb; replace hm := hm.keep hb; replace hp2 := hp2.keep hb; replace hm2 := hm2.keep hb; replace B0 := below_step B0 hb; clear hb; have fa0 := bA.c 0 rfl; have fb0 := bB.c 0 rfl; have fa1 := bA.c 1 rfl; have fb1 := bB.c 1 rfl; have fa2 := bA.c 2 rfl; have fb2 := bB.c 2 rfl; have fa3 := bA.c 3 rfl; have fb3 := bB.c 3 rfl; go_wp2_with fail
     go_ret
     exact ⟨ret_bool ((decide_eq_true (by simp)).symm), B0⟩
    ·have e3 : (bw == bw2) = false := beq_eq_false_iff_ne.mpr h3
     have H3 := Lib.hid h3; clear h3
     go_enter Tryz.func165, Tryz.ntmps165
     go_wp2_with fail; refine (slI_t (b := true) _ hp hp2 (Lib.hid (decide_eq_true rfl))).mono ?_; rintro e w1 ⟨rfl, hb⟩; replace bA := bA.keep hb; replace bB := bB.keep hb; replace hp := hp.keep hb; replace hm := hm.keep hb; replace hp2 := hp2.keep hb; replace hm2 := hm2.keep hb; replace B0 := below_step B0 hb; clear hb; have fa0 := bA.c 0 rfl; have fb0 := bB.c 0 rfl; have fa1 := bA.c 1 rfl; have fb1 := bB.c 1 rfl; have fa2 := bA.c 2 rfl; have fb2 := bB.c 2 rfl; have fa3 := bA.c 3 rfl; have fb3 := bB.c 3 rfl; go_wp2_with fail; clear fa0 fb0 fa1 fb1 fa2 fb2 fa3 fb3; refine (slI_t (b := true) _ hm hm2 (Lib.hid (decide_eq_true rfl))).mono ?_; rintro e w1 ⟨rfl, hb⟩; replace bA := bA.keep hb; replace bB := bB.keep hb; replace hp := hp.keep hb; replace hm := hm.keep hb; replace hp2 := hp2.keep hb; replace hm2 := hm2.keep hb; replace B0 := below_step B0 hb; clear hb; have fa0 := bA.c 0 rfl; have fb0 := bB.c 0 rfl; have fa1 := bA.c 1 rfl; have fb1 := bB.c 1 rfl; have fa2 := bA.c 2 rfl; have fb2 := bB.c 2 rfl; have fa3 := bA.c 3 rfl; have fb3 := bB.c 3 rfl; go_wp2_with fail
     go_ret
     exact ⟨ret_bool ((decide_eq_false (fun g => H3.out g.2.2.2)).symm), B0⟩
   ·have HM : Hid (decide (ms = ms2) = false) := Lib.hid (by simp [h2])
    have H2 := Lib.hid h2; clear h2
    go_enter Tryz.func165, Tryz.ntmps165
    go_wp2_with fail; refine (slI_t (b := true) _ hp hp2 (Lib.hid (decide_eq_true rfl))).mono ?_; rintro e w1 ⟨rfl, hb⟩; replace bA := bA.keep hb; replace bB := bB.keep hb; replace hp := hp.keep hb; replace hm := hm.keep hb; replace hp2 := hp2.keep hb; replace hm2 := hm2.keep hb; replace B0 := below_step B0 hb; clear hb; have fa0 := bA.c 0 rfl; have fb0 := bB.c 0 rfl; have fa1 := bA.c 1 rfl; have fb1 := bB.c 1 rfl; have fa2 := bA.c 2 rfl; have fb2 := bB.c 2 rfl; have fa3 := bA.c 3 rfl; have fb3 := bB.c 3 rfl; go_wp2_with fail; clear fa0 fb0 fa1 fb1 fa2 fb2 fa3 fb3; refine (slI_t _ hm hm2 HM).mono ?_; rintro e w1 ⟨rfl, hb⟩; replace bA := bA.keep hb; replace bB := bB.keep hb; replace hp := hp.keep hb; replace hm := hm.keep hb; replace hp2 := hp2.keep hb; replace hm2 := hm2.keep hb; replace B0 := below_step B0 hb; clear hb; have fa0 := bA.c 0 rfl; have fb0 := bB.c 0 rfl; have fa1 := bA.c 1 rfl; have fb1 := bB.c 1 rfl; have fa2 := bA.c 2 rfl; have fb2 := bB.c 2 rfl; have fa3 := bA.c 3 rfl; have fb3 := bB.c 3 rfl; go_wp2_with fail
    go_ret
    exact ⟨ret_bool ((decide_eq_false (fun g => H2.out g.2.2.1)).symm), B0⟩
  ·have e1 : (pr == pr2) = false := beq_eq_false_iff_ne.mpr h1
   have H1 := Lib.hid h1; clear h1
   go_enter Tryz.func165, Tryz.ntmps165
   go_wp2_with fail; refine (slI_t (b := true) _ hp hp2 (Lib.hid (decide_eq_true rfl))).mono ?_; rintro e w1 ⟨rfl, hb⟩; replace bA := bA.keep hb; replace bB := bB.keep hb; replace hp := hp.keep hb; replace hm := hm.keep hb; replace hp2 := hp2.keep hb; replace hm2 := hm2.keep hb; replace B0 := below_step B0 hb; clear hb; have fa0 := bA.c 0 rfl; have fb0 := bB.c 0 rfl; have fa1 := bA.c 1 rfl; have fb1 := bB.c 1 rfl; have fa2 := bA.c 2 rfl; have fb2 := bB.c 2 rfl; have fa3 := bA.c 3 rfl; have fb3 := bB.c 3 rfl; go_wp2_with fail
   go_ret
   exact ⟨ret_bool ((decide_eq_false (fun g => H1.out g.2.1)).symm), B0⟩
 ·have HP : Hid (decide (ps = ps2) = false) := Lib.hid (by simp [h0])
  have H0 := Lib.hid h0; clear h0
  go_enter Tryz.func165, Tryz.ntmps165
  go_wp2_with fail; refine (slI_t _ hp hp2 HP).mono ?_; rintro e w1 ⟨rfl, hb⟩; replace bA := bA.keep hb; replace bB := bB.keep hb; replace hp := hp.keep hb; replace hm := hm.keep hb; replace hp2 := hp2.keep hb; replace hm2 := hm2.keep hb; replace B0 := below_step B0 hb; clear hb; have fa0 := bA.c 0 rfl; have fb0 := bB.c 0 rfl; have fa1 := bA.c 1 rfl; have fb1 := bB.c 1 rfl; have fa2 := bA.c 2 rfl; have fb2 := bB.c 2 rfl; have fa3 := bA.c 3 rfl; have fb3 := bB.c 3 rfl; go_wp2_with fail
  go_ret
  exact ⟨ret_bool ((decide_eq_false (fun g => H0.out g.1)).symm), B0⟩
theorem isameA_t {pv mv pv2 mv2 : Value} {ps ms ps2 ms2 : List Int} {pr bw pr2 bw2 : Int} {b : Bool} (w : World) (hp : RdI w pv ps) (hm : RdI w mv ms) (hp2 : RdI w pv2 ps2) (hm2 : RdI w mv2 ms2) (H : Hid (decide (ps = ps2 ∧ pr = pr2 ∧ ms = ms2 ∧ bw = bw2) = b)) :
  Calls Tryz.prog 165 #[.agg #[pv, .int .i64 pr, mv, .int .i64 bw], .agg #[pv2, .int .i64 pr2, mv2, .int .i64 bw2]] w fun e w' => e = .returned (.bool b) ∧ Below w.heap.size w w' := H.out ▸ isameA_any pv mv pv2 mv2 ps ms ps2 ms2 pr bw pr2 bw2 w hp hm hp2 hm2
set_option maxHeartbeats 4000000 in
theorem isameM_any (gv cv pv mv gv2 cv2 pv2 mv2 : Value) (gs cs gs2 cs2 : List (Int × Int)) (ps ms ps2 ms2 : List Int) (kn sa ho ix pr bw er kn2 sa2 ho2 ix2 pr2 bw2 er2 : Int) (w : World) (hg : RdP w gv gs) (hc : RdP w cv cs) (hp : RdI w pv ps) (hm : RdI w mv ms)
  (hg2 : RdP w gv2 gs2) (hc2 : RdP w cv2 cs2) (hp2 : RdI w pv2 ps2) (hm2 : RdI w mv2 ms2) :
  Calls Tryz.prog 212 #[.agg #[.int .i64 kn, .int .i64 sa, .int .i64 ho, .int .i64 ix, gv, cv, pv, .int .i64 pr, mv, .int .i64 bw, .int .i64 er], .agg #[.int .i64 kn2, .int .i64 sa2, .int .i64 ho2, .int .i64 ix2, gv2, cv2, pv2, .int .i64 pr2, mv2, .int .i64 bw2, .int .i64 er2]] w fun e w' => e = .returned (.bool (decide (kn = kn2 ∧ sa = sa2 ∧ ho = ho2 ∧ ix = ix2 ∧ er = er2 ∧ gs = gs2 ∧ cs = cs2 ∧ ps = ps2 ∧ pr = pr2 ∧ ms = ms2 ∧ bw = bw2))) ∧ Below w.heap.size w w' := by
 obtain ⟨bA, bB, B0, z⟩ := two w [.int .i64 kn, .int .i64 sa, .int .i64 ho, .int .i64 ix, gv, cv, pv, .int .i64 pr, mv, .int .i64 bw, .int .i64 er] [.int .i64 kn2, .int .i64 sa2, .int .i64 ho2, .int .i64 ix2, gv2, cv2, pv2, .int .i64 pr2, mv2, .int .i64 bw2, .int .i64 er2] 157 157; replace hg := hg.keep B0; replace hc := hc.keep B0; replace hp := hp.keep B0; replace hm := hm.keep B0; replace hg2 := hg2.keep B0; replace hc2 := hc2.keep B0; replace hp2 := hp2.keep B0; replace hm2 := hm2.keep B0; clear z
 by_cases h0 : kn = kn2
 ·subst h0
  have e0 : (kn == kn) = true := by simp
  by_cases h1 : sa = sa2
  ·subst h1
   have e1 : (sa == sa) = true := by simp
   by_cases h2 : ho = ho2
   ·subst h2
    have e2 : (ho == ho) = true := by simp
    by_cases h3 : ix = ix2
    ·subst h3
     have e3 : (ix == ix) = true := by simp
     by_cases h4 : er = er2
     ·subst h4
      have e4 : (er == er) = true := by simp
      by_cases h5 : gs = gs2
      ·subst h5
       by_cases h6 : cs = cs2
       ·subst h6
        by_cases h7 : ps = ps2 ∧ pr = pr2 ∧ ms = ms2 ∧ bw = bw2
        ·have HA : Hid (decide (ps = ps2 ∧ pr = pr2 ∧ ms = ms2 ∧ bw = bw2) = true) := Lib.hid (decide_eq_true h7)
         have H7 := Lib.hid h7; clear h7
         go_enter Tryz.func212, Tryz.ntmps212
         go_wp2_with fail; refine (slP_t (b := true) _ hg hg2 (Lib.hid (decide_eq_true rfl))).mono ?_; rintro e w1 ⟨rfl, hb⟩; replace bA := bA.keep hb; replace bB := bB.keep hb; replace hg := hg.keep hb; replace hc := hc.keep hb; replace hp := hp.keep hb; replace hm := hm.keep hb; replace hg2 := hg2.keep hb; replace hc2 := hc2.keep hb; replace hp2 := hp2.keep hb; replace hm2 := hm2.keep hb; replace B0 := below_step B0 hb; clear hb; have fa0 := bA.c 0 rfl; have fb0 := bB.c 0 rfl; have fa1 := bA.c 1 rfl; have fb1 := bB.c 1 rfl; have fa2 := bA.c 2 rfl; have fb2 := bB.c 2 rfl; have fa3 := bA.c 3 rfl; have fb3 := bB.c 3 rfl; have fa4 := bA.c 4 rfl; have fb4 := bB.c 4 rfl; have fa5 := bA.c 5 rfl; have fb5 := bB.c 5 rfl; have fa6 := bA.c 6 rfl; have fb6 := bB.c 6 rfl; have fa7 := bA.c 7 rfl; have fb7 := bB.c 7 rfl; have fa8 := bA.c 8 rfl; have fb8 := bB.c 8 rfl; have fa9 := bA.c 9 rfl; have fb9 := bB.c 9 rfl; have fa10 := bA.c 10 rfl; have fb10 := bB.c 10 rfl; go_wp2_with fail; clear fa0 fb0 fa1 fb1 fa2 fb2 fa3 fb3 fa4 fb4 fa5 fb5 fa6 fb6 fa7 fb7 fa8 fb8 fa9 fb9 fa10 fb10; refine (slP_t (b := true) _ hc hc2 (Lib.hid (decide_eq_true rfl))).mono ?_; rintro e w1 ⟨rfl, hb⟩; replace bA := bA.keep hb; replace bB := bB.keep hb; replace hg := hg.keep hb; replace hc := hc.keep hb; replace hp := hp.keep hb; replace hm := hm.keep hb; replace hg2 := hg2.keep hb; replace hc2 := hc2.keep hb; replace hp2 := hp2.keep hb; replace hm2 := hm2.keep hb; replace B0 := below_step B0 hb; clear hb; have fa0 := bA.c 0 rfl; have fb0 := bB.c 0 rfl; have fa1 := bA.c 1 rfl; have fb1 := bB.c 1 rfl; have fa2 := bA.c 2 rfl; have fb2 := bB.c 2 rfl; have fa3 := bA.c 3 rfl; have fb3 := bB.c 3 rfl; have fa4 := bA.c 4 rfl; have fb4 := bB.c 4 rfl; have fa5 := bA.c 5 rfl; have fb5 := bB.c 5 rfl; have fa6 := bA.c 6 rfl; have fb6 := bB.c 6 rfl; have fa7 := bA.c 7 rfl; have fb7 := bB.c 7 rfl; have fa8 := bA.c 8 rfl; have fb8 := bB.c 8 rfl; have fa9 := bA.c 9 rfl; have fb9 := bB.c 9 rfl; have fa10 := bA.c 10 rfl; have fb10 := bB.c 10 rfl; go_wp2_with fail; clear fa0 fb0 fa1 fb1 fa2 fb2 fa3 fb3 fa4 fb4 fa5 fb5 fa6 fb6 fa7 fb7 fa8 fb8 fa9 fb9 fa10 fb10; refine (isameA_t _ hp hm hp2 hm2 HA).mono ?_; rintro e w1 ⟨rfl, hb⟩; replace bA := bA.keep hb; replace bB := bB.keep hb; replace hg := hg.keep hb; replace hc := hc.keep hb; replace hp := hp.keep hb; replace hm := hm.keep hb; replace hg2 := hg2.keep hb; replace hc2 := hc2.keep hb; replace hp2 := hp2.keep hb; replace hm2 := hm2.keep hb; replace B0 := below_step B0 hb; clear hb; have fa0 := bA.c 0 rfl; have fb0 := bB.c 0 rfl; have fa1 := bA.c 1 rfl; have fb1 := bB.c 1 rfl; have fa2 := bA.c 2 rfl; have fb2 := bB.c 2 rfl; have fa3 := bA.c 3 rfl; have fb3 := bB.c 3 rfl; have fa4 := bA.c 4 rfl; have fb4 := bB.c 4 rfl; have fa5 := bA.c 5 rfl; have fb5 := bB.c 5 rfl; have fa6 := bA.c 6 rfl; have fb6 := bB.c 6 rfl; have fa7 := bA.c 7 rfl; have fb7 := bB.c 7 rfl; have fa8 := bA.c 8 rfl; have fb8 := bB.c 8 rfl; have fa9 := bA.c 9 rfl; have fb9 := bB.c 9 rfl; have fa10 := bA.c 10 rfl; have fb10 := bB.c 10 rfl; go_wp2_with fail
         go_ret
         exact ⟨ret_bool ((decide_eq_true (by have h := H7.out; simpa using h)).symm), B0⟩
        ·have HA : Hid (decide (ps = ps2 ∧ pr = pr2 ∧ ms = ms2 ∧ bw = bw2) = false) := Lib.hid (decide_eq_false h7)
         have H7 := Lib.hid h7; clear h7
         go_enter Tryz.func212, Tryz.ntmps212
         go_wp2_with fail; refine (slP_t (b := true) _ hg hg2 (Lib.hid (decide_eq_true rfl))).mono ?_; rintro e w1 ⟨rfl, hb⟩; replace bA := bA.keep hb; replace bB := bB.keep hb; replace hg := hg.keep hb; replace hc := hc.keep hb; replace hp := hp.keep hb; replace hm := hm.keep hb; replace hg2 := hg2.keep hb; replace hc2 := hc2.keep hb; replace hp2 := hp2.keep hb; replace hm2 := hm2.keep hb; replace B0 := below_step B0 hb; clear hb; have fa0 := bA.c 0 rfl; have fb0 := bB.c 0 rfl; have fa1 := bA.c 1 rfl; have fb1 := bB.c 1 rfl; have fa2 := bA.c 2 rfl; have fb2 := bB.c 2 rfl; have fa3 := bA.c 3 rfl; have fb3 := bB.c 3 rfl; have fa4 := bA.c 4 rfl; have fb4 := bB.c 4 rfl; have fa5 := bA.c 5 rfl; have fb5 := bB.c 5 rfl; have fa6 := bA.c 6 rfl; have fb6 := bB.c 6 rfl; have fa7 := bA.c 7 rfl; have fb7 := bB.c 7 rfl; have fa8 := bA.c 8 rfl; have fb8 := bB.c 8 rfl; have fa9 := bA.c 9 rfl; have fb9 := bB.c 9 rfl; have fa10 := bA.c 10 rfl; have fb10 := bB.c 10 rfl; go_wp2_with fail; clear fa0 fb0 fa1 fb1 fa2 fb2 fa3 fb3 fa4 fb4 fa5 fb5 fa6 fb6 fa7 fb7 fa8 fb8 fa9 fb9 fa10 fb10; refine (slP_t (b := true) _ hc hc2 (Lib.hid (decide_eq_true rfl))).mono ?_; rintro e w1 ⟨rfl, hb⟩; replace bA := bA.keep hb; replace bB := bB.keep hb; replace hg := hg.keep hb; replace hc := hc.keep hb; replace hp := hp.keep hb; replace hm := hm.keep hb; replace hg2 := hg2.keep hb; replace hc2 := hc2.keep hb; replace hp2 := hp2.keep hb; replace hm2 := hm2.keep hb; replace B0 := below_step B0 hb; clear hb; have fa0 := bA.c 0 rfl; have fb0 := bB.c 0 rfl; have fa1 := bA.c 1 rfl; have fb1 := bB.c 1 rfl; have fa2 := bA.c 2 rfl; have fb2 := bB.c 2 rfl; have fa3 := bA.c 3 rfl; have fb3 := bB.c 3 rfl; have fa4 := bA.c 4 rfl; have fb4 := bB.c 4 rfl; have fa5 := bA.c 5 rfl; have fb5 := bB.c 5 rfl; have fa6 := bA.c 6 rfl; have fb6 := bB.c 6 rfl; have fa7 := bA.c 7 rfl; have fb7 := bB.c 7 rfl; have fa8 := bA.c 8 rfl; have fb8 := bB.c 8 rfl; have fa9 := bA.c 9 rfl; have fb9 := bB.c 9 rfl; have fa10 := bA.c 10 rfl; have fb10 := bB.c 10 rfl; go_wp2_with fail; clear fa0 fb0 fa1 fb1 fa2 fb2 fa3 fb3 fa4 fb4 fa5 fb5 fa6 fb6 fa7 fb7 fa8 fb8 fa9 fb9 fa10 fb10; refine (isameA_t _ hp hm hp2 hm2 HA).mono ?_; rintro e w1 ⟨rfl, hb⟩; replace bA := bA.keep hb; replace bB := bB.keep hb; replace hg := hg.keep hb; replace hc := hc.keep hb; replace hp := hp.keep hb; replace hm := hm.keep hb; replace hg2 := hg2.keep hb; replace hc2 := hc2.keep hb; replace hp2 := hp2.keep hb; replace hm2 := hm2.keep hb; replace B0 := below_step B0 hb; clear hb; have fa0 := bA.c 0 rfl; have fb0 := bB.c 0 rfl; have fa1 := bA.c 1 rfl; have fb1 := bB.c 1 rfl; have fa2 := bA.c 2 rfl; have fb2 := bB.c 2 rfl; have fa3 := bA.c 3 rfl; have fb3 := bB.c 3 rfl; have fa4 := bA.c 4 rfl; have fb4 := bB.c 4 rfl; have fa5 := bA.c 5 rfl; have fb5 := bB.c 5 rfl; have fa6 := bA.c 6 rfl; have fb6 := bB.c 6 rfl; have fa7 := bA.c 7 rfl; have fb7 := bB.c 7 rfl; have fa8 := bA.c 8 rfl; have fb8 := bB.c 8 rfl; have fa9 := bA.c 9 rfl; have fb9 := bB.c 9 rfl; have fa10 := bA.c 10 rfl; have fb10 := bB.c 10 rfl; go_wp2_with fail
         go_ret
         exact ⟨ret_bool ((decide_eq_false (fun g => H7.out g.2.2.2.2.2.2.2)).symm), B0⟩
       ·have HC : Hid (decide (cs = cs2) = false) := Lib.hid (by simp [h6])
        have H6 := Lib.hid h6; clear h6
        go_enter Tryz.func212, Tryz.ntmps212
        go_wp2_with fail; refine (slP_t (b := true) _ hg hg2 (Lib.hid (decide_eq_true rfl))).mono ?_; rintro e w1 ⟨rfl, hb⟩; replace bA := bA.keep hb; replace bB := bB.keep hb; replace hg := hg.keep hb; replace hc := hc.keep hb; replace hp := hp.keep hb; replace hm := hm.keep hb; replace hg2 := hg2.keep hb; replace hc2 := hc2.keep hb; replace hp2 := hp2.keep hb; replace hm2 := hm2.keep hb; replace B0 := below_step B0 hb; clear hb; have fa0 := bA.c 0 rfl; have fb0 := bB.c 0 rfl; have fa1 := bA.c 1 rfl; have fb1 := bB.c 1 rfl; have fa2 := bA.c 2 rfl; have fb2 := bB.c 2 rfl; have fa3 := bA.c 3 rfl; have fb3 := bB.c 3 rfl; have fa4 := bA.c 4 rfl; have fb4 := bB.c 4 rfl; have fa5 := bA.c 5 rfl; have fb5 := bB.c 5 rfl; have fa6 := bA.c 6 rfl; have fb6 := bB.c 6 rfl; have fa7 := bA.c 7 rfl; have fb7 := bB.c 7 rfl; have fa8 := bA.c 8 rfl; have fb8 := bB.c 8 rfl; have fa9 := bA.c 9 rfl; have fb9 := bB.c 9 rfl; have fa10 := bA.c 10 rfl; have fb10 := bB.c 10 rfl; go_wp2_with fail; clear fa0 fb0 fa1 fb1 fa2 fb2 fa3 fb3 fa4 fb4 fa5 fb5 fa6 fb6 fa7 fb7 fa8 fb8 fa9 fb9 fa10 fb10; refine (slP_t _ hc hc2 HC).mono ?_; rintro e w1 ⟨rfl, hb⟩; replace bA := bA.keep hb; replace bB := bB.keep hb; replace hg := hg.keep hb; replace hc := hc.keep hb; replace hp := hp.keep hb; replace hm := hm.keep hb; replace hg2 := hg2.keep hb; replace hc2 := hc2.keep hb; replace hp2 := hp2.keep hb; replace hm2 := hm2.keep hb; replace B0 := below_step B0 hb; clear hb; have fa0 := bA.c 0 rfl; have fb0 := bB.c 0 rfl; have fa1 := bA.c 1 rfl; have fb1 := bB.c 1 rfl; have fa2 := bA.c 2 rfl; have fb2 := bB.c 2 rfl; have fa3 := bA.c 3 rfl; have fb3 := bB.c 3 rfl; have fa4 := bA.c 4 rfl; have fb4 := bB.c 4 rfl; have fa5 := bA.c 5 rfl; have fb5 := bB.c 5 rfl; have fa6 := bA.c 6 rfl; have fb6 := bB.c 6 rfl; have fa7 := bA.c 7 rfl; have fb7 := bB.c 7 rfl; have fa8 := bA.c 8 rfl; have fb8 := bB.c 8 rfl; have fa9 := bA.c 9 rfl; have fb9 := bB.c 9 rfl; have fa10 := bA.c 10 rfl; have fb10 := bB.c 10 rfl; go_wp2_with fail
        go_ret
        exact ⟨ret_bool ((decide_eq_false (fun g => H6.out g.2.2.2.2.2.2.1)).symm), B0⟩
      ·have HG : Hid (decide (gs = gs2) = false) := Lib.hid (by simp [h5])
       have H5 := Lib.hid h5; clear h5
       go_enter Tryz.func212, Tryz.ntmps212
       go_wp2_with fail; refine (slP_t _ hg hg2 HG).mono ?_; rintro e w1 ⟨rfl, hb⟩; replace bA := bA.keep hb; replace bB := bB.keep hb; replace hg := hg.keep hb; replace hc := hc.keep hb; replace hp := hp.keep hb; replace hm := hm.keep hb; replace hg2 := hg2.keep hb; replace hc2 := hc2.keep hb; replace hp2 := hp2.keep hb; replace hm2 := hm2.keep hb; replace B0 := below_step B0 hb; clear hb; have fa0 := bA.c 0 rfl; have fb0 := bB.c 0 rfl; have fa1 := bA.c 1 rfl; have fb1 := bB.c 1 rfl; have fa2 := bA.c 2 rfl; have fb2 := bB.c 2 rfl; have fa3 := bA.c 3 rfl; have fb3 := bB.c 3 rfl; have fa4 := bA.c 4 rfl; have fb4 := bB.c 4 rfl; have fa5 := bA.c 5 rfl; have fb5 := bB.c 5 rfl; have fa6 := bA.c 6 rfl; have fb6 := bB.c 6 rfl; have fa7 := bA.c 7 rfl; have fb7 := bB.c 7 rfl; have fa8 := bA.c 8 rfl; have fb8 := bB.c 8 rfl; have fa9 := bA.c 9 rfl; have fb9 := bB.c 9 rfl; have fa10 := bA.c 10 rfl; have fb10 := bB.c 10 rfl; go_wp2_with fail
       go_ret
       exact ⟨ret_bool ((decide_eq_false (fun g => H5.out g.2.2.2.2.2.1)).symm), B0⟩
     ·have e4 : (er == er2) = false := beq_eq_false_iff_ne.mpr h4
      have H4 := Lib.hid h4; clear h4
      go_enter Tryz.func212, Tryz.ntmps212
      go_wp2_with fail
      go_ret
      exact ⟨ret_bool ((decide_eq_false (fun g => H4.out g.2.2.2.2.1)).symm), B0⟩
    ·have e3 : (ix == ix2) = false := beq_eq_false_iff_ne.mpr h3
     have H3 := Lib.hid h3; clear h3
     go_enter Tryz.func212, Tryz.ntmps212
     go_wp2_with fail
     go_ret
     exact ⟨ret_bool ((decide_eq_false (fun g => H3.out g.2.2.2.1)).symm), B0⟩
   ·have e2 : (ho == ho2) = false := beq_eq_false_iff_ne.mpr h2
    have H2 := Lib.hid h2; clear h2
    go_enter Tryz.func212, Tryz.ntmps212
    go_wp2_with fail
    go_ret
    exact ⟨ret_bool ((decide_eq_false (fun g => H2.out g.2.2.1)).symm), B0⟩
  ·have e1 : (sa == sa2) = false := beq_eq_false_iff_ne.mpr h1
   have H1 := Lib.hid h1; clear h1
   go_enter Tryz.func212, Tryz.ntmps212
   go_wp2_with fail
   go_ret
   exact ⟨ret_bool ((decide_eq_false (fun g => H1.out g.2.1)).symm), B0⟩
 ·have e0 : (kn == kn2) = false := beq_eq_false_iff_ne.mpr h0
  have H0 := Lib.hid h0; clear h0
  go_enter Tryz.func212, Tryz.ntmps212
  go_wp2_with fail
  go_ret
  exact ⟨ret_bool ((decide_eq_false (fun g => H0.out g.1)).symm), B0⟩
end Go.Proofs.YtkodnipmogdgkaaGreat
namespace Go.Proofs.YtkodnipmogdgkaaGreat
open Go.ChangeShapes Go.WideShapes Go.ChangeAt Go.RowKit Go.BigFrame Go.Joins
set_option linter.unusedVariables false
set_option maxRecDepth 100000
set_option linter.unusedSimpArgs false
set_option maxRecDepth 100000

theorem cmp2_lt8 {a n b m : Int} : cmp2 a n b m < 0 ↔ a < b ∨ (a = b ∧ n < m) := by
 unfold cmp2 cmp1 orv
 split <;> split <;> (try split) <;> (try split) <;> omega
theorem ecmp_lt {a n pe b m qe : Int} : ecmp a n pe b m qe < 0 ↔ a < b ∨ (a = b ∧ n < m) ∨ (a = b ∧ n = m ∧ pe < qe) := by
 unfold ecmp cmp2 cmp1 orv
 split <;> split <;> (try split) <;> (try split) <;> (try split) <;> omega
/-- the order of two prefixes -/
def ltP (x y : Int × Int) : Prop := x.1 < y.1 ∨ (x.1 = y.1 ∧ x.2 < y.2)
theorem ltP_trans {x y z : Int × Int} (h : ltP x y) (k : ltP y z) : ltP x z := by unfold ltP at *; omega
theorem ltP_ne {x y : Int × Int} (h : ltP x y) : x ≠ y := by rintro rfl; unfold ltP at h; omega
/-- what holds of neighbours holds of any two -/
theorem pairwise_of_next {α : Type} (d : α) (R : α → α → Prop) (tr : ∀ x y z, R x y → R y z → R x z) (L : List α) (h : ∀ i, i < L.length - 1 → R (L.getD i d) (L.getD (i + 1) d)) : L.Pairwise R := by
 rw [List.pairwise_iff_getElem]
 have key : ∀ k i, i + k + 1 < L.length → R (L.getD i d) (L.getD (i + k + 1) d) := by
  intro k
  induction k with
  | zero => intro i hi; exact h i (by omega)
  | succ k ih => intro i hi; exact tr _ _ _ (ih i (by omega)) (h (i + k + 1) (by omega))
 intro i j hi hj hij; have := key (j - i - 1) i (by omega); rw [show i + (j - i - 1) + 1 = j by omega] at this
 simpa [List.getD, hi, hj] using this
theorem sub_sorted {l m : List (Int × Int)} (hl : l.Pairwise ltP) (hm : m.Pairwise ltP) (hs : ∀ x ∈ l, x ∈ m) : l.Sublist m := by
 induction m generalizing l with
 | nil =>
  cases l with
  | nil => exact List.Sublist.refl _
  | cons x l => exact absurd (hs x (by simp)) (by simp)
 | cons y m ih =>
  cases l with
  | nil => exact List.nil_sublist _
  | cons x l =>
   rw [List.pairwise_cons] at hl hm
   by_cases hxy : x = y
   ·subst hxy
    refine List.Sublist.cons_cons _ (ih hl.2 hm.2 fun z hz => ?_)
    rcases List.mem_cons.1 (hs z (List.mem_cons_of_mem _ hz)) with q | q
    ·exact absurd q.symm (ltP_ne (hl.1 z hz))
    ·exact q
   ·have hx : x ∈ m := by
     rcases List.mem_cons.1 (hs x (by simp)) with q | q
     ·exact absurd q hxy
     ·exact q
    refine List.Sublist.cons _ (ih (List.pairwise_cons.2 hl) hm.2 fun z hz => ?_)
    rcases List.mem_cons.1 (hs z hz) with q | q
    ·subst q
     exfalso
     rcases List.mem_cons.1 hz with q | q
     ·exact hxy q.symm
     ·exact ltP_ne (ltP_trans (hm.1 x hx) (hl.1 z q)) rfl
    ·exact q
theorem same_sorted {l m : List (Int × Int)} (hl : l.Pairwise ltP) (hm : m.Pairwise ltP) : l = m ↔ (∀ x ∈ l, x ∈ m) ∧ l.length = m.length :=
 ⟨fun h => by subst h; exact ⟨fun _ h => h, rfl⟩, fun ⟨h, k⟩ => (sub_sorted hl hm h).eq_of_length k⟩
/-- the prefixes that the switch has itself -/
def ownL (L : List Ent) : List (Int × Int) := (L.filter fun E => E.pe == -1).map fun E => (E.a, E.n)
def ltE (E F : Ent) : Prop := E.a < F.a ∨ (E.a = F.a ∧ E.n < F.n) ∨ (E.a = F.a ∧ E.n = F.n ∧ E.pe < F.pe)
theorem ltE_trans (x y z : Ent) (h : ltE x y) (k : ltE y z) : ltE x z := by unfold ltE at *; omega
theorem ownL_sorted {L : List Ent} (h : L.Pairwise ltE) : (ownL L).Pairwise ltP := by
 unfold ownL; rw [List.pairwise_map]; refine (h.filter _).imp_of_mem ?_; intro x y hx hy hxy; have h1 := (List.mem_filter.1 hx).2; have h2 := (List.mem_filter.1 hy).2
 simp at h1 h2
 unfold ltE at hxy; unfold ltP
 dsimp only
 omega
/-- two attributes are the same -/
def sameB (p : List Int) (pr : Int) (c : List Int) (bw : Int) (p2 : List Int) (pr2 : Int) (c2 : List Int) (bw2 : Int) : Bool := decide (p = p2 ∧ pr = pr2 ∧ c = c2 ∧ bw = bw2)
def knowB (an bw : Int) (E : Ent) : Bool := if E.pe = -1 then sameB E.p E.pr E.c E.bw [] 100 [] bw else decide (0 < E.p.length) && !decide (an ∈ E.p)
def sendB (E : Ent) : Bool := !(E.pe == -1) && decide (0 < E.p.length)
/-- the model's test of an entry -/
def knowM (an bw : Int) (own : List (Int × Int)) (E : Ent) : Bool := if 0 ≤ E.pe then (!decide (an ∈ E.p) && decide (0 < E.p.length)) else (decide ((E.a, E.n) ∈ own) && sameB E.p E.pr E.c E.bw [] 100 [] bw)
def ownN (L : List Ent) : Nat := (L.filter fun E => !decide (0 ≤ E.pe)).length
theorem know_iff {L : List Ent} {an bw : Int} {own : List (Int × Int)} (hs : L.Pairwise ltE) (ho : own.Pairwise ltP) (hpe : ∀ E ∈ L, -1 ≤ E.pe) :
  (decide (ownL L = own) && L.all (knowB an bw)) = (L.all (knowM an bw own) && decide (ownN L = own.length)) := by
 have e : ownN L = (ownL L).length := by
  unfold ownN ownL; rw [List.length_map]
  congr 1
  apply List.filter_congr
  intro E hE; have := hpe E hE
  by_cases h : E.pe = -1
  ·simp [h]
  ·have : 0 ≤ E.pe := by omega
   simp [h, this]
 rw [e, Bool.eq_iff_iff]; simp only [Bool.and_eq_true, decide_eq_true_eq, List.all_eq_true]; rw [same_sorted (ownL_sorted hs) ho]
 constructor
 ·rintro ⟨⟨h1, h2⟩, h3⟩
  refine ⟨fun E hE => ?_, h2⟩; have q := h3 E hE; unfold knowB at q; unfold knowM
  by_cases h : E.pe = -1
  ·rw [if_pos h] at q
   rw [if_neg (by omega)]; have : (E.a, E.n) ∈ own := h1 _ (List.mem_map.2 ⟨E, List.mem_filter.2 ⟨hE, by simp [h]⟩, rfl⟩)
   simp [this]
   simpa using q
  ·rw [if_neg h] at q
   rw [if_pos (by have := hpe E hE; omega), Bool.and_comm]
   exact q
 ·rintro ⟨h1, h2⟩
  refine ⟨⟨fun x hx => ?_, h2⟩, fun E hE => ?_⟩
  ·obtain ⟨E, hE, rfl⟩ := List.mem_map.1 hx
   obtain ⟨hE, hp⟩ := List.mem_filter.1 hE; have q := h1 E hE
   simp at hp
   unfold knowM at q; rw [if_neg (by omega)] at q
   simp at q
   exact q.1
  ·have q := h1 E hE
   unfold knowM at q; unfold knowB
   by_cases h : E.pe = -1
   ·rw [if_neg (by omega)] at q
    rw [if_pos h]
    simp at q
    simpa using q.2
   ·rw [if_pos (by have := hpe E hE; omega)] at q
    rw [if_neg h, Bool.and_comm]
    exact q
/-- append(s, p): s is the call's own -/
theorem wp_appL {ops : Array Oper} {rest : List Oper} {o : Oper} {a : Act} {Q : Exit → Act → World → Prop} {w : World} (hgd : o.guard = none) (s x : Operand)
  (ho : o.op = .call { callee := .builtin .append, args := #[s, x], argTypes := #[165, 165] })
  (base g c : Nat) (v : Value) (l : List (Int × Int)) (p : Int × Int) (hs : a.eval s = v) (hx : a.eval x = .slice (some ⟨g, 0, none⟩) 1 c) (hown : OwnP w base v l)
  (h0 : w.cell? ⟨g, 0, none⟩ = some (.int .i64 p.1)) (h1 : w.cell? ⟨g, 1, none⟩ = some (.int .i64 p.2)) (hlen : l.length + 1 ≤ 4294967296) (hbase : base ≤ w.heap.size)
  (h : ∀ v' w', OwnP w' base v' (l ++ [p]) → w.grownBy w' v.ownBlock → wpList Tryz.prog ops Q rest (a.put o.dst v') w') : wpList Tryz.prog ops Q (o :: rest) a w := by
 obtain ⟨i0, hi, hz0, hz1, hz2⟩ := info_parts infoP; have hmap : (flat l).map (Value.int .i64) ++ [.int .i64 p.1, .int .i64 p.2] = (flat (l ++ [p])).map (Value.int .i64) := by simp [flat]
 refine wpList_append_own w hgd s x 165 ho base PT i0 (.agg #[.int .i64 0, .int .i64 0]) 2 16 Tryz.underlying165 hi hz0 hz1 hz2 rfl (by decide) v l.length ((flat l).map (Value.int .i64)) hs hown ⟨g, 0, none⟩ 1 c [.int .i64 p.1, .int .i64 p.2] hx (by simp) (fun j y hy => ?_) (by simp [Value.oneCell']) (by unfold maxLen; omega) (by omega) hbase ?_
 ·have hadd : ∀ j, (⟨g, 0, none⟩ : Addr).add j = ⟨g, j, none⟩ := fun j => by unfold Addr.add; split <;> simp_all
  rw [hadd]
  match j, hy with
  | 0, hy => simp at hy; subst hy; exact h0
  | 1, hy => simp at hy; subst hy; exact h1
 ·intro v' w' ho' hg' _
  refine h v' w' ?_ hg'; unfold OwnP; rw [List.length_append, ← hmap]
  exact ho'
/-- a row of entries that the call made; their slices are read where they lie -/
theorem rowE_rd {w : World} {base : Nat} {v : Value} {T : List ET} (h : w.ownsRow base EI 7 v T.length (flatT T)) (hr : ∀ t ∈ T, RdI w t.u t.E.p ∧ RdI w t.v t.E.c) : RdE w v (entT T) := by
 rcases h.2 with ⟨rfl, hn⟩ | ⟨g, cap, cur, rfl, hb, hg, hnc, hcm, hcs, htake⟩
 ·have hT : T = [] := List.eq_nil_of_length_eq_zero hn
  subst hT
  exact RdE.nil w
 ·rw [← entT_len]
  refine ⟨by rw [entT_len]; unfold maxLen at hcm; omega, ?_⟩
  by_cases hz : T.length = 0
  ·exact .inl ⟨some ⟨g, 0, none⟩, cap, by rw [entT_len, hz], List.eq_nil_of_length_eq_zero (by rw [entT_len, hz]), fun h => by cases h⟩
  ·refine .inr ⟨g, 0, cap, rfl, by rw [entT_len]; omega, fun i hi => ?_⟩
   rw [entT_len] at hi; have hm : T[i] ∈ T := List.getElem_mem hi; rw [entT_get hi]
   have hc : ∀ j, j < 7 → w.cell? ⟨g, 0 + i * 7 + j, none⟩ = (cellsT T[i])[j]? := fun j hj => by
    rw [Nat.zero_add, h.cellAt (i * 7 + j) (by omega), flatT_get T i j hi hj]
   exact ⟨T[i].u, T[i].v, (hr _ hm).1, (hr _ hm).2, hc 0 (by omega), hc 1 (by omega), hc 2 (by omega), hc 3 (by omega), hc 4 (by omega), hc 5 (by omega), hc 6 (by omega)⟩
theorem rowE_keep {w w' : World} {base : Nat} {v : Value} {T : List ET} (h : w.ownsRow base EI 7 v T.length (flatT T)) (hb : Below w.heap.size w w') : w'.ownsRow base EI 7 v T.length (flatT T) :=
 World.ownsRow.kept (row := none) h ⟨hb.os, hb.tape, hb.output, hb.size, fun k hk _ => hb.block k hk⟩ (by cases v.ownBlock <;> simp)
theorem rowE_more {w : World} {base : Nat} {v : Value} {T : List ET} {t : ET} (h : w.ownsRow base EI 7 v (T.length + 1) (flatT T ++ cellsT t)) : w.ownsRow base EI 7 v (T ++ [t]).length (flatT (T ++ [t])) := by
 rw [List.length_append, flatT_append, show flatT [t] = cellsT t by simp [flatT]]
 exact h
theorem filt_more {L : List Ent} {k : Nat} {E : Ent} (pe : Int) (hk : k < L.length) (hx : L.getD k e0 = E) : (L.take (k + 1)).filter (fun F => F.pe == pe) = (L.take k).filter (fun F => F.pe == pe) ++ (if E.pe = pe then [E] else []) := by
 have hg : L[k] = E := by simpa [List.getD, hk] using hx
 rw [List.take_add_one, List.getElem?_eq_getElem hk, hg, List.filter_append]
 by_cases h : E.pe = pe
 ·simp [h]
 ·simp [h]
theorem pfx_more {L : List Ent} {k : Nat} {E : Ent} (hk : k < L.length) (hx : L.getD k e0 = E) : pfx (L.take (k + 1)) = pfx (L.take k) ++ [(E.a, E.n)] := by
 have hg : L[k] = E := by simpa [List.getD, hk] using hx
 rw [List.take_add_one, List.getElem?_eq_getElem hk, hg]
 simp [pfx]
set_option maxHeartbeats 1000000 in
theorem ieo_any (v : Value) (L : List Ent) (pe : Int) (w : World) (h : RdE w v L) (hn1 : L.length ≤ 1048576) :
  Calls Tryz.prog 111 #[.agg #[v], .int .i64 pe] w fun e w' => ∃ u, e = .returned u ∧ RdE w' u (L.filter fun F => F.pe == pe) ∧ Below w.heap.size w w' := by
 obtain ⟨a, c, rfl, hc⟩ := h.el; obtain ⟨n, hn⟩ : ∃ n, n = L.length := ⟨_, rfl⟩; rw [← hn] at hc hn1 ⊢; have HN := Lib.hid hn; clear h hn; obtain ⟨bR, B0, z⟩ := one w [.slice a n c] 56; have r0 := bR.c 0 rfl
 go_enter Tryz.func111, Tryz.ntmps111
 go_wp2; obtain ⟨W1, hW⟩ : ∃ W1, W1 = w.alloc (.cells #[.slice a n c] 56) := ⟨_, rfl⟩; rw [← hW] at bR B0 z ⊢; have hRW : w.heap.size < W1.heap.size := by rw [z]; omega
 clear hW z r0
 go_loopw [5, 11] (fun lv q wr => ∃ k : Nat, k ≤ n ∧ q = .int .i64 k ∧ ∃ T : List ET, wr.ownsRow W1.heap.size EI 7 lv T.length (flatT T) ∧ entT T = (L.take k).filter (fun F => F.pe == pe) ∧ (∀ t ∈ T, RdI w t.u t.E.p ∧ RdI w t.v t.E.c) ∧ Over W1 wr) (fun _ q _ => n - (intOf q).toNat)
 case atStart => exact ⟨0, Nat.zero_le _, rfl, [], World.ownsRow_nil _ _ _ _, rfl, (fun t ht => by cases ht), over_refl _⟩
 case round =>
  obtain ⟨k, hk, rfl, T, hok, hTE, hRd, hB⟩ := hrel
  by_cases hlt : k < n
  ·have hltI : (k : Int) < (n : Int) := by omega
   obtain ⟨b, o, rfl, hE⟩ := hc k hlt; obtain ⟨E, hx⟩ : ∃ E, L.getD k e0 = E := ⟨_, rfl⟩; rw [hx] at hE; obtain ⟨pv, cv, hp, hq, g0, g1, g2, g3, g4, g5, g6⟩ := hE; obtain ⟨pa, px, rfl⟩ := hp.len; obtain ⟨qa, qx, rfl⟩ := hq.len; have BB := below_step B0 hB; replace g0 := cell_keep BB (World.block_lt_of_cell? w _ g0) g0; replace g1 := cell_keep BB (World.block_lt_of_cell? w _ g1) g1; replace g2 := cell_keep BB (World.block_lt_of_cell? w _ g2) g2; replace g3 := cell_keep BB (World.block_lt_of_cell? w _ g3) g3; replace g4 := cell_keep BB (World.block_lt_of_cell? w _ g4) g4; replace g5 := cell_keep BB (World.block_lt_of_cell? w _ g5) g5; replace g6 := cell_keep BB (World.block_lt_of_cell? w _ g6) g6; clear BB; have HF := Lib.hid (filt_more pe (by rw [← HN.out]; exact hlt) hx); have HRR : Hid (RdI w (.slice pa E.p.length px) E.p ∧ RdI w (.slice qa E.c.length qx) E.c) := Lib.hid ⟨hp, hq⟩; have HCC := Lib.hid hc; have HRD := Lib.hid hRd
   have HLN : Hid (T.length + 1 ≤ 4294967296) := Lib.hid (by
    rw [← entT_len, hTE]; have := List.length_filter_le (fun F : Ent => F.pe == pe) (L.take k); rw [List.length_take] at this
    omega)
   have HTE := Lib.hid hTE; clear hx hc hp hq hRd hTE; have bP := Bl.new wr [.int .i64 E.a, .int .i64 E.n, .int .i64 E.pe, .slice pa E.p.length px, .int .i64 E.pr, .slice qa E.c.length qx, .int .i64 E.bw] EI wr.heap.size rfl; have A1 : Below wr.heap.size wr (wr.alloc (.cells #[.int .i64 E.a, .int .i64 E.n, .int .i64 E.pe, .slice pa E.p.length px, .int .i64 E.pr, .slice qa E.c.length qx, .int .i64 E.bw] EI)) := (Below.refl _ _).alloc (Nat.le_refl _) _; have p2 := bP.c 2 rfl
   by_cases hpe : E.pe = pe
   ·have hpb : (E.pe == pe) = true := by simp [hpe]
    have p0 := bP.c 0 rfl; have p1 := bP.c 1 rfl; have p3 := bP.c 3 rfl; have p4 := bP.c 4 rfl; have p5 := bP.c 5 rfl; have p6 := bP.c 6 rfl; have HPE := Lib.hid hpe; clear hpe; go_wp2_with (at_builtin; refine Hid.out ?_); refine Lib.hid ?_; clear p0 p1 p2 p3 p4 p5 p6 g0 g1 g2 g3 g4 g5 g6; obtain ⟨V, hV⟩ : ∃ V, V = wr.alloc (.cells #[.int .i64 E.a, .int .i64 E.n, .int .i64 E.pe, .slice pa E.p.length px, .int .i64 E.pr, .slice qa E.c.length qx, .int .i64 E.bw] EI) := ⟨_, rfl⟩; rw [← hV] at bP A1 ⊢; have hVs : W1.heap.size ≤ V.heap.size := (over_step hB A1).size; have hVe : wr.heap.size + 1 = V.heap.size := by rw [hV]; simp
    have hok2 := rowE_keep hok A1; have N2 : Below V.heap.size V (V.alloc (.cells #[.int .i64 E.a, .int .i64 E.n, .int .i64 E.pe, .slice pa E.p.length px, .int .i64 E.pr, .slice qa E.c.length qx, .int .i64 E.bw] EI)) := (Below.refl _ _).alloc (Nat.le_refl _) _; have bQ := Bl.new V [.int .i64 E.a, .int .i64 E.n, .int .i64 E.pe, .slice pa E.p.length px, .int .i64 E.pr, .slice qa E.c.length qx, .int .i64 E.bw] EI _ hVe; refine wp_appE rfl _ _ rfl W1.heap.size (wr.heap.size + 1) 1 _ T.length (flatT T) [.int .i64 E.a, .int .i64 E.n, .int .i64 E.pe, .slice pa E.p.length px, .int .i64 E.pr, .slice qa E.c.length qx, .int .i64 E.bw] rfl rfl (rowE_keep hok2 N2) bQ rfl (by simp [Value.oneCell']) HLN.out (Nat.le_trans hVs N2.size) ?_; intro v3 w3 o3 g3 _; have O3 : Over W1 w3 := below_growT (over_step (over_step hB A1) N2) (rowE_keep hok2 N2) (Nat.le_refl _) g3; clear g3 hV hok2 bQ N2; go_wp2
    go_roundw
    case rel => exact ⟨k + 1, by omega, by go_num, T ++ [⟨E, .slice pa E.p.length px, .slice qa E.c.length qx⟩], rowE_more (t := ⟨E, .slice pa E.p.length px, .slice qa E.c.length qx⟩) o3, by rw [entT_append, HTE.out, HF.out, if_pos HPE.out]; rfl, (fun t ht => by
     rcases List.mem_append.1 ht with q | q
     ·exact HRD.out t q
     ·rw [List.mem_singleton.1 q]; exact HRR.out), O3⟩
    case measure => simp [intOf]; omega
   ·have hpb : (E.pe == pe) = false := by simp [hpe]
    have HPE := Lib.hid hpe; clear hpe; go_wp2_with fail
    go_roundw
    case rel => exact ⟨k + 1, by omega, by go_num, T, rowE_keep hok A1, by rw [HTE.out, HF.out, if_neg HPE.out, List.append_nil], HRD.out, over_step hB A1⟩
    case measure => simp [intOf]; omega
  ·have hkn : k = n := by omega
   subst hkn; have HT : Hid (L.take k = L) := Lib.hid (List.take_of_length_le (by rw [HN.out]; exact Nat.le_refl _)); clear hc; go_wp2
   go_ret
   have BB := below_step B0 hB
   exact ⟨_, rfl, by rw [← HT.out, ← hTE]; exact rowE_rd hok (fun t ht => ⟨(hRd t ht).1.keep BB, (hRd t ht).2.keep BB⟩), BB⟩
set_option maxHeartbeats 1000000 in
theorem ifr_any (v : Value) (L : List Ent) (pe : Int) (w : World) (h : RdE w v L) (hn1 : L.length ≤ 1048576) :
  Calls Tryz.prog 136 #[.agg #[v], .int .i64 pe] w fun e w' => ∃ u, e = .returned u ∧ OwnP w' w.heap.size u (pfx (L.filter fun F => F.pe == pe)) ∧ Below w.heap.size w w' := by
 obtain ⟨a0, c0, rfl⟩ := h.len; obtain ⟨bR, B0, z⟩ := one w [.slice a0 L.length c0] 56; have r0 := bR.c 0 rfl
 go_enter Tryz.func136, Tryz.ntmps136
 go_wp2_with fail; obtain ⟨W0, hW⟩ : ∃ W0, W0 = w.alloc (.cells #[.slice a0 L.length c0] 56) := ⟨_, rfl⟩; rw [← hW] at bR B0 z ⊢; clear hW z r0; refine (ieo_any _ L pe _ (h.keep B0) hn1).mono ?_; rintro e W1 ⟨u, rfl, hM, hb⟩; replace B0 := below_step B0 hb; clear hb bR; have hML : (L.filter fun F => F.pe == pe).length ≤ 1048576 := Nat.le_trans (List.length_filter_le _ _) hn1; obtain ⟨M, hMd⟩ : ∃ M, M = L.filter fun F => F.pe == pe := ⟨_, rfl⟩
 rw [← hMd] at hM hML; have HMD := Lib.hid hMd; clear hMd h; obtain ⟨a, c, rfl, hc⟩ := hM.el; obtain ⟨n, hn⟩ : ∃ n, n = M.length := ⟨_, rfl⟩; rw [← hn] at hc hML ⊢; have HN := Lib.hid hn; have hRW := B0.size; clear hM hn; go_wp2
 go_loopw [5, 12] (fun lv q wr => ∃ k : Nat, k ≤ n ∧ q = .int .i64 k ∧ OwnP wr W1.heap.size lv (pfx (M.take k)) ∧ Over W1 wr) (fun _ q _ => n - (intOf q).toNat)
 case atStart => exact ⟨0, Nat.zero_le _, rfl, World.ownsRow_nil _ _ _ _, over_refl _⟩
 case round =>
  obtain ⟨k, hk, rfl, hok, hB⟩ := hrel
  by_cases hlt : k < n
  ·have hltI : (k : Int) < (n : Int) := by omega
   obtain ⟨b, o, rfl, hE⟩ := hc k hlt; obtain ⟨E, hx⟩ : ∃ E, M.getD k e0 = E := ⟨_, rfl⟩; rw [hx] at hE; obtain ⟨pv, cv, hp, hq, g0, g1, g2, g3, g4, g5, g6⟩ := hE.keep hB; obtain ⟨pa, px, rfl⟩ := hp.len; obtain ⟨qa, qx, rfl⟩ := hq.len; have HF := Lib.hid (pfx_more (by rw [← HN.out]; exact hlt) hx); have HCC := Lib.hid hc
   have HLN : Hid ((pfx (M.take k)).length + 1 ≤ 4294967296) := Lib.hid (by
    rw [pfx_len, List.length_take]
    omega)
   clear hx hc hE hp hq; have bP := Bl.new wr [.int .i64 E.a, .int .i64 E.n, .int .i64 E.pe, .slice pa E.p.length px, .int .i64 E.pr, .slice qa E.c.length qx, .int .i64 E.bw] EI wr.heap.size rfl; have A1 : Below wr.heap.size wr (wr.alloc (.cells #[.int .i64 E.a, .int .i64 E.n, .int .i64 E.pe, .slice pa E.p.length px, .int .i64 E.pr, .slice qa E.c.length qx, .int .i64 E.bw] EI)) := (Below.refl _ _).alloc (Nat.le_refl _) _; have p0 := bP.c 0 rfl; have p1 := bP.c 1 rfl; go_wp2_with (at_builtin; refine Hid.out ?_); refine Lib.hid ?_; clear p0 p1 g0 g1 g2 g3 g4 g5 g6; obtain ⟨V, hV⟩ : ∃ V, V = wr.alloc (.cells #[.int .i64 E.a, .int .i64 E.n, .int .i64 E.pe, .slice pa E.p.length px, .int .i64 E.pr, .slice qa E.c.length qx, .int .i64 E.bw] EI) := ⟨_, rfl⟩; rw [← hV] at bP A1 ⊢; have hVs : W1.heap.size ≤ V.heap.size := (over_step hB A1).size; have hVe : wr.heap.size + 1 = V.heap.size := by rw [hV]; simp
   refine wp_appL rfl _ _ rfl W1.heap.size (wr.heap.size + 1) 1 _ (pfx (M.take k)) (E.a, E.n) rfl rfl ((hok.keep A1).alloc _) ((Bl.new V [.int .i64 E.a, .int .i64 E.n] PT _ hVe).c 0 rfl) ((Bl.new V [.int .i64 E.a, .int .i64 E.n] PT _ hVe).c 1 rfl) HLN.out (Nat.le_trans hVs (by simp)) ?_; intro v3 w3 o3 g3; have O3 := over_grownP (over_alloc (over_step hB A1) (.cells #[.int .i64 E.a, .int .i64 E.n] PT)) ((hok.keep A1).alloc _) (Nat.le_refl _) g3; clear g3 hV; go_wp2
   go_roundw
   case rel => exact ⟨k + 1, by omega, by go_num, by rw [HF.out]; exact o3, O3⟩
   case measure => simp [intOf]; omega
  ·have hkn : k = n := by omega
   subst hkn; have HT : Hid (M.take k = M) := Lib.hid (List.take_of_length_le (by rw [HN.out]; exact Nat.le_refl _)); clear hc; go_wp2
   go_ret
   exact ⟨_, rfl, by rw [← HMD.out]; exact (HT.out ▸ hok).mono hRW, below_step B0 hB⟩
/-- the library's comparison of two lists of prefixes -/
theorem slL_any (v u : Value) (l m : List (Int × Int)) (w : World) (h1 : RdP w v l) (h2 : RdP w u m) :
  Calls Tryz.prog 135 #[v, u] w fun e w' => e = .returned (.bool (decide (l = m))) ∧ Below w.heap.size w w' := by
 by_cases hlen : l.length = m.length
 ·have hm1 := h1.1
  obtain ⟨a, c, rfl, hc⟩ := h1.el; obtain ⟨a', c', rfl, hc'⟩ := h2.el; obtain ⟨n, hn⟩ : ∃ n, n = l.length := ⟨_, rfl⟩; have hn' : n = m.length := hn.trans hlen; rw [← hn'] at hc' ⊢; rw [← hn] at hc hm1 ⊢; have HN := Lib.hid hn; have HN' := Lib.hid hn'; clear hn hn' hlen h1 h2
  go_enter Tryz.func135, Tryz.ntmps135
  go_wp2
  go_loopw [13] (fun i wr => ∃ k : Nat, k ≤ n ∧ i = .int .i64 k ∧ l.take k = m.take k ∧ Below w.heap.size w wr) (fun i _ => n - (intOf i).toNat)
  case atStart => exact ⟨0, Nat.zero_le _, rfl, rfl, Below.refl _ _⟩
  case round =>
   obtain ⟨k, hk, rfl, ht, hB⟩ := hrel; have HT := Lib.hid ht; clear ht
   by_cases hlt : k < n
   ·have hltI : (k : Int) < (n : Int) := by omega
    obtain ⟨b, o, rfl, d0, d1⟩ := hc k hlt; obtain ⟨b', o', rfl, d0', d1'⟩ := hc' k hlt; have e0 := cell_keep hB (World.block_lt_of_cell? w _ d0) d0; have e1 := cell_keep hB (World.block_lt_of_cell? w _ d1) d1; have e2 := cell_keep hB (World.block_lt_of_cell? w _ d0') d0'; have e3 := cell_keep hB (World.block_lt_of_cell? w _ d1') d1'; obtain ⟨⟨x, y⟩, hx⟩ : ∃ q, l.getD k (0, 0) = q := ⟨_, rfl⟩; obtain ⟨⟨x', y'⟩, hx'⟩ : ∃ q, m.getD k (0, 0) = q := ⟨_, rfl⟩; rw [hx] at e0 e1; rw [hx'] at e2 e3; have HX := Lib.hid hx; have HY := Lib.hid hx'; clear hx hx' hc hc' d0 d1 d0' d1'
    by_cases hxy : x = x' ∧ y = y'
    ·obtain ⟨rfl, rfl⟩ := hxy
     go_wp2
     go_region
     go_wp2
     go_roundw
     case rel => exact ⟨k + 1, by omega, by go_num, takeP_succ HT.out (by rw [← HN.out]; exact hlt) (by rw [← HN'.out]; exact hlt) (by rw [HX.out, HY.out]), hB.drew⟩
     case measure => simp [intOf]; omega
    ·have hlm : decide (l = m) = false := by
      simp only [decide_eq_false_iff_not]; rintro rfl; have := HX.out.symm.trans HY.out; cases this
      exact hxy ⟨rfl, rfl⟩
     have HL := Lib.hid hlm; clear hlm
     by_cases hx : x = x'
     ·have hy : ¬ y = y' := fun e => hxy ⟨hx, e⟩
      subst hx; clear hxy; go_wp2
      go_region
      go_wp2
      go_ret
      exact ⟨ret_bool HL.out.symm, hB.drew⟩
     ·clear hxy
      go_wp2
      go_region
      go_wp2
      go_ret
      exact ⟨ret_bool HL.out.symm, hB.drew⟩
   ·have hkn : k = n := by omega
    have hlm : decide (l = m) = true := by
     have h := HT.out; rw [hkn, List.take_of_length_le (by rw [HN.out]; exact Nat.le_refl _), List.take_of_length_le (by rw [HN'.out]; exact Nat.le_refl _)] at h
     simp [h]
    have HL := Lib.hid hlm; clear hlm hkn hc hc'; go_wp2
    go_ret
    exact ⟨ret_bool HL.out.symm, hB⟩
 ·have hd : decide (l = m) = false := by
   simp only [decide_eq_false_iff_not]; rintro rfl
   exact hlen rfl
  rw [hd]; clear hd; obtain ⟨a, c, rfl⟩ := h1.len; obtain ⟨a', c', rfl⟩ := h2.len; have hne : ((l.length : Int) != (m.length : Int)) = true := by simp; omega
  clear h1 h2
  go_enter Tryz.func135, Tryz.ntmps135
  go_wp2
  go_ret
  exact ⟨rfl, Below.refl _ _⟩
end Go.Proofs.YtkodnipmogdgkaaGreat
