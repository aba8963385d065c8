/-
  Events: what an argument that is one reads as; contracts of the laws' own functions on events; contracts of EventOk of the program and of the model. Conditions: those in each contract.
-/
import Derived.Test.YtaffcicgljoajaaGreatDoorS5
namespace Go.Proofs.YtaffcicgljoajaaGreatDoor
open Go.ChangeShapes Go.WideShapes Go.ChangeAt Go.RowKit Go.BigFrame Go.Joins
set_option linter.unusedVariables false
set_option maxRecDepth 100000
set_option linter.unusedSimpArgs false

def Is_Event (W : World) (v : Value) : Prop := ∃ (gv cv pv mv : Value) (gs cs : List (Int × Int)) (ps ms : List Int) (ek ee kn sa ho ix pr bw er : Int), v = .agg #[.int .i64 ek, .int .i64 kn, .int .i64 sa, .int .i64 ho, .int .i64 ix, gv, cv, pv, .int .i64 pr, mv, .int .i64 bw, .int .i64 er, .int .i64 ee] ∧ RdP W gv gs ∧ RdP W cv cs ∧ RdI W pv ps ∧ RdI W mv ms
theorem array13 {α : Type} {xs : Array α} (h : xs.size = 13) : ∃ c0 c1 c2 c3 c4 c5 c6 c7 c8 c9 c10 c11 c12, xs = #[c0, c1, c2, c3, c4, c5, c6, c7, c8, c9, c10, c11, c12] := by
  obtain ⟨l⟩ := xs
  match l, h with
  | [c0, c1, c2, c3, c4, c5, c6, c7, c8, c9, c10, c11, c12], _ => exact ⟨c0, c1, c2, c3, c4, c5, c6, c7, c8, c9, c10, c11, c12, rfl⟩
theorem list3 {α : Type} {xs : List α} (h : xs.length = 3) : ∃ c0 c1 c2, xs = [c0, c1, c2] := by
  match xs, h with
  | [c0, c1, c2], _ => exact ⟨c0, c1, c2, rfl⟩
section
variable {H : Type} {enc : TypeId × Value → H} {W : World} {base : Nat} {d : DataW H} {p : List MemPlace} {v : Value}
theorem cellsE : Tryz.prog.cellsOf 54 = 13 := by kernel_rfl
theorem is_Event (hv : Value.okWide Tryz.prog W .any base 54 v) (h : DataW.Trod enc Tryz.prog W 0 (fun _ => true) true 54 v d p) : Is_Event W v := by
  obtain ⟨xs, rfl, hsz⟩ := okWide_struct Tryz.underlying54 hv
  rw [cellsE] at hsz
  obtain ⟨c0, c1, c2, c3, c4, c5, c6, c7, c8, c9, c10, c11, c12, rfl⟩ := array13 hsz
  obtain ⟨fuel, hf⟩ := h
  obtain ⟨ys, n, _, hx, hl, hlen, hf⟩ := DataW.trod_struct Tryz.underlying54 hf
  obtain ⟨u0, u1, u2, rfl⟩ := list3 hlen
  clear hlen hl hx hsz hv
  have hk := hf 0 _ rfl
  have hM := hf 1 _ rfl
  have he := hf 2 _ rfl
  clear hf
  simp [Value.cells, cellsI1, cellsM] at hk hM he
  obtain ⟨ek, ee0, -, -⟩ := DataW.trod_int Tryz.underlying3 hk
  obtain ⟨ee, ee1, -, -⟩ := DataW.trod_int Tryz.underlying3 he
  obtain ⟨ys, n, _, hx, hl, hlen, hf⟩ := DataW.trod_struct Tryz.underlying52 hM
  obtain ⟨y0, y1, y2, y3, y4, y5, y6, y7, rfl⟩ := list8 hlen
  clear hlen hl hx hM hk he
  have h0 := hf 0 _ rfl
  have h1 := hf 1 _ rfl
  have h2 := hf 2 _ rfl
  have h3 := hf 3 _ rfl
  have h4 := hf 4 _ rfl
  have h5 := hf 5 _ rfl
  have h6 := hf 6 _ rfl
  have h7 := hf 7 _ rfl
  clear hf
  simp [Value.cells, cellsI1, cellsP1, cellsA] at h0 h1 h2 h3 h4 h5 h6 h7
  obtain ⟨z0, z1, z2, z3, n2, -, -, g0, g1, g2, g3⟩ := trod_struct4 Tryz.underlying50 h6
  simp [cellsI1, cellsIS1] at g0 g1 g2 g3
  obtain ⟨x0, e0, -, -⟩ := DataW.trod_int Tryz.underlying3 h0
  obtain ⟨x1, e1, -, -⟩ := DataW.trod_int Tryz.underlying3 h1
  obtain ⟨x2, e2, -, -⟩ := DataW.trod_int Tryz.underlying3 h2
  obtain ⟨x3, e3, -, -⟩ := DataW.trod_int Tryz.underlying3 h3
  obtain ⟨x7, e7, -, -⟩ := DataW.trod_int Tryz.underlying3 g1
  obtain ⟨x9, e9, -, -⟩ := DataW.trod_int Tryz.underlying3 g3
  obtain ⟨x10, e10, -, -⟩ := DataW.trod_int Tryz.underlying3 h7
  obtain ⟨gs, hg⟩ := rdP_trod h4
  obtain ⟨cs, hc⟩ := rdP_trod h5
  obtain ⟨ps, hp⟩ := rdI_trod g0
  obtain ⟨ms, hm⟩ := rdI_trod g2
  simp at e0 e1 e2 e3 e7 e9 e10 ee0 ee1
  subst e0 e1 e2 e3 e7 e9 e10 ee0 ee1
  exact ⟨c5, c6, c7, c9, gs, cs, ps, ms, ek, ee, x0, x1, x2, x3, x7, x9, x10, rfl, hg, hc, hp, hm⟩
end
theorem szE_any (gv cv pv mv : Value) (gs cs : List (Int × Int)) (ps ms : List Int) (ek ee kn sa ho ix pr bw er : Int) (w : World) (hg : RdP w gv gs) (hc : RdP w cv cs) (hp : RdI w pv ps) (hm : RdI w mv ms) :
    Calls Tryz.prog 15 #[.agg #[.int .i64 ek, .int .i64 kn, .int .i64 sa, .int .i64 ho, .int .i64 ix, gv, cv, pv, .int .i64 pr, mv, .int .i64 bw, .int .i64 er, .int .i64 ee], .int .i64 1048576] w fun e w' => ∃ r : Int, e = .returned (.int .i64 r) ∧ (¬ r < 0 → gs.length ≤ 1048576 ∧ cs.length ≤ 1048576 ∧ ps.length ≤ 1048576 ∧ ms.length ≤ 1048576) ∧ Below w.heap.size w w' := by
  obtain ⟨bE, B0, z⟩ := one w [.int .i64 ek, .int .i64 kn, .int .i64 sa, .int .i64 ho, .int .i64 ix, gv, cv, pv, .int .i64 pr, mv, .int .i64 bw, .int .i64 er, .int .i64 ee] 54
  replace hg := hg.keep B0
  replace hc := hc.keep B0
  replace hp := hp.keep B0
  replace hm := hm.keep B0
  clear z
  go_enter Tryz.func15, Tryz.ntmps15
  go_wp2_with fail
  refine (szM_any gv cv pv mv gs cs ps ms kn sa ho ix pr bw er _ hg hc hp hm).mono ?_
  rintro e w1 ⟨r, rfl, hlen, hb⟩
  replace B0 := below_step B0 hb
  have HL := Lib.hid hlen
  clear hb hlen bE hg hc hp hm
  by_cases hr : r < 0
  · go_wp2
    go_ret
    exact ⟨_, rfl, fun h => by omega, B0⟩
  · have hr0 : 0 ≤ r := by omega
    go_wp2
    go_ret
    exact ⟨_, rfl, HL.out, B0⟩
def NewE (w : World) (gs cs : List (Int × Int)) (ps ms : List Int) (ek ee kn sa ho ix pr bw er : Int) (e : Ending) (w' : World) : Prop :=
  ∃ ga gx ca cx pa px ma mx, e = .returned (.agg #[.int .i64 ek, .int .i64 kn, .int .i64 sa, .int .i64 ho, .int .i64 ix, .slice ga gs.length gx, .slice ca cs.length cx, .slice pa ps.length px, .int .i64 pr, .slice ma ms.length mx, .int .i64 bw, .int .i64 er, .int .i64 ee]) ∧ OwnP w' w.heap.size (.slice ga gs.length gx) gs ∧ OwnP w' w.heap.size (.slice ca cs.length cx) cs ∧ OwnI w' w.heap.size (.slice pa ps.length px) ps ∧ OwnI w' w.heap.size (.slice ma ms.length mx) ms ∧
    Apart (.slice ga gs.length gx) (.slice ca cs.length cx) ∧ Apart (.slice ga gs.length gx) (.slice pa ps.length px) ∧ Apart (.slice ga gs.length gx) (.slice ma ms.length mx) ∧ Apart (.slice ca cs.length cx) (.slice pa ps.length px) ∧ Apart (.slice ca cs.length cx) (.slice ma ms.length mx) ∧ Apart (.slice pa ps.length px) (.slice ma ms.length mx) ∧ Below w.heap.size w w'
set_option maxHeartbeats 4000000 in
theorem toE_any (gv cv pv mv : Value) (gs cs : List (Int × Int)) (ps ms : List Int) (ek ee kn sa ho ix pr bw er : Int) (w : World) (hg : RdP w gv gs) (hc : RdP w cv cs) (hp : RdI w pv ps) (hm : RdI w mv ms) (l0 : gs.length ≤ 1048576) (l1 : cs.length ≤ 1048576) (l2 : ps.length ≤ 1048576) (l3 : ms.length ≤ 1048576) :
    Calls Tryz.prog 19 #[.agg #[.int .i64 ek, .int .i64 kn, .int .i64 sa, .int .i64 ho, .int .i64 ix, gv, cv, pv, .int .i64 pr, mv, .int .i64 bw, .int .i64 er, .int .i64 ee]] w (NewE w gs cs ps ms ek ee kn sa ho ix pr bw er) := by
  obtain ⟨bA, bR, bO, B1, z⟩ := three w [.int .i64 ek, .int .i64 kn, .int .i64 sa, .int .i64 ho, .int .i64 ix, gv, cv, pv, .int .i64 pr, mv, .int .i64 bw, .int .i64 er, .int .i64 ee] [.int .i64 0, .int .i64 0, .int .i64 0, .int .i64 0, .int .i64 0, .slice none 0 0, .slice none 0 0, .slice none 0 0, .int .i64 0, .slice none 0 0, .int .i64 0, .int .i64 0, .int .i64 0] [.int .i64 ek, .int .i64 0, .int .i64 0, .int .i64 0, .int .i64 0, .slice none 0 0, .slice none 0 0, .slice none 0 0, .int .i64 0, .slice none 0 0, .int .i64 0, .int .i64 0, .int .i64 0] 54 34 34
  go_enter Tryz.func19, Tryz.ntmps19
  go_wp2_with fail
  refine (toM_any gv cv pv mv gs cs ps ms kn sa ho ix pr bw er _ (hg.keep B1) (hc.keep B1) (hp.keep B1) (hm.keep B1) l0 l1 l2 l3).mono ?_
  rintro e w1 ⟨ga, gx, ca, cx, pa, px, ma, mx, rfl, hG, hC, hP, hM, ap0, ap1, ap2, ap3, ap4, ap5, hb⟩
  have hs := hb.size
  rw [z] at hG hC hP hM hs
  replace bA := bA.keep hb
  replace bR := bR.keep hb
  replace bO := bO.keep hb
  replace B1 := below_step B1 hb
  clear z hb hg hc hp hm
  obtain ⟨A, hA⟩ : ∃ A, A = w.heap.size := ⟨_, rfl⟩
  obtain ⟨R, hR⟩ : ∃ R, R = w.heap.size + 1 := ⟨_, rfl⟩
  obtain ⟨O, hO⟩ : ∃ O, O = w.heap.size + 1 + 1 := ⟨_, rfl⟩
  rw [← hA] at bA
  rw [← hR] at bR
  rw [← hO] at bO
  rw [← hO, ← hR, ← hA]
  have hO3 : O < w.heap.size + 3 := by omega
  have hRO : R ≠ O := by omega
  have hR3 : R < w.heap.size + 3 := by omega
  have hwO : w.heap.size ≤ O := by omega
  have hwR : w.heap.size ≤ R := by omega
  clear hA hR hO
  have a12 := bA.c 12 rfl
  have o0 := bO.c 0 rfl
  have of0 := bO.f 0 rfl
  have r0 := bR.c 0 rfl
  have rf0 := bR.f 0 rfl
  have o1 := bO.c 1 rfl
  have of1 := bO.f 1 rfl
  have r1 := bR.c 1 rfl
  have rf1 := bR.f 1 rfl
  have o2 := bO.c 2 rfl
  have of2 := bO.f 2 rfl
  have r2 := bR.c 2 rfl
  have rf2 := bR.f 2 rfl
  have o3 := bO.c 3 rfl
  have of3 := bO.f 3 rfl
  have r3 := bR.c 3 rfl
  have rf3 := bR.f 3 rfl
  have o4 := bO.c 4 rfl
  have of4 := bO.f 4 rfl
  have r4 := bR.c 4 rfl
  have rf4 := bR.f 4 rfl
  have o5 := bO.c 5 rfl
  have of5 := bO.f 5 rfl
  have r5 := bR.c 5 rfl
  have rf5 := bR.f 5 rfl
  have o6 := bO.c 6 rfl
  have of6 := bO.f 6 rfl
  have r6 := bR.c 6 rfl
  have rf6 := bR.f 6 rfl
  have o7 := bO.c 7 rfl
  have of7 := bO.f 7 rfl
  have r7 := bR.c 7 rfl
  have rf7 := bR.f 7 rfl
  have o8 := bO.c 8 rfl
  have of8 := bO.f 8 rfl
  have r8 := bR.c 8 rfl
  have rf8 := bR.f 8 rfl
  have o9 := bO.c 9 rfl
  have of9 := bO.f 9 rfl
  have r9 := bR.c 9 rfl
  have rf9 := bR.f 9 rfl
  have o10 := bO.c 10 rfl
  have of10 := bO.f 10 rfl
  have r10 := bR.c 10 rfl
  have rf10 := bR.f 10 rfl
  have o11 := bO.c 11 rfl
  have of11 := bO.f 11 rfl
  have r11 := bR.c 11 rfl
  have rf11 := bR.f 11 rfl
  have o12 := bO.c 12 rfl
  have of12 := bO.f 12 rfl
  have r12 := bR.c 12 rfl
  have rf12 := bR.f 12 rfl
  go_wp2_with fail
  have bE := (((((((((((((((((((((((((bR.far (o := 1) (u := .int .i64 kn) hRO).far (o := 2) (u := .int .i64 sa) hRO).far (o := 3) (u := .int .i64 ho) hRO).far (o := 4) (u := .int .i64 ix) hRO).far (o := 5) (u := .slice ga gs.length gx) hRO).far (o := 6) (u := .slice ca cs.length cx) hRO).far (o := 7) (u := .slice pa ps.length px) hRO).far (o := 8) (u := .int .i64 pr) hRO).far (o := 9) (u := .slice ma ms.length mx) hRO).far (o := 10) (u := .int .i64 bw) hRO).far (o := 11) (u := .int .i64 er) hRO).far (o := 12) (u := .int .i64 ee) hRO).set 0 (.int .i64 ek)).set 1 (.int .i64 kn)).set 2 (.int .i64 sa)).set 3 (.int .i64 ho)).set 4 (.int .i64 ix)).set 5 (.slice ga gs.length gx)).set 6 (.slice ca cs.length cx)).set 7 (.slice pa ps.length px)).set 8 (.int .i64 pr)).set 9 (.slice ma ms.length mx)).set 10 (.int .i64 bw)).set 11 (.int .i64 er)).set 12 (.int .i64 ee))
  have e0 := bE.c 0 rfl
  have e1 := bE.c 1 rfl
  have e2 := bE.c 2 rfl
  have e3 := bE.c 3 rfl
  have e4 := bE.c 4 rfl
  have e5 := bE.c 5 rfl
  have e6 := bE.c 6 rfl
  have e7 := bE.c 7 rfl
  have e8 := bE.c 8 rfl
  have e9 := bE.c 9 rfl
  have e10 := bE.c 10 rfl
  have e11 := bE.c 11 rfl
  have e12 := bE.c 12 rfl
  exact bodyPost_ret (v := .agg #[.int .i64 ek, .int .i64 kn, .int .i64 sa, .int .i64 ho, .int .i64 ix, .slice ga gs.length gx, .slice ca cs.length cx, .slice pa ps.length px, .int .i64 pr, .slice ma ms.length mx, .int .i64 bw, .int .i64 er, .int .i64 ee]) (by simp [results, Tryz.results19, go_sem, e0, e1, e2, e3, e4, e5, e6, e7, e8, e9, e10, e11, e12]) rfl
    ⟨ga, gx, ca, cx, pa, px, ma, mx, rfl, ((((((((((((((((((((((((((hG.far (o := 1) hO3).far (o := 2) hO3).far (o := 3) hO3).far (o := 4) hO3).far (o := 5) hO3).far (o := 6) hO3).far (o := 7) hO3).far (o := 8) hO3).far (o := 9) hO3).far (o := 10) hO3).far (o := 11) hO3).far (o := 12) hO3).far (o := 0) hR3).far (o := 1) hR3).far (o := 2) hR3).far (o := 3) hR3).far (o := 4) hR3).far (o := 5) hR3).far (o := 6) hR3).far (o := 7) hR3).far (o := 8) hR3).far (o := 9) hR3).far (o := 10) hR3).far (o := 11) hR3).far (o := 12) hR3)).mono (by omega), ((((((((((((((((((((((((((hC.far (o := 1) hO3).far (o := 2) hO3).far (o := 3) hO3).far (o := 4) hO3).far (o := 5) hO3).far (o := 6) hO3).far (o := 7) hO3).far (o := 8) hO3).far (o := 9) hO3).far (o := 10) hO3).far (o := 11) hO3).far (o := 12) hO3).far (o := 0) hR3).far (o := 1) hR3).far (o := 2) hR3).far (o := 3) hR3).far (o := 4) hR3).far (o := 5) hR3).far (o := 6) hR3).far (o := 7) hR3).far (o := 8) hR3).far (o := 9) hR3).far (o := 10) hR3).far (o := 11) hR3).far (o := 12) hR3)).mono (by omega), ((((((((((((((((((((((((((hP.far (o := 1) hO3).far (o := 2) hO3).far (o := 3) hO3).far (o := 4) hO3).far (o := 5) hO3).far (o := 6) hO3).far (o := 7) hO3).far (o := 8) hO3).far (o := 9) hO3).far (o := 10) hO3).far (o := 11) hO3).far (o := 12) hO3).far (o := 0) hR3).far (o := 1) hR3).far (o := 2) hR3).far (o := 3) hR3).far (o := 4) hR3).far (o := 5) hR3).far (o := 6) hR3).far (o := 7) hR3).far (o := 8) hR3).far (o := 9) hR3).far (o := 10) hR3).far (o := 11) hR3).far (o := 12) hR3)).mono (by omega), ((((((((((((((((((((((((((hM.far (o := 1) hO3).far (o := 2) hO3).far (o := 3) hO3).far (o := 4) hO3).far (o := 5) hO3).far (o := 6) hO3).far (o := 7) hO3).far (o := 8) hO3).far (o := 9) hO3).far (o := 10) hO3).far (o := 11) hO3).far (o := 12) hO3).far (o := 0) hR3).far (o := 1) hR3).far (o := 2) hR3).far (o := 3) hR3).far (o := 4) hR3).far (o := 5) hR3).far (o := 6) hR3).far (o := 7) hR3).far (o := 8) hR3).far (o := 9) hR3).far (o := 10) hR3).far (o := 11) hR3).far (o := 12) hR3)).mono (by omega), ap0, ap1, ap2, ap3, ap4, ap5, (((((((((((((((((((((((((B1.setCell (p := ⟨O, 1, none⟩) hwO (.int .i64 kn)).setCell (p := ⟨O, 2, none⟩) hwO (.int .i64 sa)).setCell (p := ⟨O, 3, none⟩) hwO (.int .i64 ho)).setCell (p := ⟨O, 4, none⟩) hwO (.int .i64 ix)).setCell (p := ⟨O, 5, none⟩) hwO (.slice ga gs.length gx)).setCell (p := ⟨O, 6, none⟩) hwO (.slice ca cs.length cx)).setCell (p := ⟨O, 7, none⟩) hwO (.slice pa ps.length px)).setCell (p := ⟨O, 8, none⟩) hwO (.int .i64 pr)).setCell (p := ⟨O, 9, none⟩) hwO (.slice ma ms.length mx)).setCell (p := ⟨O, 10, none⟩) hwO (.int .i64 bw)).setCell (p := ⟨O, 11, none⟩) hwO (.int .i64 er)).setCell (p := ⟨O, 12, none⟩) hwO (.int .i64 ee)).setCell (p := ⟨R, 0, none⟩) hwR (.int .i64 ek)).setCell (p := ⟨R, 1, none⟩) hwR (.int .i64 kn)).setCell (p := ⟨R, 2, none⟩) hwR (.int .i64 sa)).setCell (p := ⟨R, 3, none⟩) hwR (.int .i64 ho)).setCell (p := ⟨R, 4, none⟩) hwR (.int .i64 ix)).setCell (p := ⟨R, 5, none⟩) hwR (.slice ga gs.length gx)).setCell (p := ⟨R, 6, none⟩) hwR (.slice ca cs.length cx)).setCell (p := ⟨R, 7, none⟩) hwR (.slice pa ps.length px)).setCell (p := ⟨R, 8, none⟩) hwR (.int .i64 pr)).setCell (p := ⟨R, 9, none⟩) hwR (.slice ma ms.length mx)).setCell (p := ⟨R, 10, none⟩) hwR (.int .i64 bw)).setCell (p := ⟨R, 11, none⟩) hwR (.int .i64 er)).setCell (p := ⟨R, 12, none⟩) hwR (.int .i64 ee))⟩
theorem eqE_same (gv cv pv mv : Value) (gs cs : List (Int × Int)) (ps ms : List Int) (ek ee kn sa ho ix pr bw er : Int) (gv2 cv2 pv2 mv2 : Value) (w : World) (hg : RdP w gv gs) (hc : RdP w cv cs) (hp : RdI w pv ps) (hm : RdI w mv ms) (hg2 : RdP w gv2 gs) (hc2 : RdP w cv2 cs) (hp2 : RdI w pv2 ps) (hm2 : RdI w mv2 ms) :
    Calls Tryz.prog 22 #[.agg #[.int .i64 ek, .int .i64 kn, .int .i64 sa, .int .i64 ho, .int .i64 ix, gv, cv, pv, .int .i64 pr, mv, .int .i64 bw, .int .i64 er, .int .i64 ee], .agg #[.int .i64 ek, .int .i64 kn, .int .i64 sa, .int .i64 ho, .int .i64 ix, gv2, cv2, pv2, .int .i64 pr, mv2, .int .i64 bw, .int .i64 er, .int .i64 ee]] w fun e w' => e = .returned (.bool true) ∧ Below w.heap.size w w' := by
  obtain ⟨bA, bB, B1, z⟩ := two w [.int .i64 ek, .int .i64 kn, .int .i64 sa, .int .i64 ho, .int .i64 ix, gv, cv, pv, .int .i64 pr, mv, .int .i64 bw, .int .i64 er, .int .i64 ee] [.int .i64 ek, .int .i64 kn, .int .i64 sa, .int .i64 ho, .int .i64 ix, gv2, cv2, pv2, .int .i64 pr, mv2, .int .i64 bw, .int .i64 er, .int .i64 ee] 34 34
  clear z
  have q0 : (ek != ek) = false := by simp
  have q1 : (ee != ee) = false := by simp
  go_enter Tryz.func22, Tryz.ntmps22
  go_wp2_with fail
  refine (eqM_same gv cv pv mv gs cs ps ms kn sa ho ix pr bw er gv2 cv2 pv2 mv2 _ (hg.keep B1) (hc.keep B1) (hp.keep B1) (hm.keep B1) (hg2.keep B1) (hc2.keep B1) (hp2.keep B1) (hm2.keep B1)).mono ?_
  rintro e w1 ⟨rfl, hb⟩
  have a12 := (bA.keep hb).c 12 rfl
  have b12 := (bB.keep hb).c 12 rfl
  replace B1 := below_step B1 hb
  clear bA bB hb
  go_wp2
  go_ret
  exact ⟨rfl, B1⟩
end Go.Proofs.YtaffcicgljoajaaGreatDoor
