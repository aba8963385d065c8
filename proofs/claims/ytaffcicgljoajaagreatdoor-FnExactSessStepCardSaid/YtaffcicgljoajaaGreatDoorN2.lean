/-
  Messages: what an argument that is one reads as; contracts of the laws' own functions that size, copy and compare them. Conditions: those in each contract.
-/
import Derived.Test.YtaffcicgljoajaaGreatDoorN1
namespace Go.Proofs.YtaffcicgljoajaaGreatDoor
open Go.ChangeShapes Go.WideShapes Go.ChangeAt Go.RowKit Go.BigFrame Go.Joins
set_option linter.unusedVariables false
set_option maxRecDepth 100000
set_option linter.unusedSimpArgs false

def Is_Msg (W : World) (v : Value) : Prop := ∃ (gv cv pv mv : Value) (gs cs : List (Int × Int)) (ps ms : List Int) (kn sa ho ix pr bw er : Int), v = .agg #[.int .i64 kn, .int .i64 sa, .int .i64 ho, .int .i64 ix, gv, cv, pv, .int .i64 pr, mv, .int .i64 bw, .int .i64 er] ∧ RdP W gv gs ∧ RdP W cv cs ∧ RdI W pv ps ∧ RdI W mv ms
theorem array11 {α : Type} {xs : Array α} (h : xs.size = 11) : ∃ c0 c1 c2 c3 c4 c5 c6 c7 c8 c9 c10, xs = #[c0, c1, c2, c3, c4, c5, c6, c7, c8, c9, c10] := by
  obtain ⟨l⟩ := xs
  match l, h with
  | [c0, c1, c2, c3, c4, c5, c6, c7, c8, c9, c10], _ => exact ⟨c0, c1, c2, c3, c4, c5, c6, c7, c8, c9, c10, rfl⟩
theorem list8 {α : Type} {xs : List α} (h : xs.length = 8) : ∃ c0 c1 c2 c3 c4 c5 c6 c7, xs = [c0, c1, c2, c3, c4, c5, c6, c7] := by
  match xs, h with
  | [c0, c1, c2, c3, c4, c5, c6, c7], _ => exact ⟨c0, c1, c2, c3, c4, c5, c6, c7, rfl⟩
section
variable {H : Type} {enc : TypeId × Value → H} {W : World} {base : Nat} {d : DataW H} {p : List MemPlace} {v : Value}
theorem cellsM : Tryz.prog.cellsOf 52 = 11 := by kernel_rfl
theorem cellsI1 : Tryz.prog.cellsOf 3 = 1 := by kernel_rfl
theorem cellsP1 : Tryz.prog.cellsOf 49 = 1 := by kernel_rfl
theorem cellsIS1 : Tryz.prog.cellsOf 28 = 1 := by kernel_rfl
theorem is_Msg (hv : Value.okWide Tryz.prog W .any base 52 v) (h : DataW.Trod enc Tryz.prog W 0 (fun _ => true) true 52 v d p) : Is_Msg W v := by
  obtain ⟨xs, rfl, hsz⟩ := okWide_struct Tryz.underlying52 hv
  rw [cellsM] at hsz
  obtain ⟨c0, c1, c2, c3, c4, c5, c6, c7, c8, c9, c10, rfl⟩ := array11 hsz
  obtain ⟨fuel, hf⟩ := h
  obtain ⟨ys, n, _, hx, hl, hlen, hf⟩ := DataW.trod_struct Tryz.underlying52 hf
  obtain ⟨y0, y1, y2, y3, y4, y5, y6, y7, rfl⟩ := list8 hlen
  clear hlen hl hx hsz hv
  have h0 := hf 0 _ rfl
  have h1 := hf 1 _ rfl
  have h2 := hf 2 _ rfl
  have h3 := hf 3 _ rfl
  have h4 := hf 4 _ rfl
  have h5 := hf 5 _ rfl
  have h6 := hf 6 _ rfl
  have h7 := hf 7 _ rfl
  clear hf
  simp [Value.cells, cellsI1, cellsP1, cellsA] at h0 h1 h2 h3 h4 h5 h6 h7
  obtain ⟨z0, z1, z2, z3, n2, -, -, g0, g1, g2, g3⟩ := trod_struct4 Tryz.underlying50 h6
  simp [cellsI1, cellsIS1] at g0 g1 g2 g3
  obtain ⟨x0, e0, -, -⟩ := DataW.trod_int Tryz.underlying3 h0
  obtain ⟨x1, e1, -, -⟩ := DataW.trod_int Tryz.underlying3 h1
  obtain ⟨x2, e2, -, -⟩ := DataW.trod_int Tryz.underlying3 h2
  obtain ⟨x3, e3, -, -⟩ := DataW.trod_int Tryz.underlying3 h3
  obtain ⟨x7, e7, -, -⟩ := DataW.trod_int Tryz.underlying3 g1
  obtain ⟨x9, e9, -, -⟩ := DataW.trod_int Tryz.underlying3 g3
  obtain ⟨x10, e10, -, -⟩ := DataW.trod_int Tryz.underlying3 h7
  obtain ⟨gs, hg⟩ := rdP_trod h4
  obtain ⟨cs, hc⟩ := rdP_trod h5
  obtain ⟨ps, hp⟩ := rdI_trod g0
  obtain ⟨ms, hm⟩ := rdI_trod g2
  simp at e0 e1 e2 e3 e7 e9 e10
  subst e0 e1 e2 e3 e7 e9 e10
  exact ⟨c4, c5, c6, c8, gs, cs, ps, ms, x0, x1, x2, x3, x7, x9, x10, rfl, hg, hc, hp, hm⟩
end
/-- how much room is left behind a message -/
theorem szM_any (gv cv pv mv : Value) (gs cs : List (Int × Int)) (ps ms : List Int) (kn sa ho ix pr bw er : Int) (w : World) (hg : RdP w gv gs) (hc : RdP w cv cs) (hp : RdI w pv ps) (hm : RdI w mv ms) :
    Calls Tryz.prog 46 #[.agg #[.int .i64 kn, .int .i64 sa, .int .i64 ho, .int .i64 ix, gv, cv, pv, .int .i64 pr, mv, .int .i64 bw, .int .i64 er], .int .i64 1048576] w fun e w' => ∃ r : Int, e = .returned (.int .i64 r) ∧ (¬ r < 0 → gs.length ≤ 1048576 ∧ cs.length ≤ 1048576 ∧ ps.length ≤ 1048576 ∧ ms.length ≤ 1048576) ∧ Below w.heap.size w w' := by
  obtain ⟨bA, B0, z⟩ := one w [.int .i64 kn, .int .i64 sa, .int .i64 ho, .int .i64 ix, gv, cv, pv, .int .i64 pr, mv, .int .i64 bw, .int .i64 er] 52
  replace hg := hg.keep B0
  replace hc := hc.keep B0
  replace hp := hp.keep B0
  replace hm := hm.keep B0
  clear z
  by_cases h1 : (1048576 : Int) < gs.length
  · have HE := Lib.hid (szN_lt h1)
    clear h1
    go_enter Tryz.func46, Tryz.ntmps46
    go_wp2_with fail
    refine (szP_any _ gs _ _ hg (by decide) (by decide)).mono ?_
    rintro e w1 ⟨rfl, rfl⟩
    rw [HE.out]
    go_wp2
    go_ret
    exact ⟨_, rfl, fun h => absurd h (by decide), B0⟩
  have h1' := szN_ge h1
  obtain ⟨l1, hl1⟩ : ∃ l1 : Int, (1048576 : Int) - gs.length = l1 := ⟨_, rfl⟩
  have hl1a : 0 ≤ l1 := by omega
  have hl1b : l1 ≤ 1048576 := by omega
  have hgl : gs.length ≤ 1048576 := by omega
  rw [hl1] at h1'
  have HE1 := Lib.hid h1'
  have HG := Lib.hid hgl
  clear h1 h1' hl1 hgl
  by_cases h2 : l1 < cs.length
  · have HE2 := Lib.hid (szN_lt h2)
    clear h2
    go_enter Tryz.func46, Tryz.ntmps46
    go_wp2_with fail
    refine (szP_any _ gs _ _ hg (by decide) (by decide)).mono ?_
    rintro e w1 ⟨rfl, rfl⟩
    rw [HE1.out]
    go_wp2_with fail
    refine (szP_any _ cs _ _ hc hl1a hl1b).mono ?_
    rintro e w1 ⟨rfl, rfl⟩
    rw [HE2.out]
    go_wp2
    go_ret
    exact ⟨_, rfl, fun h => absurd h (by decide), B0⟩
  have h2' := szN_ge h2
  obtain ⟨l2, hl2⟩ : ∃ l2 : Int, l1 - cs.length = l2 := ⟨_, rfl⟩
  have hl2a : 0 ≤ l2 := by omega
  have hl2b : l2 ≤ 1048576 := by omega
  have hcl : cs.length ≤ 1048576 := by omega
  rw [hl2] at h2'
  have HE2 := Lib.hid h2'
  have HC := Lib.hid hcl
  clear h2 h2' hl2 hcl
  obtain ⟨r, hr⟩ : ∃ r, szA l2 ps ms = r := ⟨_, rfl⟩
  have hlen : ¬ r < 0 → ps.length ≤ 1048576 ∧ ms.length ≤ 1048576 := by
    intro h
    rw [← hr] at h
    unfold szA szN at h
    split at h
    · exact absurd (by decide) h
    · split at h
      · exact absurd (by decide) h
      · omega
  have HR := Lib.hid hr
  have HL := Lib.hid hlen
  clear hr hlen
  by_cases h3 : r < 0
  · have hr1 : r = -1 := by
      have h := HR.out
      unfold szA szN at h
      split at h
      · omega
      · split at h
        · omega
        · omega
    subst hr1
    go_enter Tryz.func46, Tryz.ntmps46
    go_wp2_with fail
    refine (szP_any _ gs _ _ hg (by decide) (by decide)).mono ?_
    rintro e w1 ⟨rfl, rfl⟩
    rw [HE1.out]
    go_wp2_with fail
    refine (szP_any _ cs _ _ hc hl1a hl1b).mono ?_
    rintro e w1 ⟨rfl, rfl⟩
    rw [HE2.out]
    go_wp2_with fail
    refine (szA_any _ _ ps ms _ _ _ _ hp hm hl2a hl2b).mono ?_
    rw [HR.out]
    rintro e w1 ⟨rfl, hb⟩
    replace B0 := below_step B0 hb
    clear hb
    go_wp2
    go_ret
    exact ⟨_, rfl, fun h => absurd h (by decide), B0⟩
  · go_enter Tryz.func46, Tryz.ntmps46
    go_wp2_with fail
    refine (szP_any _ gs _ _ hg (by decide) (by decide)).mono ?_
    rintro e w1 ⟨rfl, rfl⟩
    rw [HE1.out]
    go_wp2_with fail
    refine (szP_any _ cs _ _ hc hl1a hl1b).mono ?_
    rintro e w1 ⟨rfl, rfl⟩
    rw [HE2.out]
    go_wp2_with fail
    refine (szA_any _ _ ps ms _ _ _ _ hp hm hl2a hl2b).mono ?_
    rw [HR.out]
    rintro e w1 ⟨rfl, hb⟩
    replace B0 := below_step B0 hb
    clear hb
    go_wp2
    go_ret
    exact ⟨r, rfl, fun h => ⟨HG.out, HC.out, HL.out (by omega)⟩, B0⟩
/-- a fresh message: four rows of its own, apart -/
def NewM (w : World) (gs cs : List (Int × Int)) (ps ms : List Int) (kn sa ho ix pr bw er : Int) (e : Ending) (w' : World) : Prop :=
  ∃ ga gx ca cx pa px ma mx, e = .returned (.agg #[.int .i64 kn, .int .i64 sa, .int .i64 ho, .int .i64 ix, .slice ga gs.length gx, .slice ca cs.length cx, .slice pa ps.length px, .int .i64 pr, .slice ma ms.length mx, .int .i64 bw, .int .i64 er]) ∧ OwnP w' w.heap.size (.slice ga gs.length gx) gs ∧ OwnP w' w.heap.size (.slice ca cs.length cx) cs ∧ OwnI w' w.heap.size (.slice pa ps.length px) ps ∧ OwnI w' w.heap.size (.slice ma ms.length mx) ms ∧
    Apart (.slice ga gs.length gx) (.slice ca cs.length cx) ∧ Apart (.slice ga gs.length gx) (.slice pa ps.length px) ∧ Apart (.slice ga gs.length gx) (.slice ma ms.length mx) ∧ Apart (.slice ca cs.length cx) (.slice pa ps.length px) ∧ Apart (.slice ca cs.length cx) (.slice ma ms.length mx) ∧ Apart (.slice pa ps.length px) (.slice ma ms.length mx) ∧ Below w.heap.size w w'
theorem apartL {w w' : World} {b1 b2 n1 n2 : Nat} {t1 t2 : TypeId} {s1 s2 : Nat} {v u : Value} {l m : List Value} (h1 : w.ownsRow b1 t1 n1 v s1 l) (h2 : w'.ownsRow b2 t2 n2 u s2 m) (h : w.heap.size ≤ b2) : Apart v u := by
  have a : v.ownBlock = none ∨ v.ownBlock ≠ u.ownBlock := by
    cases hv : v.ownBlock with
    | none => exact .inl rfl
    | some k =>
      refine .inr (fun e => ?_)
      have a1 := (World.ownsRow.lt h1 k hv).2
      have a2 := (World.ownsRow.lt h2 k e.symm).1
      omega
  refine ⟨a, ?_⟩
  rcases a with h0 | h0
  · cases hu : u.ownBlock with
    | none => exact .inl rfl
    | some k => exact .inr (by rw [h0]; simp)
  · exact .inr (Ne.symm h0)
set_option maxHeartbeats 1000000 in
theorem toM_any (gv cv pv mv : Value) (gs cs : List (Int × Int)) (ps ms : List Int) (kn sa ho ix pr bw er : Int) (w : World) (hg : RdP w gv gs) (hc : RdP w cv cs) (hp : RdI w pv ps) (hm : RdI w mv ms) (h0 : gs.length ≤ 1048576) (h1 : cs.length ≤ 1048576) (h2 : ps.length ≤ 1048576) (h3 : ms.length ≤ 1048576) :
    Calls Tryz.prog 48 #[.agg #[.int .i64 kn, .int .i64 sa, .int .i64 ho, .int .i64 ix, gv, cv, pv, .int .i64 pr, mv, .int .i64 bw, .int .i64 er]] w (NewM w gs cs ps ms kn sa ho ix pr bw er) := by
  obtain ⟨bA, bR, bO, B1, z⟩ := three w [.int .i64 kn, .int .i64 sa, .int .i64 ho, .int .i64 ix, gv, cv, pv, .int .i64 pr, mv, .int .i64 bw, .int .i64 er] [.int .i64 0, .int .i64 0, .int .i64 0, .int .i64 0, .slice none 0 0, .slice none 0 0, .slice none 0 0, .int .i64 0, .slice none 0 0, .int .i64 0, .int .i64 0] [.int .i64 kn, .int .i64 sa, .int .i64 ho, .int .i64 ix, .slice none 0 0, .slice none 0 0, .slice none 0 0, .int .i64 0, .slice none 0 0, .int .i64 0, .int .i64 0] 52 32 32
  go_enter Tryz.func48, Tryz.ntmps48
  go_wp2_with fail
  refine (toP_any gv gs _ (hg.keep B1) h0).mono ?_
  rintro e w1 ⟨ga, gx, rfl, hG, hb⟩
  have hs := hb.size
  rw [z] at hG hs
  replace bA := bA.keep hb
  replace bR := bR.keep hb
  replace bO := bO.keep hb
  replace B1 := below_step B1 hb
  clear z hb
  obtain ⟨A, hA⟩ : ∃ A, A = w.heap.size := ⟨_, rfl⟩
  obtain ⟨R, hR⟩ : ∃ R, R = w.heap.size + 1 := ⟨_, rfl⟩
  obtain ⟨O, hO⟩ : ∃ O, O = w.heap.size + 1 + 1 := ⟨_, rfl⟩
  rw [← hA] at bA
  rw [← hR] at bR
  rw [← hO] at bO
  rw [← hO, ← hR, ← hA]
  have hO3 : O < w.heap.size + 3 := by omega
  have hRO : R ≠ O := by omega
  have hR3 : R < w.heap.size + 3 := by omega
  have hAO : A ≠ O := by omega
  have hwO : w.heap.size ≤ O := by omega
  have hwR : w.heap.size ≤ R := by omega
  clear hA hR hO
  have a5 := bA.c 5 rfl
  have o4 := bO.c 4 rfl
  have of4 := bO.f 4 rfl
  go_wp2_with fail
  clear a5 o4 of4
  have hs' := Nat.le_trans hs (grown_set w1 O 4 (.slice ga gs.length gx)).size
  replace bA := bA.far (o := 4) (u := .slice ga gs.length gx) hAO
  replace bR := bR.far (o := 4) (u := .slice ga gs.length gx) hRO
  replace bO := bO.set 4 (.slice ga gs.length gx)
  replace hG := hG.far (o := 4) (u := .slice ga gs.length gx) hO3
  replace B1 := B1.setCell (p := ⟨O, 4, none⟩) hwO (.slice ga gs.length gx)
  refine (toP_any cv cs _ (hc.keep B1) h1).mono ?_
  rintro e w2 ⟨ca, cx, rfl, hC, hb⟩
  have apGC := apartL hG hC (Nat.le_refl _)
  replace hC := hC.mono hs'
  have hs2 := Nat.le_trans hs' hb.size
  replace bA := bA.keep hb
  replace bR := bR.keep hb
  replace bO := bO.keep hb
  replace hG := hG.keep hb
  replace B1 := below_step B1 hb
  clear hb hs hs'
  have a6 := bA.c 6 rfl
  have a7 := bA.c 7 rfl
  have a8 := bA.c 8 rfl
  have a9 := bA.c 9 rfl
  have o5 := bO.c 5 rfl
  have of5 := bO.f 5 rfl
  go_wp2_with fail
  clear a6 a7 a8 a9 o5 of5
  have hs' := Nat.le_trans hs2 (grown_set w2 O 5 (.slice ca cs.length cx)).size
  replace bA := bA.far (o := 5) (u := .slice ca cs.length cx) hAO
  replace bR := bR.far (o := 5) (u := .slice ca cs.length cx) hRO
  replace bO := bO.set 5 (.slice ca cs.length cx)
  replace hG := hG.far (o := 5) (u := .slice ca cs.length cx) hO3
  replace hC := hC.far (o := 5) (u := .slice ca cs.length cx) hO3
  replace B1 := B1.setCell (p := ⟨O, 5, none⟩) hwO (.slice ca cs.length cx)
  refine (toA_any pv mv ps ms pr bw _ (hp.keep B1) (hm.keep B1) h2 h3).mono ?_
  rintro e w3 ⟨pa, px, ma, mx, rfl, hP, hM, apPM, hb⟩
  have apGP := apartL hG hP (Nat.le_refl _)
  have apGM := apartL hG hM (Nat.le_refl _)
  have apCP := apartL hC hP (Nat.le_refl _)
  have apCM := apartL hC hM (Nat.le_refl _)
  replace hP := hP.mono hs'
  replace hM := hM.mono hs'
  replace bA := bA.keep hb
  replace bR := bR.keep hb
  replace bO := bO.keep hb
  replace hG := hG.keep hb
  replace hC := hC.keep hb
  replace B1 := below_step B1 hb
  clear hb hs2 hs'
  have a10 := bA.c 10 rfl
  have o0 := bO.c 0 rfl
  have o1 := bO.c 1 rfl
  have o2 := bO.c 2 rfl
  have o3 := bO.c 3 rfl
  have o4 := bO.c 4 rfl
  have o5 := bO.c 5 rfl
  have o6 := bO.c 6 rfl
  have o7 := bO.c 7 rfl
  have o8 := bO.c 8 rfl
  have o9 := bO.c 9 rfl
  have o10 := bO.c 10 rfl
  have of0 := bO.f 0 rfl
  have of1 := bO.f 1 rfl
  have of2 := bO.f 2 rfl
  have of3 := bO.f 3 rfl
  have of4 := bO.f 4 rfl
  have of5 := bO.f 5 rfl
  have of6 := bO.f 6 rfl
  have of7 := bO.f 7 rfl
  have of8 := bO.f 8 rfl
  have of9 := bO.f 9 rfl
  have of10 := bO.f 10 rfl
  have r0 := bR.c 0 rfl
  have r1 := bR.c 1 rfl
  have r2 := bR.c 2 rfl
  have r3 := bR.c 3 rfl
  have r4 := bR.c 4 rfl
  have r5 := bR.c 5 rfl
  have r6 := bR.c 6 rfl
  have r7 := bR.c 7 rfl
  have r8 := bR.c 8 rfl
  have r9 := bR.c 9 rfl
  have r10 := bR.c 10 rfl
  have rf0 := bR.f 0 rfl
  have rf1 := bR.f 1 rfl
  have rf2 := bR.f 2 rfl
  have rf3 := bR.f 3 rfl
  have rf4 := bR.f 4 rfl
  have rf5 := bR.f 5 rfl
  have rf6 := bR.f 6 rfl
  have rf7 := bR.f 7 rfl
  have rf8 := bR.f 8 rfl
  have rf9 := bR.f 9 rfl
  have rf10 := bR.f 10 rfl
  go_wp2_with fail
  have bE := ((((((((((((((((bR.far (o := 6) (u := .slice pa ps.length px) hRO).far (o := 7) (u := .int .i64 pr) hRO).far (o := 8) (u := .slice ma ms.length mx) hRO).far (o := 9) (u := .int .i64 bw) hRO).far (o := 10) (u := .int .i64 er) hRO).set 0 (.int .i64 kn)).set 1 (.int .i64 sa)).set 2 (.int .i64 ho)).set 3 (.int .i64 ix)).set 4 (.slice ga gs.length gx)).set 5 (.slice ca cs.length cx)).set 6 (.slice pa ps.length px)).set 7 (.int .i64 pr)).set 8 (.slice ma ms.length mx)).set 9 (.int .i64 bw)).set 10 (.int .i64 er))
  have e0 := bE.c 0 rfl
  have e1 := bE.c 1 rfl
  have e2 := bE.c 2 rfl
  have e3 := bE.c 3 rfl
  have e4 := bE.c 4 rfl
  have e5 := bE.c 5 rfl
  have e6 := bE.c 6 rfl
  have e7 := bE.c 7 rfl
  have e8 := bE.c 8 rfl
  have e9 := bE.c 9 rfl
  have e10 := bE.c 10 rfl
  exact bodyPost_ret (v := .agg #[.int .i64 kn, .int .i64 sa, .int .i64 ho, .int .i64 ix, .slice ga gs.length gx, .slice ca cs.length cx, .slice pa ps.length px, .int .i64 pr, .slice ma ms.length mx, .int .i64 bw, .int .i64 er]) (by simp [results, Tryz.results48, go_sem, e0, e1, e2, e3, e4, e5, e6, e7, e8, e9, e10]) rfl
    ⟨ga, gx, ca, cx, pa, px, ma, mx, rfl, (((((((((((((((((hG.far (o := 6) hO3).far (o := 7) hO3).far (o := 8) hO3).far (o := 9) hO3).far (o := 10) hO3).far (o := 0) hR3).far (o := 1) hR3).far (o := 2) hR3).far (o := 3) hR3).far (o := 4) hR3).far (o := 5) hR3).far (o := 6) hR3).far (o := 7) hR3).far (o := 8) hR3).far (o := 9) hR3).far (o := 10) hR3)).mono (by omega), (((((((((((((((((hC.far (o := 6) hO3).far (o := 7) hO3).far (o := 8) hO3).far (o := 9) hO3).far (o := 10) hO3).far (o := 0) hR3).far (o := 1) hR3).far (o := 2) hR3).far (o := 3) hR3).far (o := 4) hR3).far (o := 5) hR3).far (o := 6) hR3).far (o := 7) hR3).far (o := 8) hR3).far (o := 9) hR3).far (o := 10) hR3)).mono (by omega), (((((((((((((((((hP.far (o := 6) hO3).far (o := 7) hO3).far (o := 8) hO3).far (o := 9) hO3).far (o := 10) hO3).far (o := 0) hR3).far (o := 1) hR3).far (o := 2) hR3).far (o := 3) hR3).far (o := 4) hR3).far (o := 5) hR3).far (o := 6) hR3).far (o := 7) hR3).far (o := 8) hR3).far (o := 9) hR3).far (o := 10) hR3)).mono (by omega), (((((((((((((((((hM.far (o := 6) hO3).far (o := 7) hO3).far (o := 8) hO3).far (o := 9) hO3).far (o := 10) hO3).far (o := 0) hR3).far (o := 1) hR3).far (o := 2) hR3).far (o := 3) hR3).far (o := 4) hR3).far (o := 5) hR3).far (o := 6) hR3).far (o := 7) hR3).far (o := 8) hR3).far (o := 9) hR3).far (o := 10) hR3)).mono (by omega), apGC, apGP, apGM, apCP, apCM, apPM, ((((((((((((((((B1.setCell (p := ⟨O, 6, none⟩) hwO _).setCell (p := ⟨O, 7, none⟩) hwO _).setCell (p := ⟨O, 8, none⟩) hwO _).setCell (p := ⟨O, 9, none⟩) hwO _).setCell (p := ⟨O, 10, none⟩) hwO _).setCell (p := ⟨R, 0, none⟩) hwR _).setCell (p := ⟨R, 1, none⟩) hwR _).setCell (p := ⟨R, 2, none⟩) hwR _).setCell (p := ⟨R, 3, none⟩) hwR _).setCell (p := ⟨R, 4, none⟩) hwR _).setCell (p := ⟨R, 5, none⟩) hwR _).setCell (p := ⟨R, 6, none⟩) hwR _).setCell (p := ⟨R, 7, none⟩) hwR _).setCell (p := ⟨R, 8, none⟩) hwR _).setCell (p := ⟨R, 9, none⟩) hwR _).setCell (p := ⟨R, 10, none⟩) hwR _)⟩
/-- two messages that read alike -/
theorem eqM_same (gv cv pv mv : Value) (gs cs : List (Int × Int)) (ps ms : List Int) (kn sa ho ix pr bw er : Int) (gv2 cv2 pv2 mv2 : Value) (w : World) (hg : RdP w gv gs) (hc : RdP w cv cs) (hp : RdI w pv ps) (hm : RdI w mv ms) (hg2 : RdP w gv2 gs) (hc2 : RdP w cv2 cs) (hp2 : RdI w pv2 ps) (hm2 : RdI w mv2 ms) :
    Calls Tryz.prog 49 #[.agg #[.int .i64 kn, .int .i64 sa, .int .i64 ho, .int .i64 ix, gv, cv, pv, .int .i64 pr, mv, .int .i64 bw, .int .i64 er], .agg #[.int .i64 kn, .int .i64 sa, .int .i64 ho, .int .i64 ix, gv2, cv2, pv2, .int .i64 pr, mv2, .int .i64 bw, .int .i64 er]] w fun e w' => e = .returned (.bool true) ∧ Below w.heap.size w w' := by
  obtain ⟨bA, bB, B1, z⟩ := two w [.int .i64 kn, .int .i64 sa, .int .i64 ho, .int .i64 ix, gv, cv, pv, .int .i64 pr, mv, .int .i64 bw, .int .i64 er] [.int .i64 kn, .int .i64 sa, .int .i64 ho, .int .i64 ix, gv2, cv2, pv2, .int .i64 pr, mv2, .int .i64 bw, .int .i64 er] 32 32
  replace hg := hg.keep B1
  replace hc := hc.keep B1
  replace hp := hp.keep B1
  replace hm := hm.keep B1
  replace hg2 := hg2.keep B1
  replace hc2 := hc2.keep B1
  replace hp2 := hp2.keep B1
  replace hm2 := hm2.keep B1
  clear z
  have q0 : (kn != kn) = false := by simp
  have q1 : (sa != sa) = false := by simp
  have q2 : (ho != ho) = false := by simp
  have q3 : (ix != ix) = false := by simp
  have q4 : (er != er) = false := by simp
  go_enter Tryz.func49, Tryz.ntmps49
  go_wp2_with fail
  refine (eqPS_same _ _ gs _ hg hg2).mono ?_
  rintro e w1 ⟨rfl, hb⟩
  replace bA := bA.keep hb
  replace bB := bB.keep hb
  replace hg := hg.keep hb
  replace hc := hc.keep hb
  replace hp := hp.keep hb
  replace hm := hm.keep hb
  replace hg2 := hg2.keep hb
  replace hc2 := hc2.keep hb
  replace hp2 := hp2.keep hb
  replace hm2 := hm2.keep hb
  replace B1 := below_step B1 hb
  clear hb
  have a5 := bA.c 5 rfl
  have b5 := bB.c 5 rfl
  go_wp2_with fail
  clear a5 b5
  refine (eqPS_same _ _ cs _ hc hc2).mono ?_
  rintro e w2 ⟨rfl, hb⟩
  replace bA := bA.keep hb
  replace bB := bB.keep hb
  replace hg := hg.keep hb
  replace hc := hc.keep hb
  replace hp := hp.keep hb
  replace hm := hm.keep hb
  replace hg2 := hg2.keep hb
  replace hc2 := hc2.keep hb
  replace hp2 := hp2.keep hb
  replace hm2 := hm2.keep hb
  replace B1 := below_step B1 hb
  clear hb
  have a6 := bA.c 6 rfl
  have b6 := bB.c 6 rfl
  have a7 := bA.c 7 rfl
  have b7 := bB.c 7 rfl
  have a8 := bA.c 8 rfl
  have b8 := bB.c 8 rfl
  have a9 := bA.c 9 rfl
  have b9 := bB.c 9 rfl
  go_wp2_with fail
  clear a6 a7 a8 a9 b6 b7 b8 b9
  refine (eqA_same _ _ _ _ ps ms pr bw _ hp hm hp2 hm2).mono ?_
  rintro e w3 ⟨rfl, hb⟩
  replace bA := bA.keep hb
  replace bB := bB.keep hb
  replace hg := hg.keep hb
  replace hc := hc.keep hb
  replace hp := hp.keep hb
  replace hm := hm.keep hb
  replace hg2 := hg2.keep hb
  replace hc2 := hc2.keep hb
  replace hp2 := hp2.keep hb
  replace hm2 := hm2.keep hb
  replace B1 := below_step B1 hb
  clear hb
  have a10 := bA.c 10 rfl
  have b10 := bB.c 10 rfl
  go_wp2
  go_ret
  exact ⟨rfl, B1⟩
end Go.Proofs.YtaffcicgljoajaaGreatDoor
