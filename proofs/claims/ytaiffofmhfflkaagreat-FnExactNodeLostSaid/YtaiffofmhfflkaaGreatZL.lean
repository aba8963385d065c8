/-
  NodeLost of the program and of the model. Conditions: those in each contract.
-/
import Derived.Test.YtaiffofmhfflkaaGreatZM
namespace Go.Proofs.YtaiffofmhfflkaaGreat
open Go.ChangeShapes Go.WideShapes Go.ChangeAt Go.RowKit Go.BigFrame Go.Joins
set_option linter.unusedVariables false
set_option maxRecDepth 100000
set_option linter.unusedSimpArgs false
set_option maxRecDepth 100000

theorem neOf {v : Value} {B : Nat} (h : ∀ k, v.ownBlock = some k → k ≠ B) : v.ownBlock = none ∨ v.ownBlock ≠ some B := by
  cases hv : v.ownBlock with
  | none => exact .inl rfl
  | some k => exact .inr (fun q => by injection q with q; exact h k hv q)
theorem within07 {n : Int} {b : Bool} (w : World) (H : Hid (inB n 0 7 = b)) : Calls Tryz.prog 63 #[.int .i64 n, .int .i64 0, .int .i64 7] w fun e w' => e = .returned (.bool b) ∧ w = w' := within_t w H
theorem siface_t {n : Int} {b : Bool} (w : World) (H : Hid (inB n 0 7 = b)) : Calls Tryz.prog 45 #[.int .i64 n] w fun e w' => e = .returned (.bool b) ∧ w = w' := by
  have h := H.out
  unfold inB at h
  by_cases h0 : 0 ≤ n
  · by_cases h7 : n < 8
    · have hb : Hid (b = true) := Lib.hid (by rw [← h]; simp; omega)
      clear h
      go_enter Tryz.func45, Tryz.ntmps45
      go_wp2
      go_ret
      exact ⟨ret_bool hb.out.symm, rfl⟩
    · have hb : Hid (b = false) := Lib.hid (by rw [← h]; simp; omega)
      clear h
      go_enter Tryz.func45, Tryz.ntmps45
      go_wp2
      go_ret
      exact ⟨ret_bool hb.out.symm, rfl⟩
  · have hb : Hid (b = false) := Lib.hid (by rw [← h]; simp; omega)
    clear h
    go_enter Tryz.func45, Tryz.ntmps45
    go_wp2
    go_ret
    exact ⟨ret_bool hb.out.symm, rfl⟩
theorem ihas_any (ov rv sv : Value) (N : Nd) (i : Int) (w : World) (h : RdN w ov rv sv N) :
    Calls Tryz.prog 50 #[.agg #[.int .i64 N.an, ov, .int .i64 N.bw, .bool N.dr, rv, sv], .int .i64 i] w fun e w' => e = .returned (.bool (ndB N && inB i 0 7)) ∧ Below w.heap.size w w' := by
  obtain ⟨oa, oc, hov⟩ := h.1.len
  obtain ⟨ra, rc, hrv⟩ := h.2.1.len
  obtain ⟨sa, sc, hsv⟩ := h.2.2.len
  subst hov hrv hsv
  obtain ⟨bA, B0, z⟩ := one w [.int .i64 N.an, .slice oa N.own.length oc, .int .i64 N.bw, .bool N.dr, .slice ra N.rib.length rc, .slice sa N.sent.length sc] 34
  replace h := h.keep B0
  have a0 := bA.c 0 rfl
  have a1 := bA.c 1 rfl
  have a2 := bA.c 2 rfl
  have a3 := bA.c 3 rfl
  have a4 := bA.c 4 rfl
  have a5 := bA.c 5 rfl
  clear z
  cases hb : ndB N
  · rw [Bool.false_and]
    have HB := Lib.hid hb
    clear hb
    go_enter Tryz.func50, Tryz.ntmps50
    go_wp2_with fail
    refine (indok_t _ h HB).mono ?_
    rintro e w1 ⟨rfl, hb⟩
    replace B0 := below_step B0 hb
    clear hb
    go_wp2
    go_ret
    exact ⟨rfl, B0⟩
  · rw [Bool.true_and]
    have HB := Lib.hid hb
    clear hb
    obtain ⟨g, hg⟩ : ∃ g, inB i 0 7 = g := ⟨_, rfl⟩
    rw [hg]
    have HG := Lib.hid hg
    clear hg
    go_enter Tryz.func50, Tryz.ntmps50
    go_wp2_with fail
    refine (indok_t _ h HB).mono ?_
    rintro e w1 ⟨rfl, hb⟩
    replace B0 := below_step B0 hb
    clear hb
    go_wp2_with fail
    refine (within07 _ HG).mono ?_
    rintro e w2 ⟨rfl, rfl⟩
    go_wp2
    go_ret
    exact ⟨rfl, B0⟩
theorem ihas_t {ov rv sv : Value} {N : Nd} {i : Int} {b : Bool} (w : World) (h : RdN w ov rv sv N) (H : Hid ((ndB N && inB i 0 7) = b)) :
    Calls Tryz.prog 50 #[.agg #[.int .i64 N.an, ov, .int .i64 N.bw, .bool N.dr, rv, sv], .int .i64 i] w fun e w' => e = .returned (.bool b) ∧ Below w.heap.size w w' := H.out ▸ ihas_any ov rv sv N i w h
/-- what NodeLost answers -/
def lostN (N : Nd) (i : Int) : Nd := if (ndB N && inB i 0 7) = true then { N with rib := dropP N.rib i, sent := dropP N.sent i } else nd0
theorem nd_ribs {N : Nd} (h : ndB N = true) : ribB N.rib = true ∧ ribB N.sent = true := by
  unfold ndB at h
  simp only [Bool.and_eq_true] at h
  exact ⟨h.2.2.2.1, h.2.2.2.2.1⟩
theorem wtE_filter (f : Ent → Bool) : ∀ L : List Ent, (L.filter f).length + wtE (L.filter f) ≤ L.length + wtE L
  | [] => by simp [wtE]
  | E :: L => by
    have ih := wtE_filter f L
    rw [List.filter_cons]
    have e : wtE (E :: L) = E.p.length + E.c.length + wtE L := by simp [wtE]
    split
    · have e2 : wtE (E :: L.filter f) = E.p.length + E.c.length + wtE (L.filter f) := by simp [wtE]
      rw [e, e2, List.length_cons, List.length_cons]
      omega
    · rw [e, List.length_cons]
      omega
theorem wt_filter {N : Nd} (i : Int) (h : wtN N ≤ 1048576) : wtN { N with rib := N.rib.filter fun E => !(E.pe == i), sent := N.sent.filter fun E => !(E.pe == i) } ≤ 1048576 := by
  have h1 := wtE_filter (fun E => !(E.pe == i)) N.rib
  have h2 := wtE_filter (fun E => !(E.pe == i)) N.sent
  unfold wtN at h ⊢
  dsimp only
  omega
theorem lost_bd {N : Nd} (i : Int) (h : BdN N) : BdN (lostN N i) := by
  unfold lostN
  split
  · refine ⟨fun j hj => ?_, fun j hj => ?_⟩
    · exact bd_mem (L := N.rib) h.1 (dropP_sub (pe := i) (getD_mem hj))
    · exact bd_mem (L := N.sent) h.2 (dropP_sub (pe := i) (getD_mem hj))
  · exact bdN0
theorem dropP_wt (L : List Ent) (i : Int) : (dropP L i).length + wtE (dropP L i) ≤ L.length + wtE L := by
  unfold dropP
  split
  · exact wtE_filter _ L
  · simp [wtE]
theorem lost_wt {N : Nd} (i : Int) (h : wtN N ≤ 1048576) : wtN (lostN N i) ≤ 1048576 := by
  unfold lostN
  split
  · have h1 := dropP_wt N.rib i
    have h2 := dropP_wt N.sent i
    unfold wtN at h ⊢
    dsimp only
    omega
  · exact wtN0
set_option maxHeartbeats 2000000 in
theorem ilost_any (ov rv sv : Value) (N : Nd) (i : Int) (w : World) (h : RdN w ov rv sv N) (hn : wtN N ≤ 1048576) :
    Calls Tryz.prog 13 #[.agg #[.int .i64 N.an, ov, .int .i64 N.bw, .bool N.dr, rv, sv], .int .i64 i] w (NewNdT w (lostN N i)) := by
  obtain ⟨oa, oc, hov⟩ := h.1.len
  obtain ⟨ra, rc, hrv⟩ := h.2.1.len
  obtain ⟨sa, sc, hsv⟩ := h.2.2.len
  subst hov hrv hsv
  obtain ⟨bA, bR, B1, z⟩ := two w [.int .i64 N.an, .slice oa N.own.length oc, .int .i64 N.bw, .bool N.dr, .slice ra N.rib.length rc, .slice sa N.sent.length sc] [.int .i64 0, .slice none 0 0, .int .i64 0, .bool false, .slice none 0 0, .slice none 0 0] 34 34
  obtain ⟨A, hA⟩ : ∃ A, A = w.heap.size := ⟨_, rfl⟩
  obtain ⟨R, hR⟩ : ∃ R, R = w.heap.size + 1 := ⟨_, rfl⟩
  have hwR : w.heap.size ≤ R := by omega
  have hwA : w.heap.size ≤ A := by omega
  have a0 := bA.c 0 rfl
  have a1 := bA.c 1 rfl
  have a2 := bA.c 2 rfl
  have a3 := bA.c 3 rfl
  have a4 := bA.c 4 rfl
  have a5 := bA.c 5 rfl
  have HND := Lib.hid hn
  have hl2 : N.rib.length + wtE N.rib ≤ 1048576 := by unfold wtN at hn; omega
  have hl3 : N.sent.length + wtE N.sent ≤ 1048576 := by unfold wtN at hn; omega
  clear hn
  cases hb : (ndB N && inB i 0 7)
  · have e : lostN N i = nd0 := by simp [lostN, hb]
    rw [e]
    have HB := Lib.hid hb
    clear hb e
    go_enter Tryz.func13, Tryz.ntmps13
    go_wp2_with fail
    clear a0 a1 a2 a3 a4 a5
    refine (ihas_t _ (h.keep B1) HB).mono ?_
    rintro e w1 ⟨rfl, hb1⟩
    have hs1 := hb1.size
    replace bR := bR.keep hb1
    replace B1 := below_step B1 hb1
    rw [← hR] at bR
    try rw [← hR]
    have hRb : R < w1.heap.size := by omega
    clear hR hb1
    have r0 := bR.c 0 rfl
    have rf0 := bR.f 0 rfl
    have r1 := bR.c 1 rfl
    have rf1 := bR.f 1 rfl
    have r2 := bR.c 2 rfl
    have rf2 := bR.f 2 rfl
    have r3 := bR.c 3 rfl
    have rf3 := bR.f 3 rfl
    have r4 := bR.c 4 rfl
    have rf4 := bR.f 4 rfl
    have r5 := bR.c 5 rfl
    have rf5 := bR.f 5 rfl
    go_wp2_with fail
    have bE := ((((((bR.set 0 (.int .i64 0)).set 1 (.slice none 0 0)).set 2 (.int .i64 0)).set 3 (.bool false)).set 4 (.slice none 0 0)).set 5 (.slice none 0 0))
    have e0 := bE.c 0 rfl
    have e1 := bE.c 1 rfl
    have e2 := bE.c 2 rfl
    have e3 := bE.c 3 rfl
    have e4 := bE.c 4 rfl
    have e5 := bE.c 5 rfl
    exact bodyPost_ret (v := .agg #[.int .i64 0, .slice none 0 0, .int .i64 0, .bool false, .slice none 0 0, .slice none 0 0]) (by simp [results, Tryz.results13, go_sem, e0, e1, e2, e3, e4, e5]) rfl
      ⟨_, _, _, [], [], _, _, _, rfl, ndT_nil _, rfl, rfl, by have := ((((((B1.setCell (p := ⟨R, 0, none⟩) hwR (.int .i64 0)).setCell (p := ⟨R, 1, none⟩) hwR (.slice none 0 0)).setCell (p := ⟨R, 2, none⟩) hwR (.int .i64 0)).setCell (p := ⟨R, 3, none⟩) hwR (.bool false)).setCell (p := ⟨R, 4, none⟩) hwR (.slice none 0 0)).setCell (p := ⟨R, 5, none⟩) hwR (.slice none 0 0)).size; simpa using this, ((((((B1.setCell (p := ⟨R, 0, none⟩) hwR (.int .i64 0)).setCell (p := ⟨R, 1, none⟩) hwR (.slice none 0 0)).setCell (p := ⟨R, 2, none⟩) hwR (.int .i64 0)).setCell (p := ⟨R, 3, none⟩) hwR (.bool false)).setCell (p := ⟨R, 4, none⟩) hwR (.slice none 0 0)).setCell (p := ⟨R, 5, none⟩) hwR (.slice none 0 0))⟩
  · have e : lostN N i = { N with rib := dropP N.rib i, sent := dropP N.sent i } := by simp [lostN, hb]
    rw [e]
    have HB := Lib.hid hb
    clear hb e
    go_enter Tryz.func13, Tryz.ntmps13
    go_wp2_with fail
    clear a0 a1 a2 a3 a4 a5
    refine (ihas_t _ (h.keep B1) HB).mono ?_
    rintro e w1 ⟨rfl, hb1⟩
    have hs1 := hb1.size
    replace bA := bA.keep hb1
    replace bR := bR.keep hb1
    replace B1 := below_step B1 hb1
    rw [← hR] at bR
    rw [← hA] at bA
    try rw [← hR]
    try rw [← hA]
    have hRb1 : R < w1.heap.size := by omega
    have hAb1 : A < w1.heap.size := by omega
    clear hR hA hb1
    have a0 := bA.c 0 rfl
    have a1 := bA.c 1 rfl
    have a2 := bA.c 2 rfl
    have a3 := bA.c 3 rfl
    have a4 := bA.c 4 rfl
    have a5 := bA.c 5 rfl
    go_wp2_with fail
    clear a0 a1 a2 a3 a4 a5
    refine (icopy8_any _ _ _ N w1 (h.keep B1) HND.out).mono ?_
    rintro e w2 ⟨ov2, ru2, su2, T1, T2, b0, h1, h2, rfl, hN, -, -, hb0, hb2⟩
    have hRb : R < b0 := Nat.lt_of_lt_of_le hRb1 hb0
    have hwb : w.heap.size ≤ b0 := by omega
    have hs2 := hb2.size
    replace bR := bR.keep hb2
    replace bA := bA.keep hb2
    replace B1 := below_step B1 hb2
    obtain ⟨⟨x1, y1, q1⟩, ⟨x2, y2, q2⟩, x3, y3, q3⟩ := hN.lens
    subst q1 q2 q3
    have ho := hN.o
    have hoh := hN.oh
    have hb01 := hN.q1
    have hb12 := Nat.le_trans hN.q2 hN.q3
    have HOH := Lib.hid hoh
    clear hN hoh
    have bO := Bl.new w2 [.int .i64 N.an, .slice x1 N.own.length y1, .int .i64 N.bw, .bool N.dr, .slice x2 T1.length y2, .slice x3 T2.length y3] 34 w2.heap.size rfl
    have N1 : Below w2.heap.size w2 (w2.alloc (.cells #[.int .i64 N.an, .slice x1 N.own.length y1, .int .i64 N.bw, .bool N.dr, .slice x2 T1.length y2, .slice x3 T2.length y3] 34)) := (Below.refl _ _).alloc (Nat.le_refl _) _
    have a4 := (bA.keep N1).c 4 rfl
    go_wp2_with fail
    clear a4
    obtain ⟨O, hO⟩ : ∃ O, O = w2.heap.size := ⟨_, rfl⟩
    obtain ⟨V, hV⟩ : ∃ V, V = w2.alloc (.cells #[.int .i64 N.an, .slice x1 N.own.length y1, .int .i64 N.bw, .bool N.dr, .slice x2 T1.length y2, .slice x3 T2.length y3] 34) := ⟨_, rfl⟩
    have hOV : O < V.heap.size := by rw [hV, hO]; simp
    have hh1V : h1 ≤ V.heap.size := by rw [hV]; simp; omega
    rw [← hV] at bO N1 ⊢
    rw [← hO] at bO
    try rw [← hO]
    have hOR : O ≠ R := by have := bR.lt; omega
    have hOA : O ≠ A := by have := bA.lt; omega
    have hwO : w.heap.size ≤ O := by omega
    have hRV : R < V.heap.size := by have := bR.lt; omega
    replace bR := bR.keep N1
    replace bA := bA.keep N1
    replace ho := ho.keep N1
    replace B1 := below_step B1 N1
    have hoO : ∀ k, (Value.slice x1 N.own.length y1).ownBlock = some k → k ≠ O := fun k hk => by
      have := HOH.out k hk
      omega
    have HOO := Lib.hid hoO
    clear hV hO N1 hoO
    refine (irdp_any _ N.rib i V (h.keep B1).2.1 (lens_of hl2)).mono ?_
    rintro e w3 ⟨u3, S1, rfl, hS1, hE1, hb⟩
    obtain ⟨x4, y4, rfl⟩ := hS1.lenV
    have HE1 := Lib.hid hE1
    have HI1 := Lib.hid hS1.inH
    have hs3 := hb.size
    replace bO := bO.keep hb
    replace bR := bR.keep hb
    replace bA := bA.keep hb
    replace ho := ho.keep hb
    replace B1 := below_step B1 hb
    clear hb hE1
    have o4 := bO.c 4 rfl
    have of4 := bO.f 4 rfl
    have a5 := bA.c 5 rfl
    go_wp2_with fail
    clear o4 of4 a5
    have bO2 := bO.set 4 (.slice x4 S1.length y4)
    have bR2 := bR.far (o := 4) (u := .slice x4 S1.length y4) hOR.symm
    have ho2 : OwnP (w3.setCell ⟨O, 4, none⟩ (.slice x4 S1.length y4)) b0 (.slice x1 N.own.length y1) N.own := ho.kept (grown_set w3 O 4 _) (neOf HOO.out)
    have hS12 := hS1.far (o := 4) (u := .slice x4 S1.length y4) hOV
    have B2 := B1.setCell (p := ⟨O, 4, none⟩) hwO (.slice x4 S1.length y4)
    obtain ⟨W4, hW4⟩ : ∃ W, W = w3.setCell ⟨O, 4, none⟩ (.slice x4 S1.length y4) := ⟨_, rfl⟩
    have hs4 : w3.heap.size = W4.heap.size := by rw [hW4]; simp
    rw [← hW4] at bO2 bR2 ho2 hS12 B2 ⊢
    rw [hs4] at HI1 hs3
    clear hW4 bO bR ho hS1 B1 hs4 bA
    simp only [List.set_cons_zero, List.set_cons_succ] at bO2
    refine (irdp_any _ N.sent i W4 (h.keep B2).2.2 (lens_of hl3)).mono ?_
    rintro e w5 ⟨u5, S2, rfl, hS2, hE2, hb⟩
    obtain ⟨x5, y5, rfl⟩ := hS2.lenV
    have HE2 := Lib.hid hE2
    have HI2 := Lib.hid hS2.inH
    have hs5 := hb.size
    replace bO2 := bO2.keep hb
    replace bR2 := bR2.keep hb
    replace ho2 := ho2.keep hb
    replace hS12 := hS12.keep hb
    replace B2 := below_step B2 hb
    clear hb hE2 h
    have o5 := bO2.c 5 rfl
    have of5 := bO2.f 5 rfl
    have bO3 := bO2.set 5 (.slice x5 S2.length y5)
    have bR3 := bR2.far (o := 5) (u := .slice x5 S2.length y5) hOR.symm
    have ho3 : OwnP (w5.setCell ⟨O, 5, none⟩ (.slice x5 S2.length y5)) b0 (.slice x1 N.own.length y1) N.own := ho2.kept (grown_set w5 O 5 _) (neOf HOO.out)
    have hS13 := hS12.far (o := 5) (u := .slice x5 S2.length y5) hOV
    have hOW : O < W4.heap.size := by omega
    have hS23 := hS2.far (o := 5) (u := .slice x5 S2.length y5) hOW
    have B3 := B2.setCell (p := ⟨O, 5, none⟩) hwO (.slice x5 S2.length y5)
    have hN : NdT (w5.setCell ⟨O, 5, none⟩ (.slice x5 S2.length y5)) b0 V.heap.size W4.heap.size w5.heap.size (.slice x1 N.own.length y1) (.slice x4 S1.length y4) (.slice x5 S2.length y5) N.own S1 S2 :=
      ⟨ho3, fun k hk => Nat.lt_of_lt_of_le (HOH.out k hk) hh1V, hS13, HI1.out, hS23, HI2.out, by omega, hs3, hs5⟩
    clear ho3 hS13 hS23 ho2 hS12 hS2
    have k0 := bO3.c 0 rfl
    have k1 := bO3.c 1 rfl
    have k2 := bO3.c 2 rfl
    have k3 := bO3.c 3 rfl
    have k4 := bO3.c 4 rfl
    have k5 := bO3.c 5 rfl
    have r0 := bR3.c 0 rfl
    have rf0 := bR3.f 0 rfl
    have r1 := bR3.c 1 rfl
    have rf1 := bR3.f 1 rfl
    have r2 := bR3.c 2 rfl
    have rf2 := bR3.f 2 rfl
    have r3 := bR3.c 3 rfl
    have rf3 := bR3.f 3 rfl
    have r4 := bR3.c 4 rfl
    have rf4 := bR3.f 4 rfl
    have r5 := bR3.c 5 rfl
    have rf5 := bR3.f 5 rfl
    go_wp2_with fail
    have bE := ((((((bR3.set 0 (.int .i64 N.an)).set 1 (.slice x1 N.own.length y1)).set 2 (.int .i64 N.bw)).set 3 (.bool N.dr)).set 4 (.slice x4 S1.length y4)).set 5 (.slice x5 S2.length y5))
    have e0 := bE.c 0 rfl
    have e1 := bE.c 1 rfl
    have e2 := bE.c 2 rfl
    have e3 := bE.c 3 rfl
    have e4 := bE.c 4 rfl
    have e5 := bE.c 5 rfl
    exact bodyPost_ret (v := .agg #[.int .i64 N.an, .slice x1 N.own.length y1, .int .i64 N.bw, .bool N.dr, .slice x4 S1.length y4, .slice x5 S2.length y5]) (by simp [results, Tryz.results13, go_sem, e0, e1, e2, e3, e4, e5]) rfl
      ⟨_, _, _, S1, S2, b0, V.heap.size, W4.heap.size, rfl, by simpa using ((((((hN.far (C := R) (o := 0) (u := .int .i64 N.an) hRb).far (C := R) (o := 1) (u := .slice x1 N.own.length y1) hRb).far (C := R) (o := 2) (u := .int .i64 N.bw) hRb).far (C := R) (o := 3) (u := .bool N.dr) hRb).far (C := R) (o := 4) (u := .slice x4 S1.length y4) hRb).far (C := R) (o := 5) (u := .slice x5 S2.length y5) hRb), HE1.out, HE2.out, hwb, ((((((B3.setCell (p := ⟨R, 0, none⟩) hwR (.int .i64 N.an)).setCell (p := ⟨R, 1, none⟩) hwR (.slice x1 N.own.length y1)).setCell (p := ⟨R, 2, none⟩) hwR (.int .i64 N.bw)).setCell (p := ⟨R, 3, none⟩) hwR (.bool N.dr)).setCell (p := ⟨R, 4, none⟩) hwR (.slice x4 S1.length y4)).setCell (p := ⟨R, 5, none⟩) hwR (.slice x5 S2.length y5))⟩
theorem rowMono {w : World} {base base' n : Nat} {v : Value} {xs : List Value} (h : w.ownsRow base EI 7 v n xs) (hb : base' ≤ base) : w.ownsRow base' EI 7 v n xs := by
  refine ⟨h.1, ?_⟩
  rcases h.2 with hn | ⟨g, cap, cur, hv, hg, rest⟩
  · exact .inl hn
  · exact .inr ⟨g, cap, cur, hv, Nat.le_trans hb hg, rest⟩
set_option maxHeartbeats 2000000 in
theorem sdp_w (v : Value) (L : List Ent) (pe : Int) (w0 w : World) (h0 : RdE w0 v L) (hb0 : Below w0.heap.size w0 w) (hn1 : L.length ≤ 1048576) :
    Calls Tryz.prog 110 #[.agg #[v], .int .i64 pe] w fun e w' => ∃ u T, e = .returned (.agg #[u]) ∧ w'.ownsRow w.heap.size EI 7 u T.length (flatT T) ∧ (∀ t ∈ T, RdI w0 t.u t.E.p ∧ RdI w0 t.v t.E.c) ∧ entT T = L.filter (fun E => !(E.pe == pe)) ∧ Below w.heap.size w w' := by
  obtain ⟨a, c, rfl, hc⟩ := h0.el
  have hlen := hn1
  obtain ⟨n, hn⟩ : ∃ n, n = L.length := ⟨_, rfl⟩
  rw [← hn] at hc hlen
  rw [← hn]
  have HN := Lib.hid hn
  clear h0 hn
  obtain ⟨bA, bR, bO, B0, z⟩ := three w [.slice a n c] [.slice none 0 0] [.slice none 0 0] 32 32 32
  have a0 := bA.c 0 rfl
  go_enter Tryz.func110, Tryz.ntmps110
  go_wp2
  clear a0
  obtain ⟨W1, hW⟩ : ∃ W1, W1 = ((w.alloc (.cells #[.slice a n c] 32)).alloc (.cells #[.slice none 0 0] 32)).alloc (.cells #[.slice none 0 0] 32) := ⟨_, rfl⟩
  rw [← hW] at bA bR bO B0 z ⊢
  obtain ⟨A, hA⟩ : ∃ A, A = w.heap.size := ⟨_, rfl⟩
  obtain ⟨R, hR⟩ : ∃ R, R = w.heap.size + 1 := ⟨_, rfl⟩
  obtain ⟨O, hO⟩ : ∃ O, O = w.heap.size + 1 + 1 := ⟨_, rfl⟩
  rw [← hA] at bA
  rw [← hR] at bR
  rw [← hO] at bO
  try rw [← hO]
  try rw [← hR]
  try rw [← hA]
  have hwA : w.heap.size ≤ A := by omega
  have hwR : w.heap.size ≤ R := by omega
  have hwO : w.heap.size ≤ O := by omega
  have hAO : A ≠ O := by omega
  have hRO : R ≠ O := by omega
  have hAR : A ≠ R := by omega
  have hAW : A < W1.heap.size := by rw [z]; omega
  have hRW : R < W1.heap.size := by rw [z]; omega
  have hOW : O < W1.heap.size := by rw [z]; omega
  have hwW : w.heap.size ≤ W1.heap.size := B0.size
  clear hA hR hO hW z
  go_loopw [6] (fun q wr => ∃ k : Nat, k ≤ n ∧ q = .int .i64 k ∧ ∃ (v2 : Value) (T : List ET), wr.ownsRow W1.heap.size EI 7 v2 T.length (flatT T) ∧ (∀ t ∈ T, RdI w0 t.u t.E.p ∧ RdI w0 t.v t.E.c) ∧ entT T = (L.take k).filter (fun E => !(E.pe == pe)) ∧ Bl wr O [v2] ∧ Bl wr R [.slice none 0 0] ∧ Bl wr A [.slice a n c] ∧ Below w.heap.size w wr ∧ W1.heap.size ≤ wr.heap.size) (fun q _ => n - (intOf q).toNat)
  case atStart => exact ⟨0, Nat.zero_le _, rfl, _, [], World.ownsRow_nil _ _ _ _, by simp, rfl, bO, bR, bA, B0, Nat.le_refl _⟩
  case round =>
    obtain ⟨k, hk, rfl, v2, T, hT, hTR, hTE, bO1, bR1, bA1, hB, hsz⟩ := hrel
    have r0 := bA1.c 0 rfl
    by_cases hlt : k < n
    · have hltI : (k : Int) < (n : Int) := by omega
      obtain ⟨b, o, rfl, hE⟩ := hc k hlt
      obtain ⟨E, hx⟩ : ∃ E, L.getD k e0 = E := ⟨_, rfl⟩
      rw [hx] at hE
      obtain ⟨pv, cv, hp, hq, G0, G1, G2, G3, G4, G5, G6⟩ := hE
      replace G0 := cell_keep hb0 (World.block_lt_of_cell? w0 _ G0) G0
      replace G1 := cell_keep hb0 (World.block_lt_of_cell? w0 _ G1) G1
      replace G2 := cell_keep hb0 (World.block_lt_of_cell? w0 _ G2) G2
      replace G3 := cell_keep hb0 (World.block_lt_of_cell? w0 _ G3) G3
      replace G4 := cell_keep hb0 (World.block_lt_of_cell? w0 _ G4) G4
      replace G5 := cell_keep hb0 (World.block_lt_of_cell? w0 _ G5) G5
      replace G6 := cell_keep hb0 (World.block_lt_of_cell? w0 _ G6) G6
      obtain ⟨pa, px, rfl⟩ := hp.len
      obtain ⟨qa, qx, rfl⟩ := hq.len
      have g0 := over_cell hB (World.block_lt_of_cell? _ _ G0) G0
      have g1 := over_cell hB (World.block_lt_of_cell? _ _ G1) G1
      have g2 := over_cell hB (World.block_lt_of_cell? _ _ G2) G2
      have g3 := over_cell hB (World.block_lt_of_cell? _ _ G3) G3
      have g4 := over_cell hB (World.block_lt_of_cell? _ _ G4) G4
      have g5 := over_cell hB (World.block_lt_of_cell? _ _ G5) G5
      have g6 := over_cell hB (World.block_lt_of_cell? _ _ G6) G6
      have HL : Hid (T.length + 1 ≤ 4294967296) := Lib.hid (by
        have e := congrArg List.length hTE
        have e2 := List.length_filter_le (fun E => !(E.pe == pe)) (L.take k)
        rw [entT_len] at e
        rw [List.length_take] at e2
        have e3 := HN.out
        omega)
      by_cases hpe : E.pe = pe
      · have HX : Hid (entT T = (L.take (k + 1)).filter (fun E => !(E.pe == pe))) := Lib.hid (filt_no hTE (by rw [← HN.out]; exact hlt) hx (by simp [hpe]))
        have HC := Lib.hid hc
        rw [hpe] at g2
        clear hx hc hTE hpe
        go_wp2
        go_roundw
        case rel => exact ⟨k + 1, by omega, by go_num, v2, T, hT, hTR, HX.out, bO1, bR1, bA1, hB, hsz⟩
        case measure => simp [intOf]; omega
      · have HTE : Hid (∀ t : ET, t.E = E → entT (T ++ [t]) = (L.take (k + 1)).filter (fun E => !(E.pe == pe))) := Lib.hid fun t ht => filt_yes hTE (by rw [← HN.out]; exact hlt) (by rw [hx, ht]) (by simp [ht, hpe])
        have HC := Lib.hid hc
        have hfb : (E.pe == pe) = false := by simp [hpe]
        clear hx hc hTE hpe
        go_wp2_with fail
        refine wp_region_held_drew (S := fun w' => Bl w' A [.slice (some ⟨b, o, none⟩) n c] ∧ Below w.heap.size w w') (by kernel_rfl) ⟨bA1.keep (over_drew _), below_step hB (over_drew _)⟩ (fun hHeld => ?_)
        clear hHeld
        obtain ⟨D, hD⟩ : ∃ D, D = wr.drew := ⟨_, rfl⟩
        have OD : Over wr D := by rw [hD]; exact over_drew _
        rw [← hD]
        clear hD
        have hSD : KpA w A [.slice (some ⟨b, o, none⟩) n c] D := ⟨bA1.keep OD, below_step hB OD⟩
        have hWD : W1.heap.size ≤ D.heap.size := Nat.le_trans hsz OD.size
        clear g0 g1 g2 g3 g4 g5 g6
        refine wpAnyH_take (i := 0) (v := ?_) rfl (by kernel_rfl) (by kernel_rfl) (by kernel_rfl) (fun _ _ _ h => h) (Or.inl ⟨by rfl, ?_⟩) hSD ?_
        rotate_left
        · intro wq hSq
          (try dsimp only at hSq)

          go_simp
          try rfl
        change wpAnyH _ _ _ _ _ _ _ (Act.put _ (some 22) _) _
        simp only [Act.put, List.setIfInBounds_toArray, List.set_cons_succ, List.set_cons_zero]
        refine wpAnyH_take (i := 2) (v := ?_) rfl (by kernel_rfl) (by kernel_rfl) (by kernel_rfl) (fun _ _ _ h => h) (Or.inl ⟨by rfl, ?_⟩) hSD ?_
        rotate_left
        · intro wq hSq
          (try dsimp only at hSq)

          go_simp
          try rfl
        change wpAnyH _ _ _ _ _ _ _ (Act.put _ (some 24) _) _
        simp only [Act.put, List.setIfInBounds_toArray, List.set_cons_succ, List.set_cons_zero]
        refine wpAnyH_take (i := 3) (v := ?_) rfl (by kernel_rfl) (by kernel_rfl) (by kernel_rfl) (fun _ _ _ h => h) (Or.inl ⟨by rfl, ?_⟩) hSD ?_
        rotate_left
        · intro wq hSq
          (try dsimp only at hSq)
          have q0 := hSq.1.c 0 rfl
          go_simp
          try rfl
        change wpAnyH _ _ _ _ _ _ _ (Act.put _ (some 25) _) _
        simp only [Act.put, List.setIfInBounds_toArray, List.set_cons_succ, List.set_cons_zero]
        refine wpAnyH_take (i := 4) (v := ?_) rfl (by kernel_rfl) (by kernel_rfl) (by kernel_rfl) (fun _ _ _ h => h) (Or.inl ⟨by rfl, ?_⟩) hSD ?_
        rotate_left
        · intro wq hSq
          (try dsimp only at hSq)

          go_simp
          try rfl
        change wpAnyH _ _ _ _ _ _ _ (Act.put _ (some 26) _) _
        simp only [Act.put, List.setIfInBounds_toArray, List.set_cons_succ, List.set_cons_zero]
        refine wpAnyH_take (i := 5) (v := ?_) rfl (by kernel_rfl) (by kernel_rfl) (by kernel_rfl) (fun _ _ _ h => h) (Or.inl ⟨by rfl, ?_⟩) hSD ?_
        rotate_left
        · intro wq hSq
          (try dsimp only at hSq)

          go_simp
          try rfl
        change wpAnyH _ _ _ _ _ _ _ (Act.put _ (some 27) _) _
        simp only [Act.put, List.setIfInBounds_toArray, List.set_cons_succ, List.set_cons_zero]
        refine wpAnyH_take (i := 6) (v := ?_) rfl (by kernel_rfl) (by kernel_rfl) (by kernel_rfl) (fun _ _ _ h => h) (Or.inl ⟨by rfl, ?_⟩) hSD ?_
        rotate_left
        · intro wq hSq
          (try dsimp only at hSq)
          have q0 := over_cell hSq.2 (World.block_lt_of_cell? _ _ G0) G0
          have q1 := over_cell hSq.2 (World.block_lt_of_cell? _ _ G1) G1
          have q2 := over_cell hSq.2 (World.block_lt_of_cell? _ _ G2) G2
          have q3 := over_cell hSq.2 (World.block_lt_of_cell? _ _ G3) G3
          have q4 := over_cell hSq.2 (World.block_lt_of_cell? _ _ G4) G4
          have q5 := over_cell hSq.2 (World.block_lt_of_cell? _ _ G5) G5
          have q6 := over_cell hSq.2 (World.block_lt_of_cell? _ _ G6) G6
          go_simp
          try rfl
        change wpAnyH _ _ _ _ _ _ _ (Act.put _ (some 28) _) _
        simp only [Act.put, List.setIfInBounds_toArray, List.set_cons_succ, List.set_cons_zero]
        refine wpAnyH_ready (rs := [1, 7]) (by kernel_rfl) (by simp) ?_
        refine (AllReadyH.cons rfl (fun K hK => ?_) (AllReadyH.cons rfl (fun K hK => ?_) AllReadyH.nil))
        · have q := (bO1.keep OD).c 0 rfl
          go_simp
          refine hK.out _ _ hSD (fun hHeld => ?_)
          clear hK K hHeld q
          try simp only [Act.put, List.setIfInBounds_toArray, List.set_cons_zero, List.set_cons_succ]
          refine wpAnyH_ready (rs := [7]) (by kernel_rfl) (by simp) ?_
          refine (AllReadyH.cons rfl (fun K hK => ?_) AllReadyH.nil)
          go_simp
          have bN := Bl.new D [.int .i64 E.a, .int .i64 E.n, .int .i64 E.pe, .slice pa E.p.length px, .int .i64 E.pr, .slice qa E.c.length qx, .int .i64 E.bw] EI D.heap.size rfl
          have N1 : Below D.heap.size D (D.alloc (.cells #[.int .i64 E.a, .int .i64 E.n, .int .i64 E.pe, .slice pa E.p.length px, .int .i64 E.pr, .slice qa E.c.length qx, .int .i64 E.bw] EI)) := (Below.refl _ _).alloc (Nat.le_refl _) _
          refine hK.out _ _ (hSD.next N1) (fun hHeld => ?_)
          clear hK K hHeld
          try simp only [Act.put, List.setIfInBounds_toArray, List.set_cons_zero, List.set_cons_succ]
          refine wpAnyH_ready (rs := [8]) (by kernel_rfl) (by simp) ?_
          refine (AllReadyH.cons rfl (fun K hK => ?_) AllReadyH.nil)
          refine step_appE rfl (.tmp 23) (.tmp 29) rfl W1.heap.size D.heap.size 1 v2 T.length (flatT T) [.int .i64 E.a, .int .i64 E.n, .int .i64 E.pe, .slice pa E.p.length px, .int .i64 E.pr, .slice qa E.c.length qx, .int .i64 E.bw] rfl rfl (rowK (rowK hT OD) N1) bN rfl (by simp [Value.oneCell']) HL.out (Nat.le_trans hWD N1.size) ?_
          intro v3 w3 hrow hg hor
          have hB3 : Below w.heap.size w w3 := below_growT (below_step (below_step hB OD) N1) (rowK (rowK hT OD) N1) hwW hg
          have bO3 := ((bO1.keep OD).keep N1).grown hg (neRow (rowK (rowK hT OD) N1) hOW)
          have bR3 := ((bR1.keep OD).keep N1).grown hg (neRow (rowK (rowK hT OD) N1) hRW)
          have bA3 := ((bA1.keep OD).keep N1).grown hg (neRow (rowK (rowK hT OD) N1) hAW)
          have hs3 := Nat.le_trans hWD (Nat.le_trans N1.size hg.size)
          clear hg hor
          refine hK.out _ _ ⟨bA3, hB3⟩ (fun hHeld => ?_)
          clear hK K hHeld
          obtain ⟨x3, y3, rfl⟩ := row_slice hrow
          try simp only [Act.put, List.setIfInBounds_toArray, List.set_cons_zero, List.set_cons_succ]
          refine wpAnyH_ready (rs := [9]) (by kernel_rfl) (by simp) ?_
          refine (AllReadyH.cons rfl (fun K hK => ?_) AllReadyH.nil)
          go_simp
          refine hK.out _ _ ⟨bA3, hB3⟩ (fun hHeld => ?_)
          clear hK K hHeld
          try simp only [Act.put, List.setIfInBounds_toArray, List.set_cons_zero, List.set_cons_succ]
          refine wpAnyH_ready (rs := [10]) (by kernel_rfl) (by simp) ?_
          refine (AllReadyH.cons rfl (fun K hK => ?_) AllReadyH.nil)
          have o0 := bO3.c 0 rfl
          have of0 := bO3.f 0 rfl
          go_simp
          refine hK.out _ _ ⟨bA3.far hAO, hB3.setCell (p := ⟨O, 0, none⟩) hwO _⟩ (fun hHeld => ?_)
          clear hK K hHeld o0 of0
          try simp only [Act.put, List.setIfInBounds_toArray, List.set_cons_zero, List.set_cons_succ]
          refine wpAnyH_done (by kernel_rfl) ?_ _
          go_wp2
          go_roundw
          case rel =>
            refine ⟨k + 1, by omega, by go_num, .slice x3 (T.length + 1) y3, T ++ [⟨E, .slice pa E.p.length px, .slice qa E.c.length qx⟩], ?_, ?_, HTE.out _ rfl, bO3.set 0 _, bR3.far hRO, bA3.far hAO, hB3.setCell (p := ⟨O, 0, none⟩) hwO _, by simpa using hs3⟩
            · rw [List.length_append, flatT_append, show flatT [(⟨E, .slice pa E.p.length px, .slice qa E.c.length qx⟩ : ET)] = cellsT ⟨E, .slice pa E.p.length px, .slice qa E.c.length qx⟩ by simp [flatT]]
              exact rowFar hrow hOW
            · intro t ht
              rcases List.mem_append.1 ht with q | q
              · exact hTR t q
              · rw [List.mem_singleton.1 q]; exact ⟨hp, hq⟩
          case measure => simp [intOf]; omega
        · go_simp
          have bN := Bl.new D [.int .i64 E.a, .int .i64 E.n, .int .i64 E.pe, .slice pa E.p.length px, .int .i64 E.pr, .slice qa E.c.length qx, .int .i64 E.bw] EI D.heap.size rfl
          have N1 : Below D.heap.size D (D.alloc (.cells #[.int .i64 E.a, .int .i64 E.n, .int .i64 E.pe, .slice pa E.p.length px, .int .i64 E.pr, .slice qa E.c.length qx, .int .i64 E.bw] EI)) := (Below.refl _ _).alloc (Nat.le_refl _) _
          refine hK.out _ _ (hSD.next N1) (fun hHeld => ?_)
          clear hK K hHeld
          try simp only [Act.put, List.setIfInBounds_toArray, List.set_cons_zero, List.set_cons_succ]
          refine wpAnyH_ready (rs := [1]) (by kernel_rfl) (by simp) ?_
          refine (AllReadyH.cons rfl (fun K hK => ?_) AllReadyH.nil)
          have q := ((bO1.keep OD).keep N1).c 0 rfl
          go_simp
          refine hK.out _ _ (hSD.next N1) (fun hHeld => ?_)
          clear hK K hHeld q
          try simp only [Act.put, List.setIfInBounds_toArray, List.set_cons_zero, List.set_cons_succ]
          refine wpAnyH_ready (rs := [8]) (by kernel_rfl) (by simp) ?_
          refine (AllReadyH.cons rfl (fun K hK => ?_) AllReadyH.nil)
          refine step_appE rfl (.tmp 23) (.tmp 29) rfl W1.heap.size D.heap.size 1 v2 T.length (flatT T) [.int .i64 E.a, .int .i64 E.n, .int .i64 E.pe, .slice pa E.p.length px, .int .i64 E.pr, .slice qa E.c.length qx, .int .i64 E.bw] rfl rfl (rowK (rowK hT OD) N1) bN rfl (by simp [Value.oneCell']) HL.out (Nat.le_trans hWD N1.size) ?_
          intro v3 w3 hrow hg hor
          have hB3 : Below w.heap.size w w3 := below_growT (below_step (below_step hB OD) N1) (rowK (rowK hT OD) N1) hwW hg
          have bO3 := ((bO1.keep OD).keep N1).grown hg (neRow (rowK (rowK hT OD) N1) hOW)
          have bR3 := ((bR1.keep OD).keep N1).grown hg (neRow (rowK (rowK hT OD) N1) hRW)
          have bA3 := ((bA1.keep OD).keep N1).grown hg (neRow (rowK (rowK hT OD) N1) hAW)
          have hs3 := Nat.le_trans hWD (Nat.le_trans N1.size hg.size)
          clear hg hor
          refine hK.out _ _ ⟨bA3, hB3⟩ (fun hHeld => ?_)
          clear hK K hHeld
          obtain ⟨x3, y3, rfl⟩ := row_slice hrow
          try simp only [Act.put, List.setIfInBounds_toArray, List.set_cons_zero, List.set_cons_succ]
          refine wpAnyH_ready (rs := [9]) (by kernel_rfl) (by simp) ?_
          refine (AllReadyH.cons rfl (fun K hK => ?_) AllReadyH.nil)
          go_simp
          refine hK.out _ _ ⟨bA3, hB3⟩ (fun hHeld => ?_)
          clear hK K hHeld
          try simp only [Act.put, List.setIfInBounds_toArray, List.set_cons_zero, List.set_cons_succ]
          refine wpAnyH_ready (rs := [10]) (by kernel_rfl) (by simp) ?_
          refine (AllReadyH.cons rfl (fun K hK => ?_) AllReadyH.nil)
          have o0 := bO3.c 0 rfl
          have of0 := bO3.f 0 rfl
          go_simp
          refine hK.out _ _ ⟨bA3.far hAO, hB3.setCell (p := ⟨O, 0, none⟩) hwO _⟩ (fun hHeld => ?_)
          clear hK K hHeld o0 of0
          try simp only [Act.put, List.setIfInBounds_toArray, List.set_cons_zero, List.set_cons_succ]
          refine wpAnyH_done (by kernel_rfl) ?_ _
          go_wp2
          go_roundw
          case rel =>
            refine ⟨k + 1, by omega, by go_num, .slice x3 (T.length + 1) y3, T ++ [⟨E, .slice pa E.p.length px, .slice qa E.c.length qx⟩], ?_, ?_, HTE.out _ rfl, bO3.set 0 _, bR3.far hRO, bA3.far hAO, hB3.setCell (p := ⟨O, 0, none⟩) hwO _, by simpa using hs3⟩
            · rw [List.length_append, flatT_append, show flatT [(⟨E, .slice pa E.p.length px, .slice qa E.c.length qx⟩ : ET)] = cellsT ⟨E, .slice pa E.p.length px, .slice qa E.c.length qx⟩ by simp [flatT]]
              exact rowFar hrow hOW
            · intro t ht
              rcases List.mem_append.1 ht with q | q
              · exact hTR t q
              · rw [List.mem_singleton.1 q]; exact ⟨hp, hq⟩
          case measure => simp [intOf]; omega
    · have hkn : k = n := by omega
      subst hkn
      clear hc
      obtain ⟨x2, y2, rfl⟩ := row_slice hT
      have o0 := bO1.c 0 rfl
      have q0 := bR1.c 0 rfl
      have qf0 := bR1.f 0 rfl
      go_wp2
      have bE := bR1.set 0 (.slice x2 T.length y2)
      have e0 := bE.c 0 rfl
      have hBe := hB.setCell (p := ⟨R, 0, none⟩) hwR (.slice x2 T.length y2)
      exact bodyPost_ret (v := .agg #[.slice x2 T.length y2]) (by simp [results, Tryz.results110, go_sem, e0]) rfl
        ⟨_, T, rfl, rowMono (rowFar hT hRW) B0.size, hTR, by rw [hTE, HN.out, List.take_length], hBe⟩
set_option maxHeartbeats 2000000 in
theorem sl8lost_any (ov rv sv : Value) (N : Nd) (i : Int) (w : World) (h : RdN w ov rv sv N) (hn2 : N.rib.length ≤ 1048576) (hn3 : N.sent.length ≤ 1048576) :
    Calls Tryz.prog 47 #[.agg #[.int .i64 N.an, ov, .int .i64 N.bw, .bool N.dr, rv, sv], .int .i64 i] w fun e w' => ∃ o r s, e = .returned (.agg #[.int .i64 N.an, o, .int .i64 N.bw, .bool N.dr, r, s]) ∧ RdN w' o r s { N with rib := (N.rib.filter fun E => !(E.pe == i)), sent := (N.sent.filter fun E => !(E.pe == i)) } ∧ Below w.heap.size w w' := by
  obtain ⟨oa, oc, hov⟩ := h.1.len
  obtain ⟨ra, rc, hrv⟩ := h.2.1.len
  obtain ⟨sa, sc, hsv⟩ := h.2.2.len
  subst hov hrv hsv
  obtain ⟨bA, bR, B1, z⟩ := two w [.int .i64 N.an, .slice oa N.own.length oc, .int .i64 N.bw, .bool N.dr, .slice ra N.rib.length rc, .slice sa N.sent.length sc] [.int .i64 0, .slice none 0 0, .int .i64 0, .bool false, .slice none 0 0, .slice none 0 0] 34 34
  have a4 := bA.c 4 rfl
  go_enter Tryz.func47, Tryz.ntmps47
  go_wp2_with fail
  refine (sdp_w _ N.rib i w _ h.2.1 B1 hn2).mono ?_
  rintro e w1 ⟨u1, T1, rfl, hT1, hTR1, hE1, hb⟩
  have hs1 := hb.size
  rw [z] at hs1 hT1
  obtain ⟨x4, y4, rfl⟩ := row_slice hT1
  have HE1 := Lib.hid hE1
  have HR1 := Lib.hid hTR1
  replace bA := bA.keep hb
  replace bR := bR.keep hb
  replace B1 := below_step B1 hb
  obtain ⟨A, hA⟩ : ∃ A, A = w.heap.size := ⟨_, rfl⟩
  obtain ⟨R, hR⟩ : ∃ R, R = w.heap.size + 1 := ⟨_, rfl⟩
  rw [← hR] at bR
  rw [← hA] at bA
  try rw [← hR]
  try rw [← hA]
  have hwR : w.heap.size ≤ R := by omega
  have hwA : w.heap.size ≤ A := by omega
  have hAR : A ≠ R := by omega
  obtain ⟨X, hX⟩ : ∃ X, X = w.heap.size + 2 := ⟨_, rfl⟩
  rw [← hX] at hT1 hs1
  have hAX : A < X := by omega
  have hRX : R < X := by omega
  clear hR hA hb a4 z hX hE1 hTR1
  have a4 := bA.c 4 rfl
  have af4 := bA.f 4 rfl
  have a5 := bA.c 5 rfl
  go_wp2_with fail
  clear a4 af4 a5
  have bA2 := bA.set 4 (.slice x4 T1.length y4)
  have bR2 := bR.far (o := 4) (u := .slice x4 T1.length y4) hAR.symm
  have B2 := B1.setCell (p := ⟨A, 4, none⟩) hwA (.slice x4 T1.length y4)
  have hT2 := rowFar (o := 4) (u := .slice x4 T1.length y4) hT1 hAX
  obtain ⟨W2, hW2⟩ : ∃ W, W = w1.setCell ⟨A, 4, none⟩ (.slice x4 T1.length y4) := ⟨_, rfl⟩
  have hs2 : X ≤ W2.heap.size := by rw [hW2]; simpa using hs1
  rw [← hW2] at bA2 bR2 B2 hT2 ⊢
  clear hW2 hT1 bA bR B1 hs1
  simp only [List.set_cons_zero, List.set_cons_succ] at bA2
  refine (sdp_w _ N.sent i w W2 h.2.2 B2 hn3).mono ?_
  rintro e w3 ⟨u2, T2, rfl, hT3, hTR2, hE2, hb⟩
  obtain ⟨x5, y5, rfl⟩ := row_slice hT3
  have HE2 := Lib.hid hE2
  have HR2 := Lib.hid hTR2
  replace bA2 := bA2.keep hb
  replace bR2 := bR2.keep hb
  replace hT2 := rowK hT2 hb
  replace B2 := below_step B2 hb
  clear hb hE2 hTR2
  have hAW : A < W2.heap.size := by omega
  have hRW : R < W2.heap.size := by omega
  have a5 := bA2.c 5 rfl
  have af5 := bA2.f 5 rfl
  have bA3 := bA2.set 5 (.slice x5 T2.length y5)
  have bR3 := bR2.far (o := 5) (u := .slice x5 T2.length y5) hAR.symm
  have B3 := B2.setCell (p := ⟨A, 5, none⟩) hwA (.slice x5 T2.length y5)
  have hT4 := rowFar (o := 5) (u := .slice x5 T2.length y5) hT2 hAX
  have hT5 := rowFar (o := 5) (u := .slice x5 T2.length y5) hT3 hAW
  have k0 := bA3.c 0 rfl
  have k1 := bA3.c 1 rfl
  have k2 := bA3.c 2 rfl
  have k3 := bA3.c 3 rfl
  have k4 := bA3.c 4 rfl
  have k5 := bA3.c 5 rfl
  have r0 := bR3.c 0 rfl
  have rf0 := bR3.f 0 rfl
  have r1 := bR3.c 1 rfl
  have rf1 := bR3.f 1 rfl
  have r2 := bR3.c 2 rfl
  have rf2 := bR3.f 2 rfl
  have r3 := bR3.c 3 rfl
  have rf3 := bR3.f 3 rfl
  have r4 := bR3.c 4 rfl
  have rf4 := bR3.f 4 rfl
  have r5 := bR3.c 5 rfl
  have rf5 := bR3.f 5 rfl
  go_wp2_with fail
  have bE := ((((((bR3.set 0 (.int .i64 N.an)).set 1 (.slice oa N.own.length oc)).set 2 (.int .i64 N.bw)).set 3 (.bool N.dr)).set 4 (.slice x4 T1.length y4)).set 5 (.slice x5 T2.length y5))
  have e0 := bE.c 0 rfl
  have e1 := bE.c 1 rfl
  have e2 := bE.c 2 rfl
  have e3 := bE.c 3 rfl
  have e4 := bE.c 4 rfl
  have e5 := bE.c 5 rfl
  have Be := ((((((B3.setCell (p := ⟨R, 0, none⟩) hwR (.int .i64 N.an)).setCell (p := ⟨R, 1, none⟩) hwR (.slice oa N.own.length oc)).setCell (p := ⟨R, 2, none⟩) hwR (.int .i64 N.bw)).setCell (p := ⟨R, 3, none⟩) hwR (.bool N.dr)).setCell (p := ⟨R, 4, none⟩) hwR (.slice x4 T1.length y4)).setCell (p := ⟨R, 5, none⟩) hwR (.slice x5 T2.length y5))
  have d1 := row_rd (rowFar (B := R) (o := 5) (u := .slice x5 T2.length y5) (rowFar (B := R) (o := 4) (u := .slice x4 T1.length y4) (rowFar (B := R) (o := 3) (u := .bool N.dr) (rowFar (B := R) (o := 2) (u := .int .i64 N.bw) (rowFar (B := R) (o := 1) (u := .slice oa N.own.length oc) (rowFar (B := R) (o := 0) (u := .int .i64 N.an) hT4 hRX) hRX) hRX) hRX) hRX) hRX) (fun t ht => ⟨(HR1.out t ht).1.keep Be, (HR1.out t ht).2.keep Be⟩)
  have d2 := row_rd (rowFar (B := R) (o := 5) (u := .slice x5 T2.length y5) (rowFar (B := R) (o := 4) (u := .slice x4 T1.length y4) (rowFar (B := R) (o := 3) (u := .bool N.dr) (rowFar (B := R) (o := 2) (u := .int .i64 N.bw) (rowFar (B := R) (o := 1) (u := .slice oa N.own.length oc) (rowFar (B := R) (o := 0) (u := .int .i64 N.an) hT5 hRW) hRW) hRW) hRW) hRW) hRW) (fun t ht => ⟨(HR2.out t ht).1.keep Be, (HR2.out t ht).2.keep Be⟩)
  rw [HE1.out] at d1
  rw [HE2.out] at d2
  exact bodyPost_ret (v := .agg #[.int .i64 N.an, .slice oa N.own.length oc, .int .i64 N.bw, .bool N.dr, .slice x4 T1.length y4, .slice x5 T2.length y5]) (by simp [results, Tryz.results47, go_sem, e0, e1, e2, e3, e4, e5]) rfl
    ⟨_, _, _, rfl, ⟨(h.keep Be).1, d1, d2⟩, Be⟩
set_option maxHeartbeats 2000000 in
theorem slost_any (ov rv sv : Value) (N : Nd) (i : Int) (w : World) (h : RdN w ov rv sv N) (hn : wtN N ≤ 1048576) :
    Calls Tryz.prog 11 #[.agg #[.int .i64 N.an, ov, .int .i64 N.bw, .bool N.dr, rv, sv], .int .i64 i] w (NewNdT w (lostN N i)) := by
  obtain ⟨oa, oc, hov⟩ := h.1.len
  obtain ⟨ra, rc, hrv⟩ := h.2.1.len
  obtain ⟨sa, sc, hsv⟩ := h.2.2.len
  subst hov hrv hsv
  obtain ⟨bA, bR, B1, z⟩ := two w [.int .i64 N.an, .slice oa N.own.length oc, .int .i64 N.bw, .bool N.dr, .slice ra N.rib.length rc, .slice sa N.sent.length sc] [.int .i64 0, .slice none 0 0, .int .i64 0, .bool false, .slice none 0 0, .slice none 0 0] 34 34
  obtain ⟨A, hA⟩ : ∃ A, A = w.heap.size := ⟨_, rfl⟩
  obtain ⟨R, hR⟩ : ∃ R, R = w.heap.size + 1 := ⟨_, rfl⟩
  have hwR : w.heap.size ≤ R := by omega
  have hwA : w.heap.size ≤ A := by omega
  have a0 := bA.c 0 rfl
  have a1 := bA.c 1 rfl
  have a2 := bA.c 2 rfl
  have a3 := bA.c 3 rfl
  have a4 := bA.c 4 rfl
  have a5 := bA.c 5 rfl
  have HND := Lib.hid hn
  have hl2 : N.rib.length + wtE N.rib ≤ 1048576 := by unfold wtN at hn; omega
  have hl3 : N.sent.length + wtE N.sent ≤ 1048576 := by unfold wtN at hn; omega
  clear hn
  cases hb : ndB N
  · have e : lostN N i = nd0 := by simp [lostN, hb]
    rw [e]
    have HB := Lib.hid hb
    clear hb e
    go_enter Tryz.func11, Tryz.ntmps11
    go_wp2_with fail
    clear a0 a1 a2 a3 a4 a5
    refine (sndok_t _ (h.keep B1) HB).mono ?_
    rintro e w1 ⟨rfl, hb1⟩
    have hs1 := hb1.size
    replace bR := bR.keep hb1
    replace B1 := below_step B1 hb1
    rw [← hR] at bR
    try rw [← hR]
    have hRb : R < w1.heap.size := by omega
    clear hR hb1
    have r0 := bR.c 0 rfl
    have rf0 := bR.f 0 rfl
    have r1 := bR.c 1 rfl
    have rf1 := bR.f 1 rfl
    have r2 := bR.c 2 rfl
    have rf2 := bR.f 2 rfl
    have r3 := bR.c 3 rfl
    have rf3 := bR.f 3 rfl
    have r4 := bR.c 4 rfl
    have rf4 := bR.f 4 rfl
    have r5 := bR.c 5 rfl
    have rf5 := bR.f 5 rfl
    go_wp2_with fail
    have bE := ((((((bR.set 0 (.int .i64 0)).set 1 (.slice none 0 0)).set 2 (.int .i64 0)).set 3 (.bool false)).set 4 (.slice none 0 0)).set 5 (.slice none 0 0))
    have e0 := bE.c 0 rfl
    have e1 := bE.c 1 rfl
    have e2 := bE.c 2 rfl
    have e3 := bE.c 3 rfl
    have e4 := bE.c 4 rfl
    have e5 := bE.c 5 rfl
    exact bodyPost_ret (v := .agg #[.int .i64 0, .slice none 0 0, .int .i64 0, .bool false, .slice none 0 0, .slice none 0 0]) (by simp [results, Tryz.results11, go_sem, e0, e1, e2, e3, e4, e5]) rfl
      ⟨_, _, _, [], [], _, _, _, rfl, ndT_nil _, rfl, rfl, by have := ((((((B1.setCell (p := ⟨R, 0, none⟩) hwR (.int .i64 0)).setCell (p := ⟨R, 1, none⟩) hwR (.slice none 0 0)).setCell (p := ⟨R, 2, none⟩) hwR (.int .i64 0)).setCell (p := ⟨R, 3, none⟩) hwR (.bool false)).setCell (p := ⟨R, 4, none⟩) hwR (.slice none 0 0)).setCell (p := ⟨R, 5, none⟩) hwR (.slice none 0 0)).size; simpa using this, ((((((B1.setCell (p := ⟨R, 0, none⟩) hwR (.int .i64 0)).setCell (p := ⟨R, 1, none⟩) hwR (.slice none 0 0)).setCell (p := ⟨R, 2, none⟩) hwR (.int .i64 0)).setCell (p := ⟨R, 3, none⟩) hwR (.bool false)).setCell (p := ⟨R, 4, none⟩) hwR (.slice none 0 0)).setCell (p := ⟨R, 5, none⟩) hwR (.slice none 0 0))⟩
  · cases hi : inB i 0 7
    · have e : lostN N i = nd0 := by simp [lostN, hi]
      rw [e]
      have HB := Lib.hid hb
      have HI := Lib.hid hi
      clear hb e hi
      go_enter Tryz.func11, Tryz.ntmps11
      go_wp2_with fail
      clear a0 a1 a2 a3 a4 a5
      refine (sndok_t _ (h.keep B1) HB).mono ?_
      rintro e w1 ⟨rfl, hb1⟩
      go_wp2_with fail
      refine (siface_t _ HI).mono ?_
      rintro e w1' ⟨rfl, rfl⟩
      have hs1 := hb1.size
      replace bR := bR.keep hb1
      replace B1 := below_step B1 hb1
      rw [← hR] at bR
      try rw [← hR]
      have hRb : R < w1.heap.size := by omega
      clear hR hb1
      have r0 := bR.c 0 rfl
      have rf0 := bR.f 0 rfl
      have r1 := bR.c 1 rfl
      have rf1 := bR.f 1 rfl
      have r2 := bR.c 2 rfl
      have rf2 := bR.f 2 rfl
      have r3 := bR.c 3 rfl
      have rf3 := bR.f 3 rfl
      have r4 := bR.c 4 rfl
      have rf4 := bR.f 4 rfl
      have r5 := bR.c 5 rfl
      have rf5 := bR.f 5 rfl
      go_wp2_with fail
      have bE := ((((((bR.set 0 (.int .i64 0)).set 1 (.slice none 0 0)).set 2 (.int .i64 0)).set 3 (.bool false)).set 4 (.slice none 0 0)).set 5 (.slice none 0 0))
      have e0 := bE.c 0 rfl
      have e1 := bE.c 1 rfl
      have e2 := bE.c 2 rfl
      have e3 := bE.c 3 rfl
      have e4 := bE.c 4 rfl
      have e5 := bE.c 5 rfl
      exact bodyPost_ret (v := .agg #[.int .i64 0, .slice none 0 0, .int .i64 0, .bool false, .slice none 0 0, .slice none 0 0]) (by simp [results, Tryz.results11, go_sem, e0, e1, e2, e3, e4, e5]) rfl
        ⟨_, _, _, [], [], _, _, _, rfl, ndT_nil _, rfl, rfl, by have := ((((((B1.setCell (p := ⟨R, 0, none⟩) hwR (.int .i64 0)).setCell (p := ⟨R, 1, none⟩) hwR (.slice none 0 0)).setCell (p := ⟨R, 2, none⟩) hwR (.int .i64 0)).setCell (p := ⟨R, 3, none⟩) hwR (.bool false)).setCell (p := ⟨R, 4, none⟩) hwR (.slice none 0 0)).setCell (p := ⟨R, 5, none⟩) hwR (.slice none 0 0)).size; simpa using this, ((((((B1.setCell (p := ⟨R, 0, none⟩) hwR (.int .i64 0)).setCell (p := ⟨R, 1, none⟩) hwR (.slice none 0 0)).setCell (p := ⟨R, 2, none⟩) hwR (.int .i64 0)).setCell (p := ⟨R, 3, none⟩) hwR (.bool false)).setCell (p := ⟨R, 4, none⟩) hwR (.slice none 0 0)).setCell (p := ⟨R, 5, none⟩) hwR (.slice none 0 0))⟩
    · have e : lostN N i = { N with rib := N.rib.filter fun E => !(E.pe == i), sent := N.sent.filter fun E => !(E.pe == i) } := by simp [lostN, hb, hi, dropP_yes (nd_ribs hb).1, dropP_yes (nd_ribs hb).2]
      rw [e]
      have HB := Lib.hid hb
      have HI := Lib.hid hi
      clear hb e hi
      go_enter Tryz.func11, Tryz.ntmps11
      go_wp2_with fail
      clear a0 a1 a2 a3 a4 a5
      refine (sndok_t _ (h.keep B1) HB).mono ?_
      rintro e w1 ⟨rfl, hb1⟩
      have hs1 := hb1.size
      replace bA := bA.keep hb1
      replace bR := bR.keep hb1
      replace B1 := below_step B1 hb1
      rw [← hR] at bR
      rw [← hA] at bA
      try rw [← hR]
      try rw [← hA]
      have hRb1 : R < w1.heap.size := by omega
      clear hR hA hb1 hwA
      have a0 := bA.c 0 rfl
      have a1 := bA.c 1 rfl
      have a2 := bA.c 2 rfl
      have a3 := bA.c 3 rfl
      have a4 := bA.c 4 rfl
      have a5 := bA.c 5 rfl
      go_wp2_with fail
      refine (siface_t _ HI).mono ?_
      rintro e w1' ⟨rfl, rfl⟩
      go_wp2_with fail
      clear a0 a1 a2 a3 a4 a5
      refine (sl8lost_any _ _ _ N i w1 (h.keep B1) (by omega) (by omega)).mono ?_
      rintro e w2 ⟨o2, r2, s2, rfl, h2, hb2⟩
      have hs2 := hb2.size
      replace bR := bR.keep hb2
      replace B1 := below_step B1 hb2
      clear hb2 bA
      obtain ⟨D, hD⟩ : ∃ D : Nd, D = { N with rib := N.rib.filter fun E => !(E.pe == i), sent := N.sent.filter fun E => !(E.pe == i) } := ⟨_, rfl⟩
      rw [← hD] at h2
      have hwD : wtN D ≤ 1048576 := by rw [hD]; exact wt_filter _ HND.out
      have e1 : N.an = D.an := by rw [hD]
      have e2 : N.bw = D.bw := by rw [hD]
      have e3 : N.dr = D.dr := by rw [hD]
      have HD := Lib.hid hD
      obtain ⟨oa2, oc2, q1⟩ := h2.1.len
      obtain ⟨ra2, rc2, q2⟩ := h2.2.1.len
      obtain ⟨sa2, sc2, q3⟩ := h2.2.2.len
      subst q1 q2 q3
      clear hD
      go_wp2_with fail
      refine (sown8_any _ _ _ D w2 h2 hwD).mono ?_
      rintro e w3 ⟨ov3, ru3, su3, T1, T2, b0, h1, h2', rfl, hN, hE1, hE2, hb0, hb3⟩
      have hs3 := hb3.size
      have hRb : R < b0 := by omega
      have hwb : w.heap.size ≤ b0 := by omega
      replace bR := bR.keep hb3
      replace B1 := below_step B1 hb3
      obtain ⟨⟨x1, y1, q1⟩, ⟨x2, y2, q2⟩, x3, y3, q3⟩ := hN.lens
      subst q1 q2 q3
      have HE1 := Lib.hid hE1
      have HE2 := Lib.hid hE2
      clear hE1 hE2 hb3 h2
      have r0 := bR.c 0 rfl
      have rf0 := bR.f 0 rfl
      have r1 := bR.c 1 rfl
      have rf1 := bR.f 1 rfl
      have r2 := bR.c 2 rfl
      have rf2 := bR.f 2 rfl
      have r3 := bR.c 3 rfl
      have rf3 := bR.f 3 rfl
      have r4 := bR.c 4 rfl
      have rf4 := bR.f 4 rfl
      have r5 := bR.c 5 rfl
      have rf5 := bR.f 5 rfl
      go_wp2_with fail
      have bE := ((((((bR.set 0 (.int .i64 D.an)).set 1 (.slice x1 D.own.length y1)).set 2 (.int .i64 D.bw)).set 3 (.bool D.dr)).set 4 (.slice x2 T1.length y2)).set 5 (.slice x3 T2.length y3))
      have e0' := bE.c 0 rfl
      have e1' := bE.c 1 rfl
      have e2' := bE.c 2 rfl
      have e3' := bE.c 3 rfl
      have e4' := bE.c 4 rfl
      have e5' := bE.c 5 rfl
      rw [← HD.out]
      exact bodyPost_ret (v := .agg #[.int .i64 D.an, .slice x1 D.own.length y1, .int .i64 D.bw, .bool D.dr, .slice x2 T1.length y2, .slice x3 T2.length y3]) (by simp [results, Tryz.results11, go_sem, e0', e1', e2', e3', e4', e5']) rfl
        ⟨_, _, _, T1, T2, b0, h1, h2', rfl, by simpa using ((((((hN.far (C := R) (o := 0) (u := .int .i64 D.an) hRb).far (C := R) (o := 1) (u := .slice x1 D.own.length y1) hRb).far (C := R) (o := 2) (u := .int .i64 D.bw) hRb).far (C := R) (o := 3) (u := .bool D.dr) hRb).far (C := R) (o := 4) (u := .slice x2 T1.length y2) hRb).far (C := R) (o := 5) (u := .slice x3 T2.length y3) hRb), HE1.out, HE2.out, hwb, ((((((B1.setCell (p := ⟨R, 0, none⟩) hwR (.int .i64 D.an)).setCell (p := ⟨R, 1, none⟩) hwR (.slice x1 D.own.length y1)).setCell (p := ⟨R, 2, none⟩) hwR (.int .i64 D.bw)).setCell (p := ⟨R, 3, none⟩) hwR (.bool D.dr)).setCell (p := ⟨R, 4, none⟩) hwR (.slice x2 T1.length y2)).setCell (p := ⟨R, 5, none⟩) hwR (.slice x3 T2.length y3))⟩
end Go.Proofs.YtaiffofmhfflkaaGreat
