/-
  The law 'FnExactNodeLost' returns true for every input, and its arguments read afterwards as before: the given statement 'Rows.FnExactNodeLostSaid'. No condition.
-/
import Derived.Test.YtaiffofmhfflkaaGreatO1
import Derived.Test.YtaiffofmhfflkaaGreatZL
namespace Go.Proofs.YtaiffofmhfflkaaGreat.fnExactNodeLost
open Go.ChangeShapes Go.WideShapes Go.ChangeAt Go.RowKit Go.Proofs.YtaiffofmhfflkaaGreat
set_option linter.unusedVariables false
set_option maxRecDepth 100000
set_option linter.unusedSimpArgs false
set_option maxHeartbeats 8000000 in
theorem walk (W : World) (v0 v1 : Value) (w0 : Is_Node W v0) (w1 : Is_int W v1) :
    Calls Tryz.prog 3 #[v0, v1] W fun e w' => e = .returned (.bool true) ∧ Below W.heap.size W w' := by
  obtain ⟨N, ov, rv, sv, rfl, hR⟩ := w0
  obtain ⟨oa, oc, hov⟩ := hR.1.len
  obtain ⟨ra, rc, hrv⟩ := hR.2.1.len
  obtain ⟨sa, sc, hsv⟩ := hR.2.2.len
  obtain ⟨on, hon⟩ : ∃ on, on = N.own.length := ⟨_, rfl⟩
  obtain ⟨rn, hrn⟩ : ∃ rn, rn = N.rib.length := ⟨_, rfl⟩
  obtain ⟨sn, hsn⟩ : ∃ sn, sn = N.sent.length := ⟨_, rfl⟩
  rw [← hon] at hov
  rw [← hrn] at hrv
  rw [← hsn] at hsv
  subst hov hrv hsv
  clear hon hrn hsn
  obtain ⟨i, rfl, -, -⟩ := w1
  obtain ⟨bA, B0, z⟩ := one W [.int .i64 N.an, .slice oa on oc, .int .i64 N.bw, .bool N.dr, .slice ra rn rc, .slice sa sn sc] 27
  replace hR := hR.keep B0
  clear z
  go_enter Tryz.func3, Tryz.ntmps3
  go_wp2_with fail
  refine (szNd_any _ _ _ N _ hR).mono ?_
  rintro e z1 ⟨r, rfl, hsz, hb⟩
  replace bA := bA.keep hb
  replace hR := hR.keep hb
  replace B0 := below_step B0 hb
  clear hb
  have HSZ := Lib.hid hsz
  clear hsz
  by_cases hneg : r < 0
  · go_wp2_with fail
    go_ret
    exact ⟨rfl, B0⟩
  · have hlen := HSZ.out hneg
    have a0 := bA.c 0 rfl
    have a1 := bA.c 1 rfl
    have a2 := bA.c 2 rfl
    have a3 := bA.c 3 rfl
    have a4 := bA.c 4 rfl
    have a5 := bA.c 5 rfl
    go_wp2_with fail
    clear a0 a1 a2 a3 a4 a5
    have hdN := hR.bd
    refine (toNd_any _ _ _ N _ hR hlen).mono ?_
    rintro e z2 hD
    obtain ⟨o2, r2, s2, rfl, h2, hb⟩ := newNd_open hD hdN hlen
    replace bA := bA.keep hb
    replace hR := hR.keep hb
    replace B0 := below_step B0 hb
    clear hb hD
    go_wp2_with fail
    refine (slost_any _ _ _ N i _ h2 hlen).mono ?_
    rintro e z3 ⟨ow, rw', sw, TW1, TW2, bw0, bw1, bw2, rfl, hNW, hW1, hW2, hbw, hb⟩
    replace bA := bA.keep hb
    replace hR := hR.keep hb
    replace B0 := below_step B0 hb
    clear hb h2
    obtain ⟨D, hD⟩ : ∃ D, D = lostN N i := ⟨_, rfl⟩
    rw [← hD] at hNW hW1 hW2
    have hdD : BdN D := by rw [hD]; exact lost_bd i hdN
    have hwD : wtN D ≤ 1048576 := by rw [hD]; exact lost_wt i hlen
    have HDD := Lib.hid hD
    have HHD := Lib.hid hdD
    rw [← hD]
    have qw := hNW.rd hW1 hW2 hdD
    obtain ⟨⟨w1, w2, q1⟩, ⟨w3, w4, q2⟩, w5, w6, q3⟩ := hNW.lens
    subst q1 q2 q3
    clear hD hdD hNW hW1 hW2 hbw
    obtain ⟨bW, N1, z1⟩ := one z3 [.int .i64 D.an, .slice w1 D.own.length w2, .int .i64 D.bw, .bool D.dr, .slice w3 TW1.length w4, .slice w5 TW2.length w6] 34
    have a0 := (bA.keep N1).c 0 rfl
    have a1 := (bA.keep N1).c 1 rfl
    have a2 := (bA.keep N1).c 2 rfl
    have a3 := (bA.keep N1).c 3 rfl
    have a4 := (bA.keep N1).c 4 rfl
    have a5 := (bA.keep N1).c 5 rfl
    go_wp2_with fail
    clear a0 a1 a2 a3 a4 a5
    obtain ⟨WB, hWB⟩ : ∃ WB, WB = z3.heap.size := ⟨_, rfl⟩
    obtain ⟨V, hV⟩ : ∃ V, V = z3.alloc (.cells #[.int .i64 D.an, .slice w1 D.own.length w2, .int .i64 D.bw, .bool D.dr, .slice w3 TW1.length w4, .slice w5 TW2.length w6] 34) := ⟨_, rfl⟩
    rw [← hV] at bW N1 ⊢
    rw [← hWB] at bW
    try rw [← hWB]
    replace qw := qw.keep N1
    replace bA := bA.keep N1
    replace hR := hR.keep N1
    replace B0 := below_step B0 N1
    clear hV hWB N1 z1
    refine (toNd_any _ _ _ N _ hR hlen).mono ?_
    rintro e z4 hD
    have hD4 := hD
    obtain ⟨ox, rx, sx, k1, k2, e4, hO4, hOk, hE4, hM4, hS4, hMS4, hb0, hb1, hb2, hb⟩ := hD
    have OV : Over V z4 := hb
    have l2 : N.rib.length ≤ 1048576 := by unfold wtN at hlen; omega
    have l3 : N.sent.length ≤ 1048576 := by unfold wtN at hlen; omega
    have r4 : RdN z4 ox rx sx N := ⟨hO4.rd, hE4.rd hdN.1 l2, hS4.rd hdN.2 l3⟩
    subst e4
    obtain ⟨x1, y1, hv1⟩ := r4.1.len
    obtain ⟨x2, y2, hv2⟩ := r4.2.1.len
    obtain ⟨x3, y3, hv3⟩ := r4.2.2.len
    subst hv1 hv2 hv3
    clear hb hD4 hE4 hS4 l2 l3
    obtain ⟨bX, N2, z2'⟩ := one z4 [.int .i64 N.an, .slice x1 N.own.length y1, .int .i64 N.bw, .bool N.dr, .slice x2 N.rib.length y2, .slice x3 N.sent.length y3] 34
    have x0 := bX.c 0 rfl
    have x1 := bX.c 1 rfl
    have x2 := bX.c 2 rfl
    have x3 := bX.c 3 rfl
    have x4 := bX.c 4 rfl
    have x5 := bX.c 5 rfl
    go_wp2_with fail
    clear x0 x1 x2 x3 x4 x5
    obtain ⟨X, eX⟩ : ∃ X, X = z4.heap.size := ⟨_, rfl⟩
    obtain ⟨W5, eW⟩ : ∃ W5, W5 = z4.alloc (.cells #[.int .i64 N.an, .slice x1 N.own.length y1, .int .i64 N.bw, .bool N.dr, .slice x2 N.rib.length y2, .slice x3 N.sent.length y3] 34) := ⟨_, rfl⟩
    rw [← eW] at bX N2 ⊢
    rw [← eX] at bX
    try rw [← eX]
    have h45 : z4.heap.size ≤ W5.heap.size := N2.size
    have hVk : V.heap.size ≤ z4.heap.size := OV.size
    replace OV := over_step OV N2
    replace r4 := r4.keep N2
    replace hO4 := hO4.keep N2
    replace hM4 := hM4.keep N2
    replace hMS4 := hMS4.keep N2
    have hXz : z4.heap.size ≤ X := by omega
    clear eX eW N2 z2'
    refine (ilost_any _ _ _ N i _ r4 hlen).mono ?_
    rintro e z5 ⟨og, rg, sg, T1, T2, b0, b1, b2, rfl, hN, hE1, hE2, hgb, hb⟩
    rw [← HDD.out] at hN hE1 hE2
    obtain ⟨⟨g1, g2, q1⟩, ⟨g3, g4, q2⟩, g5, g6, q3⟩ := hN.lens
    subst q1 q2 q3
    have HE1 := Lib.hid hE1
    have HE2 := Lib.hid hE2
    clear hE1 hE2
    replace bX := bX.keep hb
    replace r4 := r4.keep hb
    replace hO4 := hO4.keep hb
    replace hM4 := hM4.keep hb
    replace hMS4 := hMS4.keep hb
    replace OV := over_step OV hb
    have h55 := hb.size
    clear hb
    obtain ⟨bG, N3, z3'⟩ := one z5 [.int .i64 D.an, .slice g1 D.own.length g2, .int .i64 D.bw, .bool D.dr, .slice g3 T1.length g4, .slice g5 T2.length g6] 34
    rw [← HDD.out]
    have x0 := bG.c 0 rfl
    have x1 := bG.c 1 rfl
    have x2 := bG.c 2 rfl
    have x3 := bG.c 3 rfl
    have x4 := bG.c 4 rfl
    have x5 := bG.c 5 rfl
    have s0 := (bW.keep (over_step OV N3)).c 0 rfl
    have s1 := (bW.keep (over_step OV N3)).c 1 rfl
    have s2 := (bW.keep (over_step OV N3)).c 2 rfl
    have s3 := (bW.keep (over_step OV N3)).c 3 rfl
    have s4 := (bW.keep (over_step OV N3)).c 4 rfl
    have s5 := (bW.keep (over_step OV N3)).c 5 rfl
    go_wp2_with fail
    clear x0 x1 x2 x3 x4 x5
    clear s0 s1 s2 s3 s4 s5
    obtain ⟨G, hG⟩ : ∃ G, G = z5.heap.size := ⟨_, rfl⟩
    obtain ⟨W6, hW6⟩ : ∃ W6, W6 = z5.alloc (.cells #[.int .i64 D.an, .slice g1 D.own.length g2, .int .i64 D.bw, .bool D.dr, .slice g3 T1.length g4, .slice g5 T2.length g6] 34) := ⟨_, rfl⟩
    rw [← hW6] at bG N3 ⊢
    rw [← hG] at bG hN h55
    try rw [← hG]
    replace hN := hN.keep N3
    replace bX := bX.keep N3
    replace r4 := r4.keep N3
    replace hO4 := hO4.keep N3
    replace hM4 := hM4.keep N3
    replace hMS4 := hMS4.keep N3
    replace OV := over_step OV N3
    have hGs : z4.heap.size ≤ G := Nat.le_trans h45 h55
    have hG6 : G ≤ W6.heap.size := by have := N3.size; omega
    clear hW6 hG N3 z3'
    have rg : ∀ w' : World, NdT w' b0 b1 b2 G (.slice g1 D.own.length g2) (.slice g3 T1.length g4) (.slice g5 T2.length g6) D.own T1 T2 → RdN w' (.slice g1 D.own.length g2) (.slice g3 T1.length g4) (.slice g5 T2.length g6) D := fun w' h => h.rd HE1.out HE2.out HHD.out
    have RG := Lib.hid rg
    clear rg
    refine (eqNd_same _ _ _ _ _ _ D _ (RG.out _ hN) (qw.keep OV)).mono ?_
    rintro e z7 ⟨rfl, hb⟩
    replace bX := bX.keep hb
    replace bG := bG.keep hb
    replace r4 := r4.keep hb
    replace hO4 := hO4.keep hb
    replace hM4 := hM4.keep hb
    replace hMS4 := hMS4.keep hb
    replace hN := hN.keep hb
    replace OV := over_step OV hb
    have hG7 : G ≤ z7.heap.size := Nat.le_trans hG6 hb.size
    clear hb hG6
    have bA6 := bA.keep OV
    have hR6 := hR.keep OV
    go_wp2_with fail
    go_region_held3 (fun w' => Over z7 w' ∧ w'.cell? ⟨W.heap.size, 0, none⟩ = some (.int .i64 N.an) ∧ w'.cell? ⟨W.heap.size, 1, none⟩ = some (.slice oa on oc) ∧ w'.cell? ⟨W.heap.size, 2, none⟩ = some (.int .i64 N.bw) ∧ w'.cell? ⟨W.heap.size, 3, none⟩ = some (.bool N.dr) ∧ w'.cell? ⟨W.heap.size, 4, none⟩ = some (.slice ra rn rc) ∧ w'.cell? ⟨W.heap.size, 5, none⟩ = some (.slice sa sn sc) ∧ w'.cell? ⟨X, 0, none⟩ = some (.int .i64 N.an) ∧ w'.cell? ⟨X, 1, none⟩ = some (.slice x1 N.own.length y1) ∧ w'.cell? ⟨X, 2, none⟩ = some (.int .i64 N.bw) ∧ w'.cell? ⟨X, 3, none⟩ = some (.bool N.dr) ∧ w'.cell? ⟨X, 4, none⟩ = some (.slice x2 N.rib.length y2) ∧ w'.cell? ⟨X, 5, none⟩ = some (.slice x3 N.sent.length y3))
      ((first | exact ⟨over_drew _, bA6.c 0 rfl, bA6.c 1 rfl, bA6.c 2 rfl, bA6.c 3 rfl, bA6.c 4 rfl, bA6.c 5 rfl, bX.c 0 rfl, bX.c 1 rfl, bX.c 2 rfl, bX.c 3 rfl, bX.c 4 rfl, bX.c 5 rfl⟩ | exact (fun o => ⟨o, bA6.o o 0 rfl, bA6.o o 1 rfl, bA6.o o 2 rfl, bA6.o o 3 rfl, bA6.o o 4 rfl, bA6.o o 5 rfl, bX.o o 0 rfl, bX.o o 1 rfl, bX.o o 2 rfl, bX.o o 3 rfl, bX.o o 4 rfl, bX.o o 5 rfl⟩) (over_step (‹Over z7 _ ∧ _›).1 (by assumption))))
      ((first | (go_at_call 12; refine (toNd_p (hR6.keep (‹Over z7 _ ∧ _›).1) hdN hlen).mono ?_; rintro e wa ⟨oz, rz, sz, rfl, hxa, hba⟩) | (go_at_call 14; refine (eqNd_same _ _ _ _ _ _ N _ (r4.keep (‹Over z7 _ ∧ _›).1) hxa).mono ?_; rintro e wb ⟨rfl, hbb⟩)))
    rename_i hH
    replace hH := hH.1
    clear hbb hba hxa bA6 hR6
    replace bX := bX.keep hH
    replace bG := bG.keep hH
    replace hN := hN.keep hH
    replace hO4 := hO4.keep hH
    replace hM4 := hM4.keep hH
    replace hMS4 := hMS4.keep hH
    replace OV := over_step OV hH
    have hG8 := Nat.le_trans hG7 hH.size
    clear hH r4 hG7
    have x0 := bX.c 0 rfl
    have x1 := bX.c 1 rfl
    have x2 := bX.c 2 rfl
    have x3 := bX.c 3 rfl
    have x4 := bX.c 4 rfl
    have x5 := bX.c 5 rfl
    go_wp2_with fail
    clear x0 x1 x2 x3 x4 x5
    refine (markNd_any _ _ _ N V.heap.size k1 k2 z4.heap.size _ hO4 hOk hM4 hMS4 hlen hb0 hb1 hb2 (by omega)).mono ?_
    rintro e z8 ⟨k8, rfl, hk8, hs⟩
    have hG9 := Nat.le_trans hG8 hs.size
    replace OV : Over V z8 := Below.trans OV (hs.below (Nat.le_refl _) OV.size)
    replace hN := hN.mid hs (by omega)
    replace bG := hs.bl bG (.inr hGs)
    clear hs bX hO4 hOk hM4 hMS4 hG8
    have hk8n : ¬ k8 < 0 := by omega
    have x0 := bG.c 0 rfl
    have x1 := bG.c 1 rfl
    have x2 := bG.c 2 rfl
    have x3 := bG.c 3 rfl
    have x4 := bG.c 4 rfl
    have x5 := bG.c 5 rfl
    have s0 := (bW.keep OV).c 0 rfl
    have s1 := (bW.keep OV).c 1 rfl
    have s2 := (bW.keep OV).c 2 rfl
    have s3 := (bW.keep OV).c 3 rfl
    have s4 := (bW.keep OV).c 4 rfl
    have s5 := (bW.keep OV).c 5 rfl
    go_wp2_with fail
    clear x0 x1 x2 x3 x4 x5
    clear s0 s1 s2 s3 s4 s5
    refine (eqNd_same _ _ _ _ _ _ D _ (RG.out _ hN) (qw.keep OV)).mono ?_
    rintro e z9 ⟨rfl, hb⟩
    replace bG := bG.keep hb
    replace hN := hN.keep hb
    replace OV := over_step OV hb
    have hG10 := Nat.le_trans hG9 hb.size
    clear hb hG9
    obtain ⟨U1, hU1⟩ : ∃ U, U = (entT T1).map wE := ⟨_, rfl⟩
    obtain ⟨U2, hU2⟩ : ∃ U, U = (entT T2).map wE := ⟨_, rfl⟩
    have hs1 : U1.sum ≤ 8000000 := by rw [hU1, HE1.out]; exact wN_rib hwD
    have hs2 : U2.sum ≤ 8000000 := by rw [hU2, HE2.out]; exact wN_sent hwD
    have hno : D.own.length ≤ 1048576 := by unfold wtN at hwD; omega
    have HU1 := Lib.hid hU1.symm
    have HU2 := Lib.hid hU2.symm
    clear hU1 hU2
    have x0 := bG.c 0 rfl
    have x1 := bG.c 1 rfl
    have x2 := bG.c 2 rfl
    have x3 := bG.c 3 rfl
    have x4 := bG.c 4 rfl
    have x5 := bG.c 5 rfl
    go_wp2_with fail
    clear x0 x1 x2 x3 x4 x5
    refine (mkNd_is _ _ _ D.own D.an D.bw D.dr T1 T2 U1 U2 b0 b1 b2 G _ hN hno HU1.out hs1 HU2.out hs2 hG10).mono ?_
    rintro e z10 ⟨rfl, hMk, hMid⟩
    have hVb0 : V.heap.size ≤ b0 := by omega
    replace OV : Over V z10 := Below.trans OV (hMid.below hVb0 OV.size)
    replace bG := hMid.bl bG (.inr (Nat.le_refl _))
    clear hMid hN hk8 hk8n
    obtain ⟨M, hM⟩ : ∃ M : Int, M = 1 + (D.own.length : Int) * 2 + (U1.sum : Nat) + (U2.sum : Nat) := ⟨_, rfl⟩
    have hMn : ¬ M < 0 := by omega
    have hMM : (M != M) = false := by simp
    rw [← hM]
    have HM := Lib.hid hM
    clear hM
    have x0 := bG.c 0 rfl
    have x1 := bG.c 1 rfl
    have x2 := bG.c 2 rfl
    have x3 := bG.c 3 rfl
    have x4 := bG.c 4 rfl
    have x5 := bG.c 5 rfl
    go_wp2_with fail
    clear x0 x1 x2 x3 x4 x5
    refine (hdNd_is _ _ _ D.own.length D.an D.bw D.dr U1 U2 _ hMk hno hs1 hs2).mono ?_
    rintro e z11 ⟨rfl, hb⟩
    rw [← HM.out]
    replace bG := bG.keep hb
    replace hMk := hMk.keep hb
    replace OV := over_step OV hb
    clear hb
    have a0 := (bA.keep OV).c 0 rfl
    have a1 := (bA.keep OV).c 1 rfl
    have a2 := (bA.keep OV).c 2 rfl
    have a3 := (bA.keep OV).c 3 rfl
    have a4 := (bA.keep OV).c 4 rfl
    have a5 := (bA.keep OV).c 5 rfl
    go_wp2_with fail
    clear a0 a1 a2 a3 a4 a5
    refine (toNd_p (hR.keep OV) hdN hlen).mono ?_
    rintro e z12 ⟨o12, r12, s12, rfl, h12, hb⟩
    replace bG := bG.keep hb
    replace hMk := hMk.keep hb
    replace OV := over_step OV hb
    clear hb
    go_wp2_with fail
    refine (ilost_any _ _ _ N i _ h12 hlen).mono ?_
    rintro e z13 ⟨oh, rh, sh, TH1, TH2, c0, c1, c2, rfl, hNH, hH1, hH2, hhb, hb⟩
    rw [← HDD.out] at hNH hH1 hH2
    have qh := hNH.rd hH1 hH2 HHD.out
    obtain ⟨⟨t1, t2, q1⟩, ⟨t3, t4, q2⟩, t5, t6, q3⟩ := hNH.lens
    subst q1 q2 q3
    replace bG := bG.keep hb
    replace hMk := hMk.keep hb
    replace OV := over_step OV hb
    clear hb h12 hNH hH1 hH2 hhb
    rw [← HDD.out]
    obtain ⟨bH, N4, z4'⟩ := one z13 [.int .i64 D.an, .slice t1 D.own.length t2, .int .i64 D.bw, .bool D.dr, .slice t3 TH1.length t4, .slice t5 TH2.length t6] 34
    have x0 := bH.c 0 rfl
    have x1 := bH.c 1 rfl
    have x2 := bH.c 2 rfl
    have x3 := bH.c 3 rfl
    have x4 := bH.c 4 rfl
    have x5 := bH.c 5 rfl
    have s0 := (bW.keep (over_step OV N4)).c 0 rfl
    have s1 := (bW.keep (over_step OV N4)).c 1 rfl
    have s2 := (bW.keep (over_step OV N4)).c 2 rfl
    have s3 := (bW.keep (over_step OV N4)).c 3 rfl
    have s4 := (bW.keep (over_step OV N4)).c 4 rfl
    have s5 := (bW.keep (over_step OV N4)).c 5 rfl
    go_wp2_with fail
    clear x0 x1 x2 x3 x4 x5
    clear s0 s1 s2 s3 s4 s5
    clear z4'
    replace bG := bG.keep N4
    replace hMk := hMk.keep N4
    replace qh := qh.keep N4
    replace OV := over_step OV N4
    clear N4
    refine (eqNd_same _ _ _ _ _ _ D _ qh (qw.keep OV)).mono ?_
    rintro e z14 ⟨rfl, hb⟩
    replace bG := bG.keep hb
    replace hMk := hMk.keep hb
    replace OV := over_step OV hb
    clear hb qh bH
    have x0 := bG.c 0 rfl
    have x1 := bG.c 1 rfl
    have x2 := bG.c 2 rfl
    have x3 := bG.c 3 rfl
    have x4 := bG.c 4 rfl
    have x5 := bG.c 5 rfl
    go_wp2_with fail
    clear x0 x1 x2 x3 x4 x5
    refine (hdNd_is _ _ _ D.own.length D.an D.bw D.dr U1 U2 _ hMk hno hs1 hs2).mono ?_
    rintro e z15 ⟨rfl, hb⟩
    rw [← HM.out]
    replace OV := over_step OV hb
    clear hb
    go_wp2
    go_ret
    exact ⟨rfl, below_step B0 OV⟩

set_option maxRecDepth 100000 in
theorem lifted (os : Os) (started : os.Started) (H : Type) (enc : TypeId × Value → H) :
    ReturnsInHanded {} Tryz.checked os 3 .any (Rows.fnExactNodeLostSpec.pre6 enc Tryz.prog Tryz.f3 Rows.fnExactNodeLostRow.domain false) (Rows.fnExactNodeLostSpec.post enc Tryz.prog Tryz.f3 false true false false) := by
  refine returnsInHanded_of_change (C := Tryz.checked) own started (by kernel_rfl) Tryz.func3
    (ChangeSpec.witness6 (enc := enc) (C := Tryz.checked) false ⟨#[], #[.agg #[.int .i64 0, .slice none 0 0, .int .i64 0, .bool false, .slice none 0 0, .slice none 0 0], .int .i64 0], []⟩ 8 (by kernel_rfl) (by kernel_rfl) (by kernel_rfl) (by kernel_rfl)) ?_
  intro W base args ds gs before hval0 hW hcnd _
  have hval : ∀ (j : Nat) t v, Tryz.f3.params[j]? = some t → args[j]? = some v → Value.okWide Tryz.prog W .any base t v := hval0
  have hW' := hW
  obtain ⟨p, q, hA0, hV, rfl, hfz, hnd⟩ := hW
  have hA : DataW.TrodAll enc Tryz.prog W 0 (fun _ => true) true Tryz.f3.params.toList args.toList ds p := hA0
  rw [Tryz.params3] at hA hval
  obtain ⟨v0, vs0, d0, ds0, p0, q0, hargs, rfl, rfl, h0, r0⟩ := trodAll_cons hA
  obtain ⟨v1, vs1, d1, ds1, p1, q1, rfl, rfl, rfl, h1, r1⟩ := trodAll_cons r0
  obtain ⟨rfl, rfl, rfl⟩ := trodAll_nil r1
  obtain rfl : args = #[v0, v1] := by cases args; simp_all
  obtain ⟨rfl, rfl⟩ := trodVars_none hV
  have lt0 : ∀ x ∈ p0, x.block < W.heap.size := by obtain ⟨m, hm⟩ := h0; exact DataW.trod_lt m _ _ _ hm
  have w0 := is_Node (hval 0 27 v0 rfl rfl) h0
  have lt1 : ∀ x ∈ p1, x.block < W.heap.size := by obtain ⟨m, hm⟩ := h1; exact DataW.trod_lt m _ _ _ hm
  have w1 := is_int (hval 1 3 v1 rfl rfl) h1
  clear hA0 hval0 hval
  refine (walk W v0 v1 w0 w1).mono fun e W' ⟨he, bel⟩ => ?_
  subst he
  exact ⟨_, rfl, _, _, _, [], _, [], hW', trodAll_mk1 (shut_bool Tryz.underlying4 _), (trodAll_cons_mk (Below.trod laidOut (by kernel_rfl) (of_decide_eq_true (by kernel_rfl)) h0 bel lt0) (trodAll_cons_mk (Below.trod laidOut (by kernel_rfl) (of_decide_eq_true (by kernel_rfl)) h1 bel lt1) trodAll_mk0)), rfl, bel.frame _, fun h => by cases h⟩

theorem over : Rows.fnExactNodeLostRow.holds Tryz.pinned (OpenSpec.ofChange Rows.fnExactNodeLostSpec) :=
  OpenClaim.holds_of_wide 3 Tryz.f3 rfl rfl rfl rfl rfl rfl rfl ⟨rfl, rfl, rfl, rfl, rfl⟩ rfl rfl rfl rfl rfl (by kernel_rfl) Tryz.func3 (by kernel_rfl)
    (of_decide_eq_true (by kernel_rfl)) (by unfold Func.isWrapper; first | (rw [if_pos (by decide +kernel)]; kernel_rfl) | (rw [if_neg (by decide +kernel)]; exact ⟨rfl, rfl⟩))
    (fun os started H enc _ => lifted os started H enc)

theorem proved : Rows.FnExactNodeLostSaid := over
end Go.Proofs.YtaiffofmhfflkaaGreat.fnExactNodeLost
