/-
  The law 'FnExactProgram' returns true for every input, and its arguments read afterwards as before: the given statement 'Rows.FnExactProgramSaid'. No condition.
-/
import Derived.Test.YtbcmoofpgffbhaaO1
import Derived.Test.YtbcmoofpgffbhaaTJ
namespace Go.Proofs.Ytbcmoofpgffbhaa.fnExactProgram
open Go.ChangeShapes Go.WideShapes Go.ChangeAt Go.RowKit Go.Proofs.Ytbcmoofpgffbhaa
set_option linter.unusedVariables false
set_option maxRecDepth 100000
set_option linter.unusedSimpArgs false
set_option maxHeartbeats 16000000 in
theorem walk (W : World) (v0 v1 v2 : Value) (w0 : Is_Fib W v0) (w1 : Is_GroupS W v1) (w2 : Is_PrefixS W v2) :
    Calls Try.prog 8 #[v0, v1, v2] W fun e w' => e = .returned (.bool true) ∧ Below W.heap.size W w' := by
  obtain ⟨uA, L, rfl, hL⟩ := w0
  obtain ⟨M, hM⟩ := w1
  obtain ⟨P, hP⟩ := w2
  obtain ⟨la, lc, rfl⟩ := hL.len
  obtain ⟨ma, mc, rfl⟩ := hM.len
  obtain ⟨pa, pc, rfl⟩ := hP.len
  obtain ⟨bA, B0, z⟩ := one W [.slice la L.length lc] 76
  replace hL := hL.keep B0
  replace hM := hM.keep B0
  replace hP := hP.keep B0
  clear z
  have a0 := bA.c 0 rfl
  obtain ⟨AA, hAA⟩ : ∃ A, A = W.heap.size := ⟨_, rfl⟩
  go_enter Try.func8, Try.ntmps8
  go_wp2_with fail
  clear a0
  rw [← hAA] at bA
  try rw [← hAA]
  clear hAA
  refine (szFb_any _ L 1048576 _ hL (by omega) (by omega)).mono ?_
  rintro e w1 ⟨r, rfl, hs, hb⟩
  replace bA := bA.keep hb
  replace hL := hL.keep hb
  replace hM := hM.keep hb
  replace hP := hP.keep hb
  replace B0 := below_step B0 hb
  clear hb
  have H1 := Lib.hid hs
  clear hs
  by_cases hneg : r < 0
  · go_wp2_with fail
    go_ret
    exact ⟨rfl, B0⟩
  · have h1 := H1.out hneg
    have hr0 : 0 ≤ r ∧ r ≤ 1048576 := by omega
    have HH1 := Lib.hid h1
    clear h1
    go_wp2_with fail
    refine (szGS_any _ M r _ hM hr0.1 hr0.2).mono ?_
    rintro e w2 ⟨r2, rfl, hs, -, hb⟩
    replace bA := bA.keep hb
    replace hL := hL.keep hb
    replace hM := hM.keep hb
    replace hP := hP.keep hb
    replace B0 := below_step B0 hb
    clear hb
    have H2 := Lib.hid hs
    clear hs
    by_cases hneg2 : r2 < 0
    · go_wp2_with fail
      go_ret
      exact ⟨rfl, B0⟩
    · have h2 := H2.out hneg2
      have hr2 : 0 ≤ r2 ∧ r2 ≤ 1048576 := by omega
      have HH2 := Lib.hid h2
      clear h2
      go_wp2_with fail
      refine (szPQ_any _ P r2 _ hP hr2.1 hr2.2).mono ?_
      rintro e w3 ⟨r3, rfl, hs, rfl⟩
      have H3 := Lib.hid hs
      clear hs
      by_cases hneg3 : r3 < 0
      · go_wp2_with fail
        go_ret
        exact ⟨rfl, B0⟩
      · have h3 := H3.out hneg3
        have h1 := HH1.out
        have h2 := HH2.out
        have HLL : Hid (L.length + wtG L ≤ 1048576) := Lib.hid (by omega)
        have HMM : Hid (M.length + wtG M ≤ 1048576) := Lib.hid (by omega)
        have HPP : Hid (P.length ≤ 1048576) := Lib.hid (by omega)
        clear h1 h2 h3 HH1 HH2 H1 H2 H3
        have a0 := bA.c 0 rfl
        go_wp2_with fail
        clear a0
        refine (toFb_o _ L _ (rdY_of hL) HLL.out).mono ?_
        rintro e w4 ⟨x0, rfl, hX, hb⟩
        obtain ⟨xa, xc, rfl⟩ := hX.rd.len
        have rX := rdG_of hX.rd
        clear hX
        replace bA := bA.keep hb
        replace hL := hL.keep hb
        replace hM := hM.keep hb
        replace hP := hP.keep hb
        replace B0 := below_step B0 hb
        clear hb
        go_wp2_with fail
        refine (toYS_o _ M _ (rdY_of hM) HMM.out).mono ?_
        rintro e w5 ⟨y0, rfl, hY, hb⟩
        obtain ⟨ya, yc, rfl⟩ := hY.rd.len
        have rY := rdG_of hY.rd
        clear hY
        replace rX := rX.keep hb
        replace bA := bA.keep hb
        replace hL := hL.keep hb
        replace hM := hM.keep hb
        replace hP := hP.keep hb
        replace B0 := below_step B0 hb
        clear hb
        go_wp2_with fail
        refine (toPQ_o _ P _ hP HPP.out).mono ?_
        rintro e w6 ⟨z0, rfl, hZ, hb⟩
        obtain ⟨za, zc, rfl⟩ := hZ.1.rd.len
        have rZ := hZ.1.rd
        clear hZ
        replace rX := rX.keep hb
        replace rY := rY.keep hb
        replace bA := bA.keep hb
        replace hL := hL.keep hb
        replace hM := hM.keep hb
        replace hP := hP.keep hb
        replace B0 := below_step B0 hb
        clear hb
        go_wp2_with fail
        refine (spro_any _ _ _ L M P _ rX rY rZ HLL.out HMM.out HPP.out).mono ?_
        rintro e w7 ⟨sv, rfl, rS, hb⟩
        clear rX rY rZ
        replace bA := bA.keep hb
        replace hL := hL.keep hb
        replace hM := hM.keep hb
        replace hP := hP.keep hb
        replace B0 := below_step B0 hb
        clear hb
        obtain ⟨R, hR⟩ : ∃ R, R = progL L M P := ⟨_, rfl⟩
        rw [← hR] at rS
        have HR := Lib.hid hR
        have HCN : Hid (cntYS R ≤ 12000000 ∧ cntYS L ≤ 12000000 ∧ cntYS M ≤ 12000000 ∧ cntP P ≤ 12000000) := Lib.hid ⟨by rw [hR]; exact prog_cnt L M P, by have := cntY_le L; have := HLL.out; omega, by have := cntY_le M; have := HMM.out; omega, by have := HPP.out; unfold cntP; omega⟩
        clear hR
        obtain ⟨sa, sc, rfl⟩ := rS.len
        obtain ⟨bS, N0, z⟩ := one w7 [.slice sa R.length sc] 57
        have a0 := (bA.keep N0).c 0 rfl
        go_wp2_with fail
        clear a0
        obtain ⟨V, hV⟩ : ∃ W5, W5 = w7.alloc (.cells #[.slice sa R.length sc] 57) := ⟨_, rfl⟩
        rw [← hV] at bS N0 z ⊢
        obtain ⟨SB, hSB⟩ : ∃ X, X = w7.heap.size := ⟨_, rfl⟩
        rw [← hSB] at bS
        try rw [← hSB]
        replace rS := rS.keep N0
        replace bA := bA.keep N0
        replace hL := hL.keep N0
        replace hM := hM.keep N0
        replace hP := hP.keep N0
        replace B0 := below_step B0 N0
        clear N0 z hV hSB
        have OV : Over V V := Below.refl _ _
        refine (toFb_o _ L _ (rdY_of hL) HLL.out).mono ?_
        rintro e w8 ⟨x0, rfl, hX, hb⟩
        obtain ⟨xa, xc, rfl⟩ := hX.rd.len
        have hs8 := hb.size
        replace OV := over_step OV hb
        clear hb
        obtain ⟨bX, N1, z1⟩ := one w8 [.slice xa L.length xc] 57
        go_wp2_with fail
        obtain ⟨XB, hXB⟩ : ∃ X, X = w8.heap.size := ⟨_, rfl⟩
        obtain ⟨W5, hW5⟩ : ∃ W5, W5 = w8.alloc (.cells #[.slice xa L.length xc] 57) := ⟨_, rfl⟩
        rw [← hW5] at bX N1 z1 ⊢
        rw [← hXB] at bX z1
        try rw [← hXB]
        have hX5 := N1.size
        replace hX := hX.agr (.of_below N1)
        replace OV := over_step OV N1
        rw [← hXB] at hX hX5 hs8
        have hXW : XB < W5.heap.size := by omega
        clear N1 hW5 hXB z1 hX5
        refine (toYS_o _ M _ (rdY_of (hM.keep OV)) HMM.out).mono ?_
        rintro e w9 ⟨y0, rfl, hY, hb⟩
        obtain ⟨ya, yc, rfl⟩ := hY.rd.len
        have hs9 := hb.size
        replace bX := bX.keep hb
        replace hX := hX.agr (.of_below hb)
        replace OV := over_step OV hb
        clear hb
        go_wp2_with fail
        refine (toPQ_o _ P _ (hP.keep OV) HPP.out).mono ?_
        rintro e w10 ⟨z0, rfl, hZ, hb⟩
        obtain ⟨za, zc, rfl⟩ := hZ.1.rd.len
        have hs10 := hb.size
        replace bX := bX.keep hb
        replace hX := hX.agr (.of_below hb)
        replace hY := hY.agr (.of_below hb)
        replace OV := over_step OV hb
        clear hb
        have c0 := bX.c 0 rfl
        go_wp2_with fail
        clear c0
        refine (ipro_any _ _ _ L M P _ (rdG_of hX.rd) (rdG_of hY.rd) hZ.1.rd HLL.out HMM.out HPP.out).mono ?_
        rintro e w11 ⟨tv, rfl, hT, hb⟩
        rw [← HR.out] at hT
        obtain ⟨ta, tc, rfl⟩ := hT.rd.len
        have hs11 := hb.size
        replace bX := bX.keep hb
        replace hX := hX.agr (.of_below hb)
        replace hY := hY.agr (.of_below hb)
        replace hZ := hZ.agr (.of_below hb)
        replace OV := over_step OV hb
        clear hb
        obtain ⟨bT, N2, z2⟩ := one w11 [.slice ta R.length tc] 57
        have c0 := bT.c 0 rfl
        have s0 := (bS.keep (over_step OV N2)).c 0 rfl
        go_wp2_with fail
        clear c0 s0
        obtain ⟨TB, hTB⟩ : ∃ X, X = w11.heap.size := ⟨_, rfl⟩
        obtain ⟨W7, hW7⟩ : ∃ W7, W7 = w11.alloc (.cells #[.slice ta R.length tc] 57) := ⟨_, rfl⟩
        rw [← hW7] at bT N2 z2 ⊢
        rw [← hTB] at bT z2
        try rw [← hTB]
        replace hX := hX.agr (.of_below N2)
        replace hY := hY.agr (.of_below N2)
        replace hZ := hZ.agr (.of_below N2)
        replace hT := hT.agr (.of_below N2)
        replace bX := bX.keep N2
        replace OV := over_step OV N2
        rw [← hTB] at hT hs11
        have hTW : TB < W7.heap.size := by omega
        clear hTB z2 N2 hW7
        obtain ⟨lo, hlo⟩ : ∃ n, n = V.heap.size := ⟨_, rfl⟩
        obtain ⟨m1, hm1⟩ : ∃ n, n = W5.heap.size := ⟨_, rfl⟩
        obtain ⟨m2, hm2⟩ : ∃ n, n = w9.heap.size := ⟨_, rfl⟩
        obtain ⟨m3, hm3⟩ : ∃ n, n = w10.heap.size := ⟨_, rfl⟩
        rw [← hlo] at hX
        rw [← hm1, ← hm2] at hY
        rw [← hm2, ← hm3] at hZ
        rw [← hm3] at hT
        have HLO := Lib.hid (And.intro hlo (show lo ≤ XB ∧ XB < m1 ∧ m1 ≤ m2 ∧ m2 ≤ m3 ∧ m3 ≤ TB by omega))
        clear hlo hm1 hm2 hm3 hs8 hs9 hs10 hs11 hXW hTW
        refine (eqFb_same _ _ R _ (rdG_of hT.rd) (rS.keep OV)).mono ?_
        rintro e w12 ⟨rfl, hb⟩
        replace bX := bX.keep hb
        replace bT := bT.keep hb
        replace hX := hX.agr (.of_below hb)
        replace hY := hY.agr (.of_below hb)
        replace hZ := hZ.agr (.of_below hb)
        replace hT := hT.agr (.of_below hb)
        replace OV := over_step OV hb
        clear hb
        obtain ⟨w13, rfl⟩ : ∃ V : World, V = w12 := ⟨_, rfl⟩
        have bZ := bA.keep OV
        have hU := hL.keep OV
        go_wp2_with fail
        refine wp_region_held_drew (S := fun w' => Over w13 w') (by kernel_rfl) (over_drew w13) (fun hHeld => ?_)
        obtain ⟨u0, e0'⟩ : ∃ u, u = w13.drew := ⟨_, rfl⟩
        have O : Over w13 u0 := by rw [e0']; exact over_drew w13
        rw [← e0']
        clear e0' hHeld
        refine wpAnyH_take (i := 0) (v := ?_) rfl (by kernel_rfl) (by kernel_rfl) (by kernel_rfl) (fun _ _ _ h => h) (Or.inl ⟨by rfl, ?_⟩) O ?_
        rotate_left
        · intro wq hSq
          (try dsimp only at hSq)
          have q0 := bX.o hSq 0 rfl
          go_simp
          try rfl
        change wpAnyH _ _ _ _ _ _ _ (Act.put _ (some 53) _) _
        simp only [Act.put, List.setIfInBounds_toArray, List.set_cons_succ, List.set_cons_zero]
        refine wpAnyH_take (i := 1) (v := ?_) rfl (by kernel_rfl) (by kernel_rfl) (by kernel_rfl) (fun _ _ _ h => h) (Or.inl ⟨by rfl, ?_⟩) O ?_
        rotate_left
        · intro wq hSq
          (try dsimp only at hSq)
          have q0 := bZ.o hSq 0 rfl
          go_simp
          try rfl
        change wpAnyH _ _ _ _ _ _ _ (Act.put _ (some 54) _) _
        simp only [Act.put, List.setIfInBounds_toArray, List.set_cons_succ, List.set_cons_zero]
        refine wpAnyH_ready (rs := [2]) (by kernel_rfl) (by simp) ?_
        refine (AllReadyH.cons rfl (fun K hK => ?_) AllReadyH.nil)
        go_simp
        refine (toFb_o _ L _ (rdY_of (hU.keep O)) HLL.out).mono ?_
        rintro e u1 ⟨p1, rfl, o1, hb⟩
        have O := over_step O hb
        have p1r := rdG_of o1.rd
        clear o1
        clear hb
        refine hK.out _ _ O (fun _ => ?_)
        clear hK K
        try simp only [Act.put, List.setIfInBounds_toArray, List.set_cons_zero, List.set_cons_succ]
        refine wpAnyH_ready (rs := [3]) (by kernel_rfl) (by simp) ?_
        refine (AllReadyH.cons rfl (fun K hK => ?_) AllReadyH.nil)
        go_simp
        refine (eqFb_same _ _ L _ (rdG_of (hX.rd.keep O)) p1r).mono ?_
        rintro e u2 ⟨rfl, hb⟩
        replace p1r := p1r.keep hb
        have O := over_step O hb
        clear hb
        refine hK.out _ _ O (fun _ => ?_)
        clear hK K
        try simp only [Act.put, List.setIfInBounds_toArray, List.set_cons_zero, List.set_cons_succ]
        refine wpAnyH_take (i := 4) (v := ?_) rfl (by kernel_rfl) (by kernel_rfl) (by kernel_rfl) (fun _ _ _ h => h) (Or.inl ⟨by rfl, ?_⟩) O ?_
        rotate_left
        · intro wq hSq
          (try dsimp only at hSq)

          go_simp
          try rfl
        change wpAnyH _ _ _ _ _ _ _ (Act.put _ (some 57) _) _
        simp only [Act.put, List.setIfInBounds_toArray, List.set_cons_succ, List.set_cons_zero]
        refine wpAnyH_done (by kernel_rfl) ?_ _
        obtain ⟨w14, rfl⟩ : ∃ V : World, V = u2 := ⟨_, rfl⟩
        have hb := O
        clear O p1r bZ hU
        replace bX := bX.keep hb
        replace bT := bT.keep hb
        replace hX := hX.agr (.of_below hb)
        replace hY := hY.agr (.of_below hb)
        replace hZ := hZ.agr (.of_below hb)
        replace hT := hT.agr (.of_below hb)
        replace OV := over_step OV hb
        clear hb
        go_wp2_with fail
        refine (toYS_o _ M _ (rdY_of (hM.keep OV)) HMM.out).mono ?_
        rintro e w15 ⟨p1, rfl, o1, hb⟩
        replace bX := bX.keep hb
        replace bT := bT.keep hb
        replace hX := hX.agr (.of_below hb)
        replace hY := hY.agr (.of_below hb)
        replace hZ := hZ.agr (.of_below hb)
        replace hT := hT.agr (.of_below hb)
        replace OV := over_step OV hb
        clear hb
        go_wp2_with fail
        refine (eqGS_same _ _ M _ (rdG_of hY.rd) (rdG_of o1.rd)).mono ?_
        rintro e w16 ⟨rfl, hb⟩
        clear o1
        replace bX := bX.keep hb
        replace bT := bT.keep hb
        replace hX := hX.agr (.of_below hb)
        replace hY := hY.agr (.of_below hb)
        replace hZ := hZ.agr (.of_below hb)
        replace hT := hT.agr (.of_below hb)
        replace OV := over_step OV hb
        clear hb
        go_wp2_with fail
        refine (toPQ_o _ P _ (hP.keep OV) HPP.out).mono ?_
        rintro e w17 ⟨p2, rfl, o1, hb⟩
        replace bX := bX.keep hb
        replace bT := bT.keep hb
        replace hX := hX.agr (.of_below hb)
        replace hY := hY.agr (.of_below hb)
        replace hZ := hZ.agr (.of_below hb)
        replace hT := hT.agr (.of_below hb)
        replace OV := over_step OV hb
        clear hb
        go_wp2_with fail
        refine (eqPS_same _ _ P _ hZ.1.rd o1.1.rd).mono ?_
        rintro e w18 ⟨rfl, hb⟩
        clear o1
        replace bX := bX.keep hb
        replace bT := bT.keep hb
        replace hX := hX.agr (.of_below hb)
        replace hY := hY.agr (.of_below hb)
        replace hZ := hZ.agr (.of_below hb)
        replace hT := hT.agr (.of_below hb)
        replace OV := over_step OV hb
        clear hb
        have x0 := bX.c 0 rfl
        go_wp2_with fail
        clear x0
        refine (mkFb_o _ L 1 (Rg lo XB) _ hX (by omega) (by have := HCN.out; omega)).mono ?_
        rintro e w19 ⟨L', rfl, -, -, -, -, hs⟩
        have hVw := OV.size
        replace OV : Over V w19 := Below.trans OV (hs.below hVw (fun b q => by have := q.1; have := HLO.out; omega))
        replace hY := hY.agr (hs.agr (fun b q r => by have := q.1; have := r.2; have := HLO.out; omega))
        replace hZ := hZ.agr (hs.agr (fun b q r => by have := q.1; have := r.2; have := HLO.out; omega))
        replace hT := hT.agr (hs.agr (fun b q r => by have := q.1; have := r.2; have := HLO.out; omega))
        replace bT := hs.bl bT (fun q => by have := q.2; have := HLO.out; omega)
        clear hs hX hVw bX
        obtain ⟨K1, hK1⟩ : ∃ K : Int, K = 1 + (cntYS L : Nat) := ⟨_, rfl⟩
        rw [← hK1]
        have hk1 : 0 ≤ K1 ∧ K1 + (cntYS M : Nat) ≤ 25000000 := by have := HCN.out; omega
        clear hK1
        go_wp2_with fail
        refine (mkYS_any _ M K1 (Rg m1 m2) _ hY hk1.1 (by omega)).mono ?_
        rintro e w20 ⟨M', rfl, -, -, -, -, hs⟩
        have hVw := OV.size
        replace OV : Over V w20 := Below.trans OV (hs.below hVw (fun b q => by have := q.1; have := HLO.out; omega))
        replace hZ := hZ.agr (hs.agr (fun b q r => by have := q.1; have := r.2; have := HLO.out; omega))
        replace hT := hT.agr (hs.agr (fun b q r => by have := q.1; have := r.2; have := HLO.out; omega))
        replace bT := hs.bl bT (fun q => by have := q.2; have := HLO.out; omega)
        clear hs hY hVw
        obtain ⟨K2, hK2⟩ : ∃ K : Int, K = K1 + (cntYS M : Nat) := ⟨_, rfl⟩
        rw [← hK2]
        have hk2 : 0 ≤ K2 ∧ K2 + (cntP P : Nat) ≤ 40000000 := by have := HCN.out; omega
        clear hK2 hk1
        go_wp2_with fail
        refine (mkPr_any _ P K2 (Rg m2 m3) _ hZ hk2.1 hk2.2).mono ?_
        rintro e w21 ⟨P', rfl, -, -, -, -, hs⟩
        have hVw := OV.size
        replace OV : Over V w21 := Below.trans OV (hs.below hVw (fun b q => by have := q.1; have := HLO.out; omega))
        replace hT := hT.agr (hs.agr (fun b q r => by have := q.1; have := r.2; have := HLO.out; omega))
        replace bT := hs.bl bT (fun q => by have := q.2; have := HLO.out; omega)
        clear hs hZ hVw
        obtain ⟨K3, hK3⟩ : ∃ K : Int, K = K2 + (cntP P : Nat) := ⟨_, rfl⟩
        rw [← hK3]
        have hk3 : ¬ K3 < 0 := by omega
        clear hK3 hk2
        have t0 := bT.c 0 rfl
        have s0 := (bS.keep OV).c 0 rfl
        go_wp2_with fail
        clear t0 s0
        refine (eqFb_same _ _ R _ (rdG_of hT.rd) (rS.keep OV)).mono ?_
        rintro e w22 ⟨rfl, hb⟩
        replace bT := bT.keep hb
        replace hT := hT.agr (.of_below hb)
        replace OV := over_step OV hb
        clear hb
        have t0 := bT.c 0 rfl
        go_wp2_with fail
        clear t0
        refine (mkFb_o _ R 1 (Rg m3 TB) _ hT (by omega) (by have := HCN.out; omega)).mono ?_
        rintro e w23 ⟨R', rfl, hcR, hlR, hmR, hT', hs⟩
        have hVw := OV.size
        replace OV : Over V w23 := Below.trans OV (hs.below hVw (fun b q => by have := q.1; have := HLO.out; omega))
        replace bT := hs.bl bT (fun q => by have := q.2; omega)
        have rT := hT'.rd
        obtain ⟨M1, hM1⟩ : ∃ M1 : Int, M1 = 1 + (cntYS R : Nat) := ⟨_, rfl⟩
        have hM1n : ¬ M1 < 0 := by omega
        have hM1q : (M1 != M1) = false := by simp
        rw [← hM1]
        have hq1 : ∀ w : World, RdYS w (.slice ta R.length tc) R' → Calls Try.prog 31 #[.agg #[.slice ta R.length tc], .int .i64 1] w fun e w' => e = .returned (.int .i64 M1) ∧ Below w.heap.size w w' := fun w h => by
          have q := hdFb_o _ R' 1 w h hmR (by omega) (by rw [hcR]; have := HCN.out; omega)
          rw [hcR, ← hM1] at q
          exact q
        have HQ1 := Lib.hid hq1
        clear hs hT hT' hVw hk3 hM1 hq1 hcR hmR hlR
        have t0 := bT.c 0 rfl
        go_wp2_with fail
        clear t0
        refine (HQ1.out _ rT).mono ?_
        rintro e w24 ⟨rfl, hb⟩
        replace bT := bT.keep hb
        replace rT := rT.keep hb
        replace OV := over_step OV hb
        clear hb
        have a0 := (bA.keep OV).c 0 rfl
        go_wp2_with fail
        clear a0
        refine (toFb_o _ L _ (rdY_of (hL.keep OV)) HLL.out).mono ?_
        rintro e w25 ⟨x1, rfl, hX, hb⟩
        obtain ⟨xa1, xc1, rfl⟩ := hX.rd.len
        have rX := rdG_of hX.rd
        clear hX
        replace bT := bT.keep hb
        replace rT := rT.keep hb
        replace OV := over_step OV hb
        clear hb
        go_wp2_with fail
        refine (toYS_o _ M _ (rdY_of (hM.keep OV)) HMM.out).mono ?_
        rintro e w26 ⟨y1, rfl, hY, hb⟩
        obtain ⟨ya1, yc1, rfl⟩ := hY.rd.len
        have rY := rdG_of hY.rd
        clear hY
        replace bT := bT.keep hb
        replace rT := rT.keep hb
        replace rX := rX.keep hb
        replace OV := over_step OV hb
        clear hb
        go_wp2_with fail
        refine (toPQ_o _ P _ (hP.keep OV) HPP.out).mono ?_
        rintro e w27 ⟨z1, rfl, hZ, hb⟩
        obtain ⟨za1, zc1, rfl⟩ := hZ.1.rd.len
        have rZ := hZ.1.rd
        clear hZ
        replace bT := bT.keep hb
        replace rT := rT.keep hb
        replace rX := rX.keep hb
        replace rY := rY.keep hb
        replace OV := over_step OV hb
        clear hb
        go_wp2_with fail
        refine (ipro_any _ _ _ L M P _ rX rY rZ HLL.out HMM.out HPP.out).mono ?_
        rintro e w28 ⟨tv2, rfl, hT2, hb⟩
        rw [← HR.out] at hT2
        obtain ⟨ta2, tc2, rfl⟩ := hT2.rd.len
        have rT2 := rdG_of hT2.rd
        clear hT2 rX rY rZ
        replace bT := bT.keep hb
        replace rT := rT.keep hb
        replace OV := over_step OV hb
        clear hb
        obtain ⟨bT2, N2, z2⟩ := one w28 [.slice ta2 R.length tc2] 57
        have c0 := bT2.c 0 rfl
        have s0 := (bS.keep (over_step OV N2)).c 0 rfl
        go_wp2_with fail
        clear c0 s0 z2
        replace bT := bT.keep N2
        replace rT := rT.keep N2
        replace rT2 := rT2.keep N2
        replace OV := over_step OV N2
        clear N2 bT2
        refine (eqFb_same _ _ R _ rT2 (rS.keep OV)).mono ?_
        rintro e w29 ⟨rfl, hb⟩
        clear rT2
        replace bT := bT.keep hb
        replace rT := rT.keep hb
        replace OV := over_step OV hb
        clear hb
        have t0 := bT.c 0 rfl
        go_wp2_with fail
        clear t0
        refine (HQ1.out _ rT).mono ?_
        rintro e w30 ⟨rfl, hb⟩
        replace OV := over_step OV hb
        clear hb
        go_wp2
        go_ret
        exact ⟨rfl, below_step B0 OV⟩

set_option maxRecDepth 100000 in
theorem lifted (os : Os) (started : os.Started) (H : Type) (enc : TypeId × Value → H) :
    ReturnsInHanded {} Try.checked os 8 .any (Rows.fnExactProgramSpec.pre6 enc Try.prog Try.f8 Rows.fnExactProgramRow.domain false) (Rows.fnExactProgramSpec.post enc Try.prog Try.f8 false true false false) := by
  refine returnsInHanded_of_change (C := Try.checked) own started (by kernel_rfl) Try.func8
    (ChangeSpec.witness6 (enc := enc) (C := Try.checked) false ⟨#[], #[.agg #[.slice none 0 0], .slice none 0 0, .slice none 0 0], []⟩ 8 (by kernel_rfl) (by kernel_rfl) (by kernel_rfl) (by kernel_rfl)) ?_
  intro W base args ds gs before hval0 hW hcnd _
  have hval : ∀ (j : Nat) t v, Try.f8.params[j]? = some t → args[j]? = some v → Value.okWide Try.prog W .any base t v := hval0
  have hW' := hW
  obtain ⟨p, q, hA0, hV, rfl, hfz, hnd⟩ := hW
  have hA : DataW.TrodAll enc Try.prog W 0 (fun _ => true) true Try.f8.params.toList args.toList ds p := hA0
  rw [Try.params8] at hA hval
  obtain ⟨v0, vs0, d0, ds0, p0, q0, hargs, rfl, rfl, h0, r0⟩ := trodAll_cons hA
  obtain ⟨v1, vs1, d1, ds1, p1, q1, rfl, rfl, rfl, h1, r1⟩ := trodAll_cons r0
  obtain ⟨v2, vs2, d2, ds2, p2, q2, rfl, rfl, rfl, h2, r2⟩ := trodAll_cons r1
  obtain ⟨rfl, rfl, rfl⟩ := trodAll_nil r2
  obtain rfl : args = #[v0, v1, v2] := by cases args; simp_all
  obtain ⟨rfl, rfl⟩ := trodVars_none hV
  have lt0 : ∀ x ∈ p0, x.block < W.heap.size := by obtain ⟨m, hm⟩ := h0; exact DataW.trod_lt m _ _ _ hm
  have w0 := is_Fib (hval 0 76 v0 rfl rfl) h0
  have lt1 : ∀ x ∈ p1, x.block < W.heap.size := by obtain ⟨m, hm⟩ := h1; exact DataW.trod_lt m _ _ _ hm
  have w1 := is_GroupS (hval 1 74 v1 rfl rfl) h1
  have lt2 : ∀ x ∈ p2, x.block < W.heap.size := by obtain ⟨m, hm⟩ := h2; exact DataW.trod_lt m _ _ _ hm
  have w2 := is_PrefixS (hval 2 86 v2 rfl rfl) h2
  clear hA0 hval0 hval
  refine (walk W v0 v1 v2 w0 w1 w2).mono fun e W' ⟨he, bel⟩ => ?_
  subst he
  exact ⟨_, rfl, _, _, _, [], _, [], hW', trodAll_mk1 (shut_bool Try.underlying4 _), (trodAll_cons_mk (Below.trod laidOut (by kernel_rfl) (of_decide_eq_true (by kernel_rfl)) h0 bel lt0) (trodAll_cons_mk (Below.trod laidOut (by kernel_rfl) (of_decide_eq_true (by kernel_rfl)) h1 bel lt1) (trodAll_cons_mk (Below.trod laidOut (by kernel_rfl) (of_decide_eq_true (by kernel_rfl)) h2 bel lt2) trodAll_mk0))), rfl, bel.frame _, fun h => by cases h⟩

theorem over : Rows.fnExactProgramRow.holds Try.pinned (OpenSpec.ofChange Rows.fnExactProgramSpec) :=
  OpenClaim.holds_of_wide 8 Try.f8 rfl rfl rfl rfl rfl rfl rfl ⟨rfl, rfl, rfl, rfl, rfl⟩ rfl rfl rfl rfl rfl (by kernel_rfl) Try.func8 (by kernel_rfl)
    (of_decide_eq_true (by kernel_rfl)) (by unfold Func.isWrapper; first | (rw [if_pos (by decide +kernel)]; kernel_rfl) | (rw [if_neg (by decide +kernel)]; exact ⟨rfl, rfl⟩))
    (fun os started H enc _ => lifted os started H enc)

theorem proved : Rows.FnExactProgramSaid := over
end Go.Proofs.Ytbcmoofpgffbhaa.fnExactProgram
