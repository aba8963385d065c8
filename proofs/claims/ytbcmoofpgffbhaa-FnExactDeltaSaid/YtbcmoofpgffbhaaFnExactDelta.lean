/-
  The law 'FnExactDelta' returns true for every input, and its arguments read afterwards as before: the given statement 'Rows.FnExactDeltaSaid'. No condition.
-/
import Derived.Test.YtbcmoofpgffbhaaO1
import Derived.Test.YtbcmoofpgffbhaaDF
namespace Go.Proofs.Ytbcmoofpgffbhaa.fnExactDelta
open Go.ChangeShapes Go.WideShapes Go.ChangeAt Go.RowKit Go.Proofs.Ytbcmoofpgffbhaa
set_option linter.unusedVariables false
set_option maxRecDepth 100000
set_option linter.unusedSimpArgs false
set_option maxHeartbeats 8000000 in
theorem walk (W : World) (v0 v1 : Value) (w0 : Is_Fib W v0) (w1 : Is_Fib W v1) :
    Calls Try.prog 7 #[v0, v1] W fun e w' => e = .returned (.bool true) ∧ Below W.heap.size W w' := by
  obtain ⟨uA, L, rfl, hL⟩ := w0
  obtain ⟨uB, M, rfl, hM⟩ := w1
  obtain ⟨la, lc, rfl⟩ := hL.len
  obtain ⟨ma, mc, rfl⟩ := hM.len
  obtain ⟨bA, bB, B0, z⟩ := two W [.slice la L.length lc] [.slice ma M.length mc] 76 76
  replace hL := hL.keep B0
  replace hM := hM.keep B0
  clear z
  have a0 := bA.c 0 rfl
  obtain ⟨AA, hAA⟩ : ∃ A, A = W.heap.size := ⟨_, rfl⟩
  obtain ⟨PP, hPP⟩ : ∃ A, A = W.heap.size + 1 := ⟨_, rfl⟩
  go_enter Try.func7, Try.ntmps7
  go_wp2_with fail
  clear a0
  rw [← hAA] at bA
  rw [← hPP] at bB
  rw [← hPP]
  try rw [← hAA]
  clear hAA hPP
  refine (szFb_any _ L 1048576 _ hL (by omega) (by omega)).mono ?_
  rintro e w1 ⟨r, rfl, hs, hb⟩
  replace bA := bA.keep hb
  replace bB := bB.keep hb
  replace hL := hL.keep hb
  replace hM := hM.keep hb
  replace B0 := below_step B0 hb
  clear hb
  have H1 := Lib.hid hs
  clear hs
  by_cases hneg : r < 0
  · go_wp2_with fail
    go_ret
    exact ⟨rfl, B0⟩
  · have h1 := H1.out hneg
    have hr0 : 0 ≤ r ∧ r ≤ 1048576 := by omega
    have HH1 := Lib.hid h1
    clear h1
    have b0 := bB.c 0 rfl
    go_wp2_with fail
    clear b0
    refine (szFb_any _ M r _ hM hr0.1 hr0.2).mono ?_
    rintro e w2 ⟨r2, rfl, hs, hb⟩
    replace bA := bA.keep hb
    replace bB := bB.keep hb
    replace hL := hL.keep hb
    replace hM := hM.keep hb
    replace B0 := below_step B0 hb
    clear hb
    have H2 := Lib.hid hs
    clear hs
    by_cases hneg2 : r2 < 0
    · go_wp2_with fail
      go_ret
      exact ⟨rfl, B0⟩
    · have h2 := H2.out hneg2
      have h1 := HH1.out
      have HLL : Hid (L.length + wtG L ≤ 1048576) := Lib.hid (by omega)
      have HMM : Hid (M.length + wtG M ≤ 1048576) := Lib.hid (by omega)
      clear h1 h2 HH1 H1 H2
      obtain ⟨V0, rfl⟩ : ∃ V : World, V = w2 := ⟨_, rfl⟩
      go_wp2_with fail
      refine wp_region_held_drew (S := fun w' => Over V0 w') (by kernel_rfl) (over_drew V0) (fun hHeld => ?_)
      obtain ⟨u0, e0'⟩ : ∃ u, u = V0.drew := ⟨_, rfl⟩
      have O : Over V0 u0 := by rw [e0']; exact over_drew V0
      rw [← e0']
      clear e0' hHeld
      refine wpAnyH_take (i := 0) (v := ?_) rfl (by kernel_rfl) (by kernel_rfl) (by kernel_rfl) (fun _ _ _ h => h) (Or.inl ⟨by rfl, ?_⟩) O ?_
      rotate_left
      · intro wq hSq
        (try dsimp only at hSq)
        have q0 := bA.o hSq 0 rfl
        go_simp
        try rfl
      change wpAnyH _ _ _ _ _ _ _ (Act.put _ (some 28) _) _
      simp only [Act.put, List.setIfInBounds_toArray, List.set_cons_succ, List.set_cons_zero]
      refine wpAnyH_take (i := 2) (v := ?_) rfl (by kernel_rfl) (by kernel_rfl) (by kernel_rfl) (fun _ _ _ h => h) (Or.inl ⟨by rfl, ?_⟩) O ?_
      rotate_left
      · intro wq hSq
        (try dsimp only at hSq)
        have q0 := bB.o hSq 0 rfl
        go_simp
        try rfl
      change wpAnyH _ _ _ _ _ _ _ (Act.put _ (some 30) _) _
      simp only [Act.put, List.setIfInBounds_toArray, List.set_cons_succ, List.set_cons_zero]
      refine wpAnyH_ready (rs := [1]) (by kernel_rfl) (by simp) ?_
      refine (AllReadyH.cons rfl (fun K hK => ?_) AllReadyH.nil)
      go_simp
      refine (toFb_o _ L _ (rdY_of (hL.keep O)) HLL.out).mono ?_
      rintro e u1 ⟨p1, rfl, o1, hb⟩
      have O := over_step O hb
      have p1r := rdG_of o1.rd
      clear o1
      clear hb
      refine hK.out _ _ O (fun _ => ?_)
      clear hK K
      try simp only [Act.put, List.setIfInBounds_toArray, List.set_cons_zero, List.set_cons_succ]
      refine wpAnyH_ready (rs := [3]) (by kernel_rfl) (by simp) ?_
      refine (AllReadyH.cons rfl (fun K hK => ?_) AllReadyH.nil)
      go_simp
      refine (toFb_o _ M _ (rdY_of (hM.keep O)) HMM.out).mono ?_
      rintro e u2 ⟨p2, rfl, o2, hb⟩
      replace p1r := p1r.keep hb
      have O := over_step O hb
      have p2r := rdG_of o2.rd
      clear o2
      clear hb
      refine hK.out _ _ O (fun _ => ?_)
      clear hK K
      try simp only [Act.put, List.setIfInBounds_toArray, List.set_cons_zero, List.set_cons_succ]
      refine wpAnyH_ready (rs := [4]) (by kernel_rfl) (by simp) ?_
      refine (AllReadyH.cons rfl (fun K hK => ?_) AllReadyH.nil)
      go_simp
      refine (sdel_any p1 p2 L M _ p1r p2r HLL.out HMM.out).mono ?_
      rintro e u3 ⟨yc, yg, yS, yT, rfl, yoC, yoG, -, -, -, hb⟩
      have yrC := rdG_of yoC.rd
      have yrG := yoG.rd
      clear yoC yoG p1r p2r
      obtain ⟨yc1, yc2, rfl⟩ := yrC.len
      obtain ⟨yg1, yg2, rfl⟩ := yrG.len
      have O := over_step O hb
      clear hb
      refine hK.out _ _ O (fun _ => ?_)
      clear hK K
      try simp only [Act.put, List.setIfInBounds_toArray, List.set_cons_zero, List.set_cons_succ]
      refine wpAnyH_take (i := 5) (v := ?_) rfl (by kernel_rfl) (by kernel_rfl) (by kernel_rfl) (fun _ _ _ h => h) (Or.inl ⟨by rfl, ?_⟩) O ?_
      rotate_left
      · intro wq hSq
        (try dsimp only at hSq)

        go_simp
        try rfl
      change wpAnyH _ _ _ _ _ _ _ (Act.put _ (some 27) _) _
      simp only [Act.put, List.setIfInBounds_toArray, List.set_cons_succ, List.set_cons_zero]
      refine wpAnyH_take (i := 6) (v := ?_) rfl (by kernel_rfl) (by kernel_rfl) (by kernel_rfl) (fun _ _ _ h => h) (Or.inl ⟨by rfl, ?_⟩) O ?_
      rotate_left
      · intro wq hSq
        (try dsimp only at hSq)

        go_simp
        try rfl
      change wpAnyH _ _ _ _ _ _ _ (Act.put _ (some 33) _) _
      simp only [Act.put, List.setIfInBounds_toArray, List.set_cons_succ, List.set_cons_zero]
      refine wpAnyH_take (i := 7) (v := ?_) rfl (by kernel_rfl) (by kernel_rfl) (by kernel_rfl) (fun _ _ _ h => h) (Or.inl ⟨by rfl, ?_⟩) O ?_
      rotate_left
      · intro wq hSq
        (try dsimp only at hSq)

        go_simp
        try rfl
      change wpAnyH _ _ _ _ _ _ _ (Act.put _ (some 34) _) _
      simp only [Act.put, List.setIfInBounds_toArray, List.set_cons_succ, List.set_cons_zero]
      refine wpAnyH_ready (rs := [8]) (by kernel_rfl) (by simp) ?_
      refine (AllReadyH.cons rfl (fun K hK => ?_) AllReadyH.nil)
      go_simp
      refine hK.out _ _ O (fun _ => ?_)
      clear hK K
      try simp only [Act.put, List.setIfInBounds_toArray, List.set_cons_zero, List.set_cons_succ]
      refine wpAnyH_ready (rs := [9]) (by kernel_rfl) (by simp) ?_
      refine (AllReadyH.cons rfl (fun K hK => ?_) AllReadyH.nil)
      go_simp
      refine hK.out _ _ O (fun _ => ?_)
      clear hK K
      try simp only [Act.put, List.setIfInBounds_toArray, List.set_cons_zero, List.set_cons_succ]
      refine wpAnyH_done (by kernel_rfl) ?_ _
      obtain ⟨V, rfl⟩ : ∃ V : World, V = u3 := ⟨_, rfl⟩
      replace bA := bA.keep O
      replace bB := bB.keep O
      replace hL := hL.keep O
      replace hM := hM.keep O
      replace B0 := below_step B0 O
      clear O
      obtain ⟨C, hC⟩ : ∃ C, C = dCame L M := ⟨_, rfl⟩
      obtain ⟨G, hG⟩ : ∃ G, G = dGone L M := ⟨_, rfl⟩
      rw [← hC] at yrC
      rw [← hG] at yrG
      have hcC : cntYS C ≤ 12000000 := by rw [hC]; exact came_cnt L M HMM.out
      have hcG : cntP G ≤ 12000000 := by rw [hG]; exact gone_cnt L M HLL.out
      have hcL : cntYS L ≤ 12000000 := by have := cntY_le L; have := HLL.out; omega
      have hcM : cntYS M ≤ 12000000 := by have := cntY_le M; have := HMM.out; omega
      have HCN := Lib.hid (And.intro hcC (And.intro hcG (And.intro hcL hcM)))
      rw [← hC, ← hG]
      have HC := Lib.hid hC
      have HG := Lib.hid hG
      clear hC hG hcC hcG hcL hcM
      have OV : Over V V := Below.refl _ _
      have a0 := bA.c 0 rfl
      go_wp2_with fail
      clear a0
      refine (toFb_o _ L _ (rdY_of hL) HLL.out).mono ?_
      rintro e w4 ⟨x0, rfl, hX, hb⟩
      obtain ⟨xa, xc, rfl⟩ := hX.rd.len
      have hs4 := hb.size
      replace OV := over_step OV hb
      clear hb
      obtain ⟨bX, N1, z1⟩ := one w4 [.slice xa L.length xc] 57
      have b0 := (bB.keep (over_step OV N1)).c 0 rfl
      go_wp2_with fail
      clear b0
      obtain ⟨XB, hXB⟩ : ∃ X, X = w4.heap.size := ⟨_, rfl⟩
      obtain ⟨W5, hW5⟩ : ∃ W5, W5 = w4.alloc (.cells #[.slice xa L.length xc] 57) := ⟨_, rfl⟩
      rw [← hW5] at bX N1 z1 ⊢
      rw [← hXB] at bX z1
      rw [← hXB]
      have hX5 := N1.size
      replace hX := hX.agr (.of_below N1)
      replace OV := over_step OV N1
      rw [← hXB] at hX hX5 hs4
      have hXW : XB < W5.heap.size := by omega
      clear N1 hW5 hXB z1 hX5
      refine (toFb_o _ M _ (rdY_of (hM.keep OV)) HMM.out).mono ?_
      rintro e w6 ⟨x1, rfl, hY, hb⟩
      obtain ⟨ya, yc, rfl⟩ := hY.rd.len
      have hs6 := hb.size
      replace bX := bX.keep hb
      replace hX := hX.agr (.of_below hb)
      replace OV := over_step OV hb
      clear hb
      obtain ⟨bY, N2, z2⟩ := one w6 [.slice ya M.length yc] 57
      have c0 := (bX.keep N2).c 0 rfl
      have d0 := bY.c 0 rfl
      go_wp2_with fail
      clear c0 d0
      obtain ⟨YB, hYB⟩ : ∃ X, X = w6.heap.size := ⟨_, rfl⟩
      obtain ⟨W7, hW7⟩ : ∃ W7, W7 = w6.alloc (.cells #[.slice ya M.length yc] 57) := ⟨_, rfl⟩
      rw [← hW7] at bY N2 z2 ⊢
      rw [← hYB] at bY z2
      rw [← hYB]
      replace hX := hX.agr (.of_below N2)
      replace hY := hY.agr (.of_below N2)
      replace bX := bX.keep N2
      replace OV := over_step OV N2
      rw [← hYB] at hY hs6
      have hYW : YB < W7.heap.size := by omega
      clear hYB z2 N2 hW7
      obtain ⟨lo, hlo⟩ : ∃ n, n = V.heap.size := ⟨_, rfl⟩
      obtain ⟨mi, hmi⟩ : ∃ n, n = W5.heap.size := ⟨_, rfl⟩
      obtain ⟨up, hup⟩ : ∃ n, n = W7.heap.size := ⟨_, rfl⟩
      rw [← hlo] at hX
      rw [← hmi] at hY
      have HLO := Lib.hid (And.intro hlo (show lo ≤ XB ∧ XB < mi ∧ mi ≤ YB ∧ YB < up by omega))
      have HUP := Lib.hid hup
      clear hlo hmi hup hs4 hs6 hXW hYW
      refine (idel_any _ _ L M W7 (rdG_of hX.rd) (rdG_of hY.rd) HLL.out HMM.out).mono ?_
      rintro e w8 ⟨g0, g1, S, T, rfl, oC, oG, hS, hT, hD, hb⟩
      rw [← HC.out] at oC
      rw [← HG.out] at oG
      rw [← HUP.out] at hS hT
      obtain ⟨ga, gc, rfl⟩ := oC.rd.len
      obtain ⟨ha, hc, rfl⟩ := oG.rd.len
      have HST := Lib.hid (And.intro (fun b q => (hS b q).1 : ∀ b, S b → up ≤ b) (And.intro (fun b q => (hT b q).1 : ∀ b, T b → up ≤ b) hD))
      clear hS hT hD
      replace bX := bX.keep hb
      replace bY := bY.keep hb
      replace hX := hX.agr (.of_below hb)
      replace hY := hY.agr (.of_below hb)
      replace OV := over_step OV hb
      clear hb
      go_wp2_with fail
      refine (eqGS_same _ _ C _ (rdG_of oC.rd) (yrC.keep OV)).mono ?_
      rintro e w9 ⟨rfl, hb⟩
      replace bX := bX.keep hb
      replace bY := bY.keep hb
      replace hX := hX.agr (.of_below hb)
      replace hY := hY.agr (.of_below hb)
      replace oC := oC.agr (.of_below hb)
      replace oG := oG.agr (.of_below hb)
      replace OV := over_step OV hb
      clear hb
      go_wp2_with fail
      refine (eqPS_same _ _ G _ oG.rd (yrG.keep OV)).mono ?_
      rintro e w10 ⟨rfl, hb⟩
      replace bX := bX.keep hb
      replace bY := bY.keep hb
      replace hX := hX.agr (.of_below hb)
      replace hY := hY.agr (.of_below hb)
      replace oC := oC.agr (.of_below hb)
      replace oG := oG.agr (.of_below hb)
      replace OV := over_step OV hb
      clear hb
      obtain ⟨w11, rfl⟩ : ∃ V : World, V = w10 := ⟨_, rfl⟩
      have bZ := bA.keep OV
      have hZ := hL.keep OV
      go_wp2_with fail
      refine wp_region_held_drew (S := fun w' => Over w11 w') (by kernel_rfl) (over_drew w11) (fun hHeld => ?_)
      obtain ⟨u0, e0'⟩ : ∃ u, u = w11.drew := ⟨_, rfl⟩
      have O : Over w11 u0 := by rw [e0']; exact over_drew w11
      rw [← e0']
      clear e0' hHeld
      refine wpAnyH_take (i := 0) (v := ?_) rfl (by kernel_rfl) (by kernel_rfl) (by kernel_rfl) (fun _ _ _ h => h) (Or.inl ⟨by rfl, ?_⟩) O ?_
      rotate_left
      · intro wq hSq
        (try dsimp only at hSq)
        have q0 := bX.o hSq 0 rfl
        go_simp
        try rfl
      change wpAnyH _ _ _ _ _ _ _ (Act.put _ (some 55) _) _
      simp only [Act.put, List.setIfInBounds_toArray, List.set_cons_succ, List.set_cons_zero]
      refine wpAnyH_take (i := 1) (v := ?_) rfl (by kernel_rfl) (by kernel_rfl) (by kernel_rfl) (fun _ _ _ h => h) (Or.inl ⟨by rfl, ?_⟩) O ?_
      rotate_left
      · intro wq hSq
        (try dsimp only at hSq)
        have q0 := bZ.o hSq 0 rfl
        go_simp
        try rfl
      change wpAnyH _ _ _ _ _ _ _ (Act.put _ (some 56) _) _
      simp only [Act.put, List.setIfInBounds_toArray, List.set_cons_succ, List.set_cons_zero]
      refine wpAnyH_ready (rs := [2]) (by kernel_rfl) (by simp) ?_
      refine (AllReadyH.cons rfl (fun K hK => ?_) AllReadyH.nil)
      go_simp
      refine (toFb_o _ L _ (rdY_of (hZ.keep O)) HLL.out).mono ?_
      rintro e u1 ⟨p1, rfl, o1, hb⟩
      have O := over_step O hb
      have p1r := rdG_of o1.rd
      clear o1
      clear hb
      refine hK.out _ _ O (fun _ => ?_)
      clear hK K
      try simp only [Act.put, List.setIfInBounds_toArray, List.set_cons_zero, List.set_cons_succ]
      refine wpAnyH_ready (rs := [3]) (by kernel_rfl) (by simp) ?_
      refine (AllReadyH.cons rfl (fun K hK => ?_) AllReadyH.nil)
      go_simp
      refine (eqFb_same _ _ L _ (rdG_of (hX.rd.keep (O))) p1r).mono ?_
      rintro e u2 ⟨rfl, hb⟩
      replace p1r := p1r.keep hb
      have O := over_step O hb
      clear hb
      refine hK.out _ _ O (fun _ => ?_)
      clear hK K
      try simp only [Act.put, List.setIfInBounds_toArray, List.set_cons_zero, List.set_cons_succ]
      refine wpAnyH_take (i := 4) (v := ?_) rfl (by kernel_rfl) (by kernel_rfl) (by kernel_rfl) (fun _ _ _ h => h) (Or.inl ⟨by rfl, ?_⟩) O ?_
      rotate_left
      · intro wq hSq
        (try dsimp only at hSq)

        go_simp
        try rfl
      change wpAnyH _ _ _ _ _ _ _ (Act.put _ (some 59) _) _
      simp only [Act.put, List.setIfInBounds_toArray, List.set_cons_succ, List.set_cons_zero]
      refine wpAnyH_done (by kernel_rfl) ?_ _
      obtain ⟨w11n, rfl⟩ : ∃ V : World, V = u2 := ⟨_, rfl⟩
      have hb := O
      clear O p1r bZ hZ
      replace bX := bX.keep hb
      replace bY := bY.keep hb
      replace hX := hX.agr (.of_below hb)
      replace hY := hY.agr (.of_below hb)
      replace oC := oC.agr (.of_below hb)
      replace oG := oG.agr (.of_below hb)
      replace OV := over_step OV hb
      clear hb
      obtain ⟨w12, rfl⟩ : ∃ V : World, V = w11n := ⟨_, rfl⟩
      have bZ := bB.keep OV
      have hZ := hM.keep OV
      go_wp2_with fail
      refine wp_region_held_drew (S := fun w' => Over w12 w') (by kernel_rfl) (over_drew w12) (fun hHeld => ?_)
      obtain ⟨u0, e0'⟩ : ∃ u, u = w12.drew := ⟨_, rfl⟩
      have O : Over w12 u0 := by rw [e0']; exact over_drew w12
      rw [← e0']
      clear e0' hHeld
      refine wpAnyH_take (i := 0) (v := ?_) rfl (by kernel_rfl) (by kernel_rfl) (by kernel_rfl) (fun _ _ _ h => h) (Or.inl ⟨by rfl, ?_⟩) O ?_
      rotate_left
      · intro wq hSq
        (try dsimp only at hSq)
        have q0 := bY.o hSq 0 rfl
        go_simp
        try rfl
      change wpAnyH _ _ _ _ _ _ _ (Act.put _ (some 60) _) _
      simp only [Act.put, List.setIfInBounds_toArray, List.set_cons_succ, List.set_cons_zero]
      refine wpAnyH_take (i := 1) (v := ?_) rfl (by kernel_rfl) (by kernel_rfl) (by kernel_rfl) (fun _ _ _ h => h) (Or.inl ⟨by rfl, ?_⟩) O ?_
      rotate_left
      · intro wq hSq
        (try dsimp only at hSq)
        have q0 := bZ.o hSq 0 rfl
        go_simp
        try rfl
      change wpAnyH _ _ _ _ _ _ _ (Act.put _ (some 61) _) _
      simp only [Act.put, List.setIfInBounds_toArray, List.set_cons_succ, List.set_cons_zero]
      refine wpAnyH_ready (rs := [2]) (by kernel_rfl) (by simp) ?_
      refine (AllReadyH.cons rfl (fun K hK => ?_) AllReadyH.nil)
      go_simp
      refine (toFb_o _ M _ (rdY_of (hZ.keep O)) HMM.out).mono ?_
      rintro e u1 ⟨p1, rfl, o1, hb⟩
      have O := over_step O hb
      have p1r := rdG_of o1.rd
      clear o1
      clear hb
      refine hK.out _ _ O (fun _ => ?_)
      clear hK K
      try simp only [Act.put, List.setIfInBounds_toArray, List.set_cons_zero, List.set_cons_succ]
      refine wpAnyH_ready (rs := [3]) (by kernel_rfl) (by simp) ?_
      refine (AllReadyH.cons rfl (fun K hK => ?_) AllReadyH.nil)
      go_simp
      refine (eqFb_same _ _ M _ (rdG_of (hY.rd.keep (O))) p1r).mono ?_
      rintro e u2 ⟨rfl, hb⟩
      replace p1r := p1r.keep hb
      have O := over_step O hb
      clear hb
      refine hK.out _ _ O (fun _ => ?_)
      clear hK K
      try simp only [Act.put, List.setIfInBounds_toArray, List.set_cons_zero, List.set_cons_succ]
      refine wpAnyH_take (i := 4) (v := ?_) rfl (by kernel_rfl) (by kernel_rfl) (by kernel_rfl) (fun _ _ _ h => h) (Or.inl ⟨by rfl, ?_⟩) O ?_
      rotate_left
      · intro wq hSq
        (try dsimp only at hSq)

        go_simp
        try rfl
      change wpAnyH _ _ _ _ _ _ _ (Act.put _ (some 64) _) _
      simp only [Act.put, List.setIfInBounds_toArray, List.set_cons_succ, List.set_cons_zero]
      refine wpAnyH_done (by kernel_rfl) ?_ _
      obtain ⟨w12n, rfl⟩ : ∃ V : World, V = u2 := ⟨_, rfl⟩
      have hb := O
      clear O p1r bZ hZ
      replace bX := bX.keep hb
      replace bY := bY.keep hb
      replace hX := hX.agr (.of_below hb)
      replace hY := hY.agr (.of_below hb)
      replace oC := oC.agr (.of_below hb)
      replace oG := oG.agr (.of_below hb)
      replace OV := over_step OV hb
      clear hb
      have x0 := bX.c 0 rfl
      go_wp2_with fail
      clear x0
      refine (mkFb_o _ L 1 (Rg lo XB) _ hX (by omega) (by have := HCN.out; omega)).mono ?_
      rintro e w13 ⟨L', rfl, -, -, -, -, hs⟩
      have hVw := OV.size
      replace OV : Over V w13 := Below.trans OV (hs.below hVw (fun b q => by have := q.1; have := HLO.out; omega))
      replace hY := hY.agr (hs.agr (fun b q r => by have := q.1; have := r.2; have := HLO.out; omega))
      replace oC := oC.agr (hs.agr (fun b q r => by have := HST.out.1 b q; have := r.2; have := HLO.out; omega))
      replace oG := oG.agr (hs.agr (fun b q r => by have := HST.out.2.1 b q; have := r.2; have := HLO.out; omega))
      replace bY := hs.bl bY (fun q => by have := q.2; have := HLO.out; omega)
      clear hs hX hVw bX
      obtain ⟨K1, hK1⟩ : ∃ K : Int, K = 1 + (cntYS L : Nat) := ⟨_, rfl⟩
      rw [← hK1]
      have hk1 : 0 ≤ K1 ∧ K1 + (cntYS M : Nat) ≤ 40000000 := by have := HCN.out; omega
      clear hK1
      have y0 := bY.c 0 rfl
      go_wp2_with fail
      clear y0
      refine (mkFb_o _ M K1 (Rg mi YB) _ hY hk1.1 hk1.2).mono ?_
      rintro e w14 ⟨M', rfl, -, -, -, -, hs⟩
      have hVw := OV.size
      replace OV : Over V w14 := Below.trans OV (hs.below hVw (fun b q => by have := q.1; have := HLO.out; omega))
      replace oC := oC.agr (hs.agr (fun b q r => by have := HST.out.1 b q; have := r.2; have := HLO.out; omega))
      replace oG := oG.agr (hs.agr (fun b q r => by have := HST.out.2.1 b q; have := r.2; have := HLO.out; omega))
      clear hs hY hVw bY
      obtain ⟨K2, hK2⟩ : ∃ K : Int, K = K1 + (cntYS M : Nat) := ⟨_, rfl⟩
      rw [← hK2]
      have hn1 : ¬ K2 < 0 := by omega
      clear hK2 hk1
      go_wp2_with fail
      refine (eqGS_same _ _ C _ (rdG_of oC.rd) (yrC.keep OV)).mono ?_
      rintro e w15 ⟨rfl, hb⟩
      replace oC := oC.agr (.of_below hb)
      replace oG := oG.agr (.of_below hb)
      replace OV := over_step OV hb
      clear hb
      go_wp2_with fail
      refine (eqPS_same _ _ G _ oG.rd (yrG.keep OV)).mono ?_
      rintro e w16 ⟨rfl, hb⟩
      replace oC := oC.agr (.of_below hb)
      replace oG := oG.agr (.of_below hb)
      replace OV := over_step OV hb
      clear hb
      go_wp2_with fail
      refine (mkYS_any _ C 1 S _ oC (by omega) (by have := HCN.out; omega)).mono ?_
      rintro e w17 ⟨C', rfl, hcC, hlC, hmC, oC', hs⟩
      have hVw := OV.size
      replace OV : Over V w17 := Below.trans OV (hs.below hVw (fun b q => by have := HST.out.1 b q; have := HLO.out; omega))
      replace oG := oG.agr (hs.agr (fun b q r => HST.out.2.2 b r q))
      clear hs oC hVw hn1
      obtain ⟨M1, hM1⟩ : ∃ M1 : Int, M1 = 1 + (cntYS C : Nat) := ⟨_, rfl⟩
      have hM1b : 0 ≤ M1 ∧ M1 + (cntP G : Nat) ≤ 40000000 := by have := HCN.out; omega
      have hM1n : ¬ M1 < 0 := by omega
      rw [← hM1]
      have hq1 : ∀ w : World, RdYS w (.slice ga C.length gc) C' → Calls Try.prog 45 #[.slice ga C.length gc, .int .i64 1] w fun e w' => e = .returned (.int .i64 M1) ∧ Below w.heap.size w w' := fun w h => by
        have q := hdYS_any _ C' 1 w h hmC (by omega) (by rw [hcC]; have := HCN.out; omega)
        rw [hcC, ← hM1] at q
        exact q
      have HQ1 := Lib.hid hq1
      have oC2 := oC'
      have HM1 := Lib.hid hM1
      clear hM1 hq1 hcC hmC oC' hlC
      go_wp2_with fail
      refine (mkPr_any _ G M1 T _ oG hM1b.1 hM1b.2).mono ?_
      rintro e w18 ⟨G', rfl, hcG, hlG, hmG, oG', hs⟩
      have hVw := OV.size
      replace OV : Over V w18 := Below.trans OV (hs.below hVw (fun b q => by have := HST.out.2.1 b q; have := HLO.out; omega))
      have oC2 := oC2.agr (hs.agr (fun b q r => HST.out.2.2 b q r))
      obtain ⟨M2, hM2⟩ : ∃ M2 : Int, M2 = M1 + (cntP G : Nat) := ⟨_, rfl⟩
      have hM2n : ¬ M2 < 0 := by omega
      have hM2q : (M2 != M2) = false := by simp
      rw [← hM2]
      have hq2 : ∀ w : World, RdP w (.slice ha G.length hc) G' → Calls Try.prog 46 #[.slice ha G.length hc, .int .i64 M1] w fun e w' => e = .returned (.int .i64 M2) ∧ Below w.heap.size w w' := fun w h => by
        have q := hdPr_any _ G' M1 w h hmG hM1b.1 (by rw [hcG]; exact hM1b.2)
        rw [hcG, ← hM2] at q
        exact q
      have HQ2 := Lib.hid hq2
      have rG' := oG'.rd
      have rC' := oC2.rd
      clear hM2 hq2 hcG hmG oG' hlG hs hVw hM1b oG oC2
      go_wp2_with fail
      refine (HQ1.out _ rC').mono ?_
      rintro e w19 ⟨rfl, hb⟩
      replace rC' := rC'.keep hb
      replace rG' := rG'.keep hb
      replace OV := over_step OV hb
      clear hb
      go_wp2_with fail
      refine (HQ2.out _ rG').mono ?_
      rintro e w20 ⟨rfl, hb⟩
      replace rC' := rC'.keep hb
      replace rG' := rG'.keep hb
      replace OV := over_step OV hb
      clear hb
      obtain ⟨w21, rfl⟩ : ∃ V : World, V = w20 := ⟨_, rfl⟩
      have bZ := bA.keep OV
      have bU := bB.keep OV
      have hZ := hL.keep OV
      have hU := hM.keep OV
      go_wp2_with fail
      refine wp_region_held_drew (S := fun w' => Over w21 w') (by kernel_rfl) (over_drew w21) (fun hHeld => ?_)
      obtain ⟨u0, e0'⟩ : ∃ u, u = w21.drew := ⟨_, rfl⟩
      have O : Over w21 u0 := by rw [e0']; exact over_drew w21
      rw [← e0']
      clear e0' hHeld
      refine wpAnyH_take (i := 0) (v := ?_) rfl (by kernel_rfl) (by kernel_rfl) (by kernel_rfl) (fun _ _ _ h => h) (Or.inl ⟨by rfl, ?_⟩) O ?_
      rotate_left
      · intro wq hSq
        (try dsimp only at hSq)
        have q0 := bZ.o hSq 0 rfl
        go_simp
        try rfl
      change wpAnyH _ _ _ _ _ _ _ (Act.put _ (some 105) _) _
      simp only [Act.put, List.setIfInBounds_toArray, List.set_cons_succ, List.set_cons_zero]
      refine wpAnyH_take (i := 2) (v := ?_) rfl (by kernel_rfl) (by kernel_rfl) (by kernel_rfl) (fun _ _ _ h => h) (Or.inl ⟨by rfl, ?_⟩) O ?_
      rotate_left
      · intro wq hSq
        (try dsimp only at hSq)
        have q0 := bU.o hSq 0 rfl
        go_simp
        try rfl
      change wpAnyH _ _ _ _ _ _ _ (Act.put _ (some 107) _) _
      simp only [Act.put, List.setIfInBounds_toArray, List.set_cons_succ, List.set_cons_zero]
      refine wpAnyH_ready (rs := [1]) (by kernel_rfl) (by simp) ?_
      refine (AllReadyH.cons rfl (fun K hK => ?_) AllReadyH.nil)
      go_simp
      refine (toFb_o _ L _ (rdY_of (hZ.keep O)) HLL.out).mono ?_
      rintro e u1 ⟨p1, rfl, o1, hb⟩
      have O := over_step O hb
      have p1r := rdG_of o1.rd
      clear o1
      clear hb
      refine hK.out _ _ O (fun _ => ?_)
      clear hK K
      try simp only [Act.put, List.setIfInBounds_toArray, List.set_cons_zero, List.set_cons_succ]
      refine wpAnyH_ready (rs := [3]) (by kernel_rfl) (by simp) ?_
      refine (AllReadyH.cons rfl (fun K hK => ?_) AllReadyH.nil)
      go_simp
      refine (toFb_o _ M _ (rdY_of (hU.keep O)) HMM.out).mono ?_
      rintro e u2 ⟨p2, rfl, o2, hb⟩
      replace p1r := p1r.keep hb
      have O := over_step O hb
      have p2r := rdG_of o2.rd
      clear o2
      clear hb
      refine hK.out _ _ O (fun _ => ?_)
      clear hK K
      try simp only [Act.put, List.setIfInBounds_toArray, List.set_cons_zero, List.set_cons_succ]
      refine wpAnyH_ready (rs := [4]) (by kernel_rfl) (by simp) ?_
      refine (AllReadyH.cons rfl (fun K hK => ?_) AllReadyH.nil)
      go_simp
      refine (idel_any p1 p2 L M _ p1r p2r HLL.out HMM.out).mono ?_
      rintro e u3 ⟨zc, zg, zS, zT, rfl, zoC, zoG, -, -, -, hb⟩
      have zrC := rdG_of zoC.rd
      have zrG := zoG.rd
      clear zoC zoG p1r p2r
      obtain ⟨zc1, zc2, rfl⟩ := zrC.len
      obtain ⟨zg1, zg2, rfl⟩ := zrG.len
      have O := over_step O hb
      clear hb
      refine hK.out _ _ O (fun _ => ?_)
      clear hK K
      try simp only [Act.put, List.setIfInBounds_toArray, List.set_cons_zero, List.set_cons_succ]
      refine wpAnyH_take (i := 5) (v := ?_) rfl (by kernel_rfl) (by kernel_rfl) (by kernel_rfl) (fun _ _ _ h => h) (Or.inl ⟨by rfl, ?_⟩) O ?_
      rotate_left
      · intro wq hSq
        (try dsimp only at hSq)

        go_simp
        try rfl
      change wpAnyH _ _ _ _ _ _ _ (Act.put _ (some 104) _) _
      simp only [Act.put, List.setIfInBounds_toArray, List.set_cons_succ, List.set_cons_zero]
      refine wpAnyH_take (i := 6) (v := ?_) rfl (by kernel_rfl) (by kernel_rfl) (by kernel_rfl) (fun _ _ _ h => h) (Or.inl ⟨by rfl, ?_⟩) O ?_
      rotate_left
      · intro wq hSq
        (try dsimp only at hSq)

        go_simp
        try rfl
      change wpAnyH _ _ _ _ _ _ _ (Act.put _ (some 110) _) _
      simp only [Act.put, List.setIfInBounds_toArray, List.set_cons_succ, List.set_cons_zero]
      refine wpAnyH_take (i := 7) (v := ?_) rfl (by kernel_rfl) (by kernel_rfl) (by kernel_rfl) (fun _ _ _ h => h) (Or.inl ⟨by rfl, ?_⟩) O ?_
      rotate_left
      · intro wq hSq
        (try dsimp only at hSq)

        go_simp
        try rfl
      change wpAnyH _ _ _ _ _ _ _ (Act.put _ (some 111) _) _
      simp only [Act.put, List.setIfInBounds_toArray, List.set_cons_succ, List.set_cons_zero]
      refine wpAnyH_ready (rs := [8]) (by kernel_rfl) (by simp) ?_
      refine (AllReadyH.cons rfl (fun K hK => ?_) AllReadyH.nil)
      go_simp
      refine hK.out _ _ O (fun _ => ?_)
      clear hK K
      try simp only [Act.put, List.setIfInBounds_toArray, List.set_cons_zero, List.set_cons_succ]
      refine wpAnyH_ready (rs := [9]) (by kernel_rfl) (by simp) ?_
      refine (AllReadyH.cons rfl (fun K hK => ?_) AllReadyH.nil)
      go_simp
      refine hK.out _ _ O (fun _ => ?_)
      clear hK K
      try simp only [Act.put, List.setIfInBounds_toArray, List.set_cons_zero, List.set_cons_succ]
      refine wpAnyH_done (by kernel_rfl) ?_ _
      obtain ⟨w22, rfl⟩ : ∃ V : World, V = u3 := ⟨_, rfl⟩
      rw [← HC.out] at zrC
      rw [← HG.out] at zrG
      rw [← HC.out, ← HG.out]
      have hb := O
      clear O bZ bU hZ hU
      replace rC' := rC'.keep hb
      replace rG' := rG'.keep hb
      replace OV := over_step OV hb
      clear hb
      go_wp2_with fail
      refine (eqGS_same _ _ C _ zrC (yrC.keep OV)).mono ?_
      rintro e w23 ⟨rfl, hb⟩
      replace rC' := rC'.keep hb
      replace rG' := rG'.keep hb
      replace zrG := zrG.keep hb
      replace OV := over_step OV hb
      clear hb
      go_wp2_with fail
      refine (eqPS_same _ _ G _ zrG (yrG.keep OV)).mono ?_
      rintro e w24 ⟨rfl, hb⟩
      replace rC' := rC'.keep hb
      replace rG' := rG'.keep hb
      replace OV := over_step OV hb
      clear hb
      go_wp2_with fail
      refine (HQ1.out _ rC').mono ?_
      rintro e w25 ⟨rfl, hb⟩
      replace rC' := rC'.keep hb
      replace rG' := rG'.keep hb
      replace OV := over_step OV hb
      clear hb
      go_wp2_with fail
      refine (HQ2.out _ rG').mono ?_
      rintro e w26 ⟨rfl, hb⟩
      replace OV := over_step OV hb
      clear hb
      go_wp2
      go_ret
      exact ⟨rfl, below_step B0 OV⟩

set_option maxRecDepth 100000 in
theorem lifted (os : Os) (started : os.Started) (H : Type) (enc : TypeId × Value → H) :
    ReturnsInHanded {} Try.checked os 7 .any (Rows.fnExactDeltaSpec.pre6 enc Try.prog Try.f7 Rows.fnExactDeltaRow.domain false) (Rows.fnExactDeltaSpec.post enc Try.prog Try.f7 false true false false) := by
  refine returnsInHanded_of_change (C := Try.checked) own started (by kernel_rfl) Try.func7
    (ChangeSpec.witness6 (enc := enc) (C := Try.checked) false ⟨#[], #[.agg #[.slice none 0 0], .agg #[.slice none 0 0]], []⟩ 8 (by kernel_rfl) (by kernel_rfl) (by kernel_rfl) (by kernel_rfl)) ?_
  intro W base args ds gs before hval0 hW hcnd _
  have hval : ∀ (j : Nat) t v, Try.f7.params[j]? = some t → args[j]? = some v → Value.okWide Try.prog W .any base t v := hval0
  have hW' := hW
  obtain ⟨p, q, hA0, hV, rfl, hfz, hnd⟩ := hW
  have hA : DataW.TrodAll enc Try.prog W 0 (fun _ => true) true Try.f7.params.toList args.toList ds p := hA0
  rw [Try.params7] at hA hval
  obtain ⟨v0, vs0, d0, ds0, p0, q0, hargs, rfl, rfl, h0, r0⟩ := trodAll_cons hA
  obtain ⟨v1, vs1, d1, ds1, p1, q1, rfl, rfl, rfl, h1, r1⟩ := trodAll_cons r0
  obtain ⟨rfl, rfl, rfl⟩ := trodAll_nil r1
  obtain rfl : args = #[v0, v1] := by cases args; simp_all
  obtain ⟨rfl, rfl⟩ := trodVars_none hV
  have lt0 : ∀ x ∈ p0, x.block < W.heap.size := by obtain ⟨m, hm⟩ := h0; exact DataW.trod_lt m _ _ _ hm
  have w0 := is_Fib (hval 0 76 v0 rfl rfl) h0
  have lt1 : ∀ x ∈ p1, x.block < W.heap.size := by obtain ⟨m, hm⟩ := h1; exact DataW.trod_lt m _ _ _ hm
  have w1 := is_Fib (hval 1 76 v1 rfl rfl) h1
  clear hA0 hval0 hval
  refine (walk W v0 v1 w0 w1).mono fun e W' ⟨he, bel⟩ => ?_
  subst he
  exact ⟨_, rfl, _, _, _, [], _, [], hW', trodAll_mk1 (shut_bool Try.underlying4 _), (trodAll_cons_mk (Below.trod laidOut (by kernel_rfl) (of_decide_eq_true (by kernel_rfl)) h0 bel lt0) (trodAll_cons_mk (Below.trod laidOut (by kernel_rfl) (of_decide_eq_true (by kernel_rfl)) h1 bel lt1) trodAll_mk0)), rfl, bel.frame _, fun h => by cases h⟩

theorem over : Rows.fnExactDeltaRow.holds Try.pinned (OpenSpec.ofChange Rows.fnExactDeltaSpec) :=
  OpenClaim.holds_of_wide 7 Try.f7 rfl rfl rfl rfl rfl rfl rfl ⟨rfl, rfl, rfl, rfl, rfl⟩ rfl rfl rfl rfl rfl (by kernel_rfl) Try.func7 (by kernel_rfl)
    (of_decide_eq_true (by kernel_rfl)) (by unfold Func.isWrapper; first | (rw [if_pos (by decide +kernel)]; kernel_rfl) | (rw [if_neg (by decide +kernel)]; exact ⟨rfl, rfl⟩))
    (fun os started H enc _ => lifted os started H enc)

theorem proved : Rows.FnExactDeltaSaid := over
end Go.Proofs.Ytbcmoofpgffbhaa.fnExactDelta
