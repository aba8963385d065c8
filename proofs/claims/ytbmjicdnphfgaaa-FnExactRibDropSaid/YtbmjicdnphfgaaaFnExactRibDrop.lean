/-
  The law 'FnExactRibDrop' returns true for every input, and its arguments read afterwards as before: the given statement 'Rows.FnExactRibDropSaid'. No condition.
-/
import Derived.Test.YtbmjicdnphfgaaaO1
import Derived.Test.YtbmjicdnphfgaaaEP
namespace Go.Proofs.Ytbmjicdnphfgaaa.fnExactRibDrop
open Go.ChangeShapes Go.WideShapes Go.ChangeAt Go.RowKit Go.Proofs.Ytbmjicdnphfgaaa
set_option linter.unusedVariables false
set_option maxRecDepth 100000
set_option linter.unusedSimpArgs false
set_option maxHeartbeats 8000000 in
theorem walk (W : World) (v0 v1 v2 : Value) (w0 : Is_Rib W v0) (w1 : Is_Prefix W v1) (w2 : Is_int W v2) :
    Calls Try.prog 6 #[v0, v1, v2] W fun e w' => e = .returned (.bool true) ∧ Below W.heap.size W w' := by
  obtain ⟨u, L, rfl, hR⟩ := w0
  obtain ⟨a, n, rfl, -, -⟩ := w1
  obtain ⟨pe, rfl, -, -⟩ := w2
  obtain ⟨bA, bP, B0, z⟩ := two W [u] [.int .i64 a, .int .i64 n] 24 26
  replace hR := hR.keep B0
  clear z
  obtain ⟨x, c, hv⟩ := hR.len
  rw [hv] at hR bA bP B0 ⊢
  clear hv
  obtain ⟨AA, hAA⟩ : ∃ A, A = W.heap.size := ⟨_, rfl⟩
  obtain ⟨PP, hPP⟩ : ∃ A, A = W.heap.size + 1 := ⟨_, rfl⟩
  rw [← hAA] at bA
  rw [← hPP] at bP
  go_enter Try.func6, Try.ntmps6
  go_wp2_with fail
  rw [← hPP]
  try rw [← hAA]
  clear hAA hPP
  refine (szRb_any _ L _ hR).mono ?_
  rintro e w1 ⟨r, rfl, hsz, hb⟩
  replace bA := bA.keep hb
  replace bP := bP.keep hb
  replace hR := hR.keep hb
  replace B0 := below_step B0 hb
  clear hb
  have HSZ := Lib.hid hsz
  clear hsz
  by_cases hneg : r < 0
  · go_wp2_with fail
    go_ret
    exact ⟨rfl, B0⟩
  · have hlen := HSZ.out hneg
    have HD := Lib.hid hR.bd
    have hn : L.length ≤ 1048576 := by omega
    have HLP := Lib.hid (lens_of hlen)
    obtain ⟨D, hD⟩ : ∃ D, D = dropD L a n pe := ⟨_, rfl⟩
    have hdD : ∀ E ∈ D, BdE E := fun E hE => bd_mem HD.out (dropD_sub (hD ▸ hE))
    have hwD : (D.map wE).sum ≤ 8000000 := by rw [hD]; exact wE_dropD hlen a n pe
    have HDD := Lib.hid hD
    have HBD := Lib.hid hdD
    clear hD hdD
    obtain ⟨V0, rfl⟩ : ∃ V0 : World, V0 = w1 := ⟨_, rfl⟩
    go_wp2_with fail
    go_cut [8] from 20 to 26 (fun s8 wx => KeptT V0 wx D s8)
    case first =>
      refine wp_region_held_drew (S := fun w' => Over V0 w') (by kernel_rfl) (over_drew V0) (fun hHeld => ?_)
      obtain ⟨u0, e0'⟩ : ∃ u, u = V0.drew := ⟨_, rfl⟩
      have O : Over V0 u0 := by rw [e0']; exact over_drew V0
      rw [← e0']
      clear e0' hHeld
      refine wpAnyH_take (i := 0) (v := ?_) rfl (by kernel_rfl) (by kernel_rfl) (by kernel_rfl) (fun _ _ _ h => h) (Or.inl ⟨by rfl, ?_⟩) O ?_
      rotate_left
      · intro wq hSq
        (try dsimp only at hSq)
        have q0 := bA.o hSq 0 rfl
        go_simp
        try rfl
      change wpAnyH _ _ _ _ _ _ _ (Act.put _ (some 20) _) _
      simp only [Act.put, List.setIfInBounds_toArray, List.set_cons_succ, List.set_cons_zero]
      refine wpAnyH_take (i := 2) (v := ?_) rfl (by kernel_rfl) (by kernel_rfl) (by kernel_rfl) (fun _ _ _ h => h) (Or.inl ⟨by rfl, ?_⟩) O ?_
      rotate_left
      · intro wq hSq
        (try dsimp only at hSq)
        have q0 := bP.o hSq 0 rfl
        have q1 := bP.o hSq 1 rfl
        go_simp
        try rfl
      change wpAnyH _ _ _ _ _ _ _ (Act.put _ (some 22) _) _
      simp only [Act.put, List.setIfInBounds_toArray, List.set_cons_succ, List.set_cons_zero]
      refine wpAnyH_take (i := 4) (v := ?_) rfl (by kernel_rfl) (by kernel_rfl) (by kernel_rfl) (fun _ _ _ h => h) (Or.inl ⟨by rfl, ?_⟩) O ?_
      rotate_left
      · intro wq hSq
        (try dsimp only at hSq)

        go_simp
        try rfl
      change wpAnyH _ _ _ _ _ _ _ (Act.put _ (some 24) _) _
      simp only [Act.put, List.setIfInBounds_toArray, List.set_cons_succ, List.set_cons_zero]
      refine wpAnyH_ready (rs := [1, 6]) (by kernel_rfl) (by simp) ?_
      refine (AllReadyH.cons rfl (fun K hK => ?_) (AllReadyH.cons rfl (fun K hK => ?_) AllReadyH.nil))
      · go_simp
        refine (toRb_any _ L _ (hR.keep O) hlen).mono ?_
        rintro e u0c ⟨uu, rfl, hE1, hb⟩
        have O := over_step O hb
        replace hE1 := hE1.rd HD.out hn
        obtain ⟨xx, cc, rfl⟩ := hE1.len
        clear hb
        refine hK.out _ _ O (fun _ => ?_)
        clear hK K
        try simp only [Act.put, List.setIfInBounds_toArray, List.set_cons_zero, List.set_cons_succ]
        refine wpAnyH_ready (rs := [3, 6]) (by kernel_rfl) (by simp) ?_
        refine (AllReadyH.cons rfl (fun K hK => ?_) (AllReadyH.cons rfl (fun K hK => ?_) AllReadyH.nil))
        · go_simp
          refine (to_any a n _).mono ?_
          rintro e u0cc ⟨rfl, hb⟩
          replace hE1 := hE1.keep hb
          have O := over_step O hb
          clear hb
          refine hK.out _ _ O (fun _ => ?_)
          clear hK K
          try simp only [Act.put, List.setIfInBounds_toArray, List.set_cons_zero, List.set_cons_succ]
          refine wpAnyH_ready (rs := [5, 6]) (by kernel_rfl) (by simp) ?_
          refine (AllReadyH.cons rfl (fun K hK => ?_) (AllReadyH.cons rfl (fun K hK => ?_) AllReadyH.nil))
          · go_simp
            refine (srdd_t _ HDD hE1 HLP.out).mono ?_
            rintro e u0ccc ⟨ug, T1, rfl, hT1, hE1', hb⟩
            obtain ⟨xg, cg, rfl⟩ := hT1.lenV
            have hOS := O.size
            have hI1 := hT1.inH
            replace hE1 := hE1.keep hb
            have O := over_step O hb
            clear hb
            refine hK.out _ _ O (fun _ => ?_)
            clear hK K
            try simp only [Act.put, List.setIfInBounds_toArray, List.set_cons_zero, List.set_cons_succ]
            clear hE1
            refine wpAnyH_ready (rs := [6]) (by kernel_rfl) (by simp) ?_
            refine (AllReadyH.cons rfl (fun K hK => ?_) AllReadyH.nil)
            go_simp
            have hOs := O.size
            obtain ⟨bN, hb, z⟩ := one u0ccc [.slice none 0 0] 35
            have O := over_step O hb
            replace hT1 := hT1.keep hb
            clear z hb
            refine hK.out _ _ O (fun _ => ?_)
            clear hK K
            try simp only [Act.put, List.setIfInBounds_toArray, List.set_cons_zero, List.set_cons_succ]
            obtain ⟨B, eB⟩ : ∃ B, B = u0ccc.heap.size := ⟨_, rfl⟩
            have hBV : V0.heap.size ≤ B := by rw [eB]; exact hOs
            have hsd : B < u0cc.heap.size ∨ u0ccc.heap.size ≤ B := Or.inr (Nat.le_of_eq eB.symm)
            obtain ⟨u0ccca, eW⟩ : ∃ u, u = u0ccc.alloc (.cells #[.slice none 0 0] 35) := ⟨_, rfl⟩
            rw [← eW] at bN O hT1 ⊢
            rw [← eB] at bN ⊢
            clear eW eB hOs
            have r0 := bN.c 0 rfl
            have rf0 := bN.f 0 rfl
            refine wpAnyH_ready (rs := [7]) (by kernel_rfl) (by simp) ?_
            refine (AllReadyH.cons rfl (fun K hK => ?_) AllReadyH.nil)
            go_simp
            have O2 : Over V0 _ := Below.setCell O (p := ⟨B, 0, none⟩) hBV (.slice xg T1.length cg)
            refine hK.out _ _ O2 (fun _ => ?_)
            clear hK K r0 rf0
            try simp only [Act.put, List.setIfInBounds_toArray, List.set_cons_zero, List.set_cons_succ]
            refine wpAnyH_done (by kernel_rfl) ?_ _
            have b4 := bN.set 0 (.slice xg T1.length cg)
            have hT2 := hT1.setFar (o := 0) (u := .slice xg T1.length cg) hI1 hsd
            go_wp2_with fail
            go_meet
            case rel => exact ⟨B, _, _, xg, cg, T1, rfl, O2, b4, hT2, hE1', hOS, hBV, hI1, hsd⟩
          · go_simp
            have hOs := O.size
            obtain ⟨bN, hb, z⟩ := one u0cc [.slice none 0 0] 35
            have O := over_step O hb
            replace hE1 := hE1.keep hb
            clear z hb
            refine hK.out _ _ O (fun _ => ?_)
            clear hK K
            try simp only [Act.put, List.setIfInBounds_toArray, List.set_cons_zero, List.set_cons_succ]
            obtain ⟨B, eB⟩ : ∃ B, B = u0cc.heap.size := ⟨_, rfl⟩
            have hBV : V0.heap.size ≤ B := by rw [eB]; exact hOs
            obtain ⟨u0cca, eW⟩ : ∃ u, u = u0cc.alloc (.cells #[.slice none 0 0] 35) := ⟨_, rfl⟩
            rw [← eW] at bN O hE1 ⊢
            rw [← eB] at bN ⊢
            clear eW eB hOs
            refine wpAnyH_ready (rs := [5]) (by kernel_rfl) (by simp) ?_
            refine (AllReadyH.cons rfl (fun K hK => ?_) AllReadyH.nil)
            go_simp
            refine (srdd_t _ HDD hE1 HLP.out).mono ?_
            rintro e u0ccac ⟨ug, T1, rfl, hT1, hE1', hb⟩
            obtain ⟨xg, cg, rfl⟩ := hT1.lenV
            have hOS := O.size
            have hI1 := hT1.inH
            have hsd := (Or.inl bN.lt : B < u0cca.heap.size ∨ u0ccac.heap.size ≤ B)
            replace hE1 := hE1.keep hb
            replace bN := bN.keep hb
            have O := over_step O hb
            clear hb
            refine hK.out _ _ O (fun _ => ?_)
            clear hK K
            try simp only [Act.put, List.setIfInBounds_toArray, List.set_cons_zero, List.set_cons_succ]
            clear hE1
            have r0 := bN.c 0 rfl
            have rf0 := bN.f 0 rfl
            refine wpAnyH_ready (rs := [7]) (by kernel_rfl) (by simp) ?_
            refine (AllReadyH.cons rfl (fun K hK => ?_) AllReadyH.nil)
            go_simp
            have O2 : Over V0 _ := Below.setCell O (p := ⟨B, 0, none⟩) hBV (.slice xg T1.length cg)
            refine hK.out _ _ O2 (fun _ => ?_)
            clear hK K r0 rf0
            try simp only [Act.put, List.setIfInBounds_toArray, List.set_cons_zero, List.set_cons_succ]
            refine wpAnyH_done (by kernel_rfl) ?_ _
            have b4 := bN.set 0 (.slice xg T1.length cg)
            have hT2 := hT1.setFar (o := 0) (u := .slice xg T1.length cg) hI1 hsd
            go_wp2_with fail
            go_meet
            case rel => exact ⟨B, _, _, xg, cg, T1, rfl, O2, b4, hT2, hE1', hOS, hBV, hI1, hsd⟩
        · go_simp
          have hOs := O.size
          obtain ⟨bN, hb, z⟩ := one u0c [.slice none 0 0] 35
          have O := over_step O hb
          replace hE1 := hE1.keep hb
          clear z hb
          refine hK.out _ _ O (fun _ => ?_)
          clear hK K
          try simp only [Act.put, List.setIfInBounds_toArray, List.set_cons_zero, List.set_cons_succ]
          obtain ⟨B, eB⟩ : ∃ B, B = u0c.heap.size := ⟨_, rfl⟩
          have hBV : V0.heap.size ≤ B := by rw [eB]; exact hOs
          obtain ⟨u0ca, eW⟩ : ∃ u, u = u0c.alloc (.cells #[.slice none 0 0] 35) := ⟨_, rfl⟩
          rw [← eW] at bN O hE1 ⊢
          rw [← eB] at bN ⊢
          clear eW eB hOs
          refine wpAnyH_ready (rs := [3]) (by kernel_rfl) (by simp) ?_
          refine (AllReadyH.cons rfl (fun K hK => ?_) AllReadyH.nil)
          go_simp
          refine (to_any a n _).mono ?_
          rintro e u0cac ⟨rfl, hb⟩
          replace hE1 := hE1.keep hb
          replace bN := bN.keep hb
          have O := over_step O hb
          clear hb
          refine hK.out _ _ O (fun _ => ?_)
          clear hK K
          try simp only [Act.put, List.setIfInBounds_toArray, List.set_cons_zero, List.set_cons_succ]
          refine wpAnyH_ready (rs := [5]) (by kernel_rfl) (by simp) ?_
          refine (AllReadyH.cons rfl (fun K hK => ?_) AllReadyH.nil)
          go_simp
          refine (srdd_t _ HDD hE1 HLP.out).mono ?_
          rintro e u0cacc ⟨ug, T1, rfl, hT1, hE1', hb⟩
          obtain ⟨xg, cg, rfl⟩ := hT1.lenV
          have hOS := O.size
          have hI1 := hT1.inH
          have hsd := (Or.inl bN.lt : B < u0cac.heap.size ∨ u0cacc.heap.size ≤ B)
          replace hE1 := hE1.keep hb
          replace bN := bN.keep hb
          have O := over_step O hb
          clear hb
          refine hK.out _ _ O (fun _ => ?_)
          clear hK K
          try simp only [Act.put, List.setIfInBounds_toArray, List.set_cons_zero, List.set_cons_succ]
          clear hE1
          have r0 := bN.c 0 rfl
          have rf0 := bN.f 0 rfl
          refine wpAnyH_ready (rs := [7]) (by kernel_rfl) (by simp) ?_
          refine (AllReadyH.cons rfl (fun K hK => ?_) AllReadyH.nil)
          go_simp
          have O2 : Over V0 _ := Below.setCell O (p := ⟨B, 0, none⟩) hBV (.slice xg T1.length cg)
          refine hK.out _ _ O2 (fun _ => ?_)
          clear hK K r0 rf0
          try simp only [Act.put, List.setIfInBounds_toArray, List.set_cons_zero, List.set_cons_succ]
          refine wpAnyH_done (by kernel_rfl) ?_ _
          have b4 := bN.set 0 (.slice xg T1.length cg)
          have hT2 := hT1.setFar (o := 0) (u := .slice xg T1.length cg) hI1 hsd
          go_wp2_with fail
          go_meet
          case rel => exact ⟨B, _, _, xg, cg, T1, rfl, O2, b4, hT2, hE1', hOS, hBV, hI1, hsd⟩
      · go_simp
        have hOs := O.size
        obtain ⟨bN, hb, z⟩ := one u0 [.slice none 0 0] 35
        have O := over_step O hb
        clear z hb
        refine hK.out _ _ O (fun _ => ?_)
        clear hK K
        try simp only [Act.put, List.setIfInBounds_toArray, List.set_cons_zero, List.set_cons_succ]
        obtain ⟨B, eB⟩ : ∃ B, B = u0.heap.size := ⟨_, rfl⟩
        have hBV : V0.heap.size ≤ B := by rw [eB]; exact hOs
        obtain ⟨u0a, eW⟩ : ∃ u, u = u0.alloc (.cells #[.slice none 0 0] 35) := ⟨_, rfl⟩
        rw [← eW] at bN O  ⊢
        rw [← eB] at bN ⊢
        clear eW eB hOs
        refine wpAnyH_ready (rs := [1]) (by kernel_rfl) (by simp) ?_
        refine (AllReadyH.cons rfl (fun K hK => ?_) AllReadyH.nil)
        go_simp
        refine (toRb_any _ L _ (hR.keep O) hlen).mono ?_
        rintro e u0ac ⟨uu, rfl, hE1, hb⟩
        replace bN := bN.keep hb
        have O := over_step O hb
        replace hE1 := hE1.rd HD.out hn
        obtain ⟨xx, cc, rfl⟩ := hE1.len
        clear hb
        refine hK.out _ _ O (fun _ => ?_)
        clear hK K
        try simp only [Act.put, List.setIfInBounds_toArray, List.set_cons_zero, List.set_cons_succ]
        refine wpAnyH_ready (rs := [3]) (by kernel_rfl) (by simp) ?_
        refine (AllReadyH.cons rfl (fun K hK => ?_) AllReadyH.nil)
        go_simp
        refine (to_any a n _).mono ?_
        rintro e u0acc ⟨rfl, hb⟩
        replace bN := bN.keep hb
        replace hE1 := hE1.keep hb
        have O := over_step O hb
        clear hb
        refine hK.out _ _ O (fun _ => ?_)
        clear hK K
        try simp only [Act.put, List.setIfInBounds_toArray, List.set_cons_zero, List.set_cons_succ]
        refine wpAnyH_ready (rs := [5]) (by kernel_rfl) (by simp) ?_
        refine (AllReadyH.cons rfl (fun K hK => ?_) AllReadyH.nil)
        go_simp
        refine (srdd_t _ HDD hE1 HLP.out).mono ?_
        rintro e u0accc ⟨ug, T1, rfl, hT1, hE1', hb⟩
        obtain ⟨xg, cg, rfl⟩ := hT1.lenV
        have hOS := O.size
        have hI1 := hT1.inH
        have hsd := (Or.inl bN.lt : B < u0acc.heap.size ∨ u0accc.heap.size ≤ B)
        replace bN := bN.keep hb
        replace hE1 := hE1.keep hb
        have O := over_step O hb
        clear hb
        refine hK.out _ _ O (fun _ => ?_)
        clear hK K
        try simp only [Act.put, List.setIfInBounds_toArray, List.set_cons_zero, List.set_cons_succ]
        clear hE1
        have r0 := bN.c 0 rfl
        have rf0 := bN.f 0 rfl
        refine wpAnyH_ready (rs := [7]) (by kernel_rfl) (by simp) ?_
        refine (AllReadyH.cons rfl (fun K hK => ?_) AllReadyH.nil)
        go_simp
        have O2 : Over V0 _ := Below.setCell O (p := ⟨B, 0, none⟩) hBV (.slice xg T1.length cg)
        refine hK.out _ _ O2 (fun _ => ?_)
        clear hK K r0 rf0
        try simp only [Act.put, List.setIfInBounds_toArray, List.set_cons_zero, List.set_cons_succ]
        refine wpAnyH_done (by kernel_rfl) ?_ _
        have b4 := bN.set 0 (.slice xg T1.length cg)
        have hT2 := hT1.setFar (o := 0) (u := .slice xg T1.length cg) hI1 hsd
        go_wp2_with fail
        go_meet
        case rel => exact ⟨B, _, _, xg, cg, T1, rfl, O2, b4, hT2, hE1', hOS, hBV, hI1, hsd⟩
    case rest =>
      obtain ⟨V, rfl⟩ : ∃ x : World, x = wc := ⟨_, rfl⟩
      obtain ⟨WB, b0, i0, xs, cs, T0, rfl, O8, bW, hT0, hE0, -, -, -, -⟩ := hcut
      have q3 : RdE V (.slice xs T0.length cs) D := hE0 ▸ hT0.rd fun t ht => HBD.out _ (hE0 ▸ entT_mem ht)
      replace bA := bA.keep O8
      replace bP := bP.keep O8
      replace hR := hR.keep O8
      replace B0 := below_step B0 O8
      clear hE0 hT0 O8
      have a0 := bA.c 0 rfl
      go_wp2_with fail
      clear a0
      refine (toRb_any _ L _ hR hlen).mono ?_
      rintro e w4 ⟨u4, rfl, h4, hb⟩
      have OV : Over V w4 := hb
      clear hb
      have r4 := h4.rd HD.out hn
      obtain ⟨x4, c4, rfl⟩ := r4.len
      go_wp2_with fail
      obtain ⟨X, eX⟩ : ∃ X, X = w4.heap.size := ⟨_, rfl⟩
      obtain ⟨W5, eW⟩ : ∃ W5, W5 = w4.alloc (.cells #[.slice x4 L.length c4] 35) := ⟨_, rfl⟩
      obtain ⟨bX, N2, z⟩ := one w4 [.slice x4 L.length c4] 35
      rw [← eX] at bX ⊢
      rw [← eW] at bX N2 z ⊢
      have h45 : w4.heap.size ≤ W5.heap.size := N2.size
      have O4 : Over w4 W5 := N2
      clear z eX eW N2
      replace OV := over_trans OV O4
      replace r4 := r4.keep O4
      have bP5 := bP.keep OV
      have HVS := Lib.hid OV.size
      go_cut [10] from 28 to 33 (fun s10 wx => KeptT W5 wx D s10)
      case first =>
        refine wp_region_held_drew (S := fun w' => Over W5 w') (by kernel_rfl) (over_drew W5) (fun hHeld => ?_)
        obtain ⟨u0, e0'⟩ : ∃ u, u = W5.drew := ⟨_, rfl⟩
        have O : Over W5 u0 := by rw [e0']; exact over_drew W5
        rw [← e0']
        clear e0' hHeld
        refine wpAnyH_take (i := 0) (v := ?_) rfl (by kernel_rfl) (by kernel_rfl) (by kernel_rfl) (fun _ _ _ h => h) (Or.inl ⟨by rfl, ?_⟩) O ?_
        rotate_left
        · intro wq hSq
          (try dsimp only at hSq)
          have q0 := bX.o hSq 0 rfl
          go_simp
          try rfl
        change wpAnyH _ _ _ _ _ _ _ (Act.put _ (some 28) _) _
        simp only [Act.put, List.setIfInBounds_toArray, List.set_cons_succ, List.set_cons_zero]
        refine wpAnyH_take (i := 1) (v := ?_) rfl (by kernel_rfl) (by kernel_rfl) (by kernel_rfl) (fun _ _ _ h => h) (Or.inl ⟨by rfl, ?_⟩) O ?_
        rotate_left
        · intro wq hSq
          (try dsimp only at hSq)
          have q0 := bP5.o hSq 0 rfl
          have q1 := bP5.o hSq 1 rfl
          go_simp
          try rfl
        change wpAnyH _ _ _ _ _ _ _ (Act.put _ (some 29) _) _
        simp only [Act.put, List.setIfInBounds_toArray, List.set_cons_succ, List.set_cons_zero]
        refine wpAnyH_take (i := 3) (v := ?_) rfl (by kernel_rfl) (by kernel_rfl) (by kernel_rfl) (fun _ _ _ h => h) (Or.inl ⟨by rfl, ?_⟩) O ?_
        rotate_left
        · intro wq hSq
          (try dsimp only at hSq)

          go_simp
          try rfl
        change wpAnyH _ _ _ _ _ _ _ (Act.put _ (some 31) _) _
        simp only [Act.put, List.setIfInBounds_toArray, List.set_cons_succ, List.set_cons_zero]
        refine wpAnyH_ready (rs := [2, 5]) (by kernel_rfl) (by simp) ?_
        refine (AllReadyH.cons rfl (fun K hK => ?_) (AllReadyH.cons rfl (fun K hK => ?_) AllReadyH.nil))
        · go_simp
          refine (to_any a n _).mono ?_
          rintro e u0c ⟨rfl, hb⟩
          have O := over_step O hb
          clear hb
          refine hK.out _ _ O (fun _ => ?_)
          clear hK K
          try simp only [Act.put, List.setIfInBounds_toArray, List.set_cons_zero, List.set_cons_succ]
          refine wpAnyH_ready (rs := [4, 5]) (by kernel_rfl) (by simp) ?_
          refine (AllReadyH.cons rfl (fun K hK => ?_) (AllReadyH.cons rfl (fun K hK => ?_) AllReadyH.nil))
          · go_simp
            refine (irdd_t _ HDD (r4.keep O) HLP.out).mono ?_
            rintro e u0cc ⟨ug, T1, rfl, hT1, hE1', hb⟩
            obtain ⟨xg, cg, rfl⟩ := hT1.lenV
            have hOS := O.size
            have hI1 := hT1.inH
            have O := over_step O hb
            clear hb
            refine hK.out _ _ O (fun _ => ?_)
            clear hK K
            try simp only [Act.put, List.setIfInBounds_toArray, List.set_cons_zero, List.set_cons_succ]
            refine wpAnyH_ready (rs := [5]) (by kernel_rfl) (by simp) ?_
            refine (AllReadyH.cons rfl (fun K hK => ?_) AllReadyH.nil)
            go_simp
            have hOs := O.size
            obtain ⟨bN, hb, z⟩ := one u0cc [.slice none 0 0] 35
            have O := over_step O hb
            replace hT1 := hT1.keep hb
            clear z hb
            refine hK.out _ _ O (fun _ => ?_)
            clear hK K
            try simp only [Act.put, List.setIfInBounds_toArray, List.set_cons_zero, List.set_cons_succ]
            obtain ⟨B, eB⟩ : ∃ B, B = u0cc.heap.size := ⟨_, rfl⟩
            have hBV : W5.heap.size ≤ B := by rw [eB]; exact hOs
            have hsd : B < u0c.heap.size ∨ u0cc.heap.size ≤ B := Or.inr (Nat.le_of_eq eB.symm)
            obtain ⟨u0cca, eW⟩ : ∃ u, u = u0cc.alloc (.cells #[.slice none 0 0] 35) := ⟨_, rfl⟩
            rw [← eW] at bN O hT1 ⊢
            rw [← eB] at bN ⊢
            clear eW eB hOs
            have r0 := bN.c 0 rfl
            have rf0 := bN.f 0 rfl
            refine wpAnyH_ready (rs := [6]) (by kernel_rfl) (by simp) ?_
            refine (AllReadyH.cons rfl (fun K hK => ?_) AllReadyH.nil)
            go_simp
            have O2 : Over W5 _ := Below.setCell O (p := ⟨B, 0, none⟩) hBV (.slice xg T1.length cg)
            refine hK.out _ _ O2 (fun _ => ?_)
            clear hK K r0 rf0
            try simp only [Act.put, List.setIfInBounds_toArray, List.set_cons_zero, List.set_cons_succ]
            refine wpAnyH_done (by kernel_rfl) ?_ _
            have b4 := bN.set 0 (.slice xg T1.length cg)
            have hT2 := hT1.setFar (o := 0) (u := .slice xg T1.length cg) hI1 hsd
            go_wp2_with fail
            go_meet
            case rel => exact ⟨B, _, _, xg, cg, T1, rfl, O2, b4, hT2, hE1', hOS, hBV, hI1, hsd⟩
          · go_simp
            have hOs := O.size
            obtain ⟨bN, hb, z⟩ := one u0c [.slice none 0 0] 35
            have O := over_step O hb
            clear z hb
            refine hK.out _ _ O (fun _ => ?_)
            clear hK K
            try simp only [Act.put, List.setIfInBounds_toArray, List.set_cons_zero, List.set_cons_succ]
            obtain ⟨B, eB⟩ : ∃ B, B = u0c.heap.size := ⟨_, rfl⟩
            have hBV : W5.heap.size ≤ B := by rw [eB]; exact hOs
            obtain ⟨u0ca, eW⟩ : ∃ u, u = u0c.alloc (.cells #[.slice none 0 0] 35) := ⟨_, rfl⟩
            rw [← eW] at bN O  ⊢
            rw [← eB] at bN ⊢
            clear eW eB hOs
            refine wpAnyH_ready (rs := [4]) (by kernel_rfl) (by simp) ?_
            refine (AllReadyH.cons rfl (fun K hK => ?_) AllReadyH.nil)
            go_simp
            refine (irdd_t _ HDD (r4.keep O) HLP.out).mono ?_
            rintro e u0cac ⟨ug, T1, rfl, hT1, hE1', hb⟩
            obtain ⟨xg, cg, rfl⟩ := hT1.lenV
            have hOS := O.size
            have hI1 := hT1.inH
            have hsd := (Or.inl bN.lt : B < u0ca.heap.size ∨ u0cac.heap.size ≤ B)
            replace bN := bN.keep hb
            have O := over_step O hb
            clear hb
            refine hK.out _ _ O (fun _ => ?_)
            clear hK K
            try simp only [Act.put, List.setIfInBounds_toArray, List.set_cons_zero, List.set_cons_succ]
            have r0 := bN.c 0 rfl
            have rf0 := bN.f 0 rfl
            refine wpAnyH_ready (rs := [6]) (by kernel_rfl) (by simp) ?_
            refine (AllReadyH.cons rfl (fun K hK => ?_) AllReadyH.nil)
            go_simp
            have O2 : Over W5 _ := Below.setCell O (p := ⟨B, 0, none⟩) hBV (.slice xg T1.length cg)
            refine hK.out _ _ O2 (fun _ => ?_)
            clear hK K r0 rf0
            try simp only [Act.put, List.setIfInBounds_toArray, List.set_cons_zero, List.set_cons_succ]
            refine wpAnyH_done (by kernel_rfl) ?_ _
            have b4 := bN.set 0 (.slice xg T1.length cg)
            have hT2 := hT1.setFar (o := 0) (u := .slice xg T1.length cg) hI1 hsd
            go_wp2_with fail
            go_meet
            case rel => exact ⟨B, _, _, xg, cg, T1, rfl, O2, b4, hT2, hE1', hOS, hBV, hI1, hsd⟩
        · go_simp
          have hOs := O.size
          obtain ⟨bN, hb, z⟩ := one u0 [.slice none 0 0] 35
          have O := over_step O hb
          clear z hb
          refine hK.out _ _ O (fun _ => ?_)
          clear hK K
          try simp only [Act.put, List.setIfInBounds_toArray, List.set_cons_zero, List.set_cons_succ]
          obtain ⟨B, eB⟩ : ∃ B, B = u0.heap.size := ⟨_, rfl⟩
          have hBV : W5.heap.size ≤ B := by rw [eB]; exact hOs
          obtain ⟨u0a, eW⟩ : ∃ u, u = u0.alloc (.cells #[.slice none 0 0] 35) := ⟨_, rfl⟩
          rw [← eW] at bN O  ⊢
          rw [← eB] at bN ⊢
          clear eW eB hOs
          refine wpAnyH_ready (rs := [2]) (by kernel_rfl) (by simp) ?_
          refine (AllReadyH.cons rfl (fun K hK => ?_) AllReadyH.nil)
          go_simp
          refine (to_any a n _).mono ?_
          rintro e u0ac ⟨rfl, hb⟩
          replace bN := bN.keep hb
          have O := over_step O hb
          clear hb
          refine hK.out _ _ O (fun _ => ?_)
          clear hK K
          try simp only [Act.put, List.setIfInBounds_toArray, List.set_cons_zero, List.set_cons_succ]
          refine wpAnyH_ready (rs := [4]) (by kernel_rfl) (by simp) ?_
          refine (AllReadyH.cons rfl (fun K hK => ?_) AllReadyH.nil)
          go_simp
          refine (irdd_t _ HDD (r4.keep O) HLP.out).mono ?_
          rintro e u0acc ⟨ug, T1, rfl, hT1, hE1', hb⟩
          obtain ⟨xg, cg, rfl⟩ := hT1.lenV
          have hOS := O.size
          have hI1 := hT1.inH
          have hsd := (Or.inl bN.lt : B < u0ac.heap.size ∨ u0acc.heap.size ≤ B)
          replace bN := bN.keep hb
          have O := over_step O hb
          clear hb
          refine hK.out _ _ O (fun _ => ?_)
          clear hK K
          try simp only [Act.put, List.setIfInBounds_toArray, List.set_cons_zero, List.set_cons_succ]
          have r0 := bN.c 0 rfl
          have rf0 := bN.f 0 rfl
          refine wpAnyH_ready (rs := [6]) (by kernel_rfl) (by simp) ?_
          refine (AllReadyH.cons rfl (fun K hK => ?_) AllReadyH.nil)
          go_simp
          have O2 : Over W5 _ := Below.setCell O (p := ⟨B, 0, none⟩) hBV (.slice xg T1.length cg)
          refine hK.out _ _ O2 (fun _ => ?_)
          clear hK K r0 rf0
          try simp only [Act.put, List.setIfInBounds_toArray, List.set_cons_zero, List.set_cons_succ]
          refine wpAnyH_done (by kernel_rfl) ?_ _
          have b4 := bN.set 0 (.slice xg T1.length cg)
          have hT2 := hT1.setFar (o := 0) (u := .slice xg T1.length cg) hI1 hsd
          go_wp2_with fail
          go_meet
          case rel => exact ⟨B, _, _, xg, cg, T1, rfl, O2, b4, hT2, hE1', hOS, hBV, hI1, hsd⟩
      case rest =>
        obtain ⟨w5, rfl⟩ : ∃ x : World, x = wc := ⟨_, rfl⟩
        obtain ⟨G, bs, hi, xg, cg, T, rfl, O5, bG, hT, hE, hbs, hGb, hIn, hsep⟩ := hcut
        have HE := Lib.hid hE
        clear hE
        replace bX := bX.keep O5
        replace r4 := r4.keep O5
        replace O4 := over_trans O4 O5
        replace OV := over_trans OV O5
        have h4b : w4.heap.size ≤ bs := Nat.le_trans h45 hbs
        have h4G : w4.heap.size ≤ G := Nat.le_trans h45 hGb
        have hVb : V.heap.size ≤ bs := Nat.le_trans HVS.out hbs
        clear O5 bP5 hbs hGb
        have g0 := bG.c 0 rfl
        have s0 := (bW.keep OV).c 0 rfl
        go_wp2_with fail
        clear g0 s0
        have rg : ∀ w' : World, OwnT w' bs (.slice xg T.length cg) T → RdE w' (.slice xg T.length cg) D := fun w' h => HE.out ▸ h.rd fun t ht => HBD.out _ (HE.out ▸ entT_mem ht)
        have RG := Lib.hid rg
        clear rg
        refine (eqRb_same _ _ D _ (RG.out _ hT) (q3.keep OV)).mono ?_
        rintro e w7 ⟨rfl, hb⟩
        replace bX := bX.keep hb
        replace bG := bG.keep hb
        replace r4 := r4.keep hb
        replace hT := hT.keep hb
        replace O4 := over_step O4 hb
        replace OV := over_step OV hb
        clear hb
        have bA6 := bA.keep OV
        have hR6 := hR.keep OV
        go_wp2_with fail
        go_region_held3 (fun w' => Over w7 w' ∧ w'.cell? ⟨AA, 0, none⟩ = some (.slice x L.length c) ∧ w'.cell? ⟨X, 0, none⟩ = some (.slice x4 L.length c4))
          ((first | exact ⟨over_drew _, bA6.c 0 rfl, bX.c 0 rfl⟩ | exact (fun o => ⟨o, bA6.o o 0 rfl, bX.o o 0 rfl⟩) (over_step (‹Over w7 _ ∧ _›).1 (by assumption))))
          ((first | (go_at_call 10; refine (toRb_any _ L _ (hR6.keep (‹Over w7 _ ∧ _›).1) hlen).mono ?_; rintro e wa ⟨ua, rfl, hxa, hba⟩) | (go_at_call 14; refine (eqRb_same _ _ L _ (r4.keep (‹Over w7 _ ∧ _›).1) (hxa.rd HD.out hn)).mono ?_; rintro e wb ⟨rfl, hbb⟩)))
        rename_i hH
        replace hH := hH.1
        clear hbb hba hxa bA6 hR6
        replace bX := bX.keep hH
        replace bG := bG.keep hH
        replace hT := hT.keep hH
        replace O4 := over_step O4 hH
        replace OV := over_step OV hH
        clear hH r4
        have x0 := bX.c 0 rfl
        go_wp2_with fail
        clear x0
        refine (markRb_later _ L 1 V.heap.size w4 _ h4 O4 hlen (by omega) (by omega)).mono ?_
        rintro e w8 ⟨k8, rfl, hk8, hs⟩
        replace OV : Over V w8 := Below.trans OV (hs.below OV.size)
        replace hT := hT.soft hs h4b
        replace bG := blSoftT bG hs h4G
        clear hs O4 bX h4
        have hk8n : ¬ k8 < 0 := by omega
        have g0 := bG.c 0 rfl
        have s0 := (bW.keep OV).c 0 rfl
        go_wp2_with fail
        clear g0 s0
        refine (eqRb_same _ _ D _ (RG.out _ hT) (q3.keep OV)).mono ?_
        rintro e w9 ⟨rfl, hb⟩
        replace bG := bG.keep hb
        replace hT := hT.keep hb
        replace OV := over_step OV hb
        clear hb
        obtain ⟨WW, hWW⟩ : ∃ WW, WW = (entT T).map wE := ⟨_, rfl⟩
        have hWs : WW.sum ≤ 8000000 := by rw [hWW, HE.out]; exact hwD
        have HWW := Lib.hid hWW.symm
        clear hWW
        have g0 := bG.c 0 rfl
        go_wp2_with fail
        clear g0
        refine (mkRb_is _ T WW bs hi _ hT hIn HWW.out hWs).mono ?_
        rintro e w10 ⟨S, rfl, hSl, hMk, oS, hMid⟩
        replace OV : Over V w10 := Below.trans OV (hMid.below hVb OV.size)
        replace bG := hMid.bl bG hsep
        clear hMid hT hIn hk8 hk8n hsep
        have rS := oS.rd (marked_bd hMk hSl.symm (by omega) (by omega) hWs)
        have HMK : Hid (MarkedW 1 WW (entT S) (entT S).length) := Lib.hid (by rw [entT_len, hSl]; exact hMk)
        clear hMk oS hSl
        obtain ⟨M, hM⟩ : ∃ M : Int, M = 1 + (WW.sum : Nat) := ⟨_, rfl⟩
        have hMn : ¬ M < 0 := by omega
        have hMM : (M != M) = false := by simp
        rw [← hM]
        have HM := Lib.hid hM
        clear hM
        have g0 := bG.c 0 rfl
        go_wp2_with fail
        clear g0
        refine (hdRb_is _ (entT S) WW _ rS HMK.out hWs).mono ?_
        rintro e w11 ⟨rfl, hb⟩
        rw [← HM.out]
        replace bG := bG.keep hb
        replace rS := rS.keep hb
        replace OV := over_step OV hb
        clear hb
        have bA11 := bA.keep OV
        have bP11 := bP.keep OV
        have hR11 := hR.keep OV
        go_wp2_with fail
        go_cut [14] from 64 to 70 (fun s14 wx => KeptT w11 wx D s14)
        case first =>
          refine wp_region_held_drew (S := fun w' => Over w11 w') (by kernel_rfl) (over_drew w11) (fun hHeld => ?_)
          obtain ⟨u0, e0'⟩ : ∃ u, u = w11.drew := ⟨_, rfl⟩
          have O : Over w11 u0 := by rw [e0']; exact over_drew w11
          rw [← e0']
          clear e0' hHeld
          refine wpAnyH_take (i := 0) (v := ?_) rfl (by kernel_rfl) (by kernel_rfl) (by kernel_rfl) (fun _ _ _ h => h) (Or.inl ⟨by rfl, ?_⟩) O ?_
          rotate_left
          · intro wq hSq
            (try dsimp only at hSq)
            have q0 := bA11.o hSq 0 rfl
            go_simp
            try rfl
          change wpAnyH _ _ _ _ _ _ _ (Act.put _ (some 64) _) _
          simp only [Act.put, List.setIfInBounds_toArray, List.set_cons_succ, List.set_cons_zero]
          refine wpAnyH_take (i := 2) (v := ?_) rfl (by kernel_rfl) (by kernel_rfl) (by kernel_rfl) (fun _ _ _ h => h) (Or.inl ⟨by rfl, ?_⟩) O ?_
          rotate_left
          · intro wq hSq
            (try dsimp only at hSq)
            have q0 := bP11.o hSq 0 rfl
            have q1 := bP11.o hSq 1 rfl
            go_simp
            try rfl
          change wpAnyH _ _ _ _ _ _ _ (Act.put _ (some 66) _) _
          simp only [Act.put, List.setIfInBounds_toArray, List.set_cons_succ, List.set_cons_zero]
          refine wpAnyH_take (i := 4) (v := ?_) rfl (by kernel_rfl) (by kernel_rfl) (by kernel_rfl) (fun _ _ _ h => h) (Or.inl ⟨by rfl, ?_⟩) O ?_
          rotate_left
          · intro wq hSq
            (try dsimp only at hSq)

            go_simp
            try rfl
          change wpAnyH _ _ _ _ _ _ _ (Act.put _ (some 68) _) _
          simp only [Act.put, List.setIfInBounds_toArray, List.set_cons_succ, List.set_cons_zero]
          refine wpAnyH_ready (rs := [1, 6]) (by kernel_rfl) (by simp) ?_
          refine (AllReadyH.cons rfl (fun K hK => ?_) (AllReadyH.cons rfl (fun K hK => ?_) AllReadyH.nil))
          · go_simp
            refine (toRb_any _ L _ (hR11.keep O) hlen).mono ?_
            rintro e u0c ⟨uu, rfl, hE1, hb⟩
            have O := over_step O hb
            replace hE1 := hE1.rd HD.out hn
            obtain ⟨xx, cc, rfl⟩ := hE1.len
            clear hb
            refine hK.out _ _ O (fun _ => ?_)
            clear hK K
            try simp only [Act.put, List.setIfInBounds_toArray, List.set_cons_zero, List.set_cons_succ]
            refine wpAnyH_ready (rs := [3, 6]) (by kernel_rfl) (by simp) ?_
            refine (AllReadyH.cons rfl (fun K hK => ?_) (AllReadyH.cons rfl (fun K hK => ?_) AllReadyH.nil))
            · go_simp
              refine (to_any a n _).mono ?_
              rintro e u0cc ⟨rfl, hb⟩
              replace hE1 := hE1.keep hb
              have O := over_step O hb
              clear hb
              refine hK.out _ _ O (fun _ => ?_)
              clear hK K
              try simp only [Act.put, List.setIfInBounds_toArray, List.set_cons_zero, List.set_cons_succ]
              refine wpAnyH_ready (rs := [5, 6]) (by kernel_rfl) (by simp) ?_
              refine (AllReadyH.cons rfl (fun K hK => ?_) (AllReadyH.cons rfl (fun K hK => ?_) AllReadyH.nil))
              · go_simp
                refine (irdd_t _ HDD hE1 HLP.out).mono ?_
                rintro e u0ccc ⟨ug, T1, rfl, hT1, hE1', hb⟩
                obtain ⟨xg, cg, rfl⟩ := hT1.lenV
                have hOS := O.size
                have hI1 := hT1.inH
                replace hE1 := hE1.keep hb
                have O := over_step O hb
                clear hb
                refine hK.out _ _ O (fun _ => ?_)
                clear hK K
                try simp only [Act.put, List.setIfInBounds_toArray, List.set_cons_zero, List.set_cons_succ]
                clear hE1
                refine wpAnyH_ready (rs := [6]) (by kernel_rfl) (by simp) ?_
                refine (AllReadyH.cons rfl (fun K hK => ?_) AllReadyH.nil)
                go_simp
                have hOs := O.size
                obtain ⟨bN, hb, z⟩ := one u0ccc [.slice none 0 0] 35
                have O := over_step O hb
                replace hT1 := hT1.keep hb
                clear z hb
                refine hK.out _ _ O (fun _ => ?_)
                clear hK K
                try simp only [Act.put, List.setIfInBounds_toArray, List.set_cons_zero, List.set_cons_succ]
                obtain ⟨B, eB⟩ : ∃ B, B = u0ccc.heap.size := ⟨_, rfl⟩
                have hBV : w11.heap.size ≤ B := by rw [eB]; exact hOs
                have hsd : B < u0cc.heap.size ∨ u0ccc.heap.size ≤ B := Or.inr (Nat.le_of_eq eB.symm)
                obtain ⟨u0ccca, eW⟩ : ∃ u, u = u0ccc.alloc (.cells #[.slice none 0 0] 35) := ⟨_, rfl⟩
                rw [← eW] at bN O hT1 ⊢
                rw [← eB] at bN ⊢
                clear eW eB hOs
                have r0 := bN.c 0 rfl
                have rf0 := bN.f 0 rfl
                refine wpAnyH_ready (rs := [7]) (by kernel_rfl) (by simp) ?_
                refine (AllReadyH.cons rfl (fun K hK => ?_) AllReadyH.nil)
                go_simp
                have O2 : Over w11 _ := Below.setCell O (p := ⟨B, 0, none⟩) hBV (.slice xg T1.length cg)
                refine hK.out _ _ O2 (fun _ => ?_)
                clear hK K r0 rf0
                try simp only [Act.put, List.setIfInBounds_toArray, List.set_cons_zero, List.set_cons_succ]
                refine wpAnyH_done (by kernel_rfl) ?_ _
                have b4 := bN.set 0 (.slice xg T1.length cg)
                have hT2 := hT1.setFar (o := 0) (u := .slice xg T1.length cg) hI1 hsd
                go_wp2_with fail
                go_meet
                case rel => exact ⟨B, _, _, xg, cg, T1, rfl, O2, b4, hT2, hE1', hOS, hBV, hI1, hsd⟩
              · go_simp
                have hOs := O.size
                obtain ⟨bN, hb, z⟩ := one u0cc [.slice none 0 0] 35
                have O := over_step O hb
                replace hE1 := hE1.keep hb
                clear z hb
                refine hK.out _ _ O (fun _ => ?_)
                clear hK K
                try simp only [Act.put, List.setIfInBounds_toArray, List.set_cons_zero, List.set_cons_succ]
                obtain ⟨B, eB⟩ : ∃ B, B = u0cc.heap.size := ⟨_, rfl⟩
                have hBV : w11.heap.size ≤ B := by rw [eB]; exact hOs
                obtain ⟨u0cca, eW⟩ : ∃ u, u = u0cc.alloc (.cells #[.slice none 0 0] 35) := ⟨_, rfl⟩
                rw [← eW] at bN O hE1 ⊢
                rw [← eB] at bN ⊢
                clear eW eB hOs
                refine wpAnyH_ready (rs := [5]) (by kernel_rfl) (by simp) ?_
                refine (AllReadyH.cons rfl (fun K hK => ?_) AllReadyH.nil)
                go_simp
                refine (irdd_t _ HDD hE1 HLP.out).mono ?_
                rintro e u0ccac ⟨ug, T1, rfl, hT1, hE1', hb⟩
                obtain ⟨xg, cg, rfl⟩ := hT1.lenV
                have hOS := O.size
                have hI1 := hT1.inH
                have hsd := (Or.inl bN.lt : B < u0cca.heap.size ∨ u0ccac.heap.size ≤ B)
                replace hE1 := hE1.keep hb
                replace bN := bN.keep hb
                have O := over_step O hb
                clear hb
                refine hK.out _ _ O (fun _ => ?_)
                clear hK K
                try simp only [Act.put, List.setIfInBounds_toArray, List.set_cons_zero, List.set_cons_succ]
                clear hE1
                have r0 := bN.c 0 rfl
                have rf0 := bN.f 0 rfl
                refine wpAnyH_ready (rs := [7]) (by kernel_rfl) (by simp) ?_
                refine (AllReadyH.cons rfl (fun K hK => ?_) AllReadyH.nil)
                go_simp
                have O2 : Over w11 _ := Below.setCell O (p := ⟨B, 0, none⟩) hBV (.slice xg T1.length cg)
                refine hK.out _ _ O2 (fun _ => ?_)
                clear hK K r0 rf0
                try simp only [Act.put, List.setIfInBounds_toArray, List.set_cons_zero, List.set_cons_succ]
                refine wpAnyH_done (by kernel_rfl) ?_ _
                have b4 := bN.set 0 (.slice xg T1.length cg)
                have hT2 := hT1.setFar (o := 0) (u := .slice xg T1.length cg) hI1 hsd
                go_wp2_with fail
                go_meet
                case rel => exact ⟨B, _, _, xg, cg, T1, rfl, O2, b4, hT2, hE1', hOS, hBV, hI1, hsd⟩
            · go_simp
              have hOs := O.size
              obtain ⟨bN, hb, z⟩ := one u0c [.slice none 0 0] 35
              have O := over_step O hb
              replace hE1 := hE1.keep hb
              clear z hb
              refine hK.out _ _ O (fun _ => ?_)
              clear hK K
              try simp only [Act.put, List.setIfInBounds_toArray, List.set_cons_zero, List.set_cons_succ]
              obtain ⟨B, eB⟩ : ∃ B, B = u0c.heap.size := ⟨_, rfl⟩
              have hBV : w11.heap.size ≤ B := by rw [eB]; exact hOs
              obtain ⟨u0ca, eW⟩ : ∃ u, u = u0c.alloc (.cells #[.slice none 0 0] 35) := ⟨_, rfl⟩
              rw [← eW] at bN O hE1 ⊢
              rw [← eB] at bN ⊢
              clear eW eB hOs
              refine wpAnyH_ready (rs := [3]) (by kernel_rfl) (by simp) ?_
              refine (AllReadyH.cons rfl (fun K hK => ?_) AllReadyH.nil)
              go_simp
              refine (to_any a n _).mono ?_
              rintro e u0cac ⟨rfl, hb⟩
              replace hE1 := hE1.keep hb
              replace bN := bN.keep hb
              have O := over_step O hb
              clear hb
              refine hK.out _ _ O (fun _ => ?_)
              clear hK K
              try simp only [Act.put, List.setIfInBounds_toArray, List.set_cons_zero, List.set_cons_succ]
              refine wpAnyH_ready (rs := [5]) (by kernel_rfl) (by simp) ?_
              refine (AllReadyH.cons rfl (fun K hK => ?_) AllReadyH.nil)
              go_simp
              refine (irdd_t _ HDD hE1 HLP.out).mono ?_
              rintro e u0cacc ⟨ug, T1, rfl, hT1, hE1', hb⟩
              obtain ⟨xg, cg, rfl⟩ := hT1.lenV
              have hOS := O.size
              have hI1 := hT1.inH
              have hsd := (Or.inl bN.lt : B < u0cac.heap.size ∨ u0cacc.heap.size ≤ B)
              replace hE1 := hE1.keep hb
              replace bN := bN.keep hb
              have O := over_step O hb
              clear hb
              refine hK.out _ _ O (fun _ => ?_)
              clear hK K
              try simp only [Act.put, List.setIfInBounds_toArray, List.set_cons_zero, List.set_cons_succ]
              clear hE1
              have r0 := bN.c 0 rfl
              have rf0 := bN.f 0 rfl
              refine wpAnyH_ready (rs := [7]) (by kernel_rfl) (by simp) ?_
              refine (AllReadyH.cons rfl (fun K hK => ?_) AllReadyH.nil)
              go_simp
              have O2 : Over w11 _ := Below.setCell O (p := ⟨B, 0, none⟩) hBV (.slice xg T1.length cg)
              refine hK.out _ _ O2 (fun _ => ?_)
              clear hK K r0 rf0
              try simp only [Act.put, List.setIfInBounds_toArray, List.set_cons_zero, List.set_cons_succ]
              refine wpAnyH_done (by kernel_rfl) ?_ _
              have b4 := bN.set 0 (.slice xg T1.length cg)
              have hT2 := hT1.setFar (o := 0) (u := .slice xg T1.length cg) hI1 hsd
              go_wp2_with fail
              go_meet
              case rel => exact ⟨B, _, _, xg, cg, T1, rfl, O2, b4, hT2, hE1', hOS, hBV, hI1, hsd⟩
          · go_simp
            have hOs := O.size
            obtain ⟨bN, hb, z⟩ := one u0 [.slice none 0 0] 35
            have O := over_step O hb
            clear z hb
            refine hK.out _ _ O (fun _ => ?_)
            clear hK K
            try simp only [Act.put, List.setIfInBounds_toArray, List.set_cons_zero, List.set_cons_succ]
            obtain ⟨B, eB⟩ : ∃ B, B = u0.heap.size := ⟨_, rfl⟩
            have hBV : w11.heap.size ≤ B := by rw [eB]; exact hOs
            obtain ⟨u0a, eW⟩ : ∃ u, u = u0.alloc (.cells #[.slice none 0 0] 35) := ⟨_, rfl⟩
            rw [← eW] at bN O  ⊢
            rw [← eB] at bN ⊢
            clear eW eB hOs
            refine wpAnyH_ready (rs := [1]) (by kernel_rfl) (by simp) ?_
            refine (AllReadyH.cons rfl (fun K hK => ?_) AllReadyH.nil)
            go_simp
            refine (toRb_any _ L _ (hR11.keep O) hlen).mono ?_
            rintro e u0ac ⟨uu, rfl, hE1, hb⟩
            replace bN := bN.keep hb
            have O := over_step O hb
            replace hE1 := hE1.rd HD.out hn
            obtain ⟨xx, cc, rfl⟩ := hE1.len
            clear hb
            refine hK.out _ _ O (fun _ => ?_)
            clear hK K
            try simp only [Act.put, List.setIfInBounds_toArray, List.set_cons_zero, List.set_cons_succ]
            refine wpAnyH_ready (rs := [3]) (by kernel_rfl) (by simp) ?_
            refine (AllReadyH.cons rfl (fun K hK => ?_) AllReadyH.nil)
            go_simp
            refine (to_any a n _).mono ?_
            rintro e u0acc ⟨rfl, hb⟩
            replace bN := bN.keep hb
            replace hE1 := hE1.keep hb
            have O := over_step O hb
            clear hb
            refine hK.out _ _ O (fun _ => ?_)
            clear hK K
            try simp only [Act.put, List.setIfInBounds_toArray, List.set_cons_zero, List.set_cons_succ]
            refine wpAnyH_ready (rs := [5]) (by kernel_rfl) (by simp) ?_
            refine (AllReadyH.cons rfl (fun K hK => ?_) AllReadyH.nil)
            go_simp
            refine (irdd_t _ HDD hE1 HLP.out).mono ?_
            rintro e u0accc ⟨ug, T1, rfl, hT1, hE1', hb⟩
            obtain ⟨xg, cg, rfl⟩ := hT1.lenV
            have hOS := O.size
            have hI1 := hT1.inH
            have hsd := (Or.inl bN.lt : B < u0acc.heap.size ∨ u0accc.heap.size ≤ B)
            replace bN := bN.keep hb
            replace hE1 := hE1.keep hb
            have O := over_step O hb
            clear hb
            refine hK.out _ _ O (fun _ => ?_)
            clear hK K
            try simp only [Act.put, List.setIfInBounds_toArray, List.set_cons_zero, List.set_cons_succ]
            clear hE1
            have r0 := bN.c 0 rfl
            have rf0 := bN.f 0 rfl
            refine wpAnyH_ready (rs := [7]) (by kernel_rfl) (by simp) ?_
            refine (AllReadyH.cons rfl (fun K hK => ?_) AllReadyH.nil)
            go_simp
            have O2 : Over w11 _ := Below.setCell O (p := ⟨B, 0, none⟩) hBV (.slice xg T1.length cg)
            refine hK.out _ _ O2 (fun _ => ?_)
            clear hK K r0 rf0
            try simp only [Act.put, List.setIfInBounds_toArray, List.set_cons_zero, List.set_cons_succ]
            refine wpAnyH_done (by kernel_rfl) ?_ _
            have b4 := bN.set 0 (.slice xg T1.length cg)
            have hT2 := hT1.setFar (o := 0) (u := .slice xg T1.length cg) hI1 hsd
            go_wp2_with fail
            go_meet
            case rel => exact ⟨B, _, _, xg, cg, T1, rfl, O2, b4, hT2, hE1', hOS, hBV, hI1, hsd⟩
        case rest =>
          obtain ⟨w13, rfl⟩ : ∃ x : World, x = wc := ⟨_, rfl⟩
          obtain ⟨H, b1, i1, xh, ch, Th, rfl, O13, bH, hTh, hEh, -, -, -, -⟩ := hcut
          have rh : RdE w13 (.slice xh Th.length ch) D := hEh ▸ hTh.rd fun t ht => HBD.out _ (hEh ▸ entT_mem ht)
          replace bG := bG.keep O13
          replace rS := rS.keep O13
          replace OV := over_trans OV O13
          clear O13 bA11 bP11 hR11 hTh hEh
          have t0 := bH.c 0 rfl
          have s0 := (bW.keep OV).c 0 rfl
          go_wp2_with fail
          clear t0 s0
          refine (eqRb_same _ _ D _ rh (q3.keep OV)).mono ?_
          rintro e w14 ⟨rfl, hb⟩
          replace bG := bG.keep hb
          replace rS := rS.keep hb
          replace OV := over_step OV hb
          clear hb rh bH
          have g0 := bG.c 0 rfl
          go_wp2_with fail
          clear g0
          refine (hdRb_is _ (entT S) WW _ rS HMK.out hWs).mono ?_
          rintro e w15 ⟨rfl, hb⟩
          rw [← HM.out]
          replace OV := over_step OV hb
          clear hb
          go_wp2
          go_ret
          exact ⟨rfl, below_step B0 OV⟩

set_option maxRecDepth 100000 in
theorem lifted (os : Os) (started : os.Started) (H : Type) (enc : TypeId × Value → H) :
    ReturnsInHanded {} Try.checked os 6 .any (Rows.fnExactRibDropSpec.pre6 enc Try.prog Try.f6 Rows.fnExactRibDropRow.domain false) (Rows.fnExactRibDropSpec.post enc Try.prog Try.f6 false true false false) := by
  refine returnsInHanded_of_change (C := Try.checked) own started (by kernel_rfl) Try.func6
    (ChangeSpec.witness6 (enc := enc) (C := Try.checked) false ⟨#[], #[.agg #[.slice none 0 0], .agg #[.int .i64 0, .int .i64 0], .int .i64 0], []⟩ 8 (by kernel_rfl) (by kernel_rfl) (by kernel_rfl) (by kernel_rfl)) ?_
  intro W base args ds gs before hval0 hW hcnd _
  have hval : ∀ (j : Nat) t v, Try.f6.params[j]? = some t → args[j]? = some v → Value.okWide Try.prog W .any base t v := hval0
  have hW' := hW
  obtain ⟨p, q, hA0, hV, rfl, hfz, hnd⟩ := hW
  have hA : DataW.TrodAll enc Try.prog W 0 (fun _ => true) true Try.f6.params.toList args.toList ds p := hA0
  rw [Try.params6] at hA hval
  obtain ⟨v0, vs0, d0, ds0, p0, q0, hargs, rfl, rfl, h0, r0⟩ := trodAll_cons hA
  obtain ⟨v1, vs1, d1, ds1, p1, q1, rfl, rfl, rfl, h1, r1⟩ := trodAll_cons r0
  obtain ⟨v2, vs2, d2, ds2, p2, q2, rfl, rfl, rfl, h2, r2⟩ := trodAll_cons r1
  obtain ⟨rfl, rfl, rfl⟩ := trodAll_nil r2
  obtain rfl : args = #[v0, v1, v2] := by cases args; simp_all
  obtain ⟨rfl, rfl⟩ := trodVars_none hV
  have lt0 : ∀ x ∈ p0, x.block < W.heap.size := by obtain ⟨m, hm⟩ := h0; exact DataW.trod_lt m _ _ _ hm
  have w0 := is_Rib (hval 0 24 v0 rfl rfl) h0
  have lt1 : ∀ x ∈ p1, x.block < W.heap.size := by obtain ⟨m, hm⟩ := h1; exact DataW.trod_lt m _ _ _ hm
  have w1 := is_Prefix (hval 1 26 v1 rfl rfl) h1
  have lt2 : ∀ x ∈ p2, x.block < W.heap.size := by obtain ⟨m, hm⟩ := h2; exact DataW.trod_lt m _ _ _ hm
  have w2 := is_int (hval 2 3 v2 rfl rfl) h2
  clear hA0 hval0 hval
  refine (walk W v0 v1 v2 w0 w1 w2).mono fun e W' ⟨he, bel⟩ => ?_
  subst he
  exact ⟨_, rfl, _, _, _, [], _, [], hW', trodAll_mk1 (shut_bool Try.underlying4 _), (trodAll_cons_mk (Below.trod laidOut (by kernel_rfl) (of_decide_eq_true (by kernel_rfl)) h0 bel lt0) (trodAll_cons_mk (Below.trod laidOut (by kernel_rfl) (of_decide_eq_true (by kernel_rfl)) h1 bel lt1) (trodAll_cons_mk (Below.trod laidOut (by kernel_rfl) (of_decide_eq_true (by kernel_rfl)) h2 bel lt2) trodAll_mk0))), rfl, bel.frame _, fun h => by cases h⟩

theorem over : Rows.fnExactRibDropRow.holds Try.pinned (OpenSpec.ofChange Rows.fnExactRibDropSpec) :=
  OpenClaim.holds_of_wide 6 Try.f6 rfl rfl rfl rfl rfl rfl rfl ⟨rfl, rfl, rfl, rfl, rfl⟩ rfl rfl rfl rfl rfl (by kernel_rfl) Try.func6 (by kernel_rfl)
    (of_decide_eq_true (by kernel_rfl)) (by unfold Func.isWrapper; first | (rw [if_pos (by decide +kernel)]; kernel_rfl) | (rw [if_neg (by decide +kernel)]; exact ⟨rfl, rfl⟩))
    (fun os started H enc _ => lifted os started H enc)

theorem proved : Rows.FnExactRibDropSaid := over
end Go.Proofs.Ytbmjicdnphfgaaa.fnExactRibDrop
