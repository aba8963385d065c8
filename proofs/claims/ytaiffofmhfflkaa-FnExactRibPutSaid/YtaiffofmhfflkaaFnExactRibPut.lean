/-
  The law 'FnExactRibPut' returns true for every input, and its arguments read afterwards as before: the given statement 'Rows.FnExactRibPutSaid'. No condition.
-/
import Derived.Test.YtaiffofmhfflkaaO1
import Derived.Test.YtaiffofmhfflkaaPK
namespace Go.Proofs.Ytaiffofmhfflkaa.fnExactRibPut
open Go.ChangeShapes Go.WideShapes Go.ChangeAt Go.RowKit Go.Proofs.Ytaiffofmhfflkaa
set_option linter.unusedVariables false
set_option maxRecDepth 100000
set_option linter.unusedSimpArgs false
set_option maxHeartbeats 8000000 in
theorem walk (W : World) (v0 v1 : Value) (w0 : Is_Rib W v0) (w1 : Is_Entry W v1) :
    Calls Try.prog 4 #[v0, v1] W fun e w' => e = .returned (.bool true) ∧ Below W.heap.size W w' := by
  obtain ⟨u, L, rfl, hR⟩ := w0
  obtain ⟨Z, x3, x5, rfl, hZ1, hZ2⟩ := w1
  obtain ⟨va, vx, rfl⟩ := hZ1.len
  obtain ⟨uA, ux, rfl⟩ := hZ2.len
  have hZB : (∀ x ∈ Z.p, -9223372036854775808 ≤ x ∧ x ≤ 9223372036854775807) ∧ ∀ x ∈ Z.c, -9223372036854775808 ≤ x ∧ x ≤ 9223372036854775807 := ⟨hZ1.1, hZ2.1⟩
  have HZB := Lib.hid hZB
  clear hZB
  obtain ⟨bA, bP, B0, z⟩ := two W [u] [.int .i64 Z.a, .int .i64 Z.n, .int .i64 Z.pe, .slice va Z.p.length vx, .int .i64 Z.pr, .slice uA Z.c.length ux, .int .i64 Z.bw] 25 45
  replace hR := hR.keep B0
  replace hZ1 := hZ1.keep B0
  replace hZ2 := hZ2.keep B0
  clear z
  obtain ⟨x, c, hv⟩ := hR.len
  rw [hv] at hR bA bP B0 hZ1 hZ2 ⊢
  clear hv
  obtain ⟨AA, hAA⟩ : ∃ A, A = W.heap.size := ⟨_, rfl⟩
  obtain ⟨PP, hPP⟩ : ∃ A, A = W.heap.size + 1 := ⟨_, rfl⟩
  rw [← hAA] at bA
  rw [← hPP] at bP
  go_enter Try.func4, Try.ntmps4
  go_wp2_with fail
  rw [← hPP]
  try rw [← hAA]
  clear hAA hPP
  refine (szRb_l _ L 1048576 _ hR (by omega) (by omega)).mono ?_
  rintro e w1 ⟨r, rfl, hsz, hb⟩
  replace bA := bA.keep hb
  replace bP := bP.keep hb
  replace hR := hR.keep hb
  replace hZ1 := hZ1.keep hb
  replace hZ2 := hZ2.keep hb
  replace B0 := below_step B0 hb
  clear hb
  have HSZ := Lib.hid hsz
  clear hsz
  by_cases hneg : r < 0
  · go_wp2_with fail
    go_ret
    exact ⟨rfl, B0⟩
  · have hr1 := HSZ.out hneg
    obtain ⟨s, hs⟩ : ∃ s, szA r Z.p Z.c = s := ⟨_, rfl⟩
    have HS := Lib.hid hs
    have HR1 := Lib.hid hr1
    clear hs hr1
    have a0 := bP.c 0 rfl
    have a1 := bP.c 1 rfl
    have a2 := bP.c 2 rfl
    have a3 := bP.c 3 rfl
    have a4 := bP.c 4 rfl
    have a5 := bP.c 5 rfl
    have a6 := bP.c 6 rfl
    go_wp2_with fail
    clear a0 a1 a2 a3 a4 a5 a6
    refine (szEnt_any _ _ Z.p Z.c _ _ _ _ _ r _ hZ1 hZ2 (by omega) (by have := HR1.out; omega)).mono ?_
    rw [HS.out]
    rintro e w2 ⟨rfl, hb⟩
    replace bA := bA.keep hb
    replace bP := bP.keep hb
    replace hR := hR.keep hb
    replace hZ1 := hZ1.keep hb
    replace hZ2 := hZ2.keep hb
    replace B0 := below_step B0 hb
    clear hb
    by_cases hneg2 : s < 0
    · go_wp2_with fail
      go_ret
      exact ⟨rfl, B0⟩
    · have hzz : Z.p.length + Z.c.length ≤ 1048576 ∧ L.length + wtE L ≤ 1048576 := by
        have q := szA_eq (left := r) (p := Z.p) (c := Z.c) (by rw [HS.out]; exact hneg2)
        rw [HS.out] at q
        have q2 := HR1.out
        omega
      have hlen := hzz.2
      have hl1 : Z.p.length ≤ 1048576 := by omega
      have hl2 : Z.c.length ≤ 1048576 := by omega
      have HD := Lib.hid hR.bd
      have hn : L.length ≤ 1048576 := by omega
      have HLP := Lib.hid (lens_of hlen)
      obtain ⟨D, hD⟩ : ∃ D, D = (putA L Z).1 := ⟨_, rfl⟩
      obtain ⟨g, hg⟩ : ∃ g, g = (putA L Z).2 := ⟨_, rfl⟩
      have hdD : ∀ E ∈ D, BdE E := fun E hE => by
        rcases putA_sub (hD ▸ hE) with q | q
        · rw [q]; exact HZB.out
        · exact bd_mem HD.out q
      have hwD : (D.map wE).sum ≤ 8000000 := by rw [hD]; exact putA_w hlen hzz.1
      have HDD := Lib.hid (And.intro hD hg)
      have HBD := Lib.hid hdD
      have hgg : (g != g) = false := by simp
      clear hD hdD hg hzz HS HR1 HSZ
      obtain ⟨V0, rfl⟩ : ∃ V0 : World, V0 = w2 := ⟨_, rfl⟩
      go_wp2_with fail
      go_cut [6, 7] from 27 to 34 (fun s6 s7 wx => KeptTB V0 wx D g s6 s7)
      case first =>
        refine wp_region_held_drew (S := fun w' => Over V0 w') (by kernel_rfl) (over_drew V0) (fun hHeld => ?_)
        obtain ⟨u0, e0'⟩ : ∃ u, u = V0.drew := ⟨_, rfl⟩
        have O : Over V0 u0 := by rw [e0']; exact over_drew V0
        rw [← e0']
        clear e0' hHeld
        refine wpAnyH_take (i := 0) (v := ?_) rfl (by kernel_rfl) (by kernel_rfl) (by kernel_rfl) (fun _ _ _ h => h) (Or.inl ⟨by rfl, ?_⟩) O ?_
        rotate_left
        · intro wq hSq
          (try dsimp only at hSq)
          have q0 := bA.o hSq 0 rfl
          go_simp
          try rfl
        change wpAnyH _ _ _ _ _ _ _ (Act.put _ (some 28) _) _
        simp only [Act.put, List.setIfInBounds_toArray, List.set_cons_succ, List.set_cons_zero]
        refine wpAnyH_take (i := 2) (v := ?_) rfl (by kernel_rfl) (by kernel_rfl) (by kernel_rfl) (fun _ _ _ h => h) (Or.inl ⟨by rfl, ?_⟩) O ?_
        rotate_left
        · intro wq hSq
          (try dsimp only at hSq)
          have q0 := bP.o hSq 0 rfl
          have q1 := bP.o hSq 1 rfl
          have q2 := bP.o hSq 2 rfl
          have q3 := bP.o hSq 3 rfl
          have q4 := bP.o hSq 4 rfl
          have q5 := bP.o hSq 5 rfl
          have q6 := bP.o hSq 6 rfl
          go_simp
          try rfl
        change wpAnyH _ _ _ _ _ _ _ (Act.put _ (some 30) _) _
        simp only [Act.put, List.setIfInBounds_toArray, List.set_cons_succ, List.set_cons_zero]
        refine wpAnyH_ready (rs := [1, 8]) (by kernel_rfl) (by simp) ?_
        refine (AllReadyH.cons rfl (fun K hK => ?_) (AllReadyH.cons rfl (fun K hK => ?_) AllReadyH.nil))
        · go_simp
          refine (toRb_any _ L _ (hR.keep O) hlen).mono ?_
          rintro e u0c ⟨uu, rfl, hE1, hb⟩
          have O := over_step O hb
          replace hE1 := hE1.rd HD.out hn
          obtain ⟨xx, cc, rfl⟩ := hE1.len
          clear hb
          refine hK.out _ _ O (fun _ => ?_)
          clear hK K
          try simp only [Act.put, List.setIfInBounds_toArray, List.set_cons_zero, List.set_cons_succ]
          refine wpAnyH_ready (rs := [3, 8]) (by kernel_rfl) (by simp) ?_
          refine (AllReadyH.cons rfl (fun K hK => ?_) (AllReadyH.cons rfl (fun K hK => ?_) AllReadyH.nil))
          · go_simp
            refine (toEnt_any _ _ Z.p Z.c _ _ _ _ _ _ (hZ1.keep O) (hZ2.keep O) hl1 hl2).mono ?_
            rintro e u0cc ⟨pa1, px1, ma1, mx1, rfl, o1, o2, ap1, hb⟩
            replace hE1 := hE1.keep hb
            have O := over_step O hb
            have z1 := o1.rd HZB.out.1
            have z2 := o2.rd HZB.out.2
            clear o1 o2 ap1
            clear hb
            refine hK.out _ _ O (fun _ => ?_)
            clear hK K
            try simp only [Act.put, List.setIfInBounds_toArray, List.set_cons_zero, List.set_cons_succ]
            refine wpAnyH_ready (rs := [4, 8]) (by kernel_rfl) (by simp) ?_
            refine (AllReadyH.cons rfl (fun K hK => ?_) (AllReadyH.cons rfl (fun K hK => ?_) AllReadyH.nil))
            · go_simp
              refine (srp6_t _ HDD hE1 z1 z2 HLP.out hl1 hl2).mono ?_
              rintro e u0ccc ⟨ug, T1, rfl, hT1, hE1', hb⟩
              obtain ⟨xg, cg, rfl⟩ := hT1.lenV
              have hOS := O.size
              have hI1 := hT1.inH
              replace hE1 := hE1.keep hb
              replace z1 := z1.keep hb
              replace z2 := z2.keep hb
              have O := over_step O hb
              clear hb
              refine hK.out _ _ O (fun _ => ?_)
              clear hK K
              try simp only [Act.put, List.setIfInBounds_toArray, List.set_cons_zero, List.set_cons_succ]
              clear hE1 z1 z2
              refine wpAnyH_take (i := 5) (v := ?_) rfl (by kernel_rfl) (by kernel_rfl) (by kernel_rfl) (fun _ _ _ h => h) (Or.inl ⟨by rfl, ?_⟩) O ?_
              rotate_left
              · intro wq hSq
                (try dsimp only at hSq)

                go_simp
                try rfl
              change wpAnyH _ _ _ _ _ _ _ (Act.put _ (some 27) _) _
              simp only [Act.put, List.setIfInBounds_toArray, List.set_cons_succ, List.set_cons_zero]
              refine wpAnyH_take (i := 6) (v := ?_) rfl (by kernel_rfl) (by kernel_rfl) (by kernel_rfl) (fun _ _ _ h => h) (Or.inl ⟨by rfl, ?_⟩) O ?_
              rotate_left
              · intro wq hSq
                (try dsimp only at hSq)

                go_simp
                try rfl
              change wpAnyH _ _ _ _ _ _ _ (Act.put _ (some 33) _) _
              simp only [Act.put, List.setIfInBounds_toArray, List.set_cons_succ, List.set_cons_zero]
              refine wpAnyH_take (i := 7) (v := ?_) rfl (by kernel_rfl) (by kernel_rfl) (by kernel_rfl) (fun _ _ _ h => h) (Or.inl ⟨by rfl, ?_⟩) O ?_
              rotate_left
              · intro wq hSq
                (try dsimp only at hSq)

                go_simp
                try rfl
              change wpAnyH _ _ _ _ _ _ _ (Act.put _ (some 34) _) _
              simp only [Act.put, List.setIfInBounds_toArray, List.set_cons_succ, List.set_cons_zero]
              refine wpAnyH_ready (rs := [8]) (by kernel_rfl) (by simp) ?_
              refine (AllReadyH.cons rfl (fun K hK => ?_) AllReadyH.nil)
              go_simp
              have hOs := O.size
              obtain ⟨bN, hb, z⟩ := one u0ccc [.slice none 0 0] 33
              have O := over_step O hb
              replace hT1 := hT1.keep hb
              clear z hb
              refine hK.out _ _ O (fun _ => ?_)
              clear hK K
              try simp only [Act.put, List.setIfInBounds_toArray, List.set_cons_zero, List.set_cons_succ]
              obtain ⟨B, eB⟩ : ∃ B, B = u0ccc.heap.size := ⟨_, rfl⟩
              have hBV : V0.heap.size ≤ B := by rw [eB]; exact hOs
              have hsd : B < u0cc.heap.size ∨ u0ccc.heap.size ≤ B := Or.inr (Nat.le_of_eq eB.symm)
              obtain ⟨u0ccca, eW⟩ : ∃ u, u = u0ccc.alloc (.cells #[.slice none 0 0] 33) := ⟨_, rfl⟩
              rw [← eW] at bN O hT1 ⊢
              rw [← eB] at bN ⊢
              clear eW eB hOs
              have r0 := bN.c 0 rfl
              have rf0 := bN.f 0 rfl
              refine wpAnyH_ready (rs := [9]) (by kernel_rfl) (by simp) ?_
              refine (AllReadyH.cons rfl (fun K hK => ?_) AllReadyH.nil)
              go_simp
              have O2 : Over V0 _ := Below.setCell O (p := ⟨B, 0, none⟩) hBV (.slice xg T1.length cg)
              refine hK.out _ _ O2 (fun _ => ?_)
              clear hK K r0 rf0
              try simp only [Act.put, List.setIfInBounds_toArray, List.set_cons_zero, List.set_cons_succ]
              refine wpAnyH_ready (rs := [10]) (by kernel_rfl) (by simp) ?_
              refine (AllReadyH.cons rfl (fun K hK => ?_) AllReadyH.nil)
              go_simp
              refine hK.out _ _ O2 (fun _ => ?_)
              clear hK K
              try simp only [Act.put, List.setIfInBounds_toArray, List.set_cons_zero, List.set_cons_succ]
              refine wpAnyH_done (by kernel_rfl) ?_ _
              have b4 := bN.set 0 (.slice xg T1.length cg)
              have hT2 := hT1.setFar (o := 0) (u := .slice xg T1.length cg) hI1 hsd
              go_wp2_with fail
              go_meet
              case rel => exact ⟨⟨B, _, _, xg, cg, T1, rfl, O2, b4, hT2, hE1', hOS, hBV, hI1, hsd⟩, rfl⟩
            · go_simp
              have hOs := O.size
              obtain ⟨bN, hb, z⟩ := one u0cc [.slice none 0 0] 33
              have O := over_step O hb
              replace hE1 := hE1.keep hb
              replace z1 := z1.keep hb
              replace z2 := z2.keep hb
              clear z hb
              refine hK.out _ _ O (fun _ => ?_)
              clear hK K
              try simp only [Act.put, List.setIfInBounds_toArray, List.set_cons_zero, List.set_cons_succ]
              obtain ⟨B, eB⟩ : ∃ B, B = u0cc.heap.size := ⟨_, rfl⟩
              have hBV : V0.heap.size ≤ B := by rw [eB]; exact hOs
              obtain ⟨u0cca, eW⟩ : ∃ u, u = u0cc.alloc (.cells #[.slice none 0 0] 33) := ⟨_, rfl⟩
              rw [← eW] at bN O hE1 z1 z2 ⊢
              rw [← eB] at bN ⊢
              clear eW eB hOs
              refine wpAnyH_ready (rs := [4]) (by kernel_rfl) (by simp) ?_
              refine (AllReadyH.cons rfl (fun K hK => ?_) AllReadyH.nil)
              go_simp
              refine (srp6_t _ HDD hE1 z1 z2 HLP.out hl1 hl2).mono ?_
              rintro e u0ccac ⟨ug, T1, rfl, hT1, hE1', hb⟩
              obtain ⟨xg, cg, rfl⟩ := hT1.lenV
              have hOS := O.size
              have hI1 := hT1.inH
              have hsd := (Or.inl bN.lt : B < u0cca.heap.size ∨ u0ccac.heap.size ≤ B)
              replace hE1 := hE1.keep hb
              replace z1 := z1.keep hb
              replace z2 := z2.keep hb
              replace bN := bN.keep hb
              have O := over_step O hb
              clear hb
              refine hK.out _ _ O (fun _ => ?_)
              clear hK K
              try simp only [Act.put, List.setIfInBounds_toArray, List.set_cons_zero, List.set_cons_succ]
              clear hE1 z1 z2
              refine wpAnyH_take (i := 5) (v := ?_) rfl (by kernel_rfl) (by kernel_rfl) (by kernel_rfl) (fun _ _ _ h => h) (Or.inl ⟨by rfl, ?_⟩) O ?_
              rotate_left
              · intro wq hSq
                (try dsimp only at hSq)

                go_simp
                try rfl
              change wpAnyH _ _ _ _ _ _ _ (Act.put _ (some 27) _) _
              simp only [Act.put, List.setIfInBounds_toArray, List.set_cons_succ, List.set_cons_zero]
              refine wpAnyH_take (i := 6) (v := ?_) rfl (by kernel_rfl) (by kernel_rfl) (by kernel_rfl) (fun _ _ _ h => h) (Or.inl ⟨by rfl, ?_⟩) O ?_
              rotate_left
              · intro wq hSq
                (try dsimp only at hSq)

                go_simp
                try rfl
              change wpAnyH _ _ _ _ _ _ _ (Act.put _ (some 33) _) _
              simp only [Act.put, List.setIfInBounds_toArray, List.set_cons_succ, List.set_cons_zero]
              refine wpAnyH_take (i := 7) (v := ?_) rfl (by kernel_rfl) (by kernel_rfl) (by kernel_rfl) (fun _ _ _ h => h) (Or.inl ⟨by rfl, ?_⟩) O ?_
              rotate_left
              · intro wq hSq
                (try dsimp only at hSq)

                go_simp
                try rfl
              change wpAnyH _ _ _ _ _ _ _ (Act.put _ (some 34) _) _
              simp only [Act.put, List.setIfInBounds_toArray, List.set_cons_succ, List.set_cons_zero]
              have r0 := bN.c 0 rfl
              have rf0 := bN.f 0 rfl
              refine wpAnyH_ready (rs := [9]) (by kernel_rfl) (by simp) ?_
              refine (AllReadyH.cons rfl (fun K hK => ?_) AllReadyH.nil)
              go_simp
              have O2 : Over V0 _ := Below.setCell O (p := ⟨B, 0, none⟩) hBV (.slice xg T1.length cg)
              refine hK.out _ _ O2 (fun _ => ?_)
              clear hK K r0 rf0
              try simp only [Act.put, List.setIfInBounds_toArray, List.set_cons_zero, List.set_cons_succ]
              refine wpAnyH_ready (rs := [10]) (by kernel_rfl) (by simp) ?_
              refine (AllReadyH.cons rfl (fun K hK => ?_) AllReadyH.nil)
              go_simp
              refine hK.out _ _ O2 (fun _ => ?_)
              clear hK K
              try simp only [Act.put, List.setIfInBounds_toArray, List.set_cons_zero, List.set_cons_succ]
              refine wpAnyH_done (by kernel_rfl) ?_ _
              have b4 := bN.set 0 (.slice xg T1.length cg)
              have hT2 := hT1.setFar (o := 0) (u := .slice xg T1.length cg) hI1 hsd
              go_wp2_with fail
              go_meet
              case rel => exact ⟨⟨B, _, _, xg, cg, T1, rfl, O2, b4, hT2, hE1', hOS, hBV, hI1, hsd⟩, rfl⟩
          · go_simp
            have hOs := O.size
            obtain ⟨bN, hb, z⟩ := one u0c [.slice none 0 0] 33
            have O := over_step O hb
            replace hE1 := hE1.keep hb
            clear z hb
            refine hK.out _ _ O (fun _ => ?_)
            clear hK K
            try simp only [Act.put, List.setIfInBounds_toArray, List.set_cons_zero, List.set_cons_succ]
            obtain ⟨B, eB⟩ : ∃ B, B = u0c.heap.size := ⟨_, rfl⟩
            have hBV : V0.heap.size ≤ B := by rw [eB]; exact hOs
            obtain ⟨u0ca, eW⟩ : ∃ u, u = u0c.alloc (.cells #[.slice none 0 0] 33) := ⟨_, rfl⟩
            rw [← eW] at bN O hE1 ⊢
            rw [← eB] at bN ⊢
            clear eW eB hOs
            refine wpAnyH_ready (rs := [3]) (by kernel_rfl) (by simp) ?_
            refine (AllReadyH.cons rfl (fun K hK => ?_) AllReadyH.nil)
            go_simp
            refine (toEnt_any _ _ Z.p Z.c _ _ _ _ _ _ (hZ1.keep O) (hZ2.keep O) hl1 hl2).mono ?_
            rintro e u0cac ⟨pa1, px1, ma1, mx1, rfl, o1, o2, ap1, hb⟩
            replace hE1 := hE1.keep hb
            replace bN := bN.keep hb
            have O := over_step O hb
            have z1 := o1.rd HZB.out.1
            have z2 := o2.rd HZB.out.2
            clear o1 o2 ap1
            clear hb
            refine hK.out _ _ O (fun _ => ?_)
            clear hK K
            try simp only [Act.put, List.setIfInBounds_toArray, List.set_cons_zero, List.set_cons_succ]
            refine wpAnyH_ready (rs := [4]) (by kernel_rfl) (by simp) ?_
            refine (AllReadyH.cons rfl (fun K hK => ?_) AllReadyH.nil)
            go_simp
            refine (srp6_t _ HDD hE1 z1 z2 HLP.out hl1 hl2).mono ?_
            rintro e u0cacc ⟨ug, T1, rfl, hT1, hE1', hb⟩
            obtain ⟨xg, cg, rfl⟩ := hT1.lenV
            have hOS := O.size
            have hI1 := hT1.inH
            have hsd := (Or.inl bN.lt : B < u0cac.heap.size ∨ u0cacc.heap.size ≤ B)
            replace hE1 := hE1.keep hb
            replace bN := bN.keep hb
            replace z1 := z1.keep hb
            replace z2 := z2.keep hb
            have O := over_step O hb
            clear hb
            refine hK.out _ _ O (fun _ => ?_)
            clear hK K
            try simp only [Act.put, List.setIfInBounds_toArray, List.set_cons_zero, List.set_cons_succ]
            clear hE1 z1 z2
            refine wpAnyH_take (i := 5) (v := ?_) rfl (by kernel_rfl) (by kernel_rfl) (by kernel_rfl) (fun _ _ _ h => h) (Or.inl ⟨by rfl, ?_⟩) O ?_
            rotate_left
            · intro wq hSq
              (try dsimp only at hSq)

              go_simp
              try rfl
            change wpAnyH _ _ _ _ _ _ _ (Act.put _ (some 27) _) _
            simp only [Act.put, List.setIfInBounds_toArray, List.set_cons_succ, List.set_cons_zero]
            refine wpAnyH_take (i := 6) (v := ?_) rfl (by kernel_rfl) (by kernel_rfl) (by kernel_rfl) (fun _ _ _ h => h) (Or.inl ⟨by rfl, ?_⟩) O ?_
            rotate_left
            · intro wq hSq
              (try dsimp only at hSq)

              go_simp
              try rfl
            change wpAnyH _ _ _ _ _ _ _ (Act.put _ (some 33) _) _
            simp only [Act.put, List.setIfInBounds_toArray, List.set_cons_succ, List.set_cons_zero]
            refine wpAnyH_take (i := 7) (v := ?_) rfl (by kernel_rfl) (by kernel_rfl) (by kernel_rfl) (fun _ _ _ h => h) (Or.inl ⟨by rfl, ?_⟩) O ?_
            rotate_left
            · intro wq hSq
              (try dsimp only at hSq)

              go_simp
              try rfl
            change wpAnyH _ _ _ _ _ _ _ (Act.put _ (some 34) _) _
            simp only [Act.put, List.setIfInBounds_toArray, List.set_cons_succ, List.set_cons_zero]
            have r0 := bN.c 0 rfl
            have rf0 := bN.f 0 rfl
            refine wpAnyH_ready (rs := [9]) (by kernel_rfl) (by simp) ?_
            refine (AllReadyH.cons rfl (fun K hK => ?_) AllReadyH.nil)
            go_simp
            have O2 : Over V0 _ := Below.setCell O (p := ⟨B, 0, none⟩) hBV (.slice xg T1.length cg)
            refine hK.out _ _ O2 (fun _ => ?_)
            clear hK K r0 rf0
            try simp only [Act.put, List.setIfInBounds_toArray, List.set_cons_zero, List.set_cons_succ]
            refine wpAnyH_ready (rs := [10]) (by kernel_rfl) (by simp) ?_
            refine (AllReadyH.cons rfl (fun K hK => ?_) AllReadyH.nil)
            go_simp
            refine hK.out _ _ O2 (fun _ => ?_)
            clear hK K
            try simp only [Act.put, List.setIfInBounds_toArray, List.set_cons_zero, List.set_cons_succ]
            refine wpAnyH_done (by kernel_rfl) ?_ _
            have b4 := bN.set 0 (.slice xg T1.length cg)
            have hT2 := hT1.setFar (o := 0) (u := .slice xg T1.length cg) hI1 hsd
            go_wp2_with fail
            go_meet
            case rel => exact ⟨⟨B, _, _, xg, cg, T1, rfl, O2, b4, hT2, hE1', hOS, hBV, hI1, hsd⟩, rfl⟩
        · go_simp
          have hOs := O.size
          obtain ⟨bN, hb, z⟩ := one u0 [.slice none 0 0] 33
          have O := over_step O hb
          clear z hb
          refine hK.out _ _ O (fun _ => ?_)
          clear hK K
          try simp only [Act.put, List.setIfInBounds_toArray, List.set_cons_zero, List.set_cons_succ]
          obtain ⟨B, eB⟩ : ∃ B, B = u0.heap.size := ⟨_, rfl⟩
          have hBV : V0.heap.size ≤ B := by rw [eB]; exact hOs
          obtain ⟨u0a, eW⟩ : ∃ u, u = u0.alloc (.cells #[.slice none 0 0] 33) := ⟨_, rfl⟩
          rw [← eW] at bN O  ⊢
          rw [← eB] at bN ⊢
          clear eW eB hOs
          refine wpAnyH_ready (rs := [1]) (by kernel_rfl) (by simp) ?_
          refine (AllReadyH.cons rfl (fun K hK => ?_) AllReadyH.nil)
          go_simp
          refine (toRb_any _ L _ (hR.keep O) hlen).mono ?_
          rintro e u0ac ⟨uu, rfl, hE1, hb⟩
          replace bN := bN.keep hb
          have O := over_step O hb
          replace hE1 := hE1.rd HD.out hn
          obtain ⟨xx, cc, rfl⟩ := hE1.len
          clear hb
          refine hK.out _ _ O (fun _ => ?_)
          clear hK K
          try simp only [Act.put, List.setIfInBounds_toArray, List.set_cons_zero, List.set_cons_succ]
          refine wpAnyH_ready (rs := [3]) (by kernel_rfl) (by simp) ?_
          refine (AllReadyH.cons rfl (fun K hK => ?_) AllReadyH.nil)
          go_simp
          refine (toEnt_any _ _ Z.p Z.c _ _ _ _ _ _ (hZ1.keep O) (hZ2.keep O) hl1 hl2).mono ?_
          rintro e u0acc ⟨pa1, px1, ma1, mx1, rfl, o1, o2, ap1, hb⟩
          replace bN := bN.keep hb
          replace hE1 := hE1.keep hb
          have O := over_step O hb
          have z1 := o1.rd HZB.out.1
          have z2 := o2.rd HZB.out.2
          clear o1 o2 ap1
          clear hb
          refine hK.out _ _ O (fun _ => ?_)
          clear hK K
          try simp only [Act.put, List.setIfInBounds_toArray, List.set_cons_zero, List.set_cons_succ]
          refine wpAnyH_ready (rs := [4]) (by kernel_rfl) (by simp) ?_
          refine (AllReadyH.cons rfl (fun K hK => ?_) AllReadyH.nil)
          go_simp
          refine (srp6_t _ HDD hE1 z1 z2 HLP.out hl1 hl2).mono ?_
          rintro e u0accc ⟨ug, T1, rfl, hT1, hE1', hb⟩
          obtain ⟨xg, cg, rfl⟩ := hT1.lenV
          have hOS := O.size
          have hI1 := hT1.inH
          have hsd := (Or.inl bN.lt : B < u0acc.heap.size ∨ u0accc.heap.size ≤ B)
          replace bN := bN.keep hb
          replace hE1 := hE1.keep hb
          replace z1 := z1.keep hb
          replace z2 := z2.keep hb
          have O := over_step O hb
          clear hb
          refine hK.out _ _ O (fun _ => ?_)
          clear hK K
          try simp only [Act.put, List.setIfInBounds_toArray, List.set_cons_zero, List.set_cons_succ]
          clear hE1 z1 z2
          refine wpAnyH_take (i := 5) (v := ?_) rfl (by kernel_rfl) (by kernel_rfl) (by kernel_rfl) (fun _ _ _ h => h) (Or.inl ⟨by rfl, ?_⟩) O ?_
          rotate_left
          · intro wq hSq
            (try dsimp only at hSq)

            go_simp
            try rfl
          change wpAnyH _ _ _ _ _ _ _ (Act.put _ (some 27) _) _
          simp only [Act.put, List.setIfInBounds_toArray, List.set_cons_succ, List.set_cons_zero]
          refine wpAnyH_take (i := 6) (v := ?_) rfl (by kernel_rfl) (by kernel_rfl) (by kernel_rfl) (fun _ _ _ h => h) (Or.inl ⟨by rfl, ?_⟩) O ?_
          rotate_left
          · intro wq hSq
            (try dsimp only at hSq)

            go_simp
            try rfl
          change wpAnyH _ _ _ _ _ _ _ (Act.put _ (some 33) _) _
          simp only [Act.put, List.setIfInBounds_toArray, List.set_cons_succ, List.set_cons_zero]
          refine wpAnyH_take (i := 7) (v := ?_) rfl (by kernel_rfl) (by kernel_rfl) (by kernel_rfl) (fun _ _ _ h => h) (Or.inl ⟨by rfl, ?_⟩) O ?_
          rotate_left
          · intro wq hSq
            (try dsimp only at hSq)

            go_simp
            try rfl
          change wpAnyH _ _ _ _ _ _ _ (Act.put _ (some 34) _) _
          simp only [Act.put, List.setIfInBounds_toArray, List.set_cons_succ, List.set_cons_zero]
          have r0 := bN.c 0 rfl
          have rf0 := bN.f 0 rfl
          refine wpAnyH_ready (rs := [9]) (by kernel_rfl) (by simp) ?_
          refine (AllReadyH.cons rfl (fun K hK => ?_) AllReadyH.nil)
          go_simp
          have O2 : Over V0 _ := Below.setCell O (p := ⟨B, 0, none⟩) hBV (.slice xg T1.length cg)
          refine hK.out _ _ O2 (fun _ => ?_)
          clear hK K r0 rf0
          try simp only [Act.put, List.setIfInBounds_toArray, List.set_cons_zero, List.set_cons_succ]
          refine wpAnyH_ready (rs := [10]) (by kernel_rfl) (by simp) ?_
          refine (AllReadyH.cons rfl (fun K hK => ?_) AllReadyH.nil)
          go_simp
          refine hK.out _ _ O2 (fun _ => ?_)
          clear hK K
          try simp only [Act.put, List.setIfInBounds_toArray, List.set_cons_zero, List.set_cons_succ]
          refine wpAnyH_done (by kernel_rfl) ?_ _
          have b4 := bN.set 0 (.slice xg T1.length cg)
          have hT2 := hT1.setFar (o := 0) (u := .slice xg T1.length cg) hI1 hsd
          go_wp2_with fail
          go_meet
          case rel => exact ⟨⟨B, _, _, xg, cg, T1, rfl, O2, b4, hT2, hE1', hOS, hBV, hI1, hsd⟩, rfl⟩
      case rest =>
        obtain ⟨V, rfl⟩ : ∃ x : World, x = wc := ⟨_, rfl⟩
        obtain ⟨⟨WB, b0, i0, xs, cs, T0, rfl, O8, bW, hT0, hE0, -, -, -, -⟩, rfl⟩ := hcut
        have q3 : RdE V (.slice xs T0.length cs) D := hE0 ▸ hT0.rd fun t ht => HBD.out _ (hE0 ▸ entT_mem ht)
        replace bA := bA.keep O8
        replace bP := bP.keep O8
        replace hR := hR.keep O8
        replace hZ1 := hZ1.keep O8
        replace hZ2 := hZ2.keep O8
        replace B0 := below_step B0 O8
        clear hE0 hT0 O8
        have a0 := bA.c 0 rfl
        go_wp2_with fail
        clear a0
        refine (toRb_any _ L _ hR hlen).mono ?_
        rintro e w4 ⟨u4, rfl, h4, hb⟩
        have OV : Over V w4 := hb
        have hV4 := hb.size
        clear hb
        have r4 := h4.rd HD.out hn
        have m4 := h4.mkR
        obtain ⟨x4, c4, rfl⟩ := r4.len
        obtain ⟨bX, N2, z⟩ := one w4 [.slice x4 L.length c4] 33
        have a0 := (bP.keep (over_step OV N2)).c 0 rfl
        have a1 := (bP.keep (over_step OV N2)).c 1 rfl
        have a2 := (bP.keep (over_step OV N2)).c 2 rfl
        have a3 := (bP.keep (over_step OV N2)).c 3 rfl
        have a4 := (bP.keep (over_step OV N2)).c 4 rfl
        have a5 := (bP.keep (over_step OV N2)).c 5 rfl
        have a6 := (bP.keep (over_step OV N2)).c 6 rfl
        go_wp2_with fail
        clear a0 a1 a2 a3 a4 a5 a6
        clear h4
        obtain ⟨X, eX⟩ : ∃ X, X = w4.heap.size := ⟨_, rfl⟩
        obtain ⟨W5, eW⟩ : ∃ W5, W5 = w4.alloc (.cells #[.slice x4 L.length c4] 33) := ⟨_, rfl⟩
        rw [← eX] at bX
        try rw [← eX]
        rw [← eW] at bX N2 z ⊢
        have h45 : w4.heap.size ≤ W5.heap.size := N2.size
        replace OV := over_step OV N2
        replace r4 := r4.keep N2
        replace m4 := m4.keep N2
        clear z eX eW N2
        refine (toEnt_any _ _ Z.p Z.c _ _ _ _ _ W5 (hZ1.keep OV) (hZ2.keep OV) hl1 hl2).mono ?_
        rintro e w5 ⟨pa, px, ma, mx, rfl, o1, o2, ap1, hb⟩
        have hy1 : ∀ k, (Value.slice pa Z.p.length px).ownBlock = some k → k < w5.heap.size := fun k hk => (World.ownsRow.lt o1 k hk).2
        have hy2 : ∀ k, (Value.slice ma Z.c.length mx).ownBlock = some k → k < w5.heap.size := fun k hk => (World.ownsRow.lt o2 k hk).2
        have HY := Lib.hid (And.intro hy1 hy2)
        have HAP := Lib.hid ap1
        clear hy1 hy2 ap1
        replace bX := bX.keep hb
        replace r4 := r4.keep hb
        replace m4 := m4.keep hb
        replace OV := over_step OV hb
        have h55 := hb.size
        clear hb
        obtain ⟨bY, N3, z⟩ := one w5 [.int .i64 Z.a, .int .i64 Z.n, .int .i64 Z.pe, .slice pa Z.p.length px, .int .i64 Z.pr, .slice ma Z.c.length mx, .int .i64 Z.bw] EI
        have y0 := (bY).c 0 rfl
        have y1 := (bY).c 1 rfl
        have y2 := (bY).c 2 rfl
        have y3 := (bY).c 3 rfl
        have y4 := (bY).c 4 rfl
        have y5 := (bY).c 5 rfl
        have y6 := (bY).c 6 rfl
        have x0 := (bX.keep N3).c 0 rfl
        go_wp2_with fail
        clear y0 y1 y2 y3 y4 y5 y6
        clear x0
        obtain ⟨Y, eY⟩ : ∃ Y, Y = w5.heap.size := ⟨_, rfl⟩
        obtain ⟨W6, eW⟩ : ∃ W6, W6 = w5.alloc (.cells #[.int .i64 Z.a, .int .i64 Z.n, .int .i64 Z.pe, .slice pa Z.p.length px, .int .i64 Z.pr, .slice ma Z.c.length mx, .int .i64 Z.bw] EI) := ⟨_, rfl⟩
        rw [← eY] at bY
        try rw [← eY]
        rw [← eW] at bY N3 z ⊢
        have h56 : w5.heap.size ≤ W6.heap.size := N3.size
        replace bX := bX.keep N3
        replace r4 := r4.keep N3
        replace m4 := m4.keep N3
        replace o1 := o1.keep N3
        replace o2 := o2.keep N3
        replace OV := over_step OV N3
        have hY5 : w5.heap.size ≤ Y := Nat.le_of_eq eY.symm
        clear z eY eW N3
        refine (irp6_t _ HDD r4 (o1.rd HZB.out.1) (o2.rd HZB.out.2) HLP.out hl1 hl2).mono ?_
        rintro e w7 ⟨ug, T, rfl, hT, hE, hb⟩
        obtain ⟨xg, cg, rfl⟩ := hT.lenV
        have HE := Lib.hid hE
        clear hE
        replace bX := bX.keep hb
        replace bY := bY.keep hb
        replace r4 := r4.keep hb
        replace m4 := m4.keep hb
        replace o1 := o1.keep hb
        replace o2 := o2.keep hb
        replace OV := over_step OV hb
        have hIn := hT.inH
        have h67 := hb.size
        clear hb
        obtain ⟨bG, N4, z⟩ := one w7 [.slice xg T.length cg] 33
        have x0 := bG.c 0 rfl
        have s0 := (bW.keep (over_step OV N4)).c 0 rfl
        go_wp2_with fail
        clear x0 s0 z
        obtain ⟨G, hG⟩ : ∃ G, G = w7.heap.size := ⟨_, rfl⟩
        obtain ⟨W8, hW8⟩ : ∃ W8, W8 = w7.alloc (.cells #[.slice xg T.length cg] 33) := ⟨_, rfl⟩
        rw [← hW8] at bG N4 ⊢
        rw [← hG] at bG hIn h67
        try rw [← hG]
        replace hT := hT.keep N4
        replace bX := bX.keep N4
        replace bY := bY.keep N4
        replace r4 := r4.keep N4
        replace m4 := m4.keep N4
        replace o1 := o1.keep N4
        replace o2 := o2.keep N4
        replace OV := over_step OV N4
        clear hW8 hG N4
        have rg : ∀ w' : World, OwnT w' W6.heap.size (.slice xg T.length cg) T → RdE w' (.slice xg T.length cg) D := fun w' h => HE.out ▸ h.rd fun t ht => HBD.out _ (HE.out ▸ entT_mem ht)
        have RG := Lib.hid rg
        clear rg
        refine (eqRb_same _ _ D _ (RG.out _ hT) (q3.keep OV)).mono ?_
        rintro e w9 ⟨rfl, hb⟩
        replace bX := bX.keep hb
        replace bY := bY.keep hb
        replace bG := bG.keep hb
        replace r4 := r4.keep hb
        replace m4 := m4.keep hb
        replace o1 := o1.keep hb
        replace o2 := o2.keep hb
        replace hT := hT.keep hb
        replace OV := over_step OV hb
        clear hb
        have bA6 := bA.keep OV
        have hR6 := hR.keep OV
        go_wp2_with fail
        go_region_held3 (fun w' => Over w9 w' ∧ w'.cell? ⟨AA, 0, none⟩ = some (.slice x L.length c) ∧ w'.cell? ⟨X, 0, none⟩ = some (.slice x4 L.length c4))
          ((first | exact ⟨over_drew _, bA6.c 0 rfl, bX.c 0 rfl⟩ | exact (fun o => ⟨o, bA6.o o 0 rfl, bX.o o 0 rfl⟩) (over_step (‹Over w9 _ ∧ _›).1 (by assumption))))
          ((first | (go_at_call 16; refine (toRb_any _ L _ (hR6.keep (‹Over w9 _ ∧ _›).1) hlen).mono ?_; rintro e wa ⟨ua, rfl, hxa, hba⟩) | (go_at_call 19; refine (eqRb_same _ _ L _ (r4.keep (‹Over w9 _ ∧ _›).1) (hxa.rd HD.out hn)).mono ?_; rintro e wb ⟨rfl, hbb⟩)))
        rename_i hH
        have hb : Over w9 wb := hH.1
        clear hbb hba hxa bA6 hR6 hH r4
        replace bX := bX.keep hb
        replace bY := bY.keep hb
        replace bG := bG.keep hb
        replace m4 := m4.keep hb
        replace o1 := o1.keep hb
        replace o2 := o2.keep hb
        replace hT := hT.keep hb
        replace OV := over_step OV hb
        clear hb
        obtain ⟨wD, rfl⟩ : ∃ x : World, x = wb := ⟨_, rfl⟩
        have bP6 := bP.keep OV
        have y1 := hZ1.keep OV
        have y2 := hZ2.keep OV
        have y3 := o1.rd HZB.out.1
        have y4 := o2.rd HZB.out.2
        go_wp2_with fail
        go_region_held3 (fun w' => Over wD w' ∧ w'.cell? ⟨PP, 0, none⟩ = some (.int .i64 Z.a) ∧ w'.cell? ⟨PP, 1, none⟩ = some (.int .i64 Z.n) ∧ w'.cell? ⟨PP, 2, none⟩ = some (.int .i64 Z.pe) ∧ w'.cell? ⟨PP, 3, none⟩ = some (.slice va Z.p.length vx) ∧ w'.cell? ⟨PP, 4, none⟩ = some (.int .i64 Z.pr) ∧ w'.cell? ⟨PP, 5, none⟩ = some (.slice uA Z.c.length ux) ∧ w'.cell? ⟨PP, 6, none⟩ = some (.int .i64 Z.bw) ∧ w'.cell? ⟨Y, 0, none⟩ = some (.int .i64 Z.a) ∧ w'.cell? ⟨Y, 1, none⟩ = some (.int .i64 Z.n) ∧ w'.cell? ⟨Y, 2, none⟩ = some (.int .i64 Z.pe) ∧ w'.cell? ⟨Y, 3, none⟩ = some (.slice pa Z.p.length px) ∧ w'.cell? ⟨Y, 4, none⟩ = some (.int .i64 Z.pr) ∧ w'.cell? ⟨Y, 5, none⟩ = some (.slice ma Z.c.length mx) ∧ w'.cell? ⟨Y, 6, none⟩ = some (.int .i64 Z.bw))
          ((first | exact ⟨over_drew _, bP6.c 0 rfl, bP6.c 1 rfl, bP6.c 2 rfl, bP6.c 3 rfl, bP6.c 4 rfl, bP6.c 5 rfl, bP6.c 6 rfl, bY.c 0 rfl, bY.c 1 rfl, bY.c 2 rfl, bY.c 3 rfl, bY.c 4 rfl, bY.c 5 rfl, bY.c 6 rfl⟩ | exact (fun o => ⟨o, bP6.o o 0 rfl, bP6.o o 1 rfl, bP6.o o 2 rfl, bP6.o o 3 rfl, bP6.o o 4 rfl, bP6.o o 5 rfl, bP6.o o 6 rfl, bY.o o 0 rfl, bY.o o 1 rfl, bY.o o 2 rfl, bY.o o 3 rfl, bY.o o 4 rfl, bY.o o 5 rfl, bY.o o 6 rfl⟩) (over_step (‹Over wD _ ∧ _›).1 (by assumption))))
          ((first | (go_at_call 17; refine (toEnt_any _ _ Z.p Z.c _ _ _ _ _ _ (y1.keep (‹Over wD _ ∧ _›).1) (y2.keep (‹Over wD _ ∧ _›).1) hl1 hl2).mono ?_; rintro e wa ⟨ja, jx, ka, kx, rfl, j1, j2, j3, hba⟩) | (go_at_call 20; refine (eqEnt_same _ _ _ _ Z.p Z.c _ _ _ _ _ _ (y3.keep (‹Over wD _ ∧ _›).1) (y4.keep (‹Over wD _ ∧ _›).1) (j1.rd HZB.out.1) (j2.rd HZB.out.2)).mono ?_; rintro e wb ⟨rfl, hbb⟩)))
        rename_i hH
        have hb : Over wD wb := hH.1
        clear hbb hba j1 j2 j3 bP6 y1 y2 y3 y4 hH
        replace bX := bX.keep hb
        replace bY := bY.keep hb
        replace bG := bG.keep hb
        replace m4 := m4.keep hb
        replace o1 := o1.keep hb
        replace o2 := o2.keep hb
        replace hT := hT.keep hb
        replace OV := over_step OV hb
        clear hb
        have x0 := bX.c 0 rfl
        go_wp2_with fail
        clear x0
        refine (markRb_k _ L 1 V.heap.size w4.heap.size _ m4 hlen (by omega) (by omega)).mono ?_
        rintro e w10 ⟨k8, rfl, hk8, hk9, hs⟩
        replace OV : Over V w10 := Below.trans OV (hs.below (Nat.le_refl _) OV.size)
        replace hT := hT.mid hs (.inl (by omega))
        replace bG := hs.bl bG (.inr (by omega))
        replace bY := hs.bl bY (.inr (by omega))
        replace o1 := o1.mid hs h45
        replace o2 := o2.mid hs h45
        clear hs m4 bX
        have y0 := (bY).c 0 rfl
        have y1 := (bY).c 1 rfl
        have y2 := (bY).c 2 rfl
        have y3 := (bY).c 3 rfl
        have y4 := (bY).c 4 rfl
        have y5 := (bY).c 5 rfl
        have y6 := (bY).c 6 rfl
        go_wp2_with fail
        clear y0 y1 y2 y3 y4 y5 y6
        refine (mkEn_mid Z _ _ k8 W5.heap.size w5.heap.size _ o1 o2 HAP.out HY.out.1 HY.out.2 hk8 (by omega)).mono ?_
        rintro e w11 ⟨rfl, hs⟩
        replace OV : Over V w11 := Below.trans OV (hs.below (by omega) OV.size)
        replace hT := hT.mid hs (.inl h56)
        replace bG := hs.bl bG (.inr (by omega))
        clear hs o1 o2 bY HY HAP
        have hk8n : ¬ k8 + (Z.p.length : Int) + (Z.c.length : Int) < 0 := by omega
        have g0 := bG.c 0 rfl
        have s0 := (bW.keep OV).c 0 rfl
        go_wp2_with fail
        clear g0 s0
        refine (eqRb_same _ _ D _ (RG.out _ hT) (q3.keep OV)).mono ?_
        rintro e w12 ⟨rfl, hb⟩
        replace bG := bG.keep hb
        replace hT := hT.keep hb
        replace OV := over_step OV hb
        clear hb
        obtain ⟨WW, hWW⟩ : ∃ WW, WW = (entT T).map wE := ⟨_, rfl⟩
        have hWs : WW.sum ≤ 8000000 := by rw [hWW, HE.out]; exact hwD
        have HWW := Lib.hid hWW.symm
        clear hWW
        have g0 := bG.c 0 rfl
        go_wp2_with fail
        clear g0
        refine (mkRb_is _ T WW W6.heap.size G _ hT hIn HWW.out hWs).mono ?_
        rintro e w13 ⟨S, rfl, hSl, hMk, oS, hMid⟩
        have hV6 : V.heap.size ≤ W6.heap.size := by omega
        replace OV : Over V w13 := Below.trans OV (hMid.below hV6 OV.size)
        replace bG := hMid.bl bG (.inr (Nat.le_refl _))
        clear hMid hT hIn hk8 hk8n hk9
        have rS := oS.rd (marked_bd hMk hSl.symm (by omega) (by omega) hWs)
        have HMK : Hid (MarkedW 1 WW (entT S) (entT S).length) := Lib.hid (by rw [entT_len, hSl]; exact hMk)
        clear hMk oS hSl
        obtain ⟨M, hM⟩ : ∃ M : Int, M = 1 + (WW.sum : Nat) := ⟨_, rfl⟩
        have hMn : ¬ M < 0 := by omega
        have hMM : (M != M) = false := by simp
        rw [← hM]
        have HM := Lib.hid hM
        clear hM
        have g0 := bG.c 0 rfl
        go_wp2_with fail
        clear g0
        refine (hdRb_is _ (entT S) WW _ rS HMK.out hWs).mono ?_
        rintro e w14 ⟨rfl, hb⟩
        rw [← HM.out]
        replace bG := bG.keep hb
        replace rS := rS.keep hb
        replace OV := over_step OV hb
        clear hb
        have bA11 := bA.keep OV
        have bP11 := bP.keep OV
        have hR11 := hR.keep OV
        have y1 := hZ1.keep OV
        have y2 := hZ2.keep OV
        go_wp2_with fail
        go_cut [15, 16] from 94 to 101 (fun s15 s16 wx => KeptTB w14 wx D g s15 s16)
        case first =>
          refine wp_region_held_drew (S := fun w' => Over w14 w') (by kernel_rfl) (over_drew w14) (fun hHeld => ?_)
          obtain ⟨u0, e0'⟩ : ∃ u, u = w14.drew := ⟨_, rfl⟩
          have O : Over w14 u0 := by rw [e0']; exact over_drew w14
          rw [← e0']
          clear e0' hHeld
          refine wpAnyH_take (i := 0) (v := ?_) rfl (by kernel_rfl) (by kernel_rfl) (by kernel_rfl) (fun _ _ _ h => h) (Or.inl ⟨by rfl, ?_⟩) O ?_
          rotate_left
          · intro wq hSq
            (try dsimp only at hSq)
            have q0 := bA11.o hSq 0 rfl
            go_simp
            try rfl
          change wpAnyH _ _ _ _ _ _ _ (Act.put _ (some 95) _) _
          simp only [Act.put, List.setIfInBounds_toArray, List.set_cons_succ, List.set_cons_zero]
          refine wpAnyH_take (i := 2) (v := ?_) rfl (by kernel_rfl) (by kernel_rfl) (by kernel_rfl) (fun _ _ _ h => h) (Or.inl ⟨by rfl, ?_⟩) O ?_
          rotate_left
          · intro wq hSq
            (try dsimp only at hSq)
            have q0 := bP11.o hSq 0 rfl
            have q1 := bP11.o hSq 1 rfl
            have q2 := bP11.o hSq 2 rfl
            have q3 := bP11.o hSq 3 rfl
            have q4 := bP11.o hSq 4 rfl
            have q5 := bP11.o hSq 5 rfl
            have q6 := bP11.o hSq 6 rfl
            go_simp
            try rfl
          change wpAnyH _ _ _ _ _ _ _ (Act.put _ (some 97) _) _
          simp only [Act.put, List.setIfInBounds_toArray, List.set_cons_succ, List.set_cons_zero]
          refine wpAnyH_ready (rs := [1, 8]) (by kernel_rfl) (by simp) ?_
          refine (AllReadyH.cons rfl (fun K hK => ?_) (AllReadyH.cons rfl (fun K hK => ?_) AllReadyH.nil))
          · go_simp
            refine (toRb_any _ L _ (hR11.keep O) hlen).mono ?_
            rintro e u0c ⟨uu, rfl, hE1, hb⟩
            have O := over_step O hb
            replace hE1 := hE1.rd HD.out hn
            obtain ⟨xx, cc, rfl⟩ := hE1.len
            clear hb
            refine hK.out _ _ O (fun _ => ?_)
            clear hK K
            try simp only [Act.put, List.setIfInBounds_toArray, List.set_cons_zero, List.set_cons_succ]
            refine wpAnyH_ready (rs := [3, 8]) (by kernel_rfl) (by simp) ?_
            refine (AllReadyH.cons rfl (fun K hK => ?_) (AllReadyH.cons rfl (fun K hK => ?_) AllReadyH.nil))
            · go_simp
              refine (toEnt_any _ _ Z.p Z.c _ _ _ _ _ _ (y1.keep O) (y2.keep O) hl1 hl2).mono ?_
              rintro e u0cc ⟨pa1, px1, ma1, mx1, rfl, o1, o2, ap1, hb⟩
              replace hE1 := hE1.keep hb
              have O := over_step O hb
              have z1 := o1.rd HZB.out.1
              have z2 := o2.rd HZB.out.2
              clear o1 o2 ap1
              clear hb
              refine hK.out _ _ O (fun _ => ?_)
              clear hK K
              try simp only [Act.put, List.setIfInBounds_toArray, List.set_cons_zero, List.set_cons_succ]
              refine wpAnyH_ready (rs := [4, 8]) (by kernel_rfl) (by simp) ?_
              refine (AllReadyH.cons rfl (fun K hK => ?_) (AllReadyH.cons rfl (fun K hK => ?_) AllReadyH.nil))
              · go_simp
                refine (irp6_t _ HDD hE1 z1 z2 HLP.out hl1 hl2).mono ?_
                rintro e u0ccc ⟨ug, T1, rfl, hT1, hE1', hb⟩
                obtain ⟨xg, cg, rfl⟩ := hT1.lenV
                have hOS := O.size
                have hI1 := hT1.inH
                replace hE1 := hE1.keep hb
                replace z1 := z1.keep hb
                replace z2 := z2.keep hb
                have O := over_step O hb
                clear hb
                refine hK.out _ _ O (fun _ => ?_)
                clear hK K
                try simp only [Act.put, List.setIfInBounds_toArray, List.set_cons_zero, List.set_cons_succ]
                clear hE1 z1 z2
                refine wpAnyH_take (i := 5) (v := ?_) rfl (by kernel_rfl) (by kernel_rfl) (by kernel_rfl) (fun _ _ _ h => h) (Or.inl ⟨by rfl, ?_⟩) O ?_
                rotate_left
                · intro wq hSq
                  (try dsimp only at hSq)

                  go_simp
                  try rfl
                change wpAnyH _ _ _ _ _ _ _ (Act.put _ (some 94) _) _
                simp only [Act.put, List.setIfInBounds_toArray, List.set_cons_succ, List.set_cons_zero]
                refine wpAnyH_take (i := 6) (v := ?_) rfl (by kernel_rfl) (by kernel_rfl) (by kernel_rfl) (fun _ _ _ h => h) (Or.inl ⟨by rfl, ?_⟩) O ?_
                rotate_left
                · intro wq hSq
                  (try dsimp only at hSq)

                  go_simp
                  try rfl
                change wpAnyH _ _ _ _ _ _ _ (Act.put _ (some 100) _) _
                simp only [Act.put, List.setIfInBounds_toArray, List.set_cons_succ, List.set_cons_zero]
                refine wpAnyH_take (i := 7) (v := ?_) rfl (by kernel_rfl) (by kernel_rfl) (by kernel_rfl) (fun _ _ _ h => h) (Or.inl ⟨by rfl, ?_⟩) O ?_
                rotate_left
                · intro wq hSq
                  (try dsimp only at hSq)

                  go_simp
                  try rfl
                change wpAnyH _ _ _ _ _ _ _ (Act.put _ (some 101) _) _
                simp only [Act.put, List.setIfInBounds_toArray, List.set_cons_succ, List.set_cons_zero]
                refine wpAnyH_ready (rs := [8]) (by kernel_rfl) (by simp) ?_
                refine (AllReadyH.cons rfl (fun K hK => ?_) AllReadyH.nil)
                go_simp
                have hOs := O.size
                obtain ⟨bN, hb, z⟩ := one u0ccc [.slice none 0 0] 33
                have O := over_step O hb
                replace hT1 := hT1.keep hb
                clear z hb
                refine hK.out _ _ O (fun _ => ?_)
                clear hK K
                try simp only [Act.put, List.setIfInBounds_toArray, List.set_cons_zero, List.set_cons_succ]
                obtain ⟨B, eB⟩ : ∃ B, B = u0ccc.heap.size := ⟨_, rfl⟩
                have hBV : w14.heap.size ≤ B := by rw [eB]; exact hOs
                have hsd : B < u0cc.heap.size ∨ u0ccc.heap.size ≤ B := Or.inr (Nat.le_of_eq eB.symm)
                obtain ⟨u0ccca, eW⟩ : ∃ u, u = u0ccc.alloc (.cells #[.slice none 0 0] 33) := ⟨_, rfl⟩
                rw [← eW] at bN O hT1 ⊢
                rw [← eB] at bN ⊢
                clear eW eB hOs
                have r0 := bN.c 0 rfl
                have rf0 := bN.f 0 rfl
                refine wpAnyH_ready (rs := [9]) (by kernel_rfl) (by simp) ?_
                refine (AllReadyH.cons rfl (fun K hK => ?_) AllReadyH.nil)
                go_simp
                have O2 : Over w14 _ := Below.setCell O (p := ⟨B, 0, none⟩) hBV (.slice xg T1.length cg)
                refine hK.out _ _ O2 (fun _ => ?_)
                clear hK K r0 rf0
                try simp only [Act.put, List.setIfInBounds_toArray, List.set_cons_zero, List.set_cons_succ]
                refine wpAnyH_ready (rs := [10]) (by kernel_rfl) (by simp) ?_
                refine (AllReadyH.cons rfl (fun K hK => ?_) AllReadyH.nil)
                go_simp
                refine hK.out _ _ O2 (fun _ => ?_)
                clear hK K
                try simp only [Act.put, List.setIfInBounds_toArray, List.set_cons_zero, List.set_cons_succ]
                refine wpAnyH_done (by kernel_rfl) ?_ _
                have b4 := bN.set 0 (.slice xg T1.length cg)
                have hT2 := hT1.setFar (o := 0) (u := .slice xg T1.length cg) hI1 hsd
                go_wp2_with fail
                go_meet
                case rel => exact ⟨⟨B, _, _, xg, cg, T1, rfl, O2, b4, hT2, hE1', hOS, hBV, hI1, hsd⟩, rfl⟩
              · go_simp
                have hOs := O.size
                obtain ⟨bN, hb, z⟩ := one u0cc [.slice none 0 0] 33
                have O := over_step O hb
                replace hE1 := hE1.keep hb
                replace z1 := z1.keep hb
                replace z2 := z2.keep hb
                clear z hb
                refine hK.out _ _ O (fun _ => ?_)
                clear hK K
                try simp only [Act.put, List.setIfInBounds_toArray, List.set_cons_zero, List.set_cons_succ]
                obtain ⟨B, eB⟩ : ∃ B, B = u0cc.heap.size := ⟨_, rfl⟩
                have hBV : w14.heap.size ≤ B := by rw [eB]; exact hOs
                obtain ⟨u0cca, eW⟩ : ∃ u, u = u0cc.alloc (.cells #[.slice none 0 0] 33) := ⟨_, rfl⟩
                rw [← eW] at bN O hE1 z1 z2 ⊢
                rw [← eB] at bN ⊢
                clear eW eB hOs
                refine wpAnyH_ready (rs := [4]) (by kernel_rfl) (by simp) ?_
                refine (AllReadyH.cons rfl (fun K hK => ?_) AllReadyH.nil)
                go_simp
                refine (irp6_t _ HDD hE1 z1 z2 HLP.out hl1 hl2).mono ?_
                rintro e u0ccac ⟨ug, T1, rfl, hT1, hE1', hb⟩
                obtain ⟨xg, cg, rfl⟩ := hT1.lenV
                have hOS := O.size
                have hI1 := hT1.inH
                have hsd := (Or.inl bN.lt : B < u0cca.heap.size ∨ u0ccac.heap.size ≤ B)
                replace hE1 := hE1.keep hb
                replace z1 := z1.keep hb
                replace z2 := z2.keep hb
                replace bN := bN.keep hb
                have O := over_step O hb
                clear hb
                refine hK.out _ _ O (fun _ => ?_)
                clear hK K
                try simp only [Act.put, List.setIfInBounds_toArray, List.set_cons_zero, List.set_cons_succ]
                clear hE1 z1 z2
                refine wpAnyH_take (i := 5) (v := ?_) rfl (by kernel_rfl) (by kernel_rfl) (by kernel_rfl) (fun _ _ _ h => h) (Or.inl ⟨by rfl, ?_⟩) O ?_
                rotate_left
                · intro wq hSq
                  (try dsimp only at hSq)

                  go_simp
                  try rfl
                change wpAnyH _ _ _ _ _ _ _ (Act.put _ (some 94) _) _
                simp only [Act.put, List.setIfInBounds_toArray, List.set_cons_succ, List.set_cons_zero]
                refine wpAnyH_take (i := 6) (v := ?_) rfl (by kernel_rfl) (by kernel_rfl) (by kernel_rfl) (fun _ _ _ h => h) (Or.inl ⟨by rfl, ?_⟩) O ?_
                rotate_left
                · intro wq hSq
                  (try dsimp only at hSq)

                  go_simp
                  try rfl
                change wpAnyH _ _ _ _ _ _ _ (Act.put _ (some 100) _) _
                simp only [Act.put, List.setIfInBounds_toArray, List.set_cons_succ, List.set_cons_zero]
                refine wpAnyH_take (i := 7) (v := ?_) rfl (by kernel_rfl) (by kernel_rfl) (by kernel_rfl) (fun _ _ _ h => h) (Or.inl ⟨by rfl, ?_⟩) O ?_
                rotate_left
                · intro wq hSq
                  (try dsimp only at hSq)

                  go_simp
                  try rfl
                change wpAnyH _ _ _ _ _ _ _ (Act.put _ (some 101) _) _
                simp only [Act.put, List.setIfInBounds_toArray, List.set_cons_succ, List.set_cons_zero]
                have r0 := bN.c 0 rfl
                have rf0 := bN.f 0 rfl
                refine wpAnyH_ready (rs := [9]) (by kernel_rfl) (by simp) ?_
                refine (AllReadyH.cons rfl (fun K hK => ?_) AllReadyH.nil)
                go_simp
                have O2 : Over w14 _ := Below.setCell O (p := ⟨B, 0, none⟩) hBV (.slice xg T1.length cg)
                refine hK.out _ _ O2 (fun _ => ?_)
                clear hK K r0 rf0
                try simp only [Act.put, List.setIfInBounds_toArray, List.set_cons_zero, List.set_cons_succ]
                refine wpAnyH_ready (rs := [10]) (by kernel_rfl) (by simp) ?_
                refine (AllReadyH.cons rfl (fun K hK => ?_) AllReadyH.nil)
                go_simp
                refine hK.out _ _ O2 (fun _ => ?_)
                clear hK K
                try simp only [Act.put, List.setIfInBounds_toArray, List.set_cons_zero, List.set_cons_succ]
                refine wpAnyH_done (by kernel_rfl) ?_ _
                have b4 := bN.set 0 (.slice xg T1.length cg)
                have hT2 := hT1.setFar (o := 0) (u := .slice xg T1.length cg) hI1 hsd
                go_wp2_with fail
                go_meet
                case rel => exact ⟨⟨B, _, _, xg, cg, T1, rfl, O2, b4, hT2, hE1', hOS, hBV, hI1, hsd⟩, rfl⟩
            · go_simp
              have hOs := O.size
              obtain ⟨bN, hb, z⟩ := one u0c [.slice none 0 0] 33
              have O := over_step O hb
              replace hE1 := hE1.keep hb
              clear z hb
              refine hK.out _ _ O (fun _ => ?_)
              clear hK K
              try simp only [Act.put, List.setIfInBounds_toArray, List.set_cons_zero, List.set_cons_succ]
              obtain ⟨B, eB⟩ : ∃ B, B = u0c.heap.size := ⟨_, rfl⟩
              have hBV : w14.heap.size ≤ B := by rw [eB]; exact hOs
              obtain ⟨u0ca, eW⟩ : ∃ u, u = u0c.alloc (.cells #[.slice none 0 0] 33) := ⟨_, rfl⟩
              rw [← eW] at bN O hE1 ⊢
              rw [← eB] at bN ⊢
              clear eW eB hOs
              refine wpAnyH_ready (rs := [3]) (by kernel_rfl) (by simp) ?_
              refine (AllReadyH.cons rfl (fun K hK => ?_) AllReadyH.nil)
              go_simp
              refine (toEnt_any _ _ Z.p Z.c _ _ _ _ _ _ (y1.keep O) (y2.keep O) hl1 hl2).mono ?_
              rintro e u0cac ⟨pa1, px1, ma1, mx1, rfl, o1, o2, ap1, hb⟩
              replace hE1 := hE1.keep hb
              replace bN := bN.keep hb
              have O := over_step O hb
              have z1 := o1.rd HZB.out.1
              have z2 := o2.rd HZB.out.2
              clear o1 o2 ap1
              clear hb
              refine hK.out _ _ O (fun _ => ?_)
              clear hK K
              try simp only [Act.put, List.setIfInBounds_toArray, List.set_cons_zero, List.set_cons_succ]
              refine wpAnyH_ready (rs := [4]) (by kernel_rfl) (by simp) ?_
              refine (AllReadyH.cons rfl (fun K hK => ?_) AllReadyH.nil)
              go_simp
              refine (irp6_t _ HDD hE1 z1 z2 HLP.out hl1 hl2).mono ?_
              rintro e u0cacc ⟨ug, T1, rfl, hT1, hE1', hb⟩
              obtain ⟨xg, cg, rfl⟩ := hT1.lenV
              have hOS := O.size
              have hI1 := hT1.inH
              have hsd := (Or.inl bN.lt : B < u0cac.heap.size ∨ u0cacc.heap.size ≤ B)
              replace hE1 := hE1.keep hb
              replace bN := bN.keep hb
              replace z1 := z1.keep hb
              replace z2 := z2.keep hb
              have O := over_step O hb
              clear hb
              refine hK.out _ _ O (fun _ => ?_)
              clear hK K
              try simp only [Act.put, List.setIfInBounds_toArray, List.set_cons_zero, List.set_cons_succ]
              clear hE1 z1 z2
              refine wpAnyH_take (i := 5) (v := ?_) rfl (by kernel_rfl) (by kernel_rfl) (by kernel_rfl) (fun _ _ _ h => h) (Or.inl ⟨by rfl, ?_⟩) O ?_
              rotate_left
              · intro wq hSq
                (try dsimp only at hSq)

                go_simp
                try rfl
              change wpAnyH _ _ _ _ _ _ _ (Act.put _ (some 94) _) _
              simp only [Act.put, List.setIfInBounds_toArray, List.set_cons_succ, List.set_cons_zero]
              refine wpAnyH_take (i := 6) (v := ?_) rfl (by kernel_rfl) (by kernel_rfl) (by kernel_rfl) (fun _ _ _ h => h) (Or.inl ⟨by rfl, ?_⟩) O ?_
              rotate_left
              · intro wq hSq
                (try dsimp only at hSq)

                go_simp
                try rfl
              change wpAnyH _ _ _ _ _ _ _ (Act.put _ (some 100) _) _
              simp only [Act.put, List.setIfInBounds_toArray, List.set_cons_succ, List.set_cons_zero]
              refine wpAnyH_take (i := 7) (v := ?_) rfl (by kernel_rfl) (by kernel_rfl) (by kernel_rfl) (fun _ _ _ h => h) (Or.inl ⟨by rfl, ?_⟩) O ?_
              rotate_left
              · intro wq hSq
                (try dsimp only at hSq)

                go_simp
                try rfl
              change wpAnyH _ _ _ _ _ _ _ (Act.put _ (some 101) _) _
              simp only [Act.put, List.setIfInBounds_toArray, List.set_cons_succ, List.set_cons_zero]
              have r0 := bN.c 0 rfl
              have rf0 := bN.f 0 rfl
              refine wpAnyH_ready (rs := [9]) (by kernel_rfl) (by simp) ?_
              refine (AllReadyH.cons rfl (fun K hK => ?_) AllReadyH.nil)
              go_simp
              have O2 : Over w14 _ := Below.setCell O (p := ⟨B, 0, none⟩) hBV (.slice xg T1.length cg)
              refine hK.out _ _ O2 (fun _ => ?_)
              clear hK K r0 rf0
              try simp only [Act.put, List.setIfInBounds_toArray, List.set_cons_zero, List.set_cons_succ]
              refine wpAnyH_ready (rs := [10]) (by kernel_rfl) (by simp) ?_
              refine (AllReadyH.cons rfl (fun K hK => ?_) AllReadyH.nil)
              go_simp
              refine hK.out _ _ O2 (fun _ => ?_)
              clear hK K
              try simp only [Act.put, List.setIfInBounds_toArray, List.set_cons_zero, List.set_cons_succ]
              refine wpAnyH_done (by kernel_rfl) ?_ _
              have b4 := bN.set 0 (.slice xg T1.length cg)
              have hT2 := hT1.setFar (o := 0) (u := .slice xg T1.length cg) hI1 hsd
              go_wp2_with fail
              go_meet
              case rel => exact ⟨⟨B, _, _, xg, cg, T1, rfl, O2, b4, hT2, hE1', hOS, hBV, hI1, hsd⟩, rfl⟩
          · go_simp
            have hOs := O.size
            obtain ⟨bN, hb, z⟩ := one u0 [.slice none 0 0] 33
            have O := over_step O hb
            clear z hb
            refine hK.out _ _ O (fun _ => ?_)
            clear hK K
            try simp only [Act.put, List.setIfInBounds_toArray, List.set_cons_zero, List.set_cons_succ]
            obtain ⟨B, eB⟩ : ∃ B, B = u0.heap.size := ⟨_, rfl⟩
            have hBV : w14.heap.size ≤ B := by rw [eB]; exact hOs
            obtain ⟨u0a, eW⟩ : ∃ u, u = u0.alloc (.cells #[.slice none 0 0] 33) := ⟨_, rfl⟩
            rw [← eW] at bN O  ⊢
            rw [← eB] at bN ⊢
            clear eW eB hOs
            refine wpAnyH_ready (rs := [1]) (by kernel_rfl) (by simp) ?_
            refine (AllReadyH.cons rfl (fun K hK => ?_) AllReadyH.nil)
            go_simp
            refine (toRb_any _ L _ (hR11.keep O) hlen).mono ?_
            rintro e u0ac ⟨uu, rfl, hE1, hb⟩
            replace bN := bN.keep hb
            have O := over_step O hb
            replace hE1 := hE1.rd HD.out hn
            obtain ⟨xx, cc, rfl⟩ := hE1.len
            clear hb
            refine hK.out _ _ O (fun _ => ?_)
            clear hK K
            try simp only [Act.put, List.setIfInBounds_toArray, List.set_cons_zero, List.set_cons_succ]
            refine wpAnyH_ready (rs := [3]) (by kernel_rfl) (by simp) ?_
            refine (AllReadyH.cons rfl (fun K hK => ?_) AllReadyH.nil)
            go_simp
            refine (toEnt_any _ _ Z.p Z.c _ _ _ _ _ _ (y1.keep O) (y2.keep O) hl1 hl2).mono ?_
            rintro e u0acc ⟨pa1, px1, ma1, mx1, rfl, o1, o2, ap1, hb⟩
            replace bN := bN.keep hb
            replace hE1 := hE1.keep hb
            have O := over_step O hb
            have z1 := o1.rd HZB.out.1
            have z2 := o2.rd HZB.out.2
            clear o1 o2 ap1
            clear hb
            refine hK.out _ _ O (fun _ => ?_)
            clear hK K
            try simp only [Act.put, List.setIfInBounds_toArray, List.set_cons_zero, List.set_cons_succ]
            refine wpAnyH_ready (rs := [4]) (by kernel_rfl) (by simp) ?_
            refine (AllReadyH.cons rfl (fun K hK => ?_) AllReadyH.nil)
            go_simp
            refine (irp6_t _ HDD hE1 z1 z2 HLP.out hl1 hl2).mono ?_
            rintro e u0accc ⟨ug, T1, rfl, hT1, hE1', hb⟩
            obtain ⟨xg, cg, rfl⟩ := hT1.lenV
            have hOS := O.size
            have hI1 := hT1.inH
            have hsd := (Or.inl bN.lt : B < u0acc.heap.size ∨ u0accc.heap.size ≤ B)
            replace bN := bN.keep hb
            replace hE1 := hE1.keep hb
            replace z1 := z1.keep hb
            replace z2 := z2.keep hb
            have O := over_step O hb
            clear hb
            refine hK.out _ _ O (fun _ => ?_)
            clear hK K
            try simp only [Act.put, List.setIfInBounds_toArray, List.set_cons_zero, List.set_cons_succ]
            clear hE1 z1 z2
            refine wpAnyH_take (i := 5) (v := ?_) rfl (by kernel_rfl) (by kernel_rfl) (by kernel_rfl) (fun _ _ _ h => h) (Or.inl ⟨by rfl, ?_⟩) O ?_
            rotate_left
            · intro wq hSq
              (try dsimp only at hSq)

              go_simp
              try rfl
            change wpAnyH _ _ _ _ _ _ _ (Act.put _ (some 94) _) _
            simp only [Act.put, List.setIfInBounds_toArray, List.set_cons_succ, List.set_cons_zero]
            refine wpAnyH_take (i := 6) (v := ?_) rfl (by kernel_rfl) (by kernel_rfl) (by kernel_rfl) (fun _ _ _ h => h) (Or.inl ⟨by rfl, ?_⟩) O ?_
            rotate_left
            · intro wq hSq
              (try dsimp only at hSq)

              go_simp
              try rfl
            change wpAnyH _ _ _ _ _ _ _ (Act.put _ (some 100) _) _
            simp only [Act.put, List.setIfInBounds_toArray, List.set_cons_succ, List.set_cons_zero]
            refine wpAnyH_take (i := 7) (v := ?_) rfl (by kernel_rfl) (by kernel_rfl) (by kernel_rfl) (fun _ _ _ h => h) (Or.inl ⟨by rfl, ?_⟩) O ?_
            rotate_left
            · intro wq hSq
              (try dsimp only at hSq)

              go_simp
              try rfl
            change wpAnyH _ _ _ _ _ _ _ (Act.put _ (some 101) _) _
            simp only [Act.put, List.setIfInBounds_toArray, List.set_cons_succ, List.set_cons_zero]
            have r0 := bN.c 0 rfl
            have rf0 := bN.f 0 rfl
            refine wpAnyH_ready (rs := [9]) (by kernel_rfl) (by simp) ?_
            refine (AllReadyH.cons rfl (fun K hK => ?_) AllReadyH.nil)
            go_simp
            have O2 : Over w14 _ := Below.setCell O (p := ⟨B, 0, none⟩) hBV (.slice xg T1.length cg)
            refine hK.out _ _ O2 (fun _ => ?_)
            clear hK K r0 rf0
            try simp only [Act.put, List.setIfInBounds_toArray, List.set_cons_zero, List.set_cons_succ]
            refine wpAnyH_ready (rs := [10]) (by kernel_rfl) (by simp) ?_
            refine (AllReadyH.cons rfl (fun K hK => ?_) AllReadyH.nil)
            go_simp
            refine hK.out _ _ O2 (fun _ => ?_)
            clear hK K
            try simp only [Act.put, List.setIfInBounds_toArray, List.set_cons_zero, List.set_cons_succ]
            refine wpAnyH_done (by kernel_rfl) ?_ _
            have b4 := bN.set 0 (.slice xg T1.length cg)
            have hT2 := hT1.setFar (o := 0) (u := .slice xg T1.length cg) hI1 hsd
            go_wp2_with fail
            go_meet
            case rel => exact ⟨⟨B, _, _, xg, cg, T1, rfl, O2, b4, hT2, hE1', hOS, hBV, hI1, hsd⟩, rfl⟩
        case rest =>
          obtain ⟨w15, rfl⟩ : ∃ x : World, x = wc := ⟨_, rfl⟩
          obtain ⟨⟨H, b1, i1, xh, ch, Th, rfl, hb, bH, hTh, hEh, -, -, -, -⟩, rfl⟩ := hcut
          have rh : RdE w15 (.slice xh Th.length ch) D := hEh ▸ hTh.rd fun t ht => HBD.out _ (hEh ▸ entT_mem ht)
          clear bA11 bP11 hR11 y1 y2 hTh hEh
          replace bG := bG.keep hb
          replace rS := rS.keep hb
          replace OV := over_step OV hb
          clear hb
          have t0 := bH.c 0 rfl
          have s0 := (bW.keep OV).c 0 rfl
          go_wp2_with fail
          clear t0 s0
          refine (eqRb_same _ _ D _ rh (q3.keep OV)).mono ?_
          rintro e w16 ⟨rfl, hb⟩
          replace bG := bG.keep hb
          replace rS := rS.keep hb
          replace OV := over_step OV hb
          clear hb
          clear rh bH
          have g0 := bG.c 0 rfl
          go_wp2_with fail
          clear g0
          refine (hdRb_is _ (entT S) WW _ rS HMK.out hWs).mono ?_
          rintro e w17 ⟨rfl, hb⟩
          rw [← HM.out]
          replace OV := over_step OV hb
          clear hb
          go_wp2
          go_ret
          exact ⟨rfl, below_step B0 OV⟩

set_option maxRecDepth 100000 in
theorem lifted (os : Os) (started : os.Started) (H : Type) (enc : TypeId × Value → H) :
    ReturnsInHanded {} Try.checked os 4 .any (Rows.fnExactRibPutSpec.pre6 enc Try.prog Try.f4 Rows.fnExactRibPutRow.domain false) (Rows.fnExactRibPutSpec.post enc Try.prog Try.f4 false true false false) := by
  refine returnsInHanded_of_change (C := Try.checked) own started (by kernel_rfl) Try.func4
    (ChangeSpec.witness6 (enc := enc) (C := Try.checked) false ⟨#[], #[.agg #[.slice none 0 0], .agg #[.int .i64 0, .int .i64 0, .int .i64 0, .slice none 0 0, .int .i64 0, .slice none 0 0, .int .i64 0]], []⟩ 8 (by kernel_rfl) (by kernel_rfl) (by kernel_rfl) (by kernel_rfl)) ?_
  intro W base args ds gs before hval0 hW hcnd _
  have hval : ∀ (j : Nat) t v, Try.f4.params[j]? = some t → args[j]? = some v → Value.okWide Try.prog W .any base t v := hval0
  have hW' := hW
  obtain ⟨p, q, hA0, hV, rfl, hfz, hnd⟩ := hW
  have hA : DataW.TrodAll enc Try.prog W 0 (fun _ => true) true Try.f4.params.toList args.toList ds p := hA0
  rw [Try.params4] at hA hval
  obtain ⟨v0, vs0, d0, ds0, p0, q0, hargs, rfl, rfl, h0, r0⟩ := trodAll_cons hA
  obtain ⟨v1, vs1, d1, ds1, p1, q1, rfl, rfl, rfl, h1, r1⟩ := trodAll_cons r0
  obtain ⟨rfl, rfl, rfl⟩ := trodAll_nil r1
  obtain rfl : args = #[v0, v1] := by cases args; simp_all
  obtain ⟨rfl, rfl⟩ := trodVars_none hV
  have lt0 : ∀ x ∈ p0, x.block < W.heap.size := by obtain ⟨m, hm⟩ := h0; exact DataW.trod_lt m _ _ _ hm
  have w0 := is_Rib (hval 0 25 v0 rfl rfl) h0
  have lt1 : ∀ x ∈ p1, x.block < W.heap.size := by obtain ⟨m, hm⟩ := h1; exact DataW.trod_lt m _ _ _ hm
  have w1 := is_Entry (hval 1 45 v1 rfl rfl) h1
  clear hA0 hval0 hval
  refine (walk W v0 v1 w0 w1).mono fun e W' ⟨he, bel⟩ => ?_
  subst he
  exact ⟨_, rfl, _, _, _, [], _, [], hW', trodAll_mk1 (shut_bool Try.underlying4 _), (trodAll_cons_mk (Below.trod laidOut (by kernel_rfl) (of_decide_eq_true (by kernel_rfl)) h0 bel lt0) (trodAll_cons_mk (Below.trod laidOut (by kernel_rfl) (of_decide_eq_true (by kernel_rfl)) h1 bel lt1) trodAll_mk0)), rfl, bel.frame _, fun h => by cases h⟩

theorem over : Rows.fnExactRibPutRow.holds Try.pinned (OpenSpec.ofChange Rows.fnExactRibPutSpec) :=
  OpenClaim.holds_of_wide 4 Try.f4 rfl rfl rfl rfl rfl rfl rfl ⟨rfl, rfl, rfl, rfl, rfl⟩ rfl rfl rfl rfl rfl (by kernel_rfl) Try.func4 (by kernel_rfl)
    (of_decide_eq_true (by kernel_rfl)) (by unfold Func.isWrapper; first | (rw [if_pos (by decide +kernel)]; kernel_rfl) | (rw [if_neg (by decide +kernel)]; exact ⟨rfl, rfl⟩))
    (fun os started H enc _ => lifted os started H enc)

theorem proved : Rows.FnExactRibPutSaid := over
end Go.Proofs.Ytaiffofmhfflkaa.fnExactRibPut
