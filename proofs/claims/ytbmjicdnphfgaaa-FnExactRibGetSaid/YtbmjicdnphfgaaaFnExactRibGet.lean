/-
  The law 'FnExactRibGet' returns true for every input, and its arguments read afterwards as before: the given statement 'Rows.FnExactRibGetSaid'. No condition.
-/
import Derived.Test.YtbmjicdnphfgaaaO1
import Derived.Test.YtbmjicdnphfgaaaRD
namespace Go.Proofs.Ytbmjicdnphfgaaa.fnExactRibGet
open Go.ChangeShapes Go.WideShapes Go.ChangeAt Go.RowKit Go.Proofs.Ytbmjicdnphfgaaa
set_option linter.unusedVariables false
set_option maxRecDepth 100000
set_option linter.unusedSimpArgs false
set_option maxHeartbeats 8000000 in
theorem walk (W : World) (v0 v1 v2 : Value) (w0 : Is_Rib W v0) (w1 : Is_Prefix W v1) (w2 : Is_int W v2) :
    Calls Try.prog 3 #[v0, v1, v2] W fun e w' => e = .returned (.bool true) ∧ Below W.heap.size W w' := by
  obtain ⟨u, L, rfl, hR⟩ := w0
  obtain ⟨a, n, rfl, -, -⟩ := w1
  obtain ⟨pe, rfl, -, -⟩ := w2
  obtain ⟨bA, bP, B0, z⟩ := two W [u] [.int .i64 a, .int .i64 n] 24 26
  replace hR := hR.keep B0
  clear z
  obtain ⟨x, c, hv⟩ := hR.len
  rw [hv] at hR bA bP B0 ⊢
  clear hv
  obtain ⟨AA, hAA⟩ : ∃ A, A = W.heap.size := ⟨_, rfl⟩
  obtain ⟨PP, hPP⟩ : ∃ A, A = W.heap.size + 1 := ⟨_, rfl⟩
  rw [← hAA] at bA
  rw [← hPP] at bP
  go_enter Try.func3, Try.ntmps3
  go_wp2_with fail
  rw [← hPP]
  try rw [← hAA]
  clear hAA hPP
  refine (szRb_any _ L _ hR).mono ?_
  rintro e w1 ⟨r, rfl, hsz, hb⟩
  replace bA := bA.keep hb
  replace bP := bP.keep hb
  replace hR := hR.keep hb
  replace B0 := below_step B0 hb
  clear hb
  have HSZ := Lib.hid hsz
  clear hsz
  by_cases hneg : r < 0
  · go_wp2_with fail
    go_ret
    exact ⟨rfl, B0⟩
  · have hlen := HSZ.out hneg
    have HD := Lib.hid hR.bd
    have hn : L.length ≤ 1048576 := by omega
    have HLP := Lib.hid (fun j hj => by have := wt_at hj; omega : ∀ j, j < L.length → (L.getD j e0).p.length ≤ 1048576 ∧ (L.getD j e0).c.length ≤ 1048576)
    obtain ⟨E, hE⟩ : ∃ E, getE L a n pe = E := ⟨_, rfl⟩
    obtain ⟨fb, hfb⟩ : ∃ fb, (getR L a n pe).isSome = fb := ⟨_, rfl⟩
    have hbE : BdE E := by rw [← hE]; exact getE_bd HD.out
    have hlE : E.p.length ≤ 1048576 ∧ E.c.length ≤ 1048576 := by rw [← hE]; exact getE_len HLP.out
    have HE := Lib.hid (And.intro hE hfb)
    have HBE := Lib.hid hbE
    have hlE1 := hlE.1
    have hlE2 := hlE.2
    have hff : (fb != fb) = false := by simp
    clear hE hfb hbE hlE
    obtain ⟨V0, rfl⟩ : ∃ V0 : World, V0 = w1 := ⟨_, rfl⟩
    go_wp2_with fail
    go_cut [8, 9] from 23 to 32 (fun s8 s9 wx => KeptA V0 wx E fb s8 s9)
    case first =>
      refine wp_region_held_drew (S := fun w' => Over V0 w') (by kernel_rfl) (over_drew V0) (fun hHeld => ?_)
      obtain ⟨u0, e0'⟩ : ∃ u, u = V0.drew := ⟨_, rfl⟩
      have O : Over V0 u0 := by rw [e0']; exact over_drew V0
      rw [← e0']
      clear e0' hHeld
      refine wpAnyH_take (i := 0) (v := ?_) rfl (by kernel_rfl) (by kernel_rfl) (by kernel_rfl) (fun _ _ _ h => h) (Or.inl ⟨by rfl, ?_⟩) O ?_
      rotate_left
      · intro wq hSq
        (try dsimp only at hSq)
        have q0 := bA.o hSq 0 rfl
        go_simp
        try rfl
      change wpAnyH _ _ _ _ _ _ _ (Act.put _ (some 24) _) _
      simp only [Act.put, List.setIfInBounds_toArray, List.set_cons_succ, List.set_cons_zero]
      refine wpAnyH_take (i := 2) (v := ?_) rfl (by kernel_rfl) (by kernel_rfl) (by kernel_rfl) (fun _ _ _ h => h) (Or.inl ⟨by rfl, ?_⟩) O ?_
      rotate_left
      · intro wq hSq
        (try dsimp only at hSq)
        have q0 := bP.o hSq 0 rfl
        have q1 := bP.o hSq 1 rfl
        go_simp
        try rfl
      change wpAnyH _ _ _ _ _ _ _ (Act.put _ (some 26) _) _
      simp only [Act.put, List.setIfInBounds_toArray, List.set_cons_succ, List.set_cons_zero]
      refine wpAnyH_take (i := 4) (v := ?_) rfl (by kernel_rfl) (by kernel_rfl) (by kernel_rfl) (fun _ _ _ h => h) (Or.inl ⟨by rfl, ?_⟩) O ?_
      rotate_left
      · intro wq hSq
        (try dsimp only at hSq)

        go_simp
        try rfl
      change wpAnyH _ _ _ _ _ _ _ (Act.put _ (some 28) _) _
      simp only [Act.put, List.setIfInBounds_toArray, List.set_cons_succ, List.set_cons_zero]
      refine wpAnyH_ready (rs := [1, 9]) (by kernel_rfl) (by simp) ?_
      refine (AllReadyH.cons rfl (fun K hK => ?_) (AllReadyH.cons rfl (fun K hK => ?_) AllReadyH.nil))
      · go_simp
        refine (toRb_any _ L _ (hR.keep O) hlen).mono ?_
        rintro e u0c ⟨uu, rfl, hE1, hb⟩
        have O := over_step O hb
        replace hE1 := hE1.rd HD.out hn
        obtain ⟨xx, cc, rfl⟩ := hE1.len
        clear hb
        refine hK.out _ _ O (fun _ => ?_)
        clear hK K
        try simp only [Act.put, List.setIfInBounds_toArray, List.set_cons_zero, List.set_cons_succ]
        refine wpAnyH_ready (rs := [3, 9]) (by kernel_rfl) (by simp) ?_
        refine (AllReadyH.cons rfl (fun K hK => ?_) (AllReadyH.cons rfl (fun K hK => ?_) AllReadyH.nil))
        · go_simp
          refine (to_any a n _).mono ?_
          rintro e u0cc ⟨rfl, hb⟩
          replace hE1 := hE1.keep hb
          have O := over_step O hb
          clear hb
          refine hK.out _ _ O (fun _ => ?_)
          clear hK K
          try simp only [Act.put, List.setIfInBounds_toArray, List.set_cons_zero, List.set_cons_succ]
          refine wpAnyH_ready (rs := [5, 9]) (by kernel_rfl) (by simp) ?_
          refine (AllReadyH.cons rfl (fun K hK => ?_) (AllReadyH.cons rfl (fun K hK => ?_) AllReadyH.nil))
          · go_simp
            refine (sget_t _ HE hE1 HLP.out).mono ?_
            rintro e u0ccc ⟨pa, px, ca, cx, rfl, ho1, ho2, hap, hb⟩
            have hOS := O.size
            replace ho1 := ho1.mono hOS
            replace ho2 := ho2.mono hOS
            clear hOS
            replace hE1 := hE1.keep hb
            have O := over_step O hb
            clear hb
            refine hK.out _ _ O (fun _ => ?_)
            clear hK K
            try simp only [Act.put, List.setIfInBounds_toArray, List.set_cons_zero, List.set_cons_succ]
            refine wpAnyH_take (i := 6) (v := ?_) rfl (by kernel_rfl) (by kernel_rfl) (by kernel_rfl) (fun _ _ _ h => h) (Or.inl ⟨by rfl, ?_⟩) O ?_
            rotate_left
            · intro wq hSq
              (try dsimp only at hSq)

              go_simp
              try rfl
            change wpAnyH _ _ _ _ _ _ _ (Act.put _ (some 23) _) _
            simp only [Act.put, List.setIfInBounds_toArray, List.set_cons_succ, List.set_cons_zero]
            refine wpAnyH_take (i := 7) (v := ?_) rfl (by kernel_rfl) (by kernel_rfl) (by kernel_rfl) (fun _ _ _ h => h) (Or.inl ⟨by rfl, ?_⟩) O ?_
            rotate_left
            · intro wq hSq
              (try dsimp only at hSq)

              go_simp
              try rfl
            change wpAnyH _ _ _ _ _ _ _ (Act.put _ (some 30) _) _
            simp only [Act.put, List.setIfInBounds_toArray, List.set_cons_succ, List.set_cons_zero]
            refine wpAnyH_take (i := 8) (v := ?_) rfl (by kernel_rfl) (by kernel_rfl) (by kernel_rfl) (fun _ _ _ h => h) (Or.inl ⟨by rfl, ?_⟩) O ?_
            rotate_left
            · intro wq hSq
              (try dsimp only at hSq)

              go_simp
              try rfl
            change wpAnyH _ _ _ _ _ _ _ (Act.put _ (some 31) _) _
            simp only [Act.put, List.setIfInBounds_toArray, List.set_cons_succ, List.set_cons_zero]
            clear hE1
            refine wpAnyH_ready (rs := [9]) (by kernel_rfl) (by simp) ?_
            refine (AllReadyH.cons rfl (fun K hK => ?_) AllReadyH.nil)
            go_simp
            have hOs := O.size
            have hs1 := sepGeR ho1 (Nat.le_refl u0ccc.heap.size)
            have hs2 := sepGeR ho2 (Nat.le_refl u0ccc.heap.size)
            obtain ⟨bN, hb, z⟩ := one u0ccc [.slice none 0 0, .int .i64 0, .slice none 0 0, .int .i64 0] 30
            have O := over_step O hb
            replace ho1 := ho1.keep hb
            replace ho2 := ho2.keep hb
            clear z hb
            refine hK.out _ _ O (fun _ => ?_)
            clear hK K
            try simp only [Act.put, List.setIfInBounds_toArray, List.set_cons_zero, List.set_cons_succ]
            obtain ⟨B, eB⟩ : ∃ B, B = u0ccc.heap.size := ⟨_, rfl⟩
            have hBV : V0.heap.size ≤ B := by rw [eB]; exact hOs
            obtain ⟨u0ccca, eW⟩ : ∃ u, u = u0ccc.alloc (.cells #[.slice none 0 0, .int .i64 0, .slice none 0 0, .int .i64 0] 30) := ⟨_, rfl⟩
            rw [← eW] at bN O ho1 ho2 ⊢
            rw [← eB] at bN hs1 hs2 ⊢
            clear eW eB hOs
            have r0 := bN.c 0 rfl
            have rf0 := bN.f 0 (x := _) rfl
            have r1 := bN.c 1 rfl
            have rf1 := bN.f 1 (x := _) rfl
            have r2 := bN.c 2 rfl
            have rf2 := bN.f 2 (x := _) rfl
            have r3 := bN.c 3 rfl
            have rf3 := bN.f 3 (x := _) rfl
            refine wpAnyH_ready (rs := [10]) (by kernel_rfl) (by simp) ?_
            refine (AllReadyH.cons rfl (fun K hK => ?_) AllReadyH.nil)
            go_simp
            have O2 : Over V0 _ := (Below.setCell (Below.setCell (Below.setCell (Below.setCell O (p := ⟨B, 0, none⟩) hBV (.slice pa E.p.length px)) (p := ⟨B, 1, none⟩) hBV (.int .i64 E.pr)) (p := ⟨B, 2, none⟩) hBV (.slice ca E.c.length cx)) (p := ⟨B, 3, none⟩) hBV (.int .i64 E.bw))
            refine hK.out _ _ O2 (fun _ => ?_)
            clear hK K
            try simp only [Act.put, List.setIfInBounds_toArray, List.set_cons_zero, List.set_cons_succ]
            refine wpAnyH_ready (rs := [11]) (by kernel_rfl) (by simp) ?_
            refine (AllReadyH.cons rfl (fun K hK => ?_) AllReadyH.nil)
            go_simp
            refine hK.out _ _ O2 (fun _ => ?_)
            clear hK K
            try simp only [Act.put, List.setIfInBounds_toArray, List.set_cons_zero, List.set_cons_succ]
            clear r0 rf0 r1 rf1 r2 rf2 r3 rf3
            refine wpAnyH_done (by kernel_rfl) ?_ _
            have b4 := ((((bN.set 0 (.slice pa E.p.length px)).set 1 (.int .i64 E.pr)).set 2 (.slice ca E.c.length cx)).set 3 (.int .i64 E.bw))
            have q1 := (farNR (o := 3) (u := .int .i64 E.bw) (farNR (o := 2) (u := .slice ca E.c.length cx) (farNR (o := 1) (u := .int .i64 E.pr) (farNR (o := 0) (u := .slice pa E.p.length px) ho1 hs1) hs1) hs1) hs1)
            have q2 := (farNR (o := 3) (u := .int .i64 E.bw) (farNR (o := 2) (u := .slice ca E.c.length cx) (farNR (o := 1) (u := .int .i64 E.pr) (farNR (o := 0) (u := .slice pa E.p.length px) ho2 hs2) hs2) hs2) hs2)
            go_wp2_with fail
            go_meet
            case rel => exact ⟨B, pa, px, ca, cx, rfl, rfl, O2, b4, q1, q2, hap, hBV, hs1, hs2⟩
          · go_simp
            have hOs := O.size
            obtain ⟨bN, hb, z⟩ := one u0cc [.slice none 0 0, .int .i64 0, .slice none 0 0, .int .i64 0] 30
            have O := over_step O hb
            replace hE1 := hE1.keep hb
            clear z hb
            refine hK.out _ _ O (fun _ => ?_)
            clear hK K
            try simp only [Act.put, List.setIfInBounds_toArray, List.set_cons_zero, List.set_cons_succ]
            obtain ⟨B, eB⟩ : ∃ B, B = u0cc.heap.size := ⟨_, rfl⟩
            have hBV : V0.heap.size ≤ B := by rw [eB]; exact hOs
            obtain ⟨u0cca, eW⟩ : ∃ u, u = u0cc.alloc (.cells #[.slice none 0 0, .int .i64 0, .slice none 0 0, .int .i64 0] 30) := ⟨_, rfl⟩
            rw [← eW] at bN O hE1 ⊢
            rw [← eB] at bN ⊢
            clear eW eB hOs
            refine wpAnyH_ready (rs := [5]) (by kernel_rfl) (by simp) ?_
            refine (AllReadyH.cons rfl (fun K hK => ?_) AllReadyH.nil)
            go_simp
            refine (sget_t _ HE hE1 HLP.out).mono ?_
            rintro e u0ccac ⟨pa, px, ca, cx, rfl, ho1, ho2, hap, hb⟩
            have hOS := O.size
            have hs1 := sepLtR ho1 bN.lt
            have hs2 := sepLtR ho2 bN.lt
            replace ho1 := ho1.mono hOS
            replace ho2 := ho2.mono hOS
            clear hOS
            replace hE1 := hE1.keep hb
            replace bN := bN.keep hb
            have O := over_step O hb
            clear hb
            refine hK.out _ _ O (fun _ => ?_)
            clear hK K
            try simp only [Act.put, List.setIfInBounds_toArray, List.set_cons_zero, List.set_cons_succ]
            refine wpAnyH_take (i := 6) (v := ?_) rfl (by kernel_rfl) (by kernel_rfl) (by kernel_rfl) (fun _ _ _ h => h) (Or.inl ⟨by rfl, ?_⟩) O ?_
            rotate_left
            · intro wq hSq
              (try dsimp only at hSq)

              go_simp
              try rfl
            change wpAnyH _ _ _ _ _ _ _ (Act.put _ (some 23) _) _
            simp only [Act.put, List.setIfInBounds_toArray, List.set_cons_succ, List.set_cons_zero]
            refine wpAnyH_take (i := 7) (v := ?_) rfl (by kernel_rfl) (by kernel_rfl) (by kernel_rfl) (fun _ _ _ h => h) (Or.inl ⟨by rfl, ?_⟩) O ?_
            rotate_left
            · intro wq hSq
              (try dsimp only at hSq)

              go_simp
              try rfl
            change wpAnyH _ _ _ _ _ _ _ (Act.put _ (some 30) _) _
            simp only [Act.put, List.setIfInBounds_toArray, List.set_cons_succ, List.set_cons_zero]
            refine wpAnyH_take (i := 8) (v := ?_) rfl (by kernel_rfl) (by kernel_rfl) (by kernel_rfl) (fun _ _ _ h => h) (Or.inl ⟨by rfl, ?_⟩) O ?_
            rotate_left
            · intro wq hSq
              (try dsimp only at hSq)

              go_simp
              try rfl
            change wpAnyH _ _ _ _ _ _ _ (Act.put _ (some 31) _) _
            simp only [Act.put, List.setIfInBounds_toArray, List.set_cons_succ, List.set_cons_zero]
            clear hE1
            have r0 := bN.c 0 rfl
            have rf0 := bN.f 0 (x := _) rfl
            have r1 := bN.c 1 rfl
            have rf1 := bN.f 1 (x := _) rfl
            have r2 := bN.c 2 rfl
            have rf2 := bN.f 2 (x := _) rfl
            have r3 := bN.c 3 rfl
            have rf3 := bN.f 3 (x := _) rfl
            refine wpAnyH_ready (rs := [10]) (by kernel_rfl) (by simp) ?_
            refine (AllReadyH.cons rfl (fun K hK => ?_) AllReadyH.nil)
            go_simp
            have O2 : Over V0 _ := (Below.setCell (Below.setCell (Below.setCell (Below.setCell O (p := ⟨B, 0, none⟩) hBV (.slice pa E.p.length px)) (p := ⟨B, 1, none⟩) hBV (.int .i64 E.pr)) (p := ⟨B, 2, none⟩) hBV (.slice ca E.c.length cx)) (p := ⟨B, 3, none⟩) hBV (.int .i64 E.bw))
            refine hK.out _ _ O2 (fun _ => ?_)
            clear hK K
            try simp only [Act.put, List.setIfInBounds_toArray, List.set_cons_zero, List.set_cons_succ]
            refine wpAnyH_ready (rs := [11]) (by kernel_rfl) (by simp) ?_
            refine (AllReadyH.cons rfl (fun K hK => ?_) AllReadyH.nil)
            go_simp
            refine hK.out _ _ O2 (fun _ => ?_)
            clear hK K
            try simp only [Act.put, List.setIfInBounds_toArray, List.set_cons_zero, List.set_cons_succ]
            clear r0 rf0 r1 rf1 r2 rf2 r3 rf3
            refine wpAnyH_done (by kernel_rfl) ?_ _
            have b4 := ((((bN.set 0 (.slice pa E.p.length px)).set 1 (.int .i64 E.pr)).set 2 (.slice ca E.c.length cx)).set 3 (.int .i64 E.bw))
            have q1 := (farNR (o := 3) (u := .int .i64 E.bw) (farNR (o := 2) (u := .slice ca E.c.length cx) (farNR (o := 1) (u := .int .i64 E.pr) (farNR (o := 0) (u := .slice pa E.p.length px) ho1 hs1) hs1) hs1) hs1)
            have q2 := (farNR (o := 3) (u := .int .i64 E.bw) (farNR (o := 2) (u := .slice ca E.c.length cx) (farNR (o := 1) (u := .int .i64 E.pr) (farNR (o := 0) (u := .slice pa E.p.length px) ho2 hs2) hs2) hs2) hs2)
            go_wp2_with fail
            go_meet
            case rel => exact ⟨B, pa, px, ca, cx, rfl, rfl, O2, b4, q1, q2, hap, hBV, hs1, hs2⟩
        · go_simp
          have hOs := O.size
          obtain ⟨bN, hb, z⟩ := one u0c [.slice none 0 0, .int .i64 0, .slice none 0 0, .int .i64 0] 30
          have O := over_step O hb
          replace hE1 := hE1.keep hb
          clear z hb
          refine hK.out _ _ O (fun _ => ?_)
          clear hK K
          try simp only [Act.put, List.setIfInBounds_toArray, List.set_cons_zero, List.set_cons_succ]
          obtain ⟨B, eB⟩ : ∃ B, B = u0c.heap.size := ⟨_, rfl⟩
          have hBV : V0.heap.size ≤ B := by rw [eB]; exact hOs
          obtain ⟨u0ca, eW⟩ : ∃ u, u = u0c.alloc (.cells #[.slice none 0 0, .int .i64 0, .slice none 0 0, .int .i64 0] 30) := ⟨_, rfl⟩
          rw [← eW] at bN O hE1 ⊢
          rw [← eB] at bN ⊢
          clear eW eB hOs
          refine wpAnyH_ready (rs := [3]) (by kernel_rfl) (by simp) ?_
          refine (AllReadyH.cons rfl (fun K hK => ?_) AllReadyH.nil)
          go_simp
          refine (to_any a n _).mono ?_
          rintro e u0cac ⟨rfl, hb⟩
          replace hE1 := hE1.keep hb
          replace bN := bN.keep hb
          have O := over_step O hb
          clear hb
          refine hK.out _ _ O (fun _ => ?_)
          clear hK K
          try simp only [Act.put, List.setIfInBounds_toArray, List.set_cons_zero, List.set_cons_succ]
          refine wpAnyH_ready (rs := [5]) (by kernel_rfl) (by simp) ?_
          refine (AllReadyH.cons rfl (fun K hK => ?_) AllReadyH.nil)
          go_simp
          refine (sget_t _ HE hE1 HLP.out).mono ?_
          rintro e u0cacc ⟨pa, px, ca, cx, rfl, ho1, ho2, hap, hb⟩
          have hOS := O.size
          have hs1 := sepLtR ho1 bN.lt
          have hs2 := sepLtR ho2 bN.lt
          replace ho1 := ho1.mono hOS
          replace ho2 := ho2.mono hOS
          clear hOS
          replace hE1 := hE1.keep hb
          replace bN := bN.keep hb
          have O := over_step O hb
          clear hb
          refine hK.out _ _ O (fun _ => ?_)
          clear hK K
          try simp only [Act.put, List.setIfInBounds_toArray, List.set_cons_zero, List.set_cons_succ]
          refine wpAnyH_take (i := 6) (v := ?_) rfl (by kernel_rfl) (by kernel_rfl) (by kernel_rfl) (fun _ _ _ h => h) (Or.inl ⟨by rfl, ?_⟩) O ?_
          rotate_left
          · intro wq hSq
            (try dsimp only at hSq)

            go_simp
            try rfl
          change wpAnyH _ _ _ _ _ _ _ (Act.put _ (some 23) _) _
          simp only [Act.put, List.setIfInBounds_toArray, List.set_cons_succ, List.set_cons_zero]
          refine wpAnyH_take (i := 7) (v := ?_) rfl (by kernel_rfl) (by kernel_rfl) (by kernel_rfl) (fun _ _ _ h => h) (Or.inl ⟨by rfl, ?_⟩) O ?_
          rotate_left
          · intro wq hSq
            (try dsimp only at hSq)

            go_simp
            try rfl
          change wpAnyH _ _ _ _ _ _ _ (Act.put _ (some 30) _) _
          simp only [Act.put, List.setIfInBounds_toArray, List.set_cons_succ, List.set_cons_zero]
          refine wpAnyH_take (i := 8) (v := ?_) rfl (by kernel_rfl) (by kernel_rfl) (by kernel_rfl) (fun _ _ _ h => h) (Or.inl ⟨by rfl, ?_⟩) O ?_
          rotate_left
          · intro wq hSq
            (try dsimp only at hSq)

            go_simp
            try rfl
          change wpAnyH _ _ _ _ _ _ _ (Act.put _ (some 31) _) _
          simp only [Act.put, List.setIfInBounds_toArray, List.set_cons_succ, List.set_cons_zero]
          clear hE1
          have r0 := bN.c 0 rfl
          have rf0 := bN.f 0 (x := _) rfl
          have r1 := bN.c 1 rfl
          have rf1 := bN.f 1 (x := _) rfl
          have r2 := bN.c 2 rfl
          have rf2 := bN.f 2 (x := _) rfl
          have r3 := bN.c 3 rfl
          have rf3 := bN.f 3 (x := _) rfl
          refine wpAnyH_ready (rs := [10]) (by kernel_rfl) (by simp) ?_
          refine (AllReadyH.cons rfl (fun K hK => ?_) AllReadyH.nil)
          go_simp
          have O2 : Over V0 _ := (Below.setCell (Below.setCell (Below.setCell (Below.setCell O (p := ⟨B, 0, none⟩) hBV (.slice pa E.p.length px)) (p := ⟨B, 1, none⟩) hBV (.int .i64 E.pr)) (p := ⟨B, 2, none⟩) hBV (.slice ca E.c.length cx)) (p := ⟨B, 3, none⟩) hBV (.int .i64 E.bw))
          refine hK.out _ _ O2 (fun _ => ?_)
          clear hK K
          try simp only [Act.put, List.setIfInBounds_toArray, List.set_cons_zero, List.set_cons_succ]
          refine wpAnyH_ready (rs := [11]) (by kernel_rfl) (by simp) ?_
          refine (AllReadyH.cons rfl (fun K hK => ?_) AllReadyH.nil)
          go_simp
          refine hK.out _ _ O2 (fun _ => ?_)
          clear hK K
          try simp only [Act.put, List.setIfInBounds_toArray, List.set_cons_zero, List.set_cons_succ]
          clear r0 rf0 r1 rf1 r2 rf2 r3 rf3
          refine wpAnyH_done (by kernel_rfl) ?_ _
          have b4 := ((((bN.set 0 (.slice pa E.p.length px)).set 1 (.int .i64 E.pr)).set 2 (.slice ca E.c.length cx)).set 3 (.int .i64 E.bw))
          have q1 := (farNR (o := 3) (u := .int .i64 E.bw) (farNR (o := 2) (u := .slice ca E.c.length cx) (farNR (o := 1) (u := .int .i64 E.pr) (farNR (o := 0) (u := .slice pa E.p.length px) ho1 hs1) hs1) hs1) hs1)
          have q2 := (farNR (o := 3) (u := .int .i64 E.bw) (farNR (o := 2) (u := .slice ca E.c.length cx) (farNR (o := 1) (u := .int .i64 E.pr) (farNR (o := 0) (u := .slice pa E.p.length px) ho2 hs2) hs2) hs2) hs2)
          go_wp2_with fail
          go_meet
          case rel => exact ⟨B, pa, px, ca, cx, rfl, rfl, O2, b4, q1, q2, hap, hBV, hs1, hs2⟩
      · go_simp
        have hOs := O.size
        obtain ⟨bN, hb, z⟩ := one u0 [.slice none 0 0, .int .i64 0, .slice none 0 0, .int .i64 0] 30
        have O := over_step O hb
        clear z hb
        refine hK.out _ _ O (fun _ => ?_)
        clear hK K
        try simp only [Act.put, List.setIfInBounds_toArray, List.set_cons_zero, List.set_cons_succ]
        obtain ⟨B, eB⟩ : ∃ B, B = u0.heap.size := ⟨_, rfl⟩
        have hBV : V0.heap.size ≤ B := by rw [eB]; exact hOs
        obtain ⟨u0a, eW⟩ : ∃ u, u = u0.alloc (.cells #[.slice none 0 0, .int .i64 0, .slice none 0 0, .int .i64 0] 30) := ⟨_, rfl⟩
        rw [← eW] at bN O  ⊢
        rw [← eB] at bN ⊢
        clear eW eB hOs
        refine wpAnyH_ready (rs := [1]) (by kernel_rfl) (by simp) ?_
        refine (AllReadyH.cons rfl (fun K hK => ?_) AllReadyH.nil)
        go_simp
        refine (toRb_any _ L _ (hR.keep O) hlen).mono ?_
        rintro e u0ac ⟨uu, rfl, hE1, hb⟩
        replace bN := bN.keep hb
        have O := over_step O hb
        replace hE1 := hE1.rd HD.out hn
        obtain ⟨xx, cc, rfl⟩ := hE1.len
        clear hb
        refine hK.out _ _ O (fun _ => ?_)
        clear hK K
        try simp only [Act.put, List.setIfInBounds_toArray, List.set_cons_zero, List.set_cons_succ]
        refine wpAnyH_ready (rs := [3]) (by kernel_rfl) (by simp) ?_
        refine (AllReadyH.cons rfl (fun K hK => ?_) AllReadyH.nil)
        go_simp
        refine (to_any a n _).mono ?_
        rintro e u0acc ⟨rfl, hb⟩
        replace bN := bN.keep hb
        replace hE1 := hE1.keep hb
        have O := over_step O hb
        clear hb
        refine hK.out _ _ O (fun _ => ?_)
        clear hK K
        try simp only [Act.put, List.setIfInBounds_toArray, List.set_cons_zero, List.set_cons_succ]
        refine wpAnyH_ready (rs := [5]) (by kernel_rfl) (by simp) ?_
        refine (AllReadyH.cons rfl (fun K hK => ?_) AllReadyH.nil)
        go_simp
        refine (sget_t _ HE hE1 HLP.out).mono ?_
        rintro e u0accc ⟨pa, px, ca, cx, rfl, ho1, ho2, hap, hb⟩
        have hOS := O.size
        have hs1 := sepLtR ho1 bN.lt
        have hs2 := sepLtR ho2 bN.lt
        replace ho1 := ho1.mono hOS
        replace ho2 := ho2.mono hOS
        clear hOS
        replace bN := bN.keep hb
        replace hE1 := hE1.keep hb
        have O := over_step O hb
        clear hb
        refine hK.out _ _ O (fun _ => ?_)
        clear hK K
        try simp only [Act.put, List.setIfInBounds_toArray, List.set_cons_zero, List.set_cons_succ]
        refine wpAnyH_take (i := 6) (v := ?_) rfl (by kernel_rfl) (by kernel_rfl) (by kernel_rfl) (fun _ _ _ h => h) (Or.inl ⟨by rfl, ?_⟩) O ?_
        rotate_left
        · intro wq hSq
          (try dsimp only at hSq)

          go_simp
          try rfl
        change wpAnyH _ _ _ _ _ _ _ (Act.put _ (some 23) _) _
        simp only [Act.put, List.setIfInBounds_toArray, List.set_cons_succ, List.set_cons_zero]
        refine wpAnyH_take (i := 7) (v := ?_) rfl (by kernel_rfl) (by kernel_rfl) (by kernel_rfl) (fun _ _ _ h => h) (Or.inl ⟨by rfl, ?_⟩) O ?_
        rotate_left
        · intro wq hSq
          (try dsimp only at hSq)

          go_simp
          try rfl
        change wpAnyH _ _ _ _ _ _ _ (Act.put _ (some 30) _) _
        simp only [Act.put, List.setIfInBounds_toArray, List.set_cons_succ, List.set_cons_zero]
        refine wpAnyH_take (i := 8) (v := ?_) rfl (by kernel_rfl) (by kernel_rfl) (by kernel_rfl) (fun _ _ _ h => h) (Or.inl ⟨by rfl, ?_⟩) O ?_
        rotate_left
        · intro wq hSq
          (try dsimp only at hSq)

          go_simp
          try rfl
        change wpAnyH _ _ _ _ _ _ _ (Act.put _ (some 31) _) _
        simp only [Act.put, List.setIfInBounds_toArray, List.set_cons_succ, List.set_cons_zero]
        clear hE1
        have r0 := bN.c 0 rfl
        have rf0 := bN.f 0 (x := _) rfl
        have r1 := bN.c 1 rfl
        have rf1 := bN.f 1 (x := _) rfl
        have r2 := bN.c 2 rfl
        have rf2 := bN.f 2 (x := _) rfl
        have r3 := bN.c 3 rfl
        have rf3 := bN.f 3 (x := _) rfl
        refine wpAnyH_ready (rs := [10]) (by kernel_rfl) (by simp) ?_
        refine (AllReadyH.cons rfl (fun K hK => ?_) AllReadyH.nil)
        go_simp
        have O2 : Over V0 _ := (Below.setCell (Below.setCell (Below.setCell (Below.setCell O (p := ⟨B, 0, none⟩) hBV (.slice pa E.p.length px)) (p := ⟨B, 1, none⟩) hBV (.int .i64 E.pr)) (p := ⟨B, 2, none⟩) hBV (.slice ca E.c.length cx)) (p := ⟨B, 3, none⟩) hBV (.int .i64 E.bw))
        refine hK.out _ _ O2 (fun _ => ?_)
        clear hK K
        try simp only [Act.put, List.setIfInBounds_toArray, List.set_cons_zero, List.set_cons_succ]
        refine wpAnyH_ready (rs := [11]) (by kernel_rfl) (by simp) ?_
        refine (AllReadyH.cons rfl (fun K hK => ?_) AllReadyH.nil)
        go_simp
        refine hK.out _ _ O2 (fun _ => ?_)
        clear hK K
        try simp only [Act.put, List.setIfInBounds_toArray, List.set_cons_zero, List.set_cons_succ]
        clear r0 rf0 r1 rf1 r2 rf2 r3 rf3
        refine wpAnyH_done (by kernel_rfl) ?_ _
        have b4 := ((((bN.set 0 (.slice pa E.p.length px)).set 1 (.int .i64 E.pr)).set 2 (.slice ca E.c.length cx)).set 3 (.int .i64 E.bw))
        have q1 := (farNR (o := 3) (u := .int .i64 E.bw) (farNR (o := 2) (u := .slice ca E.c.length cx) (farNR (o := 1) (u := .int .i64 E.pr) (farNR (o := 0) (u := .slice pa E.p.length px) ho1 hs1) hs1) hs1) hs1)
        have q2 := (farNR (o := 3) (u := .int .i64 E.bw) (farNR (o := 2) (u := .slice ca E.c.length cx) (farNR (o := 1) (u := .int .i64 E.pr) (farNR (o := 0) (u := .slice pa E.p.length px) ho2 hs2) hs2) hs2) hs2)
        go_wp2_with fail
        go_meet
        case rel => exact ⟨B, pa, px, ca, cx, rfl, rfl, O2, b4, q1, q2, hap, hBV, hs1, hs2⟩
    case rest =>
      obtain ⟨V, rfl⟩ : ∃ x : World, x = wc := ⟨_, rfl⟩
      obtain ⟨X, pa, px, ca, cx, rfl, rfl, O8, bX, o1, o2, -, -, -, -⟩ := hcut
      have q1 := o1.rd HBE.out.1
      have q2 := o2.rd HBE.out.2
      replace bA := bA.keep O8
      replace bP := bP.keep O8
      replace hR := hR.keep O8
      replace B0 := below_step B0 O8
      clear o1 o2 O8
      have a0 := bA.c 0 rfl
      go_wp2_with fail
      clear a0
      refine (toRb_any _ L _ hR hlen).mono ?_
      rintro e w4 ⟨u4, rfl, h4, hb⟩
      have OV : Over V w4 := hb
      clear hb
      have r4 := h4.rd HD.out hn
      obtain ⟨x4, c4, rfl⟩ := r4.len
      go_wp2_with fail
      obtain ⟨Y, eY⟩ : ∃ Y, Y = w4.heap.size := ⟨_, rfl⟩
      obtain ⟨W5, eW⟩ : ∃ W5, W5 = w4.alloc (.cells #[.slice x4 L.length c4] 35) := ⟨_, rfl⟩
      obtain ⟨bY, bW, z⟩ := one w4 [.slice x4 L.length c4] 35
      rw [← eY] at bY ⊢
      rw [← eW] at bY bW z ⊢
      have h45 : w4.heap.size ≤ W5.heap.size := bW.size
      have O4 : Over w4 W5 := bW
      clear z eY eW bW
      replace OV := over_trans OV O4
      replace r4 := r4.keep O4
      have bP5 := bP.keep OV
      have HVS := Lib.hid OV.size
      go_cut [11, 12] from 34 to 42 (fun s11 s12 wx => KeptA W5 wx E fb s11 s12)
      case first =>
        refine wp_region_held_drew (S := fun w' => Over W5 w') (by kernel_rfl) (over_drew W5) (fun hHeld => ?_)
        obtain ⟨u0, e0'⟩ : ∃ u, u = W5.drew := ⟨_, rfl⟩
        have O : Over W5 u0 := by rw [e0']; exact over_drew W5
        rw [← e0']
        clear e0' hHeld
        refine wpAnyH_take (i := 0) (v := ?_) rfl (by kernel_rfl) (by kernel_rfl) (by kernel_rfl) (fun _ _ _ h => h) (Or.inl ⟨by rfl, ?_⟩) O ?_
        rotate_left
        · intro wq hSq
          (try dsimp only at hSq)
          have q0 := bY.o hSq 0 rfl
          go_simp
          try rfl
        change wpAnyH _ _ _ _ _ _ _ (Act.put _ (some 35) _) _
        simp only [Act.put, List.setIfInBounds_toArray, List.set_cons_succ, List.set_cons_zero]
        refine wpAnyH_take (i := 1) (v := ?_) rfl (by kernel_rfl) (by kernel_rfl) (by kernel_rfl) (fun _ _ _ h => h) (Or.inl ⟨by rfl, ?_⟩) O ?_
        rotate_left
        · intro wq hSq
          (try dsimp only at hSq)
          have q0 := bP5.o hSq 0 rfl
          have q1 := bP5.o hSq 1 rfl
          go_simp
          try rfl
        change wpAnyH _ _ _ _ _ _ _ (Act.put _ (some 36) _) _
        simp only [Act.put, List.setIfInBounds_toArray, List.set_cons_succ, List.set_cons_zero]
        refine wpAnyH_take (i := 3) (v := ?_) rfl (by kernel_rfl) (by kernel_rfl) (by kernel_rfl) (fun _ _ _ h => h) (Or.inl ⟨by rfl, ?_⟩) O ?_
        rotate_left
        · intro wq hSq
          (try dsimp only at hSq)

          go_simp
          try rfl
        change wpAnyH _ _ _ _ _ _ _ (Act.put _ (some 38) _) _
        simp only [Act.put, List.setIfInBounds_toArray, List.set_cons_succ, List.set_cons_zero]
        refine wpAnyH_ready (rs := [2, 8]) (by kernel_rfl) (by simp) ?_
        refine (AllReadyH.cons rfl (fun K hK => ?_) (AllReadyH.cons rfl (fun K hK => ?_) AllReadyH.nil))
        · go_simp
          refine (to_any a n _).mono ?_
          rintro e u0c ⟨rfl, hb⟩
          have O := over_step O hb
          clear hb
          refine hK.out _ _ O (fun _ => ?_)
          clear hK K
          try simp only [Act.put, List.setIfInBounds_toArray, List.set_cons_zero, List.set_cons_succ]
          refine wpAnyH_ready (rs := [4, 8]) (by kernel_rfl) (by simp) ?_
          refine (AllReadyH.cons rfl (fun K hK => ?_) (AllReadyH.cons rfl (fun K hK => ?_) AllReadyH.nil))
          · go_simp
            refine (iget_t _ HE (r4.keep O) HLP.out).mono ?_
            rintro e u0cc ⟨pa, px, ca, cx, rfl, ho1, ho2, hap, hb⟩
            have hOS := O.size
            replace ho1 := ho1.mono hOS
            replace ho2 := ho2.mono hOS
            clear hOS
            have O := over_step O hb
            clear hb
            refine hK.out _ _ O (fun _ => ?_)
            clear hK K
            try simp only [Act.put, List.setIfInBounds_toArray, List.set_cons_zero, List.set_cons_succ]
            refine wpAnyH_take (i := 5) (v := ?_) rfl (by kernel_rfl) (by kernel_rfl) (by kernel_rfl) (fun _ _ _ h => h) (Or.inl ⟨by rfl, ?_⟩) O ?_
            rotate_left
            · intro wq hSq
              (try dsimp only at hSq)

              go_simp
              try rfl
            change wpAnyH _ _ _ _ _ _ _ (Act.put _ (some 34) _) _
            simp only [Act.put, List.setIfInBounds_toArray, List.set_cons_succ, List.set_cons_zero]
            refine wpAnyH_take (i := 6) (v := ?_) rfl (by kernel_rfl) (by kernel_rfl) (by kernel_rfl) (fun _ _ _ h => h) (Or.inl ⟨by rfl, ?_⟩) O ?_
            rotate_left
            · intro wq hSq
              (try dsimp only at hSq)

              go_simp
              try rfl
            change wpAnyH _ _ _ _ _ _ _ (Act.put _ (some 40) _) _
            simp only [Act.put, List.setIfInBounds_toArray, List.set_cons_succ, List.set_cons_zero]
            refine wpAnyH_take (i := 7) (v := ?_) rfl (by kernel_rfl) (by kernel_rfl) (by kernel_rfl) (fun _ _ _ h => h) (Or.inl ⟨by rfl, ?_⟩) O ?_
            rotate_left
            · intro wq hSq
              (try dsimp only at hSq)

              go_simp
              try rfl
            change wpAnyH _ _ _ _ _ _ _ (Act.put _ (some 41) _) _
            simp only [Act.put, List.setIfInBounds_toArray, List.set_cons_succ, List.set_cons_zero]
            refine wpAnyH_ready (rs := [8]) (by kernel_rfl) (by simp) ?_
            refine (AllReadyH.cons rfl (fun K hK => ?_) AllReadyH.nil)
            go_simp
            have hOs := O.size
            have hs1 := sepGeR ho1 (Nat.le_refl u0cc.heap.size)
            have hs2 := sepGeR ho2 (Nat.le_refl u0cc.heap.size)
            obtain ⟨bN, hb, z⟩ := one u0cc [.slice none 0 0, .int .i64 0, .slice none 0 0, .int .i64 0] 30
            have O := over_step O hb
            replace ho1 := ho1.keep hb
            replace ho2 := ho2.keep hb
            clear z hb
            refine hK.out _ _ O (fun _ => ?_)
            clear hK K
            try simp only [Act.put, List.setIfInBounds_toArray, List.set_cons_zero, List.set_cons_succ]
            obtain ⟨B, eB⟩ : ∃ B, B = u0cc.heap.size := ⟨_, rfl⟩
            have hBV : W5.heap.size ≤ B := by rw [eB]; exact hOs
            obtain ⟨u0cca, eW⟩ : ∃ u, u = u0cc.alloc (.cells #[.slice none 0 0, .int .i64 0, .slice none 0 0, .int .i64 0] 30) := ⟨_, rfl⟩
            rw [← eW] at bN O ho1 ho2 ⊢
            rw [← eB] at bN hs1 hs2 ⊢
            clear eW eB hOs
            have r0 := bN.c 0 rfl
            have rf0 := bN.f 0 (x := _) rfl
            have r1 := bN.c 1 rfl
            have rf1 := bN.f 1 (x := _) rfl
            have r2 := bN.c 2 rfl
            have rf2 := bN.f 2 (x := _) rfl
            have r3 := bN.c 3 rfl
            have rf3 := bN.f 3 (x := _) rfl
            refine wpAnyH_ready (rs := [9]) (by kernel_rfl) (by simp) ?_
            refine (AllReadyH.cons rfl (fun K hK => ?_) AllReadyH.nil)
            go_simp
            have O2 : Over W5 _ := (Below.setCell (Below.setCell (Below.setCell (Below.setCell O (p := ⟨B, 0, none⟩) hBV (.slice pa E.p.length px)) (p := ⟨B, 1, none⟩) hBV (.int .i64 E.pr)) (p := ⟨B, 2, none⟩) hBV (.slice ca E.c.length cx)) (p := ⟨B, 3, none⟩) hBV (.int .i64 E.bw))
            refine hK.out _ _ O2 (fun _ => ?_)
            clear hK K
            try simp only [Act.put, List.setIfInBounds_toArray, List.set_cons_zero, List.set_cons_succ]
            refine wpAnyH_ready (rs := [10]) (by kernel_rfl) (by simp) ?_
            refine (AllReadyH.cons rfl (fun K hK => ?_) AllReadyH.nil)
            go_simp
            refine hK.out _ _ O2 (fun _ => ?_)
            clear hK K
            try simp only [Act.put, List.setIfInBounds_toArray, List.set_cons_zero, List.set_cons_succ]
            clear r0 rf0 r1 rf1 r2 rf2 r3 rf3
            refine wpAnyH_done (by kernel_rfl) ?_ _
            have b4 := ((((bN.set 0 (.slice pa E.p.length px)).set 1 (.int .i64 E.pr)).set 2 (.slice ca E.c.length cx)).set 3 (.int .i64 E.bw))
            have q1 := (farNR (o := 3) (u := .int .i64 E.bw) (farNR (o := 2) (u := .slice ca E.c.length cx) (farNR (o := 1) (u := .int .i64 E.pr) (farNR (o := 0) (u := .slice pa E.p.length px) ho1 hs1) hs1) hs1) hs1)
            have q2 := (farNR (o := 3) (u := .int .i64 E.bw) (farNR (o := 2) (u := .slice ca E.c.length cx) (farNR (o := 1) (u := .int .i64 E.pr) (farNR (o := 0) (u := .slice pa E.p.length px) ho2 hs2) hs2) hs2) hs2)
            go_wp2_with fail
            go_meet
            case rel => exact ⟨B, pa, px, ca, cx, rfl, rfl, O2, b4, q1, q2, hap, hBV, hs1, hs2⟩
          · go_simp
            have hOs := O.size
            obtain ⟨bN, hb, z⟩ := one u0c [.slice none 0 0, .int .i64 0, .slice none 0 0, .int .i64 0] 30
            have O := over_step O hb
            clear z hb
            refine hK.out _ _ O (fun _ => ?_)
            clear hK K
            try simp only [Act.put, List.setIfInBounds_toArray, List.set_cons_zero, List.set_cons_succ]
            obtain ⟨B, eB⟩ : ∃ B, B = u0c.heap.size := ⟨_, rfl⟩
            have hBV : W5.heap.size ≤ B := by rw [eB]; exact hOs
            obtain ⟨u0ca, eW⟩ : ∃ u, u = u0c.alloc (.cells #[.slice none 0 0, .int .i64 0, .slice none 0 0, .int .i64 0] 30) := ⟨_, rfl⟩
            rw [← eW] at bN O  ⊢
            rw [← eB] at bN ⊢
            clear eW eB hOs
            refine wpAnyH_ready (rs := [4]) (by kernel_rfl) (by simp) ?_
            refine (AllReadyH.cons rfl (fun K hK => ?_) AllReadyH.nil)
            go_simp
            refine (iget_t _ HE (r4.keep O) HLP.out).mono ?_
            rintro e u0cac ⟨pa, px, ca, cx, rfl, ho1, ho2, hap, hb⟩
            have hOS := O.size
            have hs1 := sepLtR ho1 bN.lt
            have hs2 := sepLtR ho2 bN.lt
            replace ho1 := ho1.mono hOS
            replace ho2 := ho2.mono hOS
            clear hOS
            replace bN := bN.keep hb
            have O := over_step O hb
            clear hb
            refine hK.out _ _ O (fun _ => ?_)
            clear hK K
            try simp only [Act.put, List.setIfInBounds_toArray, List.set_cons_zero, List.set_cons_succ]
            refine wpAnyH_take (i := 5) (v := ?_) rfl (by kernel_rfl) (by kernel_rfl) (by kernel_rfl) (fun _ _ _ h => h) (Or.inl ⟨by rfl, ?_⟩) O ?_
            rotate_left
            · intro wq hSq
              (try dsimp only at hSq)

              go_simp
              try rfl
            change wpAnyH _ _ _ _ _ _ _ (Act.put _ (some 34) _) _
            simp only [Act.put, List.setIfInBounds_toArray, List.set_cons_succ, List.set_cons_zero]
            refine wpAnyH_take (i := 6) (v := ?_) rfl (by kernel_rfl) (by kernel_rfl) (by kernel_rfl) (fun _ _ _ h => h) (Or.inl ⟨by rfl, ?_⟩) O ?_
            rotate_left
            · intro wq hSq
              (try dsimp only at hSq)

              go_simp
              try rfl
            change wpAnyH _ _ _ _ _ _ _ (Act.put _ (some 40) _) _
            simp only [Act.put, List.setIfInBounds_toArray, List.set_cons_succ, List.set_cons_zero]
            refine wpAnyH_take (i := 7) (v := ?_) rfl (by kernel_rfl) (by kernel_rfl) (by kernel_rfl) (fun _ _ _ h => h) (Or.inl ⟨by rfl, ?_⟩) O ?_
            rotate_left
            · intro wq hSq
              (try dsimp only at hSq)

              go_simp
              try rfl
            change wpAnyH _ _ _ _ _ _ _ (Act.put _ (some 41) _) _
            simp only [Act.put, List.setIfInBounds_toArray, List.set_cons_succ, List.set_cons_zero]
            have r0 := bN.c 0 rfl
            have rf0 := bN.f 0 (x := _) rfl
            have r1 := bN.c 1 rfl
            have rf1 := bN.f 1 (x := _) rfl
            have r2 := bN.c 2 rfl
            have rf2 := bN.f 2 (x := _) rfl
            have r3 := bN.c 3 rfl
            have rf3 := bN.f 3 (x := _) rfl
            refine wpAnyH_ready (rs := [9]) (by kernel_rfl) (by simp) ?_
            refine (AllReadyH.cons rfl (fun K hK => ?_) AllReadyH.nil)
            go_simp
            have O2 : Over W5 _ := (Below.setCell (Below.setCell (Below.setCell (Below.setCell O (p := ⟨B, 0, none⟩) hBV (.slice pa E.p.length px)) (p := ⟨B, 1, none⟩) hBV (.int .i64 E.pr)) (p := ⟨B, 2, none⟩) hBV (.slice ca E.c.length cx)) (p := ⟨B, 3, none⟩) hBV (.int .i64 E.bw))
            refine hK.out _ _ O2 (fun _ => ?_)
            clear hK K
            try simp only [Act.put, List.setIfInBounds_toArray, List.set_cons_zero, List.set_cons_succ]
            refine wpAnyH_ready (rs := [10]) (by kernel_rfl) (by simp) ?_
            refine (AllReadyH.cons rfl (fun K hK => ?_) AllReadyH.nil)
            go_simp
            refine hK.out _ _ O2 (fun _ => ?_)
            clear hK K
            try simp only [Act.put, List.setIfInBounds_toArray, List.set_cons_zero, List.set_cons_succ]
            clear r0 rf0 r1 rf1 r2 rf2 r3 rf3
            refine wpAnyH_done (by kernel_rfl) ?_ _
            have b4 := ((((bN.set 0 (.slice pa E.p.length px)).set 1 (.int .i64 E.pr)).set 2 (.slice ca E.c.length cx)).set 3 (.int .i64 E.bw))
            have q1 := (farNR (o := 3) (u := .int .i64 E.bw) (farNR (o := 2) (u := .slice ca E.c.length cx) (farNR (o := 1) (u := .int .i64 E.pr) (farNR (o := 0) (u := .slice pa E.p.length px) ho1 hs1) hs1) hs1) hs1)
            have q2 := (farNR (o := 3) (u := .int .i64 E.bw) (farNR (o := 2) (u := .slice ca E.c.length cx) (farNR (o := 1) (u := .int .i64 E.pr) (farNR (o := 0) (u := .slice pa E.p.length px) ho2 hs2) hs2) hs2) hs2)
            go_wp2_with fail
            go_meet
            case rel => exact ⟨B, pa, px, ca, cx, rfl, rfl, O2, b4, q1, q2, hap, hBV, hs1, hs2⟩
        · go_simp
          have hOs := O.size
          obtain ⟨bN, hb, z⟩ := one u0 [.slice none 0 0, .int .i64 0, .slice none 0 0, .int .i64 0] 30
          have O := over_step O hb
          clear z hb
          refine hK.out _ _ O (fun _ => ?_)
          clear hK K
          try simp only [Act.put, List.setIfInBounds_toArray, List.set_cons_zero, List.set_cons_succ]
          obtain ⟨B, eB⟩ : ∃ B, B = u0.heap.size := ⟨_, rfl⟩
          have hBV : W5.heap.size ≤ B := by rw [eB]; exact hOs
          obtain ⟨u0a, eW⟩ : ∃ u, u = u0.alloc (.cells #[.slice none 0 0, .int .i64 0, .slice none 0 0, .int .i64 0] 30) := ⟨_, rfl⟩
          rw [← eW] at bN O  ⊢
          rw [← eB] at bN ⊢
          clear eW eB hOs
          refine wpAnyH_ready (rs := [2]) (by kernel_rfl) (by simp) ?_
          refine (AllReadyH.cons rfl (fun K hK => ?_) AllReadyH.nil)
          go_simp
          refine (to_any a n _).mono ?_
          rintro e u0ac ⟨rfl, hb⟩
          replace bN := bN.keep hb
          have O := over_step O hb
          clear hb
          refine hK.out _ _ O (fun _ => ?_)
          clear hK K
          try simp only [Act.put, List.setIfInBounds_toArray, List.set_cons_zero, List.set_cons_succ]
          refine wpAnyH_ready (rs := [4]) (by kernel_rfl) (by simp) ?_
          refine (AllReadyH.cons rfl (fun K hK => ?_) AllReadyH.nil)
          go_simp
          refine (iget_t _ HE (r4.keep O) HLP.out).mono ?_
          rintro e u0acc ⟨pa, px, ca, cx, rfl, ho1, ho2, hap, hb⟩
          have hOS := O.size
          have hs1 := sepLtR ho1 bN.lt
          have hs2 := sepLtR ho2 bN.lt
          replace ho1 := ho1.mono hOS
          replace ho2 := ho2.mono hOS
          clear hOS
          replace bN := bN.keep hb
          have O := over_step O hb
          clear hb
          refine hK.out _ _ O (fun _ => ?_)
          clear hK K
          try simp only [Act.put, List.setIfInBounds_toArray, List.set_cons_zero, List.set_cons_succ]
          refine wpAnyH_take (i := 5) (v := ?_) rfl (by kernel_rfl) (by kernel_rfl) (by kernel_rfl) (fun _ _ _ h => h) (Or.inl ⟨by rfl, ?_⟩) O ?_
          rotate_left
          · intro wq hSq
            (try dsimp only at hSq)

            go_simp
            try rfl
          change wpAnyH _ _ _ _ _ _ _ (Act.put _ (some 34) _) _
          simp only [Act.put, List.setIfInBounds_toArray, List.set_cons_succ, List.set_cons_zero]
          refine wpAnyH_take (i := 6) (v := ?_) rfl (by kernel_rfl) (by kernel_rfl) (by kernel_rfl) (fun _ _ _ h => h) (Or.inl ⟨by rfl, ?_⟩) O ?_
          rotate_left
          · intro wq hSq
            (try dsimp only at hSq)

            go_simp
            try rfl
          change wpAnyH _ _ _ _ _ _ _ (Act.put _ (some 40) _) _
          simp only [Act.put, List.setIfInBounds_toArray, List.set_cons_succ, List.set_cons_zero]
          refine wpAnyH_take (i := 7) (v := ?_) rfl (by kernel_rfl) (by kernel_rfl) (by kernel_rfl) (fun _ _ _ h => h) (Or.inl ⟨by rfl, ?_⟩) O ?_
          rotate_left
          · intro wq hSq
            (try dsimp only at hSq)

            go_simp
            try rfl
          change wpAnyH _ _ _ _ _ _ _ (Act.put _ (some 41) _) _
          simp only [Act.put, List.setIfInBounds_toArray, List.set_cons_succ, List.set_cons_zero]
          have r0 := bN.c 0 rfl
          have rf0 := bN.f 0 (x := _) rfl
          have r1 := bN.c 1 rfl
          have rf1 := bN.f 1 (x := _) rfl
          have r2 := bN.c 2 rfl
          have rf2 := bN.f 2 (x := _) rfl
          have r3 := bN.c 3 rfl
          have rf3 := bN.f 3 (x := _) rfl
          refine wpAnyH_ready (rs := [9]) (by kernel_rfl) (by simp) ?_
          refine (AllReadyH.cons rfl (fun K hK => ?_) AllReadyH.nil)
          go_simp
          have O2 : Over W5 _ := (Below.setCell (Below.setCell (Below.setCell (Below.setCell O (p := ⟨B, 0, none⟩) hBV (.slice pa E.p.length px)) (p := ⟨B, 1, none⟩) hBV (.int .i64 E.pr)) (p := ⟨B, 2, none⟩) hBV (.slice ca E.c.length cx)) (p := ⟨B, 3, none⟩) hBV (.int .i64 E.bw))
          refine hK.out _ _ O2 (fun _ => ?_)
          clear hK K
          try simp only [Act.put, List.setIfInBounds_toArray, List.set_cons_zero, List.set_cons_succ]
          refine wpAnyH_ready (rs := [10]) (by kernel_rfl) (by simp) ?_
          refine (AllReadyH.cons rfl (fun K hK => ?_) AllReadyH.nil)
          go_simp
          refine hK.out _ _ O2 (fun _ => ?_)
          clear hK K
          try simp only [Act.put, List.setIfInBounds_toArray, List.set_cons_zero, List.set_cons_succ]
          clear r0 rf0 r1 rf1 r2 rf2 r3 rf3
          refine wpAnyH_done (by kernel_rfl) ?_ _
          have b4 := ((((bN.set 0 (.slice pa E.p.length px)).set 1 (.int .i64 E.pr)).set 2 (.slice ca E.c.length cx)).set 3 (.int .i64 E.bw))
          have q1 := (farNR (o := 3) (u := .int .i64 E.bw) (farNR (o := 2) (u := .slice ca E.c.length cx) (farNR (o := 1) (u := .int .i64 E.pr) (farNR (o := 0) (u := .slice pa E.p.length px) ho1 hs1) hs1) hs1) hs1)
          have q2 := (farNR (o := 3) (u := .int .i64 E.bw) (farNR (o := 2) (u := .slice ca E.c.length cx) (farNR (o := 1) (u := .int .i64 E.pr) (farNR (o := 0) (u := .slice pa E.p.length px) ho2 hs2) hs2) hs2) hs2)
          go_wp2_with fail
          go_meet
          case rel => exact ⟨B, pa, px, ca, cx, rfl, rfl, O2, b4, q1, q2, hap, hBV, hs1, hs2⟩
      case rest =>
        obtain ⟨w5, rfl⟩ : ∃ x : World, x = wc := ⟨_, rfl⟩
        obtain ⟨Z, pa5, px5, ca5, cx5, rfl, rfl, O5, bZ, o5, o6, hap5, hZ, hZ1, hZ2⟩ := hcut
        replace bY := bY.keep O5
        replace r4 := r4.keep O5
        replace O4 := over_trans O4 O5
        replace OV := over_trans OV O5
        have HZS := Lib.hid hZ
        have h4Z : w4.heap.size ≤ Z := Nat.le_trans h45 hZ
        have hVs := HVS.out
        clear O5 bP5
        have bX5 := bX.keep OV
        have bX50 := bX5.c 0 rfl
        have bX51 := bX5.c 1 rfl
        have bX52 := bX5.c 2 rfl
        have bX53 := bX5.c 3 rfl
        have bZ0 := bZ.c 0 rfl
        have bZ1 := bZ.c 1 rfl
        have bZ2 := bZ.c 2 rfl
        have bZ3 := bZ.c 3 rfl
        go_wp2_with fail
        clear bX50 bX51 bX52 bX53 bZ0 bZ1 bZ2 bZ3 bX5
        refine (eqA_same _ _ _ _ E.p E.c _ _ _ (o5.rd HBE.out.1) (o6.rd HBE.out.2) (q1.keep OV) (q2.keep OV)).mono ?_
        rintro e w6 ⟨rfl, hb⟩
        replace bY := bY.keep hb
        replace bZ := bZ.keep hb
        replace r4 := r4.keep hb
        replace o5 := o5.keep hb
        replace o6 := o6.keep hb
        replace O4 := over_step O4 hb
        replace OV := over_step OV hb
        clear hb
        have bA6 := bA.keep OV
        have hR6 := hR.keep OV
        go_wp2_with fail
        go_region_held3 (fun w' => Over w6 w' ∧ w'.cell? ⟨AA, 0, none⟩ = some (.slice x L.length c) ∧ w'.cell? ⟨Y, 0, none⟩ = some (.slice x4 L.length c4))
          ((first | exact ⟨over_drew _, bA6.c 0 rfl, bY.c 0 rfl⟩ | exact (fun o => ⟨o, bA6.o o 0 rfl, bY.o o 0 rfl⟩) (over_step (‹Over w6 _ ∧ _›).1 (by assumption))))
          ((first | (go_at_call 10; refine (toRb_any _ L _ (hR6.keep (‹Over w6 _ ∧ _›).1) hlen).mono ?_; rintro e wa ⟨ua, rfl, hxa, hba⟩) | (go_at_call 14; refine (eqRb_same _ _ L _ (r4.keep (‹Over w6 _ ∧ _›).1) (hxa.rd HD.out hn)).mono ?_; rintro e w7 ⟨rfl, hbb⟩)))
        rename_i hH
        replace hH := hH.1
        clear hbb hba hxa bA6 hR6
        replace bY := bY.keep hH
        replace bZ := bZ.keep hH
        replace o5 := o5.keep hH
        replace o6 := o6.keep hH
        replace O4 := over_step O4 hH
        replace OV := over_step OV hH
        clear hH r4
        have x0 := bY.c 0 rfl
        go_wp2_with fail
        clear x0
        refine (markRb_later _ L 1 V.heap.size w4 _ h4 O4 hlen (by omega) (by omega)).mono ?_
        rintro e w8 ⟨k8, rfl, hk8, hs⟩
        replace OV : Over V w8 := Below.trans OV (hs.below OV.size)
        replace o5 := o5.soft hs h45
        replace o6 := o6.soft hs h45
        replace bZ := blSoft bZ hs h4Z
        clear hs O4 bY h4
        have hk8n : ¬ k8 < 0 := by omega
        have bX8 := bX.keep OV
        have bX80 := bX8.c 0 rfl
        have bX81 := bX8.c 1 rfl
        have bX82 := bX8.c 2 rfl
        have bX83 := bX8.c 3 rfl
        have bZ0 := bZ.c 0 rfl
        have bZ1 := bZ.c 1 rfl
        have bZ2 := bZ.c 2 rfl
        have bZ3 := bZ.c 3 rfl
        go_wp2_with fail
        clear bX80 bX81 bX82 bX83 bZ0 bZ1 bZ2 bZ3 bX8
        refine (eqA_same _ _ _ _ E.p E.c _ _ _ (o5.rd HBE.out.1) (o6.rd HBE.out.2) (q1.keep OV) (q2.keep OV)).mono ?_
        rintro e w9 ⟨rfl, hb⟩
        replace bZ := bZ.keep hb
        replace o5 := o5.keep hb
        replace o6 := o6.keep hb
        replace OV := over_step OV hb
        clear hb
        have bZ0 := bZ.c 0 rfl
        have bZ1 := bZ.c 1 rfl
        have bZ2 := bZ.c 2 rfl
        have bZ3 := bZ.c 3 rfl
        go_wp2_with fail
        clear bZ0 bZ1 bZ2 bZ3
        have hW9 : W5.heap.size ≤ w9.heap.size := by have := HZS.out; have := bZ.lt; omega
        refine (markA_any _ _ E.p E.c _ _ 1 W5.heap.size _ o5 o6 hap5 hW9 (by omega) (by omega)).mono ?_
        rintro e w10 ⟨rfl, m5, m6, hbw, -, hbx⟩
        have bZx := hbx Z _ _ _ _ (bxOf bZ) hZ1 hZ2
        replace OV : Over V w10 := Below.trans OV (hbw.mono hVs)
        clear hbw hbx o5 o6 bZ hZ1 hZ2 hk8 hk8n hW9
        obtain ⟨M, hM⟩ : ∃ M : Int, M = 1 + (E.p.length : Int) + (E.c.length : Int) := ⟨_, rfl⟩
        have hMn : ¬ M < 0 := by omega
        have hMM : (M != M) = false := by simp
        rw [← hM]
        have HM := Lib.hid hM
        have hb1 : ∀ x ∈ imarks 1 E.p.length, -9223372036854775808 ≤ x ∧ x ≤ 9223372036854775807 := imarks_bd 1 _ (by omega) (by omega)
        have hb2 : ∀ x ∈ imarks (1 + (E.p.length : Int)) E.c.length, -9223372036854775808 ≤ x ∧ x ≤ 9223372036854775807 := imarks_bd _ _ (by omega) (by omega)
        have HB1 := Lib.hid hb1
        have HB2 := Lib.hid hb2
        have r5 := m5.rd hb1
        have r6 := m6.rd hb2
        clear hM hb1 hb2 m5 m6
        have z0 := bZx.c0
        have z1 := bZx.c1
        have z2 := bZx.c2
        have z3 := bZx.c3
        go_wp2_with fail
        clear z0 z1 z2 z3
        refine (heldA_any _ _ E.p.length E.c.length _ _ 1 _ r5 r6 (by omega) (by omega)).mono ?_
        rintro e w11 ⟨rfl, hb⟩
        rw [← HM.out]
        replace r5 := r5.keep hb
        replace r6 := r6.keep hb
        replace bZx := bZx.keep hb
        replace OV := over_step OV hb
        clear hb
        have bA11 := bA.keep OV
        have bP11 := bP.keep OV
        have hR11 := hR.keep OV
        go_wp2_with fail
        go_cut [16, 17] from 83 to 92 (fun s16 s17 wx => KeptA w11 wx E fb s16 s17)
        case first =>
          refine wp_region_held_drew (S := fun w' => Over w11 w') (by kernel_rfl) (over_drew w11) (fun hHeld => ?_)
          obtain ⟨u0, e0'⟩ : ∃ u, u = w11.drew := ⟨_, rfl⟩
          have O : Over w11 u0 := by rw [e0']; exact over_drew w11
          rw [← e0']
          clear e0' hHeld
          refine wpAnyH_take (i := 0) (v := ?_) rfl (by kernel_rfl) (by kernel_rfl) (by kernel_rfl) (fun _ _ _ h => h) (Or.inl ⟨by rfl, ?_⟩) O ?_
          rotate_left
          · intro wq hSq
            (try dsimp only at hSq)
            have q0 := bA11.o hSq 0 rfl
            go_simp
            try rfl
          change wpAnyH _ _ _ _ _ _ _ (Act.put _ (some 84) _) _
          simp only [Act.put, List.setIfInBounds_toArray, List.set_cons_succ, List.set_cons_zero]
          refine wpAnyH_take (i := 2) (v := ?_) rfl (by kernel_rfl) (by kernel_rfl) (by kernel_rfl) (fun _ _ _ h => h) (Or.inl ⟨by rfl, ?_⟩) O ?_
          rotate_left
          · intro wq hSq
            (try dsimp only at hSq)
            have q0 := bP11.o hSq 0 rfl
            have q1 := bP11.o hSq 1 rfl
            go_simp
            try rfl
          change wpAnyH _ _ _ _ _ _ _ (Act.put _ (some 86) _) _
          simp only [Act.put, List.setIfInBounds_toArray, List.set_cons_succ, List.set_cons_zero]
          refine wpAnyH_take (i := 4) (v := ?_) rfl (by kernel_rfl) (by kernel_rfl) (by kernel_rfl) (fun _ _ _ h => h) (Or.inl ⟨by rfl, ?_⟩) O ?_
          rotate_left
          · intro wq hSq
            (try dsimp only at hSq)

            go_simp
            try rfl
          change wpAnyH _ _ _ _ _ _ _ (Act.put _ (some 88) _) _
          simp only [Act.put, List.setIfInBounds_toArray, List.set_cons_succ, List.set_cons_zero]
          refine wpAnyH_ready (rs := [1, 9]) (by kernel_rfl) (by simp) ?_
          refine (AllReadyH.cons rfl (fun K hK => ?_) (AllReadyH.cons rfl (fun K hK => ?_) AllReadyH.nil))
          · go_simp
            refine (toRb_any _ L _ (hR11.keep O) hlen).mono ?_
            rintro e u0c ⟨uu, rfl, hE1, hb⟩
            have O := over_step O hb
            replace hE1 := hE1.rd HD.out hn
            obtain ⟨xx, cc, rfl⟩ := hE1.len
            clear hb
            refine hK.out _ _ O (fun _ => ?_)
            clear hK K
            try simp only [Act.put, List.setIfInBounds_toArray, List.set_cons_zero, List.set_cons_succ]
            refine wpAnyH_ready (rs := [3, 9]) (by kernel_rfl) (by simp) ?_
            refine (AllReadyH.cons rfl (fun K hK => ?_) (AllReadyH.cons rfl (fun K hK => ?_) AllReadyH.nil))
            · go_simp
              refine (to_any a n _).mono ?_
              rintro e u0cc ⟨rfl, hb⟩
              replace hE1 := hE1.keep hb
              have O := over_step O hb
              clear hb
              refine hK.out _ _ O (fun _ => ?_)
              clear hK K
              try simp only [Act.put, List.setIfInBounds_toArray, List.set_cons_zero, List.set_cons_succ]
              refine wpAnyH_ready (rs := [5, 9]) (by kernel_rfl) (by simp) ?_
              refine (AllReadyH.cons rfl (fun K hK => ?_) (AllReadyH.cons rfl (fun K hK => ?_) AllReadyH.nil))
              · go_simp
                refine (iget_t _ HE hE1 HLP.out).mono ?_
                rintro e u0ccc ⟨pa, px, ca, cx, rfl, ho1, ho2, hap, hb⟩
                have hOS := O.size
                replace ho1 := ho1.mono hOS
                replace ho2 := ho2.mono hOS
                clear hOS
                replace hE1 := hE1.keep hb
                have O := over_step O hb
                clear hb
                refine hK.out _ _ O (fun _ => ?_)
                clear hK K
                try simp only [Act.put, List.setIfInBounds_toArray, List.set_cons_zero, List.set_cons_succ]
                refine wpAnyH_take (i := 6) (v := ?_) rfl (by kernel_rfl) (by kernel_rfl) (by kernel_rfl) (fun _ _ _ h => h) (Or.inl ⟨by rfl, ?_⟩) O ?_
                rotate_left
                · intro wq hSq
                  (try dsimp only at hSq)

                  go_simp
                  try rfl
                change wpAnyH _ _ _ _ _ _ _ (Act.put _ (some 83) _) _
                simp only [Act.put, List.setIfInBounds_toArray, List.set_cons_succ, List.set_cons_zero]
                refine wpAnyH_take (i := 7) (v := ?_) rfl (by kernel_rfl) (by kernel_rfl) (by kernel_rfl) (fun _ _ _ h => h) (Or.inl ⟨by rfl, ?_⟩) O ?_
                rotate_left
                · intro wq hSq
                  (try dsimp only at hSq)

                  go_simp
                  try rfl
                change wpAnyH _ _ _ _ _ _ _ (Act.put _ (some 90) _) _
                simp only [Act.put, List.setIfInBounds_toArray, List.set_cons_succ, List.set_cons_zero]
                refine wpAnyH_take (i := 8) (v := ?_) rfl (by kernel_rfl) (by kernel_rfl) (by kernel_rfl) (fun _ _ _ h => h) (Or.inl ⟨by rfl, ?_⟩) O ?_
                rotate_left
                · intro wq hSq
                  (try dsimp only at hSq)

                  go_simp
                  try rfl
                change wpAnyH _ _ _ _ _ _ _ (Act.put _ (some 91) _) _
                simp only [Act.put, List.setIfInBounds_toArray, List.set_cons_succ, List.set_cons_zero]
                clear hE1
                refine wpAnyH_ready (rs := [9]) (by kernel_rfl) (by simp) ?_
                refine (AllReadyH.cons rfl (fun K hK => ?_) AllReadyH.nil)
                go_simp
                have hOs := O.size
                have hs1 := sepGeR ho1 (Nat.le_refl u0ccc.heap.size)
                have hs2 := sepGeR ho2 (Nat.le_refl u0ccc.heap.size)
                obtain ⟨bN, hb, z⟩ := one u0ccc [.slice none 0 0, .int .i64 0, .slice none 0 0, .int .i64 0] 30
                have O := over_step O hb
                replace ho1 := ho1.keep hb
                replace ho2 := ho2.keep hb
                clear z hb
                refine hK.out _ _ O (fun _ => ?_)
                clear hK K
                try simp only [Act.put, List.setIfInBounds_toArray, List.set_cons_zero, List.set_cons_succ]
                obtain ⟨B, eB⟩ : ∃ B, B = u0ccc.heap.size := ⟨_, rfl⟩
                have hBV : w11.heap.size ≤ B := by rw [eB]; exact hOs
                obtain ⟨u0ccca, eW⟩ : ∃ u, u = u0ccc.alloc (.cells #[.slice none 0 0, .int .i64 0, .slice none 0 0, .int .i64 0] 30) := ⟨_, rfl⟩
                rw [← eW] at bN O ho1 ho2 ⊢
                rw [← eB] at bN hs1 hs2 ⊢
                clear eW eB hOs
                have r0 := bN.c 0 rfl
                have rf0 := bN.f 0 (x := _) rfl
                have r1 := bN.c 1 rfl
                have rf1 := bN.f 1 (x := _) rfl
                have r2 := bN.c 2 rfl
                have rf2 := bN.f 2 (x := _) rfl
                have r3 := bN.c 3 rfl
                have rf3 := bN.f 3 (x := _) rfl
                refine wpAnyH_ready (rs := [10]) (by kernel_rfl) (by simp) ?_
                refine (AllReadyH.cons rfl (fun K hK => ?_) AllReadyH.nil)
                go_simp
                have O2 : Over w11 _ := (Below.setCell (Below.setCell (Below.setCell (Below.setCell O (p := ⟨B, 0, none⟩) hBV (.slice pa E.p.length px)) (p := ⟨B, 1, none⟩) hBV (.int .i64 E.pr)) (p := ⟨B, 2, none⟩) hBV (.slice ca E.c.length cx)) (p := ⟨B, 3, none⟩) hBV (.int .i64 E.bw))
                refine hK.out _ _ O2 (fun _ => ?_)
                clear hK K
                try simp only [Act.put, List.setIfInBounds_toArray, List.set_cons_zero, List.set_cons_succ]
                refine wpAnyH_ready (rs := [11]) (by kernel_rfl) (by simp) ?_
                refine (AllReadyH.cons rfl (fun K hK => ?_) AllReadyH.nil)
                go_simp
                refine hK.out _ _ O2 (fun _ => ?_)
                clear hK K
                try simp only [Act.put, List.setIfInBounds_toArray, List.set_cons_zero, List.set_cons_succ]
                clear r0 rf0 r1 rf1 r2 rf2 r3 rf3
                refine wpAnyH_done (by kernel_rfl) ?_ _
                have b4 := ((((bN.set 0 (.slice pa E.p.length px)).set 1 (.int .i64 E.pr)).set 2 (.slice ca E.c.length cx)).set 3 (.int .i64 E.bw))
                have q1 := (farNR (o := 3) (u := .int .i64 E.bw) (farNR (o := 2) (u := .slice ca E.c.length cx) (farNR (o := 1) (u := .int .i64 E.pr) (farNR (o := 0) (u := .slice pa E.p.length px) ho1 hs1) hs1) hs1) hs1)
                have q2 := (farNR (o := 3) (u := .int .i64 E.bw) (farNR (o := 2) (u := .slice ca E.c.length cx) (farNR (o := 1) (u := .int .i64 E.pr) (farNR (o := 0) (u := .slice pa E.p.length px) ho2 hs2) hs2) hs2) hs2)
                go_wp2_with fail
                go_meet
                case rel => exact ⟨B, pa, px, ca, cx, rfl, rfl, O2, b4, q1, q2, hap, hBV, hs1, hs2⟩
              · go_simp
                have hOs := O.size
                obtain ⟨bN, hb, z⟩ := one u0cc [.slice none 0 0, .int .i64 0, .slice none 0 0, .int .i64 0] 30
                have O := over_step O hb
                replace hE1 := hE1.keep hb
                clear z hb
                refine hK.out _ _ O (fun _ => ?_)
                clear hK K
                try simp only [Act.put, List.setIfInBounds_toArray, List.set_cons_zero, List.set_cons_succ]
                obtain ⟨B, eB⟩ : ∃ B, B = u0cc.heap.size := ⟨_, rfl⟩
                have hBV : w11.heap.size ≤ B := by rw [eB]; exact hOs
                obtain ⟨u0cca, eW⟩ : ∃ u, u = u0cc.alloc (.cells #[.slice none 0 0, .int .i64 0, .slice none 0 0, .int .i64 0] 30) := ⟨_, rfl⟩
                rw [← eW] at bN O hE1 ⊢
                rw [← eB] at bN ⊢
                clear eW eB hOs
                refine wpAnyH_ready (rs := [5]) (by kernel_rfl) (by simp) ?_
                refine (AllReadyH.cons rfl (fun K hK => ?_) AllReadyH.nil)
                go_simp
                refine (iget_t _ HE hE1 HLP.out).mono ?_
                rintro e u0ccac ⟨pa, px, ca, cx, rfl, ho1, ho2, hap, hb⟩
                have hOS := O.size
                have hs1 := sepLtR ho1 bN.lt
                have hs2 := sepLtR ho2 bN.lt
                replace ho1 := ho1.mono hOS
                replace ho2 := ho2.mono hOS
                clear hOS
                replace hE1 := hE1.keep hb
                replace bN := bN.keep hb
                have O := over_step O hb
                clear hb
                refine hK.out _ _ O (fun _ => ?_)
                clear hK K
                try simp only [Act.put, List.setIfInBounds_toArray, List.set_cons_zero, List.set_cons_succ]
                refine wpAnyH_take (i := 6) (v := ?_) rfl (by kernel_rfl) (by kernel_rfl) (by kernel_rfl) (fun _ _ _ h => h) (Or.inl ⟨by rfl, ?_⟩) O ?_
                rotate_left
                · intro wq hSq
                  (try dsimp only at hSq)

                  go_simp
                  try rfl
                change wpAnyH _ _ _ _ _ _ _ (Act.put _ (some 83) _) _
                simp only [Act.put, List.setIfInBounds_toArray, List.set_cons_succ, List.set_cons_zero]
                refine wpAnyH_take (i := 7) (v := ?_) rfl (by kernel_rfl) (by kernel_rfl) (by kernel_rfl) (fun _ _ _ h => h) (Or.inl ⟨by rfl, ?_⟩) O ?_
                rotate_left
                · intro wq hSq
                  (try dsimp only at hSq)

                  go_simp
                  try rfl
                change wpAnyH _ _ _ _ _ _ _ (Act.put _ (some 90) _) _
                simp only [Act.put, List.setIfInBounds_toArray, List.set_cons_succ, List.set_cons_zero]
                refine wpAnyH_take (i := 8) (v := ?_) rfl (by kernel_rfl) (by kernel_rfl) (by kernel_rfl) (fun _ _ _ h => h) (Or.inl ⟨by rfl, ?_⟩) O ?_
                rotate_left
                · intro wq hSq
                  (try dsimp only at hSq)

                  go_simp
                  try rfl
                change wpAnyH _ _ _ _ _ _ _ (Act.put _ (some 91) _) _
                simp only [Act.put, List.setIfInBounds_toArray, List.set_cons_succ, List.set_cons_zero]
                clear hE1
                have r0 := bN.c 0 rfl
                have rf0 := bN.f 0 (x := _) rfl
                have r1 := bN.c 1 rfl
                have rf1 := bN.f 1 (x := _) rfl
                have r2 := bN.c 2 rfl
                have rf2 := bN.f 2 (x := _) rfl
                have r3 := bN.c 3 rfl
                have rf3 := bN.f 3 (x := _) rfl
                refine wpAnyH_ready (rs := [10]) (by kernel_rfl) (by simp) ?_
                refine (AllReadyH.cons rfl (fun K hK => ?_) AllReadyH.nil)
                go_simp
                have O2 : Over w11 _ := (Below.setCell (Below.setCell (Below.setCell (Below.setCell O (p := ⟨B, 0, none⟩) hBV (.slice pa E.p.length px)) (p := ⟨B, 1, none⟩) hBV (.int .i64 E.pr)) (p := ⟨B, 2, none⟩) hBV (.slice ca E.c.length cx)) (p := ⟨B, 3, none⟩) hBV (.int .i64 E.bw))
                refine hK.out _ _ O2 (fun _ => ?_)
                clear hK K
                try simp only [Act.put, List.setIfInBounds_toArray, List.set_cons_zero, List.set_cons_succ]
                refine wpAnyH_ready (rs := [11]) (by kernel_rfl) (by simp) ?_
                refine (AllReadyH.cons rfl (fun K hK => ?_) AllReadyH.nil)
                go_simp
                refine hK.out _ _ O2 (fun _ => ?_)
                clear hK K
                try simp only [Act.put, List.setIfInBounds_toArray, List.set_cons_zero, List.set_cons_succ]
                clear r0 rf0 r1 rf1 r2 rf2 r3 rf3
                refine wpAnyH_done (by kernel_rfl) ?_ _
                have b4 := ((((bN.set 0 (.slice pa E.p.length px)).set 1 (.int .i64 E.pr)).set 2 (.slice ca E.c.length cx)).set 3 (.int .i64 E.bw))
                have q1 := (farNR (o := 3) (u := .int .i64 E.bw) (farNR (o := 2) (u := .slice ca E.c.length cx) (farNR (o := 1) (u := .int .i64 E.pr) (farNR (o := 0) (u := .slice pa E.p.length px) ho1 hs1) hs1) hs1) hs1)
                have q2 := (farNR (o := 3) (u := .int .i64 E.bw) (farNR (o := 2) (u := .slice ca E.c.length cx) (farNR (o := 1) (u := .int .i64 E.pr) (farNR (o := 0) (u := .slice pa E.p.length px) ho2 hs2) hs2) hs2) hs2)
                go_wp2_with fail
                go_meet
                case rel => exact ⟨B, pa, px, ca, cx, rfl, rfl, O2, b4, q1, q2, hap, hBV, hs1, hs2⟩
            · go_simp
              have hOs := O.size
              obtain ⟨bN, hb, z⟩ := one u0c [.slice none 0 0, .int .i64 0, .slice none 0 0, .int .i64 0] 30
              have O := over_step O hb
              replace hE1 := hE1.keep hb
              clear z hb
              refine hK.out _ _ O (fun _ => ?_)
              clear hK K
              try simp only [Act.put, List.setIfInBounds_toArray, List.set_cons_zero, List.set_cons_succ]
              obtain ⟨B, eB⟩ : ∃ B, B = u0c.heap.size := ⟨_, rfl⟩
              have hBV : w11.heap.size ≤ B := by rw [eB]; exact hOs
              obtain ⟨u0ca, eW⟩ : ∃ u, u = u0c.alloc (.cells #[.slice none 0 0, .int .i64 0, .slice none 0 0, .int .i64 0] 30) := ⟨_, rfl⟩
              rw [← eW] at bN O hE1 ⊢
              rw [← eB] at bN ⊢
              clear eW eB hOs
              refine wpAnyH_ready (rs := [3]) (by kernel_rfl) (by simp) ?_
              refine (AllReadyH.cons rfl (fun K hK => ?_) AllReadyH.nil)
              go_simp
              refine (to_any a n _).mono ?_
              rintro e u0cac ⟨rfl, hb⟩
              replace hE1 := hE1.keep hb
              replace bN := bN.keep hb
              have O := over_step O hb
              clear hb
              refine hK.out _ _ O (fun _ => ?_)
              clear hK K
              try simp only [Act.put, List.setIfInBounds_toArray, List.set_cons_zero, List.set_cons_succ]
              refine wpAnyH_ready (rs := [5]) (by kernel_rfl) (by simp) ?_
              refine (AllReadyH.cons rfl (fun K hK => ?_) AllReadyH.nil)
              go_simp
              refine (iget_t _ HE hE1 HLP.out).mono ?_
              rintro e u0cacc ⟨pa, px, ca, cx, rfl, ho1, ho2, hap, hb⟩
              have hOS := O.size
              have hs1 := sepLtR ho1 bN.lt
              have hs2 := sepLtR ho2 bN.lt
              replace ho1 := ho1.mono hOS
              replace ho2 := ho2.mono hOS
              clear hOS
              replace hE1 := hE1.keep hb
              replace bN := bN.keep hb
              have O := over_step O hb
              clear hb
              refine hK.out _ _ O (fun _ => ?_)
              clear hK K
              try simp only [Act.put, List.setIfInBounds_toArray, List.set_cons_zero, List.set_cons_succ]
              refine wpAnyH_take (i := 6) (v := ?_) rfl (by kernel_rfl) (by kernel_rfl) (by kernel_rfl) (fun _ _ _ h => h) (Or.inl ⟨by rfl, ?_⟩) O ?_
              rotate_left
              · intro wq hSq
                (try dsimp only at hSq)

                go_simp
                try rfl
              change wpAnyH _ _ _ _ _ _ _ (Act.put _ (some 83) _) _
              simp only [Act.put, List.setIfInBounds_toArray, List.set_cons_succ, List.set_cons_zero]
              refine wpAnyH_take (i := 7) (v := ?_) rfl (by kernel_rfl) (by kernel_rfl) (by kernel_rfl) (fun _ _ _ h => h) (Or.inl ⟨by rfl, ?_⟩) O ?_
              rotate_left
              · intro wq hSq
                (try dsimp only at hSq)

                go_simp
                try rfl
              change wpAnyH _ _ _ _ _ _ _ (Act.put _ (some 90) _) _
              simp only [Act.put, List.setIfInBounds_toArray, List.set_cons_succ, List.set_cons_zero]
              refine wpAnyH_take (i := 8) (v := ?_) rfl (by kernel_rfl) (by kernel_rfl) (by kernel_rfl) (fun _ _ _ h => h) (Or.inl ⟨by rfl, ?_⟩) O ?_
              rotate_left
              · intro wq hSq
                (try dsimp only at hSq)

                go_simp
                try rfl
              change wpAnyH _ _ _ _ _ _ _ (Act.put _ (some 91) _) _
              simp only [Act.put, List.setIfInBounds_toArray, List.set_cons_succ, List.set_cons_zero]
              clear hE1
              have r0 := bN.c 0 rfl
              have rf0 := bN.f 0 (x := _) rfl
              have r1 := bN.c 1 rfl
              have rf1 := bN.f 1 (x := _) rfl
              have r2 := bN.c 2 rfl
              have rf2 := bN.f 2 (x := _) rfl
              have r3 := bN.c 3 rfl
              have rf3 := bN.f 3 (x := _) rfl
              refine wpAnyH_ready (rs := [10]) (by kernel_rfl) (by simp) ?_
              refine (AllReadyH.cons rfl (fun K hK => ?_) AllReadyH.nil)
              go_simp
              have O2 : Over w11 _ := (Below.setCell (Below.setCell (Below.setCell (Below.setCell O (p := ⟨B, 0, none⟩) hBV (.slice pa E.p.length px)) (p := ⟨B, 1, none⟩) hBV (.int .i64 E.pr)) (p := ⟨B, 2, none⟩) hBV (.slice ca E.c.length cx)) (p := ⟨B, 3, none⟩) hBV (.int .i64 E.bw))
              refine hK.out _ _ O2 (fun _ => ?_)
              clear hK K
              try simp only [Act.put, List.setIfInBounds_toArray, List.set_cons_zero, List.set_cons_succ]
              refine wpAnyH_ready (rs := [11]) (by kernel_rfl) (by simp) ?_
              refine (AllReadyH.cons rfl (fun K hK => ?_) AllReadyH.nil)
              go_simp
              refine hK.out _ _ O2 (fun _ => ?_)
              clear hK K
              try simp only [Act.put, List.setIfInBounds_toArray, List.set_cons_zero, List.set_cons_succ]
              clear r0 rf0 r1 rf1 r2 rf2 r3 rf3
              refine wpAnyH_done (by kernel_rfl) ?_ _
              have b4 := ((((bN.set 0 (.slice pa E.p.length px)).set 1 (.int .i64 E.pr)).set 2 (.slice ca E.c.length cx)).set 3 (.int .i64 E.bw))
              have q1 := (farNR (o := 3) (u := .int .i64 E.bw) (farNR (o := 2) (u := .slice ca E.c.length cx) (farNR (o := 1) (u := .int .i64 E.pr) (farNR (o := 0) (u := .slice pa E.p.length px) ho1 hs1) hs1) hs1) hs1)
              have q2 := (farNR (o := 3) (u := .int .i64 E.bw) (farNR (o := 2) (u := .slice ca E.c.length cx) (farNR (o := 1) (u := .int .i64 E.pr) (farNR (o := 0) (u := .slice pa E.p.length px) ho2 hs2) hs2) hs2) hs2)
              go_wp2_with fail
              go_meet
              case rel => exact ⟨B, pa, px, ca, cx, rfl, rfl, O2, b4, q1, q2, hap, hBV, hs1, hs2⟩
          · go_simp
            have hOs := O.size
            obtain ⟨bN, hb, z⟩ := one u0 [.slice none 0 0, .int .i64 0, .slice none 0 0, .int .i64 0] 30
            have O := over_step O hb
            clear z hb
            refine hK.out _ _ O (fun _ => ?_)
            clear hK K
            try simp only [Act.put, List.setIfInBounds_toArray, List.set_cons_zero, List.set_cons_succ]
            obtain ⟨B, eB⟩ : ∃ B, B = u0.heap.size := ⟨_, rfl⟩
            have hBV : w11.heap.size ≤ B := by rw [eB]; exact hOs
            obtain ⟨u0a, eW⟩ : ∃ u, u = u0.alloc (.cells #[.slice none 0 0, .int .i64 0, .slice none 0 0, .int .i64 0] 30) := ⟨_, rfl⟩
            rw [← eW] at bN O  ⊢
            rw [← eB] at bN ⊢
            clear eW eB hOs
            refine wpAnyH_ready (rs := [1]) (by kernel_rfl) (by simp) ?_
            refine (AllReadyH.cons rfl (fun K hK => ?_) AllReadyH.nil)
            go_simp
            refine (toRb_any _ L _ (hR11.keep O) hlen).mono ?_
            rintro e u0ac ⟨uu, rfl, hE1, hb⟩
            replace bN := bN.keep hb
            have O := over_step O hb
            replace hE1 := hE1.rd HD.out hn
            obtain ⟨xx, cc, rfl⟩ := hE1.len
            clear hb
            refine hK.out _ _ O (fun _ => ?_)
            clear hK K
            try simp only [Act.put, List.setIfInBounds_toArray, List.set_cons_zero, List.set_cons_succ]
            refine wpAnyH_ready (rs := [3]) (by kernel_rfl) (by simp) ?_
            refine (AllReadyH.cons rfl (fun K hK => ?_) AllReadyH.nil)
            go_simp
            refine (to_any a n _).mono ?_
            rintro e u0acc ⟨rfl, hb⟩
            replace bN := bN.keep hb
            replace hE1 := hE1.keep hb
            have O := over_step O hb
            clear hb
            refine hK.out _ _ O (fun _ => ?_)
            clear hK K
            try simp only [Act.put, List.setIfInBounds_toArray, List.set_cons_zero, List.set_cons_succ]
            refine wpAnyH_ready (rs := [5]) (by kernel_rfl) (by simp) ?_
            refine (AllReadyH.cons rfl (fun K hK => ?_) AllReadyH.nil)
            go_simp
            refine (iget_t _ HE hE1 HLP.out).mono ?_
            rintro e u0accc ⟨pa, px, ca, cx, rfl, ho1, ho2, hap, hb⟩
            have hOS := O.size
            have hs1 := sepLtR ho1 bN.lt
            have hs2 := sepLtR ho2 bN.lt
            replace ho1 := ho1.mono hOS
            replace ho2 := ho2.mono hOS
            clear hOS
            replace bN := bN.keep hb
            replace hE1 := hE1.keep hb
            have O := over_step O hb
            clear hb
            refine hK.out _ _ O (fun _ => ?_)
            clear hK K
            try simp only [Act.put, List.setIfInBounds_toArray, List.set_cons_zero, List.set_cons_succ]
            refine wpAnyH_take (i := 6) (v := ?_) rfl (by kernel_rfl) (by kernel_rfl) (by kernel_rfl) (fun _ _ _ h => h) (Or.inl ⟨by rfl, ?_⟩) O ?_
            rotate_left
            · intro wq hSq
              (try dsimp only at hSq)

              go_simp
              try rfl
            change wpAnyH _ _ _ _ _ _ _ (Act.put _ (some 83) _) _
            simp only [Act.put, List.setIfInBounds_toArray, List.set_cons_succ, List.set_cons_zero]
            refine wpAnyH_take (i := 7) (v := ?_) rfl (by kernel_rfl) (by kernel_rfl) (by kernel_rfl) (fun _ _ _ h => h) (Or.inl ⟨by rfl, ?_⟩) O ?_
            rotate_left
            · intro wq hSq
              (try dsimp only at hSq)

              go_simp
              try rfl
            change wpAnyH _ _ _ _ _ _ _ (Act.put _ (some 90) _) _
            simp only [Act.put, List.setIfInBounds_toArray, List.set_cons_succ, List.set_cons_zero]
            refine wpAnyH_take (i := 8) (v := ?_) rfl (by kernel_rfl) (by kernel_rfl) (by kernel_rfl) (fun _ _ _ h => h) (Or.inl ⟨by rfl, ?_⟩) O ?_
            rotate_left
            · intro wq hSq
              (try dsimp only at hSq)

              go_simp
              try rfl
            change wpAnyH _ _ _ _ _ _ _ (Act.put _ (some 91) _) _
            simp only [Act.put, List.setIfInBounds_toArray, List.set_cons_succ, List.set_cons_zero]
            clear hE1
            have r0 := bN.c 0 rfl
            have rf0 := bN.f 0 (x := _) rfl
            have r1 := bN.c 1 rfl
            have rf1 := bN.f 1 (x := _) rfl
            have r2 := bN.c 2 rfl
            have rf2 := bN.f 2 (x := _) rfl
            have r3 := bN.c 3 rfl
            have rf3 := bN.f 3 (x := _) rfl
            refine wpAnyH_ready (rs := [10]) (by kernel_rfl) (by simp) ?_
            refine (AllReadyH.cons rfl (fun K hK => ?_) AllReadyH.nil)
            go_simp
            have O2 : Over w11 _ := (Below.setCell (Below.setCell (Below.setCell (Below.setCell O (p := ⟨B, 0, none⟩) hBV (.slice pa E.p.length px)) (p := ⟨B, 1, none⟩) hBV (.int .i64 E.pr)) (p := ⟨B, 2, none⟩) hBV (.slice ca E.c.length cx)) (p := ⟨B, 3, none⟩) hBV (.int .i64 E.bw))
            refine hK.out _ _ O2 (fun _ => ?_)
            clear hK K
            try simp only [Act.put, List.setIfInBounds_toArray, List.set_cons_zero, List.set_cons_succ]
            refine wpAnyH_ready (rs := [11]) (by kernel_rfl) (by simp) ?_
            refine (AllReadyH.cons rfl (fun K hK => ?_) AllReadyH.nil)
            go_simp
            refine hK.out _ _ O2 (fun _ => ?_)
            clear hK K
            try simp only [Act.put, List.setIfInBounds_toArray, List.set_cons_zero, List.set_cons_succ]
            clear r0 rf0 r1 rf1 r2 rf2 r3 rf3
            refine wpAnyH_done (by kernel_rfl) ?_ _
            have b4 := ((((bN.set 0 (.slice pa E.p.length px)).set 1 (.int .i64 E.pr)).set 2 (.slice ca E.c.length cx)).set 3 (.int .i64 E.bw))
            have q1 := (farNR (o := 3) (u := .int .i64 E.bw) (farNR (o := 2) (u := .slice ca E.c.length cx) (farNR (o := 1) (u := .int .i64 E.pr) (farNR (o := 0) (u := .slice pa E.p.length px) ho1 hs1) hs1) hs1) hs1)
            have q2 := (farNR (o := 3) (u := .int .i64 E.bw) (farNR (o := 2) (u := .slice ca E.c.length cx) (farNR (o := 1) (u := .int .i64 E.pr) (farNR (o := 0) (u := .slice pa E.p.length px) ho2 hs2) hs2) hs2) hs2)
            go_wp2_with fail
            go_meet
            case rel => exact ⟨B, pa, px, ca, cx, rfl, rfl, O2, b4, q1, q2, hap, hBV, hs1, hs2⟩
        case rest =>
          obtain ⟨w13, rfl⟩ : ∃ x : World, x = wc := ⟨_, rfl⟩
          obtain ⟨T, pat, pxt, cat, cxt, rfl, rfl, O13, bT, o7, o8, -, -, -, -⟩ := hcut
          replace r5 := r5.keep O13
          replace r6 := r6.keep O13
          replace bZx := bZx.keep O13
          replace OV := over_trans OV O13
          clear O13 bA11 bP11 hR11
          have bX13 := bX.keep OV
          have bX130 := bX13.c 0 rfl
          have bX131 := bX13.c 1 rfl
          have bX132 := bX13.c 2 rfl
          have bX133 := bX13.c 3 rfl
          have bT0 := bT.c 0 rfl
          have bT1 := bT.c 1 rfl
          have bT2 := bT.c 2 rfl
          have bT3 := bT.c 3 rfl
          go_wp2_with fail
          clear bX130 bX131 bX132 bX133 bT0 bT1 bT2 bT3 bX13
          refine (eqA_same _ _ _ _ E.p E.c _ _ _ (o7.rd HBE.out.1) (o8.rd HBE.out.2) (q1.keep OV) (q2.keep OV)).mono ?_
          rintro e w14 ⟨rfl, hb⟩
          replace r5 := r5.keep hb
          replace r6 := r6.keep hb
          replace bZx := bZx.keep hb
          replace OV := over_step OV hb
          clear hb o7 o8 bT
          have z0 := bZx.c0
          have z1 := bZx.c1
          have z2 := bZx.c2
          have z3 := bZx.c3
          go_wp2_with fail
          clear z0 z1 z2 z3
          refine (heldA_any _ _ E.p.length E.c.length _ _ 1 _ r5 r6 (by omega) (by omega)).mono ?_
          rintro e w15 ⟨rfl, hb⟩
          rw [← HM.out]
          replace OV := over_step OV hb
          clear hb
          go_wp2
          go_ret
          exact ⟨rfl, below_step B0 OV⟩

set_option maxRecDepth 100000 in
theorem lifted (os : Os) (started : os.Started) (H : Type) (enc : TypeId × Value → H) :
    ReturnsInHanded {} Try.checked os 3 .any (Rows.fnExactRibGetSpec.pre6 enc Try.prog Try.f3 Rows.fnExactRibGetRow.domain false) (Rows.fnExactRibGetSpec.post enc Try.prog Try.f3 false true false false) := by
  refine returnsInHanded_of_change (C := Try.checked) own started (by kernel_rfl) Try.func3
    (ChangeSpec.witness6 (enc := enc) (C := Try.checked) false ⟨#[], #[.agg #[.slice none 0 0], .agg #[.int .i64 0, .int .i64 0], .int .i64 0], []⟩ 8 (by kernel_rfl) (by kernel_rfl) (by kernel_rfl) (by kernel_rfl)) ?_
  intro W base args ds gs before hval0 hW hcnd _
  have hval : ∀ (j : Nat) t v, Try.f3.params[j]? = some t → args[j]? = some v → Value.okWide Try.prog W .any base t v := hval0
  have hW' := hW
  obtain ⟨p, q, hA0, hV, rfl, hfz, hnd⟩ := hW
  have hA : DataW.TrodAll enc Try.prog W 0 (fun _ => true) true Try.f3.params.toList args.toList ds p := hA0
  rw [Try.params3] at hA hval
  obtain ⟨v0, vs0, d0, ds0, p0, q0, hargs, rfl, rfl, h0, r0⟩ := trodAll_cons hA
  obtain ⟨v1, vs1, d1, ds1, p1, q1, rfl, rfl, rfl, h1, r1⟩ := trodAll_cons r0
  obtain ⟨v2, vs2, d2, ds2, p2, q2, rfl, rfl, rfl, h2, r2⟩ := trodAll_cons r1
  obtain ⟨rfl, rfl, rfl⟩ := trodAll_nil r2
  obtain rfl : args = #[v0, v1, v2] := by cases args; simp_all
  obtain ⟨rfl, rfl⟩ := trodVars_none hV
  have lt0 : ∀ x ∈ p0, x.block < W.heap.size := by obtain ⟨m, hm⟩ := h0; exact DataW.trod_lt m _ _ _ hm
  have w0 := is_Rib (hval 0 24 v0 rfl rfl) h0
  have lt1 : ∀ x ∈ p1, x.block < W.heap.size := by obtain ⟨m, hm⟩ := h1; exact DataW.trod_lt m _ _ _ hm
  have w1 := is_Prefix (hval 1 26 v1 rfl rfl) h1
  have lt2 : ∀ x ∈ p2, x.block < W.heap.size := by obtain ⟨m, hm⟩ := h2; exact DataW.trod_lt m _ _ _ hm
  have w2 := is_int (hval 2 3 v2 rfl rfl) h2
  clear hA0 hval0 hval
  refine (walk W v0 v1 v2 w0 w1 w2).mono fun e W' ⟨he, bel⟩ => ?_
  subst he
  exact ⟨_, rfl, _, _, _, [], _, [], hW', trodAll_mk1 (shut_bool Try.underlying4 _), (trodAll_cons_mk (Below.trod laidOut (by kernel_rfl) (of_decide_eq_true (by kernel_rfl)) h0 bel lt0) (trodAll_cons_mk (Below.trod laidOut (by kernel_rfl) (of_decide_eq_true (by kernel_rfl)) h1 bel lt1) (trodAll_cons_mk (Below.trod laidOut (by kernel_rfl) (of_decide_eq_true (by kernel_rfl)) h2 bel lt2) trodAll_mk0))), rfl, bel.frame _, fun h => by cases h⟩

theorem over : Rows.fnExactRibGetRow.holds Try.pinned (OpenSpec.ofChange Rows.fnExactRibGetSpec) :=
  OpenClaim.holds_of_wide 3 Try.f3 rfl rfl rfl rfl rfl rfl rfl ⟨rfl, rfl, rfl, rfl, rfl⟩ rfl rfl rfl rfl rfl (by kernel_rfl) Try.func3 (by kernel_rfl)
    (of_decide_eq_true (by kernel_rfl)) (by unfold Func.isWrapper; first | (rw [if_pos (by decide +kernel)]; kernel_rfl) | (rw [if_neg (by decide +kernel)]; exact ⟨rfl, rfl⟩))
    (fun os started H enc _ => lifted os started H enc)

theorem proved : Rows.FnExactRibGetSaid := over
end Go.Proofs.Ytbmjicdnphfgaaa.fnExactRibGet
