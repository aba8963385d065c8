/-
  The law on Greet, walked. Conditions: those in each contract.
-/
import Derived.Test.YtnklnibjlhnicaaRRRRDoorZ10
namespace Go.Proofs.YtnklnibjlhnicaaRRRRDoor
open Go.ChangeShapes Go.WideShapes Go.ChangeAt Go.RowKit Go.BigFrame Go.Joins
set_option linter.unusedVariables false
set_option maxRecDepth 100000
set_option linter.unusedSimpArgs false

set_option maxHeartbeats 16000000 in
theorem greet_walk (W : World) (v0 v1 : Value) (w0 : Is_Conf W v0) (w1 : Is_Conf W v1) (u : Value) (hu : W.cell? ⟨0, 0, none⟩ = some (.iface 122 u)) (hg1 : W.cell? ⟨1, 0, none⟩ = some (.iface 98 (.agg #[.pointer (some ⟨2, 62, none⟩)]))) :
    Calls Tryd.prog 3 #[v0, v1] W fun e w' => e = .returned (.bool true) ∧ Below W.heap.size W w' := by
  obtain ⟨aa, ai, ah, ap, rfl⟩ := w0
  obtain ⟨ba, bi, bh, bp, rfl⟩ := w1
  obtain ⟨G, J, t, H⟩ : ∃ G J t, GrIs aa ai ah ap ba bi bh bp G J t := ⟨_, _, _, rfl, rfl, rfl⟩
  replace H := Lib.hid H
  have htt : (t != t) = false := by simp
  obtain ⟨bA, bB, B0, z⟩ := two W [.int .i64 aa, .int .i64 ai, .int .i64 ah, .int .i64 ap] [.int .i64 ba, .int .i64 bi, .int .i64 bh, .int .i64 bp] 23 23
  have HU := Lib.hid (And.intro (cell_keep B0 (World.block_lt_of_cell? W _ hu) hu) (cell_keep B0 (World.block_lt_of_cell? W _ hg1) hg1))
  clear z hu hg1
  go_enter Tryd.func3, Tryd.ntmps3
  go_wp2_with fail
  obtain ⟨V, eV⟩ : ∃ u, u = (W.alloc (.cells #[.int .i64 aa, .int .i64 ai, .int .i64 ah, .int .i64 ap] 23)).alloc (.cells #[.int .i64 ba, .int .i64 bi, .int .i64 bh, .int .i64 bp] 23) := ⟨_, rfl⟩
  rw [← eV] at bA bB B0 HU ⊢
  clear eV
  go_cut [5, 6, 7] from 11 (fun s5 s6 s7 wx => KeptG V wx G J t s5 s6 s7)
  case first =>
    refine wp_region_held_drew (S := fun w' => Over V w') (by kernel_rfl) (over_drew V) (fun hHeld => ?_)
    obtain ⟨u0, e0⟩ : ∃ u, u = V.drew := ⟨_, rfl⟩
    have O : Over V u0 := by rw [e0]; exact over_drew V
    rw [← e0]
    clear e0 hHeld
    refine wpAnyH_take (i := 0) (v := ?_) rfl (by kernel_rfl) (by kernel_rfl) (by kernel_rfl) (fun _ _ _ h => h) (Or.inl ⟨by rfl, ?_⟩) O ?_
    rotate_left
    · intro wq hSq
      (try dsimp only at hSq)
      have q0 := bA.o hSq 0 rfl
      have q1 := bA.o hSq 1 rfl
      have q2 := bA.o hSq 2 rfl
      have q3 := bA.o hSq 3 rfl
      go_simp
      try rfl
    change wpAnyH _ _ _ _ _ _ _ (Act.put _ (some 12) _) _
    simp only [Act.put, List.setIfInBounds_toArray, List.set_cons_succ, List.set_cons_zero]
    refine wpAnyH_take (i := 2) (v := ?_) rfl (by kernel_rfl) (by kernel_rfl) (by kernel_rfl) (fun _ _ _ h => h) (Or.inl ⟨by rfl, ?_⟩) O ?_
    rotate_left
    · intro wq hSq
      (try dsimp only at hSq)
      have q0 := bB.o hSq 0 rfl
      have q1 := bB.o hSq 1 rfl
      have q2 := bB.o hSq 2 rfl
      have q3 := bB.o hSq 3 rfl
      go_simp
      try rfl
    change wpAnyH _ _ _ _ _ _ _ (Act.put _ (some 14) _) _
    simp only [Act.put, List.setIfInBounds_toArray, List.set_cons_succ, List.set_cons_zero]
    refine wpAnyH_ready (rs := [1, 9, 10]) (by kernel_rfl) (by simp) ?_
    refine (AllReadyH.cons rfl (fun K hK => ?_) (AllReadyH.cons rfl (fun K hK => ?_) (AllReadyH.cons rfl (fun K hK => ?_) AllReadyH.nil)))
    · go_simp
      refine (toCf_any aa ai ah ap _).mono ?_
      rintro e u0c ⟨rfl, hb⟩
      replace O := over_step O hb
      clear hb
      refine hK.out _ _ O (fun _ => ?_)
      clear hK K
      try simp only [Act.put, List.setIfInBounds_toArray, List.set_cons_zero, List.set_cons_succ]
      refine wpAnyH_ready (rs := [3, 9, 10]) (by kernel_rfl) (by simp) ?_
      refine (AllReadyH.cons rfl (fun K hK => ?_) (AllReadyH.cons rfl (fun K hK => ?_) (AllReadyH.cons rfl (fun K hK => ?_) AllReadyH.nil)))
      · go_simp
        refine (toCf_any ba bi bh bp _).mono ?_
        rintro e u0cc ⟨rfl, hb⟩
        replace O := over_step O hb
        clear hb
        refine hK.out _ _ O (fun _ => ?_)
        clear hK K
        try simp only [Act.put, List.setIfInBounds_toArray, List.set_cons_zero, List.set_cons_succ]
        refine wpAnyH_ready (rs := [4, 9, 10]) (by kernel_rfl) (by simp) ?_
        refine (AllReadyH.cons rfl (fun K hK => ?_) (AllReadyH.cons rfl (fun K hK => ?_) (AllReadyH.cons rfl (fun K hK => ?_) AllReadyH.nil)))
        · go_simp
          refine (sGreet_t _ (Nat.lt_of_lt_of_le (World.block_lt_of_cell? V _ HU.out.2) O.size) H).mono ?_
          rintro e u0ccc ⟨rfl, hb⟩
          replace O := over_step O hb
          clear hb
          refine hK.out _ _ O (fun _ => ?_)
          clear hK K
          try simp only [Act.put, List.setIfInBounds_toArray, List.set_cons_zero, List.set_cons_succ]
          refine wpAnyH_take (i := 5) (v := ?_) rfl (by kernel_rfl) (by kernel_rfl) (by kernel_rfl) (fun _ _ _ h => h) (Or.inl ⟨by rfl, ?_⟩) O ?_
          rotate_left
          · intro wq hSq
            (try dsimp only at hSq)

            go_simp
            try rfl
          change wpAnyH _ _ _ _ _ _ _ (Act.put _ (some 11) _) _
          simp only [Act.put, List.setIfInBounds_toArray, List.set_cons_succ, List.set_cons_zero]
          refine wpAnyH_take (i := 6) (v := ?_) rfl (by kernel_rfl) (by kernel_rfl) (by kernel_rfl) (fun _ _ _ h => h) (Or.inl ⟨by rfl, ?_⟩) O ?_
          rotate_left
          · intro wq hSq
            (try dsimp only at hSq)

            go_simp
            try rfl
          change wpAnyH _ _ _ _ _ _ _ (Act.put _ (some 17) _) _
          simp only [Act.put, List.setIfInBounds_toArray, List.set_cons_succ, List.set_cons_zero]
          refine wpAnyH_take (i := 7) (v := ?_) rfl (by kernel_rfl) (by kernel_rfl) (by kernel_rfl) (fun _ _ _ h => h) (Or.inl ⟨by rfl, ?_⟩) O ?_
          rotate_left
          · intro wq hSq
            (try dsimp only at hSq)

            go_simp
            try rfl
          change wpAnyH _ _ _ _ _ _ _ (Act.put _ (some 18) _) _
          simp only [Act.put, List.setIfInBounds_toArray, List.set_cons_succ, List.set_cons_zero]
          refine wpAnyH_take (i := 8) (v := ?_) rfl (by kernel_rfl) (by kernel_rfl) (by kernel_rfl) (fun _ _ _ h => h) (Or.inl ⟨by rfl, ?_⟩) O ?_
          rotate_left
          · intro wq hSq
            (try dsimp only at hSq)

            go_simp
            try rfl
          change wpAnyH _ _ _ _ _ _ _ (Act.put _ (some 19) _) _
          simp only [Act.put, List.setIfInBounds_toArray, List.set_cons_succ, List.set_cons_zero]
          refine wpAnyH_ready (rs := [9, 10]) (by kernel_rfl) (by simp) ?_
          refine (AllReadyH.cons rfl (fun K hK => ?_) (AllReadyH.cons rfl (fun K hK => ?_) AllReadyH.nil))
          · go_simp
            have hVP := O.size
            obtain ⟨bP, hb, z⟩ := one u0ccc [.int .i64 0, .int .i64 0, .int .i64 0, .int .i64 0, .int .i64 0] 25
            replace O := over_step O hb
            clear z hb
            refine hK.out _ _ O (fun _ => ?_)
            clear hK K
            try simp only [Act.put, List.setIfInBounds_toArray, List.set_cons_zero, List.set_cons_succ]
            obtain ⟨P, eB⟩ : ∃ B, B = u0ccc.heap.size := ⟨_, rfl⟩
            obtain ⟨u0ccca, eW⟩ : ∃ u, u = u0ccc.alloc (.cells #[.int .i64 0, .int .i64 0, .int .i64 0, .int .i64 0, .int .i64 0] 25) := ⟨_, rfl⟩
            rw [← eW] at bP O  ⊢
            rw [← eB] at bP hVP  ⊢
            clear eW eB
            refine wpAnyH_ready (rs := [10]) (by kernel_rfl) (by simp) ?_
            refine (AllReadyH.cons rfl (fun K hK => ?_) AllReadyH.nil)
            go_simp
            have hVQ := O.size
            obtain ⟨bQ, hb, z⟩ := one u0ccca [.int .i64 0, .int .i64 0, .int .i64 0, .int .i64 0, .int .i64 0] 25
            replace O := over_step O hb
            have hPQ : P ≠ u0ccca.heap.size := Nat.ne_of_lt bP.lt
            replace bP := bP.keep hb
            clear z hb
            refine hK.out _ _ O (fun _ => ?_)
            clear hK K
            try simp only [Act.put, List.setIfInBounds_toArray, List.set_cons_zero, List.set_cons_succ]
            obtain ⟨Q, eB⟩ : ∃ B, B = u0ccca.heap.size := ⟨_, rfl⟩
            obtain ⟨u0cccaa, eW⟩ : ∃ u, u = u0ccca.alloc (.cells #[.int .i64 0, .int .i64 0, .int .i64 0, .int .i64 0, .int .i64 0] 25) := ⟨_, rfl⟩
            rw [← eW] at bQ O bP ⊢
            rw [← eB] at bQ hVQ hPQ ⊢
            clear eW eB
            have r0 := bP.c 0 rfl
            have rf0 := bP.f 0 (x := _) rfl
            have t0 := bQ.c 0 rfl
            have tf0 := bQ.f 0 (x := _) rfl
            have r1 := bP.c 1 rfl
            have rf1 := bP.f 1 (x := _) rfl
            have t1 := bQ.c 1 rfl
            have tf1 := bQ.f 1 (x := _) rfl
            have r2 := bP.c 2 rfl
            have rf2 := bP.f 2 (x := _) rfl
            have t2 := bQ.c 2 rfl
            have tf2 := bQ.f 2 (x := _) rfl
            have r3 := bP.c 3 rfl
            have rf3 := bP.f 3 (x := _) rfl
            have t3 := bQ.c 3 rfl
            have tf3 := bQ.f 3 (x := _) rfl
            have r4 := bP.c 4 rfl
            have rf4 := bP.f 4 (x := _) rfl
            have t4 := bQ.c 4 rfl
            have tf4 := bQ.f 4 (x := _) rfl
            refine wpAnyH_ready (rs := [11]) (by kernel_rfl) (by simp) ?_
            refine (AllReadyH.cons rfl (fun K hK => ?_) AllReadyH.nil)
            go_simp
            have O2 := below_set5 O (B := P) hVP (.int .i64 G.a) (.int .i64 G.b) (.int .i64 G.c) (.int .i64 G.d) (.int .i64 G.e)
            refine hK.out _ _ O2 (fun _ => ?_)
            clear hK K
            try simp only [Act.put, List.setIfInBounds_toArray, List.set_cons_zero, List.set_cons_succ]
            refine wpAnyH_ready (rs := [12]) (by kernel_rfl) (by simp) ?_
            refine (AllReadyH.cons rfl (fun K hK => ?_) AllReadyH.nil)
            go_simp
            have O3 := below_set5 O2 (B := Q) hVQ (.int .i64 J.a) (.int .i64 J.b) (.int .i64 J.c) (.int .i64 J.d) (.int .i64 J.e)
            refine hK.out _ _ O3 (fun _ => ?_)
            clear hK K
            try simp only [Act.put, List.setIfInBounds_toArray, List.set_cons_zero, List.set_cons_succ]
            refine wpAnyH_ready (rs := [13]) (by kernel_rfl) (by simp) ?_
            refine (AllReadyH.cons rfl (fun K hK => ?_) AllReadyH.nil)
            go_simp
            refine hK.out _ _ O3 (fun _ => ?_)
            clear hK K
            try simp only [Act.put, List.setIfInBounds_toArray, List.set_cons_zero, List.set_cons_succ]
            clear r0 rf0 t0 tf0 r1 rf1 t1 tf1 r2 rf2 t2 tf2 r3 rf3 t3 tf3 r4 rf4 t4 tf4
            refine wpAnyH_done (by kernel_rfl) ?_ _
            have b5 := ((((((bP.set5 (.int .i64 G.a) (.int .i64 G.b) (.int .i64 G.c) (.int .i64 G.d) (.int .i64 G.e)).far (C := Q) (o := 0) (u := .int .i64 J.a) hPQ).far (C := Q) (o := 1) (u := .int .i64 J.b) hPQ).far (C := Q) (o := 2) (u := .int .i64 J.c) hPQ).far (C := Q) (o := 3) (u := .int .i64 J.d) hPQ).far (C := Q) (o := 4) (u := .int .i64 J.e) hPQ)
            have d5 := ((((((bQ.far (C := P) (o := 0) (u := .int .i64 G.a) hPQ.symm).far (C := P) (o := 1) (u := .int .i64 G.b) hPQ.symm).far (C := P) (o := 2) (u := .int .i64 G.c) hPQ.symm).far (C := P) (o := 3) (u := .int .i64 G.d) hPQ.symm).far (C := P) (o := 4) (u := .int .i64 G.e) hPQ.symm)).set5 (.int .i64 J.a) (.int .i64 J.b) (.int .i64 J.c) (.int .i64 J.d) (.int .i64 J.e)
            go_wp2_with fail
            go_meet
            case rel => exact ⟨P, Q, rfl, rfl, rfl, O3, b5, d5⟩
          · go_simp
            have hVQ := O.size
            obtain ⟨bQ, hb, z⟩ := one u0ccc [.int .i64 0, .int .i64 0, .int .i64 0, .int .i64 0, .int .i64 0] 25
            replace O := over_step O hb
            clear z hb
            refine hK.out _ _ O (fun _ => ?_)
            clear hK K
            try simp only [Act.put, List.setIfInBounds_toArray, List.set_cons_zero, List.set_cons_succ]
            obtain ⟨Q, eB⟩ : ∃ B, B = u0ccc.heap.size := ⟨_, rfl⟩
            obtain ⟨u0ccca, eW⟩ : ∃ u, u = u0ccc.alloc (.cells #[.int .i64 0, .int .i64 0, .int .i64 0, .int .i64 0, .int .i64 0] 25) := ⟨_, rfl⟩
            rw [← eW] at bQ O  ⊢
            rw [← eB] at bQ hVQ  ⊢
            clear eW eB
            refine wpAnyH_ready (rs := [9]) (by kernel_rfl) (by simp) ?_
            refine (AllReadyH.cons rfl (fun K hK => ?_) AllReadyH.nil)
            go_simp
            have hVP := O.size
            obtain ⟨bP, hb, z⟩ := one u0ccca [.int .i64 0, .int .i64 0, .int .i64 0, .int .i64 0, .int .i64 0] 25
            replace O := over_step O hb
            have hPQ : u0ccca.heap.size ≠ Q := Nat.ne_of_gt bQ.lt
            replace bQ := bQ.keep hb
            clear z hb
            refine hK.out _ _ O (fun _ => ?_)
            clear hK K
            try simp only [Act.put, List.setIfInBounds_toArray, List.set_cons_zero, List.set_cons_succ]
            obtain ⟨P, eB⟩ : ∃ B, B = u0ccca.heap.size := ⟨_, rfl⟩
            obtain ⟨u0cccaa, eW⟩ : ∃ u, u = u0ccca.alloc (.cells #[.int .i64 0, .int .i64 0, .int .i64 0, .int .i64 0, .int .i64 0] 25) := ⟨_, rfl⟩
            rw [← eW] at bP O bQ ⊢
            rw [← eB] at bP hVP hPQ ⊢
            clear eW eB
            have r0 := bP.c 0 rfl
            have rf0 := bP.f 0 (x := _) rfl
            have t0 := bQ.c 0 rfl
            have tf0 := bQ.f 0 (x := _) rfl
            have r1 := bP.c 1 rfl
            have rf1 := bP.f 1 (x := _) rfl
            have t1 := bQ.c 1 rfl
            have tf1 := bQ.f 1 (x := _) rfl
            have r2 := bP.c 2 rfl
            have rf2 := bP.f 2 (x := _) rfl
            have t2 := bQ.c 2 rfl
            have tf2 := bQ.f 2 (x := _) rfl
            have r3 := bP.c 3 rfl
            have rf3 := bP.f 3 (x := _) rfl
            have t3 := bQ.c 3 rfl
            have tf3 := bQ.f 3 (x := _) rfl
            have r4 := bP.c 4 rfl
            have rf4 := bP.f 4 (x := _) rfl
            have t4 := bQ.c 4 rfl
            have tf4 := bQ.f 4 (x := _) rfl
            refine wpAnyH_ready (rs := [11]) (by kernel_rfl) (by simp) ?_
            refine (AllReadyH.cons rfl (fun K hK => ?_) AllReadyH.nil)
            go_simp
            have O2 := below_set5 O (B := P) hVP (.int .i64 G.a) (.int .i64 G.b) (.int .i64 G.c) (.int .i64 G.d) (.int .i64 G.e)
            refine hK.out _ _ O2 (fun _ => ?_)
            clear hK K
            try simp only [Act.put, List.setIfInBounds_toArray, List.set_cons_zero, List.set_cons_succ]
            refine wpAnyH_ready (rs := [12]) (by kernel_rfl) (by simp) ?_
            refine (AllReadyH.cons rfl (fun K hK => ?_) AllReadyH.nil)
            go_simp
            have O3 := below_set5 O2 (B := Q) hVQ (.int .i64 J.a) (.int .i64 J.b) (.int .i64 J.c) (.int .i64 J.d) (.int .i64 J.e)
            refine hK.out _ _ O3 (fun _ => ?_)
            clear hK K
            try simp only [Act.put, List.setIfInBounds_toArray, List.set_cons_zero, List.set_cons_succ]
            refine wpAnyH_ready (rs := [13]) (by kernel_rfl) (by simp) ?_
            refine (AllReadyH.cons rfl (fun K hK => ?_) AllReadyH.nil)
            go_simp
            refine hK.out _ _ O3 (fun _ => ?_)
            clear hK K
            try simp only [Act.put, List.setIfInBounds_toArray, List.set_cons_zero, List.set_cons_succ]
            clear r0 rf0 t0 tf0 r1 rf1 t1 tf1 r2 rf2 t2 tf2 r3 rf3 t3 tf3 r4 rf4 t4 tf4
            refine wpAnyH_done (by kernel_rfl) ?_ _
            have b5 := ((((((bP.set5 (.int .i64 G.a) (.int .i64 G.b) (.int .i64 G.c) (.int .i64 G.d) (.int .i64 G.e)).far (C := Q) (o := 0) (u := .int .i64 J.a) hPQ).far (C := Q) (o := 1) (u := .int .i64 J.b) hPQ).far (C := Q) (o := 2) (u := .int .i64 J.c) hPQ).far (C := Q) (o := 3) (u := .int .i64 J.d) hPQ).far (C := Q) (o := 4) (u := .int .i64 J.e) hPQ)
            have d5 := ((((((bQ.far (C := P) (o := 0) (u := .int .i64 G.a) hPQ.symm).far (C := P) (o := 1) (u := .int .i64 G.b) hPQ.symm).far (C := P) (o := 2) (u := .int .i64 G.c) hPQ.symm).far (C := P) (o := 3) (u := .int .i64 G.d) hPQ.symm).far (C := P) (o := 4) (u := .int .i64 G.e) hPQ.symm)).set5 (.int .i64 J.a) (.int .i64 J.b) (.int .i64 J.c) (.int .i64 J.d) (.int .i64 J.e)
            go_wp2_with fail
            go_meet
            case rel => exact ⟨P, Q, rfl, rfl, rfl, O3, b5, d5⟩
        · go_simp
          have hVP := O.size
          obtain ⟨bP, hb, z⟩ := one u0cc [.int .i64 0, .int .i64 0, .int .i64 0, .int .i64 0, .int .i64 0] 25
          replace O := over_step O hb
          clear z hb
          refine hK.out _ _ O (fun _ => ?_)
          clear hK K
          try simp only [Act.put, List.setIfInBounds_toArray, List.set_cons_zero, List.set_cons_succ]
          obtain ⟨P, eB⟩ : ∃ B, B = u0cc.heap.size := ⟨_, rfl⟩
          obtain ⟨u0cca, eW⟩ : ∃ u, u = u0cc.alloc (.cells #[.int .i64 0, .int .i64 0, .int .i64 0, .int .i64 0, .int .i64 0] 25) := ⟨_, rfl⟩
          rw [← eW] at bP O  ⊢
          rw [← eB] at bP hVP  ⊢
          clear eW eB
          refine wpAnyH_ready (rs := [4, 10]) (by kernel_rfl) (by simp) ?_
          refine (AllReadyH.cons rfl (fun K hK => ?_) (AllReadyH.cons rfl (fun K hK => ?_) AllReadyH.nil))
          · go_simp
            refine (sGreet_t _ (Nat.lt_of_lt_of_le (World.block_lt_of_cell? V _ HU.out.2) O.size) H).mono ?_
            rintro e u0ccac ⟨rfl, hb⟩
            replace bP := bP.keep hb
            replace O := over_step O hb
            clear hb
            refine hK.out _ _ O (fun _ => ?_)
            clear hK K
            try simp only [Act.put, List.setIfInBounds_toArray, List.set_cons_zero, List.set_cons_succ]
            refine wpAnyH_take (i := 5) (v := ?_) rfl (by kernel_rfl) (by kernel_rfl) (by kernel_rfl) (fun _ _ _ h => h) (Or.inl ⟨by rfl, ?_⟩) O ?_
            rotate_left
            · intro wq hSq
              (try dsimp only at hSq)

              go_simp
              try rfl
            change wpAnyH _ _ _ _ _ _ _ (Act.put _ (some 11) _) _
            simp only [Act.put, List.setIfInBounds_toArray, List.set_cons_succ, List.set_cons_zero]
            refine wpAnyH_take (i := 6) (v := ?_) rfl (by kernel_rfl) (by kernel_rfl) (by kernel_rfl) (fun _ _ _ h => h) (Or.inl ⟨by rfl, ?_⟩) O ?_
            rotate_left
            · intro wq hSq
              (try dsimp only at hSq)

              go_simp
              try rfl
            change wpAnyH _ _ _ _ _ _ _ (Act.put _ (some 17) _) _
            simp only [Act.put, List.setIfInBounds_toArray, List.set_cons_succ, List.set_cons_zero]
            refine wpAnyH_take (i := 7) (v := ?_) rfl (by kernel_rfl) (by kernel_rfl) (by kernel_rfl) (fun _ _ _ h => h) (Or.inl ⟨by rfl, ?_⟩) O ?_
            rotate_left
            · intro wq hSq
              (try dsimp only at hSq)

              go_simp
              try rfl
            change wpAnyH _ _ _ _ _ _ _ (Act.put _ (some 18) _) _
            simp only [Act.put, List.setIfInBounds_toArray, List.set_cons_succ, List.set_cons_zero]
            refine wpAnyH_take (i := 8) (v := ?_) rfl (by kernel_rfl) (by kernel_rfl) (by kernel_rfl) (fun _ _ _ h => h) (Or.inl ⟨by rfl, ?_⟩) O ?_
            rotate_left
            · intro wq hSq
              (try dsimp only at hSq)

              go_simp
              try rfl
            change wpAnyH _ _ _ _ _ _ _ (Act.put _ (some 19) _) _
            simp only [Act.put, List.setIfInBounds_toArray, List.set_cons_succ, List.set_cons_zero]
            refine wpAnyH_ready (rs := [10]) (by kernel_rfl) (by simp) ?_
            refine (AllReadyH.cons rfl (fun K hK => ?_) AllReadyH.nil)
            go_simp
            have hVQ := O.size
            obtain ⟨bQ, hb, z⟩ := one u0ccac [.int .i64 0, .int .i64 0, .int .i64 0, .int .i64 0, .int .i64 0] 25
            replace O := over_step O hb
            have hPQ : P ≠ u0ccac.heap.size := Nat.ne_of_lt bP.lt
            replace bP := bP.keep hb
            clear z hb
            refine hK.out _ _ O (fun _ => ?_)
            clear hK K
            try simp only [Act.put, List.setIfInBounds_toArray, List.set_cons_zero, List.set_cons_succ]
            obtain ⟨Q, eB⟩ : ∃ B, B = u0ccac.heap.size := ⟨_, rfl⟩
            obtain ⟨u0ccaca, eW⟩ : ∃ u, u = u0ccac.alloc (.cells #[.int .i64 0, .int .i64 0, .int .i64 0, .int .i64 0, .int .i64 0] 25) := ⟨_, rfl⟩
            rw [← eW] at bQ O bP ⊢
            rw [← eB] at bQ hVQ hPQ ⊢
            clear eW eB
            have r0 := bP.c 0 rfl
            have rf0 := bP.f 0 (x := _) rfl
            have t0 := bQ.c 0 rfl
            have tf0 := bQ.f 0 (x := _) rfl
            have r1 := bP.c 1 rfl
            have rf1 := bP.f 1 (x := _) rfl
            have t1 := bQ.c 1 rfl
            have tf1 := bQ.f 1 (x := _) rfl
            have r2 := bP.c 2 rfl
            have rf2 := bP.f 2 (x := _) rfl
            have t2 := bQ.c 2 rfl
            have tf2 := bQ.f 2 (x := _) rfl
            have r3 := bP.c 3 rfl
            have rf3 := bP.f 3 (x := _) rfl
            have t3 := bQ.c 3 rfl
            have tf3 := bQ.f 3 (x := _) rfl
            have r4 := bP.c 4 rfl
            have rf4 := bP.f 4 (x := _) rfl
            have t4 := bQ.c 4 rfl
            have tf4 := bQ.f 4 (x := _) rfl
            refine wpAnyH_ready (rs := [11]) (by kernel_rfl) (by simp) ?_
            refine (AllReadyH.cons rfl (fun K hK => ?_) AllReadyH.nil)
            go_simp
            have O2 := below_set5 O (B := P) hVP (.int .i64 G.a) (.int .i64 G.b) (.int .i64 G.c) (.int .i64 G.d) (.int .i64 G.e)
            refine hK.out _ _ O2 (fun _ => ?_)
            clear hK K
            try simp only [Act.put, List.setIfInBounds_toArray, List.set_cons_zero, List.set_cons_succ]
            refine wpAnyH_ready (rs := [12]) (by kernel_rfl) (by simp) ?_
            refine (AllReadyH.cons rfl (fun K hK => ?_) AllReadyH.nil)
            go_simp
            have O3 := below_set5 O2 (B := Q) hVQ (.int .i64 J.a) (.int .i64 J.b) (.int .i64 J.c) (.int .i64 J.d) (.int .i64 J.e)
            refine hK.out _ _ O3 (fun _ => ?_)
            clear hK K
            try simp only [Act.put, List.setIfInBounds_toArray, List.set_cons_zero, List.set_cons_succ]
            refine wpAnyH_ready (rs := [13]) (by kernel_rfl) (by simp) ?_
            refine (AllReadyH.cons rfl (fun K hK => ?_) AllReadyH.nil)
            go_simp
            refine hK.out _ _ O3 (fun _ => ?_)
            clear hK K
            try simp only [Act.put, List.setIfInBounds_toArray, List.set_cons_zero, List.set_cons_succ]
            clear r0 rf0 t0 tf0 r1 rf1 t1 tf1 r2 rf2 t2 tf2 r3 rf3 t3 tf3 r4 rf4 t4 tf4
            refine wpAnyH_done (by kernel_rfl) ?_ _
            have b5 := ((((((bP.set5 (.int .i64 G.a) (.int .i64 G.b) (.int .i64 G.c) (.int .i64 G.d) (.int .i64 G.e)).far (C := Q) (o := 0) (u := .int .i64 J.a) hPQ).far (C := Q) (o := 1) (u := .int .i64 J.b) hPQ).far (C := Q) (o := 2) (u := .int .i64 J.c) hPQ).far (C := Q) (o := 3) (u := .int .i64 J.d) hPQ).far (C := Q) (o := 4) (u := .int .i64 J.e) hPQ)
            have d5 := ((((((bQ.far (C := P) (o := 0) (u := .int .i64 G.a) hPQ.symm).far (C := P) (o := 1) (u := .int .i64 G.b) hPQ.symm).far (C := P) (o := 2) (u := .int .i64 G.c) hPQ.symm).far (C := P) (o := 3) (u := .int .i64 G.d) hPQ.symm).far (C := P) (o := 4) (u := .int .i64 G.e) hPQ.symm)).set5 (.int .i64 J.a) (.int .i64 J.b) (.int .i64 J.c) (.int .i64 J.d) (.int .i64 J.e)
            go_wp2_with fail
            go_meet
            case rel => exact ⟨P, Q, rfl, rfl, rfl, O3, b5, d5⟩
          · go_simp
            have hVQ := O.size
            obtain ⟨bQ, hb, z⟩ := one u0cca [.int .i64 0, .int .i64 0, .int .i64 0, .int .i64 0, .int .i64 0] 25
            replace O := over_step O hb
            have hPQ : P ≠ u0cca.heap.size := Nat.ne_of_lt bP.lt
            replace bP := bP.keep hb
            clear z hb
            refine hK.out _ _ O (fun _ => ?_)
            clear hK K
            try simp only [Act.put, List.setIfInBounds_toArray, List.set_cons_zero, List.set_cons_succ]
            obtain ⟨Q, eB⟩ : ∃ B, B = u0cca.heap.size := ⟨_, rfl⟩
            obtain ⟨u0ccaa, eW⟩ : ∃ u, u = u0cca.alloc (.cells #[.int .i64 0, .int .i64 0, .int .i64 0, .int .i64 0, .int .i64 0] 25) := ⟨_, rfl⟩
            rw [← eW] at bQ O bP ⊢
            rw [← eB] at bQ hVQ hPQ ⊢
            clear eW eB
            refine wpAnyH_ready (rs := [4]) (by kernel_rfl) (by simp) ?_
            refine (AllReadyH.cons rfl (fun K hK => ?_) AllReadyH.nil)
            go_simp
            refine (sGreet_t _ (Nat.lt_of_lt_of_le (World.block_lt_of_cell? V _ HU.out.2) O.size) H).mono ?_
            rintro e u0ccaac ⟨rfl, hb⟩
            replace bP := bP.keep hb
            replace bQ := bQ.keep hb
            replace O := over_step O hb
            clear hb
            refine hK.out _ _ O (fun _ => ?_)
            clear hK K
            try simp only [Act.put, List.setIfInBounds_toArray, List.set_cons_zero, List.set_cons_succ]
            refine wpAnyH_take (i := 5) (v := ?_) rfl (by kernel_rfl) (by kernel_rfl) (by kernel_rfl) (fun _ _ _ h => h) (Or.inl ⟨by rfl, ?_⟩) O ?_
            rotate_left
            · intro wq hSq
              (try dsimp only at hSq)

              go_simp
              try rfl
            change wpAnyH _ _ _ _ _ _ _ (Act.put _ (some 11) _) _
            simp only [Act.put, List.setIfInBounds_toArray, List.set_cons_succ, List.set_cons_zero]
            refine wpAnyH_take (i := 6) (v := ?_) rfl (by kernel_rfl) (by kernel_rfl) (by kernel_rfl) (fun _ _ _ h => h) (Or.inl ⟨by rfl, ?_⟩) O ?_
            rotate_left
            · intro wq hSq
              (try dsimp only at hSq)

              go_simp
              try rfl
            change wpAnyH _ _ _ _ _ _ _ (Act.put _ (some 17) _) _
            simp only [Act.put, List.setIfInBounds_toArray, List.set_cons_succ, List.set_cons_zero]
            refine wpAnyH_take (i := 7) (v := ?_) rfl (by kernel_rfl) (by kernel_rfl) (by kernel_rfl) (fun _ _ _ h => h) (Or.inl ⟨by rfl, ?_⟩) O ?_
            rotate_left
            · intro wq hSq
              (try dsimp only at hSq)

              go_simp
              try rfl
            change wpAnyH _ _ _ _ _ _ _ (Act.put _ (some 18) _) _
            simp only [Act.put, List.setIfInBounds_toArray, List.set_cons_succ, List.set_cons_zero]
            refine wpAnyH_take (i := 8) (v := ?_) rfl (by kernel_rfl) (by kernel_rfl) (by kernel_rfl) (fun _ _ _ h => h) (Or.inl ⟨by rfl, ?_⟩) O ?_
            rotate_left
            · intro wq hSq
              (try dsimp only at hSq)

              go_simp
              try rfl
            change wpAnyH _ _ _ _ _ _ _ (Act.put _ (some 19) _) _
            simp only [Act.put, List.setIfInBounds_toArray, List.set_cons_succ, List.set_cons_zero]
            have r0 := bP.c 0 rfl
            have rf0 := bP.f 0 (x := _) rfl
            have t0 := bQ.c 0 rfl
            have tf0 := bQ.f 0 (x := _) rfl
            have r1 := bP.c 1 rfl
            have rf1 := bP.f 1 (x := _) rfl
            have t1 := bQ.c 1 rfl
            have tf1 := bQ.f 1 (x := _) rfl
            have r2 := bP.c 2 rfl
            have rf2 := bP.f 2 (x := _) rfl
            have t2 := bQ.c 2 rfl
            have tf2 := bQ.f 2 (x := _) rfl
            have r3 := bP.c 3 rfl
            have rf3 := bP.f 3 (x := _) rfl
            have t3 := bQ.c 3 rfl
            have tf3 := bQ.f 3 (x := _) rfl
            have r4 := bP.c 4 rfl
            have rf4 := bP.f 4 (x := _) rfl
            have t4 := bQ.c 4 rfl
            have tf4 := bQ.f 4 (x := _) rfl
            refine wpAnyH_ready (rs := [11]) (by kernel_rfl) (by simp) ?_
            refine (AllReadyH.cons rfl (fun K hK => ?_) AllReadyH.nil)
            go_simp
            have O2 := below_set5 O (B := P) hVP (.int .i64 G.a) (.int .i64 G.b) (.int .i64 G.c) (.int .i64 G.d) (.int .i64 G.e)
            refine hK.out _ _ O2 (fun _ => ?_)
            clear hK K
            try simp only [Act.put, List.setIfInBounds_toArray, List.set_cons_zero, List.set_cons_succ]
            refine wpAnyH_ready (rs := [12]) (by kernel_rfl) (by simp) ?_
            refine (AllReadyH.cons rfl (fun K hK => ?_) AllReadyH.nil)
            go_simp
            have O3 := below_set5 O2 (B := Q) hVQ (.int .i64 J.a) (.int .i64 J.b) (.int .i64 J.c) (.int .i64 J.d) (.int .i64 J.e)
            refine hK.out _ _ O3 (fun _ => ?_)
            clear hK K
            try simp only [Act.put, List.setIfInBounds_toArray, List.set_cons_zero, List.set_cons_succ]
            refine wpAnyH_ready (rs := [13]) (by kernel_rfl) (by simp) ?_
            refine (AllReadyH.cons rfl (fun K hK => ?_) AllReadyH.nil)
            go_simp
            refine hK.out _ _ O3 (fun _ => ?_)
            clear hK K
            try simp only [Act.put, List.setIfInBounds_toArray, List.set_cons_zero, List.set_cons_succ]
            clear r0 rf0 t0 tf0 r1 rf1 t1 tf1 r2 rf2 t2 tf2 r3 rf3 t3 tf3 r4 rf4 t4 tf4
            refine wpAnyH_done (by kernel_rfl) ?_ _
            have b5 := ((((((bP.set5 (.int .i64 G.a) (.int .i64 G.b) (.int .i64 G.c) (.int .i64 G.d) (.int .i64 G.e)).far (C := Q) (o := 0) (u := .int .i64 J.a) hPQ).far (C := Q) (o := 1) (u := .int .i64 J.b) hPQ).far (C := Q) (o := 2) (u := .int .i64 J.c) hPQ).far (C := Q) (o := 3) (u := .int .i64 J.d) hPQ).far (C := Q) (o := 4) (u := .int .i64 J.e) hPQ)
            have d5 := ((((((bQ.far (C := P) (o := 0) (u := .int .i64 G.a) hPQ.symm).far (C := P) (o := 1) (u := .int .i64 G.b) hPQ.symm).far (C := P) (o := 2) (u := .int .i64 G.c) hPQ.symm).far (C := P) (o := 3) (u := .int .i64 G.d) hPQ.symm).far (C := P) (o := 4) (u := .int .i64 G.e) hPQ.symm)).set5 (.int .i64 J.a) (.int .i64 J.b) (.int .i64 J.c) (.int .i64 J.d) (.int .i64 J.e)
            go_wp2_with fail
            go_meet
            case rel => exact ⟨P, Q, rfl, rfl, rfl, O3, b5, d5⟩
        · go_simp
          have hVQ := O.size
          obtain ⟨bQ, hb, z⟩ := one u0cc [.int .i64 0, .int .i64 0, .int .i64 0, .int .i64 0, .int .i64 0] 25
          replace O := over_step O hb
          clear z hb
          refine hK.out _ _ O (fun _ => ?_)
          clear hK K
          try simp only [Act.put, List.setIfInBounds_toArray, List.set_cons_zero, List.set_cons_succ]
          obtain ⟨Q, eB⟩ : ∃ B, B = u0cc.heap.size := ⟨_, rfl⟩
          obtain ⟨u0cca, eW⟩ : ∃ u, u = u0cc.alloc (.cells #[.int .i64 0, .int .i64 0, .int .i64 0, .int .i64 0, .int .i64 0] 25) := ⟨_, rfl⟩
          rw [← eW] at bQ O  ⊢
          rw [← eB] at bQ hVQ  ⊢
          clear eW eB
          refine wpAnyH_ready (rs := [4, 9]) (by kernel_rfl) (by simp) ?_
          refine (AllReadyH.cons rfl (fun K hK => ?_) (AllReadyH.cons rfl (fun K hK => ?_) AllReadyH.nil))
          · go_simp
            refine (sGreet_t _ (Nat.lt_of_lt_of_le (World.block_lt_of_cell? V _ HU.out.2) O.size) H).mono ?_
            rintro e u0ccac ⟨rfl, hb⟩
            replace bQ := bQ.keep hb
            replace O := over_step O hb
            clear hb
            refine hK.out _ _ O (fun _ => ?_)
            clear hK K
            try simp only [Act.put, List.setIfInBounds_toArray, List.set_cons_zero, List.set_cons_succ]
            refine wpAnyH_take (i := 5) (v := ?_) rfl (by kernel_rfl) (by kernel_rfl) (by kernel_rfl) (fun _ _ _ h => h) (Or.inl ⟨by rfl, ?_⟩) O ?_
            rotate_left
            · intro wq hSq
              (try dsimp only at hSq)

              go_simp
              try rfl
            change wpAnyH _ _ _ _ _ _ _ (Act.put _ (some 11) _) _
            simp only [Act.put, List.setIfInBounds_toArray, List.set_cons_succ, List.set_cons_zero]
            refine wpAnyH_take (i := 6) (v := ?_) rfl (by kernel_rfl) (by kernel_rfl) (by kernel_rfl) (fun _ _ _ h => h) (Or.inl ⟨by rfl, ?_⟩) O ?_
            rotate_left
            · intro wq hSq
              (try dsimp only at hSq)

              go_simp
              try rfl
            change wpAnyH _ _ _ _ _ _ _ (Act.put _ (some 17) _) _
            simp only [Act.put, List.setIfInBounds_toArray, List.set_cons_succ, List.set_cons_zero]
            refine wpAnyH_take (i := 7) (v := ?_) rfl (by kernel_rfl) (by kernel_rfl) (by kernel_rfl) (fun _ _ _ h => h) (Or.inl ⟨by rfl, ?_⟩) O ?_
            rotate_left
            · intro wq hSq
              (try dsimp only at hSq)

              go_simp
              try rfl
            change wpAnyH _ _ _ _ _ _ _ (Act.put _ (some 18) _) _
            simp only [Act.put, List.setIfInBounds_toArray, List.set_cons_succ, List.set_cons_zero]
            refine wpAnyH_take (i := 8) (v := ?_) rfl (by kernel_rfl) (by kernel_rfl) (by kernel_rfl) (fun _ _ _ h => h) (Or.inl ⟨by rfl, ?_⟩) O ?_
            rotate_left
            · intro wq hSq
              (try dsimp only at hSq)

              go_simp
              try rfl
            change wpAnyH _ _ _ _ _ _ _ (Act.put _ (some 19) _) _
            simp only [Act.put, List.setIfInBounds_toArray, List.set_cons_succ, List.set_cons_zero]
            refine wpAnyH_ready (rs := [9]) (by kernel_rfl) (by simp) ?_
            refine (AllReadyH.cons rfl (fun K hK => ?_) AllReadyH.nil)
            go_simp
            have hVP := O.size
            obtain ⟨bP, hb, z⟩ := one u0ccac [.int .i64 0, .int .i64 0, .int .i64 0, .int .i64 0, .int .i64 0] 25
            replace O := over_step O hb
            have hPQ : u0ccac.heap.size ≠ Q := Nat.ne_of_gt bQ.lt
            replace bQ := bQ.keep hb
            clear z hb
            refine hK.out _ _ O (fun _ => ?_)
            clear hK K
            try simp only [Act.put, List.setIfInBounds_toArray, List.set_cons_zero, List.set_cons_succ]
            obtain ⟨P, eB⟩ : ∃ B, B = u0ccac.heap.size := ⟨_, rfl⟩
            obtain ⟨u0ccaca, eW⟩ : ∃ u, u = u0ccac.alloc (.cells #[.int .i64 0, .int .i64 0, .int .i64 0, .int .i64 0, .int .i64 0] 25) := ⟨_, rfl⟩
            rw [← eW] at bP O bQ ⊢
            rw [← eB] at bP hVP hPQ ⊢
            clear eW eB
            have r0 := bP.c 0 rfl
            have rf0 := bP.f 0 (x := _) rfl
            have t0 := bQ.c 0 rfl
            have tf0 := bQ.f 0 (x := _) rfl
            have r1 := bP.c 1 rfl
            have rf1 := bP.f 1 (x := _) rfl
            have t1 := bQ.c 1 rfl
            have tf1 := bQ.f 1 (x := _) rfl
            have r2 := bP.c 2 rfl
            have rf2 := bP.f 2 (x := _) rfl
            have t2 := bQ.c 2 rfl
            have tf2 := bQ.f 2 (x := _) rfl
            have r3 := bP.c 3 rfl
            have rf3 := bP.f 3 (x := _) rfl
            have t3 := bQ.c 3 rfl
            have tf3 := bQ.f 3 (x := _) rfl
            have r4 := bP.c 4 rfl
            have rf4 := bP.f 4 (x := _) rfl
            have t4 := bQ.c 4 rfl
            have tf4 := bQ.f 4 (x := _) rfl
            refine wpAnyH_ready (rs := [11]) (by kernel_rfl) (by simp) ?_
            refine (AllReadyH.cons rfl (fun K hK => ?_) AllReadyH.nil)
            go_simp
            have O2 := below_set5 O (B := P) hVP (.int .i64 G.a) (.int .i64 G.b) (.int .i64 G.c) (.int .i64 G.d) (.int .i64 G.e)
            refine hK.out _ _ O2 (fun _ => ?_)
            clear hK K
            try simp only [Act.put, List.setIfInBounds_toArray, List.set_cons_zero, List.set_cons_succ]
            refine wpAnyH_ready (rs := [12]) (by kernel_rfl) (by simp) ?_
            refine (AllReadyH.cons rfl (fun K hK => ?_) AllReadyH.nil)
            go_simp
            have O3 := below_set5 O2 (B := Q) hVQ (.int .i64 J.a) (.int .i64 J.b) (.int .i64 J.c) (.int .i64 J.d) (.int .i64 J.e)
            refine hK.out _ _ O3 (fun _ => ?_)
            clear hK K
            try simp only [Act.put, List.setIfInBounds_toArray, List.set_cons_zero, List.set_cons_succ]
            refine wpAnyH_ready (rs := [13]) (by kernel_rfl) (by simp) ?_
            refine (AllReadyH.cons rfl (fun K hK => ?_) AllReadyH.nil)
            go_simp
            refine hK.out _ _ O3 (fun _ => ?_)
            clear hK K
            try simp only [Act.put, List.setIfInBounds_toArray, List.set_cons_zero, List.set_cons_succ]
            clear r0 rf0 t0 tf0 r1 rf1 t1 tf1 r2 rf2 t2 tf2 r3 rf3 t3 tf3 r4 rf4 t4 tf4
            refine wpAnyH_done (by kernel_rfl) ?_ _
            have b5 := ((((((bP.set5 (.int .i64 G.a) (.int .i64 G.b) (.int .i64 G.c) (.int .i64 G.d) (.int .i64 G.e)).far (C := Q) (o := 0) (u := .int .i64 J.a) hPQ).far (C := Q) (o := 1) (u := .int .i64 J.b) hPQ).far (C := Q) (o := 2) (u := .int .i64 J.c) hPQ).far (C := Q) (o := 3) (u := .int .i64 J.d) hPQ).far (C := Q) (o := 4) (u := .int .i64 J.e) hPQ)
            have d5 := ((((((bQ.far (C := P) (o := 0) (u := .int .i64 G.a) hPQ.symm).far (C := P) (o := 1) (u := .int .i64 G.b) hPQ.symm).far (C := P) (o := 2) (u := .int .i64 G.c) hPQ.symm).far (C := P) (o := 3) (u := .int .i64 G.d) hPQ.symm).far (C := P) (o := 4) (u := .int .i64 G.e) hPQ.symm)).set5 (.int .i64 J.a) (.int .i64 J.b) (.int .i64 J.c) (.int .i64 J.d) (.int .i64 J.e)
            go_wp2_with fail
            go_meet
            case rel => exact ⟨P, Q, rfl, rfl, rfl, O3, b5, d5⟩
          · go_simp
            have hVP := O.size
            obtain ⟨bP, hb, z⟩ := one u0cca [.int .i64 0, .int .i64 0, .int .i64 0, .int .i64 0, .int .i64 0] 25
            replace O := over_step O hb
            have hPQ : u0cca.heap.size ≠ Q := Nat.ne_of_gt bQ.lt
            replace bQ := bQ.keep hb
            clear z hb
            refine hK.out _ _ O (fun _ => ?_)
            clear hK K
            try simp only [Act.put, List.setIfInBounds_toArray, List.set_cons_zero, List.set_cons_succ]
            obtain ⟨P, eB⟩ : ∃ B, B = u0cca.heap.size := ⟨_, rfl⟩
            obtain ⟨u0ccaa, eW⟩ : ∃ u, u = u0cca.alloc (.cells #[.int .i64 0, .int .i64 0, .int .i64 0, .int .i64 0, .int .i64 0] 25) := ⟨_, rfl⟩
            rw [← eW] at bP O bQ ⊢
            rw [← eB] at bP hVP hPQ ⊢
            clear eW eB
            refine wpAnyH_ready (rs := [4]) (by kernel_rfl) (by simp) ?_
            refine (AllReadyH.cons rfl (fun K hK => ?_) AllReadyH.nil)
            go_simp
            refine (sGreet_t _ (Nat.lt_of_lt_of_le (World.block_lt_of_cell? V _ HU.out.2) O.size) H).mono ?_
            rintro e u0ccaac ⟨rfl, hb⟩
            replace bP := bP.keep hb
            replace bQ := bQ.keep hb
            replace O := over_step O hb
            clear hb
            refine hK.out _ _ O (fun _ => ?_)
            clear hK K
            try simp only [Act.put, List.setIfInBounds_toArray, List.set_cons_zero, List.set_cons_succ]
            refine wpAnyH_take (i := 5) (v := ?_) rfl (by kernel_rfl) (by kernel_rfl) (by kernel_rfl) (fun _ _ _ h => h) (Or.inl ⟨by rfl, ?_⟩) O ?_
            rotate_left
            · intro wq hSq
              (try dsimp only at hSq)

              go_simp
              try rfl
            change wpAnyH _ _ _ _ _ _ _ (Act.put _ (some 11) _) _
            simp only [Act.put, List.setIfInBounds_toArray, List.set_cons_succ, List.set_cons_zero]
            refine wpAnyH_take (i := 6) (v := ?_) rfl (by kernel_rfl) (by kernel_rfl) (by kernel_rfl) (fun _ _ _ h => h) (Or.inl ⟨by rfl, ?_⟩) O ?_
            rotate_left
            · intro wq hSq
              (try dsimp only at hSq)

              go_simp
              try rfl
            change wpAnyH _ _ _ _ _ _ _ (Act.put _ (some 17) _) _
            simp only [Act.put, List.setIfInBounds_toArray, List.set_cons_succ, List.set_cons_zero]
            refine wpAnyH_take (i := 7) (v := ?_) rfl (by kernel_rfl) (by kernel_rfl) (by kernel_rfl) (fun _ _ _ h => h) (Or.inl ⟨by rfl, ?_⟩) O ?_
            rotate_left
            · intro wq hSq
              (try dsimp only at hSq)

              go_simp
              try rfl
            change wpAnyH _ _ _ _ _ _ _ (Act.put _ (some 18) _) _
            simp only [Act.put, List.setIfInBounds_toArray, List.set_cons_succ, List.set_cons_zero]
            refine wpAnyH_take (i := 8) (v := ?_) rfl (by kernel_rfl) (by kernel_rfl) (by kernel_rfl) (fun _ _ _ h => h) (Or.inl ⟨by rfl, ?_⟩) O ?_
            rotate_left
            · intro wq hSq
              (try dsimp only at hSq)

              go_simp
              try rfl
            change wpAnyH _ _ _ _ _ _ _ (Act.put _ (some 19) _) _
            simp only [Act.put, List.setIfInBounds_toArray, List.set_cons_succ, List.set_cons_zero]
            have r0 := bP.c 0 rfl
            have rf0 := bP.f 0 (x := _) rfl
            have t0 := bQ.c 0 rfl
            have tf0 := bQ.f 0 (x := _) rfl
            have r1 := bP.c 1 rfl
            have rf1 := bP.f 1 (x := _) rfl
            have t1 := bQ.c 1 rfl
            have tf1 := bQ.f 1 (x := _) rfl
            have r2 := bP.c 2 rfl
            have rf2 := bP.f 2 (x := _) rfl
            have t2 := bQ.c 2 rfl
            have tf2 := bQ.f 2 (x := _) rfl
            have r3 := bP.c 3 rfl
            have rf3 := bP.f 3 (x := _) rfl
            have t3 := bQ.c 3 rfl
            have tf3 := bQ.f 3 (x := _) rfl
            have r4 := bP.c 4 rfl
            have rf4 := bP.f 4 (x := _) rfl
            have t4 := bQ.c 4 rfl
            have tf4 := bQ.f 4 (x := _) rfl
            refine wpAnyH_ready (rs := [11]) (by kernel_rfl) (by simp) ?_
            refine (AllReadyH.cons rfl (fun K hK => ?_) AllReadyH.nil)
            go_simp
            have O2 := below_set5 O (B := P) hVP (.int .i64 G.a) (.int .i64 G.b) (.int .i64 G.c) (.int .i64 G.d) (.int .i64 G.e)
            refine hK.out _ _ O2 (fun _ => ?_)
            clear hK K
            try simp only [Act.put, List.setIfInBounds_toArray, List.set_cons_zero, List.set_cons_succ]
            refine wpAnyH_ready (rs := [12]) (by kernel_rfl) (by simp) ?_
            refine (AllReadyH.cons rfl (fun K hK => ?_) AllReadyH.nil)
            go_simp
            have O3 := below_set5 O2 (B := Q) hVQ (.int .i64 J.a) (.int .i64 J.b) (.int .i64 J.c) (.int .i64 J.d) (.int .i64 J.e)
            refine hK.out _ _ O3 (fun _ => ?_)
            clear hK K
            try simp only [Act.put, List.setIfInBounds_toArray, List.set_cons_zero, List.set_cons_succ]
            refine wpAnyH_ready (rs := [13]) (by kernel_rfl) (by simp) ?_
            refine (AllReadyH.cons rfl (fun K hK => ?_) AllReadyH.nil)
            go_simp
            refine hK.out _ _ O3 (fun _ => ?_)
            clear hK K
            try simp only [Act.put, List.setIfInBounds_toArray, List.set_cons_zero, List.set_cons_succ]
            clear r0 rf0 t0 tf0 r1 rf1 t1 tf1 r2 rf2 t2 tf2 r3 rf3 t3 tf3 r4 rf4 t4 tf4
            refine wpAnyH_done (by kernel_rfl) ?_ _
            have b5 := ((((((bP.set5 (.int .i64 G.a) (.int .i64 G.b) (.int .i64 G.c) (.int .i64 G.d) (.int .i64 G.e)).far (C := Q) (o := 0) (u := .int .i64 J.a) hPQ).far (C := Q) (o := 1) (u := .int .i64 J.b) hPQ).far (C := Q) (o := 2) (u := .int .i64 J.c) hPQ).far (C := Q) (o := 3) (u := .int .i64 J.d) hPQ).far (C := Q) (o := 4) (u := .int .i64 J.e) hPQ)
            have d5 := ((((((bQ.far (C := P) (o := 0) (u := .int .i64 G.a) hPQ.symm).far (C := P) (o := 1) (u := .int .i64 G.b) hPQ.symm).far (C := P) (o := 2) (u := .int .i64 G.c) hPQ.symm).far (C := P) (o := 3) (u := .int .i64 G.d) hPQ.symm).far (C := P) (o := 4) (u := .int .i64 G.e) hPQ.symm)).set5 (.int .i64 J.a) (.int .i64 J.b) (.int .i64 J.c) (.int .i64 J.d) (.int .i64 J.e)
            go_wp2_with fail
            go_meet
            case rel => exact ⟨P, Q, rfl, rfl, rfl, O3, b5, d5⟩
      · go_simp
        have hVP := O.size
        obtain ⟨bP, hb, z⟩ := one u0c [.int .i64 0, .int .i64 0, .int .i64 0, .int .i64 0, .int .i64 0] 25
        replace O := over_step O hb
        clear z hb
        refine hK.out _ _ O (fun _ => ?_)
        clear hK K
        try simp only [Act.put, List.setIfInBounds_toArray, List.set_cons_zero, List.set_cons_succ]
        obtain ⟨P, eB⟩ : ∃ B, B = u0c.heap.size := ⟨_, rfl⟩
        obtain ⟨u0ca, eW⟩ : ∃ u, u = u0c.alloc (.cells #[.int .i64 0, .int .i64 0, .int .i64 0, .int .i64 0, .int .i64 0] 25) := ⟨_, rfl⟩
        rw [← eW] at bP O  ⊢
        rw [← eB] at bP hVP  ⊢
        clear eW eB
        refine wpAnyH_ready (rs := [3, 10]) (by kernel_rfl) (by simp) ?_
        refine (AllReadyH.cons rfl (fun K hK => ?_) (AllReadyH.cons rfl (fun K hK => ?_) AllReadyH.nil))
        · go_simp
          refine (toCf_any ba bi bh bp _).mono ?_
          rintro e u0cac ⟨rfl, hb⟩
          replace bP := bP.keep hb
          replace O := over_step O hb
          clear hb
          refine hK.out _ _ O (fun _ => ?_)
          clear hK K
          try simp only [Act.put, List.setIfInBounds_toArray, List.set_cons_zero, List.set_cons_succ]
          refine wpAnyH_ready (rs := [4, 10]) (by kernel_rfl) (by simp) ?_
          refine (AllReadyH.cons rfl (fun K hK => ?_) (AllReadyH.cons rfl (fun K hK => ?_) AllReadyH.nil))
          · go_simp
            refine (sGreet_t _ (Nat.lt_of_lt_of_le (World.block_lt_of_cell? V _ HU.out.2) O.size) H).mono ?_
            rintro e u0cacc ⟨rfl, hb⟩
            replace bP := bP.keep hb
            replace O := over_step O hb
            clear hb
            refine hK.out _ _ O (fun _ => ?_)
            clear hK K
            try simp only [Act.put, List.setIfInBounds_toArray, List.set_cons_zero, List.set_cons_succ]
            refine wpAnyH_take (i := 5) (v := ?_) rfl (by kernel_rfl) (by kernel_rfl) (by kernel_rfl) (fun _ _ _ h => h) (Or.inl ⟨by rfl, ?_⟩) O ?_
            rotate_left
            · intro wq hSq
              (try dsimp only at hSq)

              go_simp
              try rfl
            change wpAnyH _ _ _ _ _ _ _ (Act.put _ (some 11) _) _
            simp only [Act.put, List.setIfInBounds_toArray, List.set_cons_succ, List.set_cons_zero]
            refine wpAnyH_take (i := 6) (v := ?_) rfl (by kernel_rfl) (by kernel_rfl) (by kernel_rfl) (fun _ _ _ h => h) (Or.inl ⟨by rfl, ?_⟩) O ?_
            rotate_left
            · intro wq hSq
              (try dsimp only at hSq)

              go_simp
              try rfl
            change wpAnyH _ _ _ _ _ _ _ (Act.put _ (some 17) _) _
            simp only [Act.put, List.setIfInBounds_toArray, List.set_cons_succ, List.set_cons_zero]
            refine wpAnyH_take (i := 7) (v := ?_) rfl (by kernel_rfl) (by kernel_rfl) (by kernel_rfl) (fun _ _ _ h => h) (Or.inl ⟨by rfl, ?_⟩) O ?_
            rotate_left
            · intro wq hSq
              (try dsimp only at hSq)

              go_simp
              try rfl
            change wpAnyH _ _ _ _ _ _ _ (Act.put _ (some 18) _) _
            simp only [Act.put, List.setIfInBounds_toArray, List.set_cons_succ, List.set_cons_zero]
            refine wpAnyH_take (i := 8) (v := ?_) rfl (by kernel_rfl) (by kernel_rfl) (by kernel_rfl) (fun _ _ _ h => h) (Or.inl ⟨by rfl, ?_⟩) O ?_
            rotate_left
            · intro wq hSq
              (try dsimp only at hSq)

              go_simp
              try rfl
            change wpAnyH _ _ _ _ _ _ _ (Act.put _ (some 19) _) _
            simp only [Act.put, List.setIfInBounds_toArray, List.set_cons_succ, List.set_cons_zero]
            refine wpAnyH_ready (rs := [10]) (by kernel_rfl) (by simp) ?_
            refine (AllReadyH.cons rfl (fun K hK => ?_) AllReadyH.nil)
            go_simp
            have hVQ := O.size
            obtain ⟨bQ, hb, z⟩ := one u0cacc [.int .i64 0, .int .i64 0, .int .i64 0, .int .i64 0, .int .i64 0] 25
            replace O := over_step O hb
            have hPQ : P ≠ u0cacc.heap.size := Nat.ne_of_lt bP.lt
            replace bP := bP.keep hb
            clear z hb
            refine hK.out _ _ O (fun _ => ?_)
            clear hK K
            try simp only [Act.put, List.setIfInBounds_toArray, List.set_cons_zero, List.set_cons_succ]
            obtain ⟨Q, eB⟩ : ∃ B, B = u0cacc.heap.size := ⟨_, rfl⟩
            obtain ⟨u0cacca, eW⟩ : ∃ u, u = u0cacc.alloc (.cells #[.int .i64 0, .int .i64 0, .int .i64 0, .int .i64 0, .int .i64 0] 25) := ⟨_, rfl⟩
            rw [← eW] at bQ O bP ⊢
            rw [← eB] at bQ hVQ hPQ ⊢
            clear eW eB
            have r0 := bP.c 0 rfl
            have rf0 := bP.f 0 (x := _) rfl
            have t0 := bQ.c 0 rfl
            have tf0 := bQ.f 0 (x := _) rfl
            have r1 := bP.c 1 rfl
            have rf1 := bP.f 1 (x := _) rfl
            have t1 := bQ.c 1 rfl
            have tf1 := bQ.f 1 (x := _) rfl
            have r2 := bP.c 2 rfl
            have rf2 := bP.f 2 (x := _) rfl
            have t2 := bQ.c 2 rfl
            have tf2 := bQ.f 2 (x := _) rfl
            have r3 := bP.c 3 rfl
            have rf3 := bP.f 3 (x := _) rfl
            have t3 := bQ.c 3 rfl
            have tf3 := bQ.f 3 (x := _) rfl
            have r4 := bP.c 4 rfl
            have rf4 := bP.f 4 (x := _) rfl
            have t4 := bQ.c 4 rfl
            have tf4 := bQ.f 4 (x := _) rfl
            refine wpAnyH_ready (rs := [11]) (by kernel_rfl) (by simp) ?_
            refine (AllReadyH.cons rfl (fun K hK => ?_) AllReadyH.nil)
            go_simp
            have O2 := below_set5 O (B := P) hVP (.int .i64 G.a) (.int .i64 G.b) (.int .i64 G.c) (.int .i64 G.d) (.int .i64 G.e)
            refine hK.out _ _ O2 (fun _ => ?_)
            clear hK K
            try simp only [Act.put, List.setIfInBounds_toArray, List.set_cons_zero, List.set_cons_succ]
            refine wpAnyH_ready (rs := [12]) (by kernel_rfl) (by simp) ?_
            refine (AllReadyH.cons rfl (fun K hK => ?_) AllReadyH.nil)
            go_simp
            have O3 := below_set5 O2 (B := Q) hVQ (.int .i64 J.a) (.int .i64 J.b) (.int .i64 J.c) (.int .i64 J.d) (.int .i64 J.e)
            refine hK.out _ _ O3 (fun _ => ?_)
            clear hK K
            try simp only [Act.put, List.setIfInBounds_toArray, List.set_cons_zero, List.set_cons_succ]
            refine wpAnyH_ready (rs := [13]) (by kernel_rfl) (by simp) ?_
            refine (AllReadyH.cons rfl (fun K hK => ?_) AllReadyH.nil)
            go_simp
            refine hK.out _ _ O3 (fun _ => ?_)
            clear hK K
            try simp only [Act.put, List.setIfInBounds_toArray, List.set_cons_zero, List.set_cons_succ]
            clear r0 rf0 t0 tf0 r1 rf1 t1 tf1 r2 rf2 t2 tf2 r3 rf3 t3 tf3 r4 rf4 t4 tf4
            refine wpAnyH_done (by kernel_rfl) ?_ _
            have b5 := ((((((bP.set5 (.int .i64 G.a) (.int .i64 G.b) (.int .i64 G.c) (.int .i64 G.d) (.int .i64 G.e)).far (C := Q) (o := 0) (u := .int .i64 J.a) hPQ).far (C := Q) (o := 1) (u := .int .i64 J.b) hPQ).far (C := Q) (o := 2) (u := .int .i64 J.c) hPQ).far (C := Q) (o := 3) (u := .int .i64 J.d) hPQ).far (C := Q) (o := 4) (u := .int .i64 J.e) hPQ)
            have d5 := ((((((bQ.far (C := P) (o := 0) (u := .int .i64 G.a) hPQ.symm).far (C := P) (o := 1) (u := .int .i64 G.b) hPQ.symm).far (C := P) (o := 2) (u := .int .i64 G.c) hPQ.symm).far (C := P) (o := 3) (u := .int .i64 G.d) hPQ.symm).far (C := P) (o := 4) (u := .int .i64 G.e) hPQ.symm)).set5 (.int .i64 J.a) (.int .i64 J.b) (.int .i64 J.c) (.int .i64 J.d) (.int .i64 J.e)
            go_wp2_with fail
            go_meet
            case rel => exact ⟨P, Q, rfl, rfl, rfl, O3, b5, d5⟩
          · go_simp
            have hVQ := O.size
            obtain ⟨bQ, hb, z⟩ := one u0cac [.int .i64 0, .int .i64 0, .int .i64 0, .int .i64 0, .int .i64 0] 25
            replace O := over_step O hb
            have hPQ : P ≠ u0cac.heap.size := Nat.ne_of_lt bP.lt
            replace bP := bP.keep hb
            clear z hb
            refine hK.out _ _ O (fun _ => ?_)
            clear hK K
            try simp only [Act.put, List.setIfInBounds_toArray, List.set_cons_zero, List.set_cons_succ]
            obtain ⟨Q, eB⟩ : ∃ B, B = u0cac.heap.size := ⟨_, rfl⟩
            obtain ⟨u0caca, eW⟩ : ∃ u, u = u0cac.alloc (.cells #[.int .i64 0, .int .i64 0, .int .i64 0, .int .i64 0, .int .i64 0] 25) := ⟨_, rfl⟩
            rw [← eW] at bQ O bP ⊢
            rw [← eB] at bQ hVQ hPQ ⊢
            clear eW eB
            refine wpAnyH_ready (rs := [4]) (by kernel_rfl) (by simp) ?_
            refine (AllReadyH.cons rfl (fun K hK => ?_) AllReadyH.nil)
            go_simp
            refine (sGreet_t _ (Nat.lt_of_lt_of_le (World.block_lt_of_cell? V _ HU.out.2) O.size) H).mono ?_
            rintro e u0cacac ⟨rfl, hb⟩
            replace bP := bP.keep hb
            replace bQ := bQ.keep hb
            replace O := over_step O hb
            clear hb
            refine hK.out _ _ O (fun _ => ?_)
            clear hK K
            try simp only [Act.put, List.setIfInBounds_toArray, List.set_cons_zero, List.set_cons_succ]
            refine wpAnyH_take (i := 5) (v := ?_) rfl (by kernel_rfl) (by kernel_rfl) (by kernel_rfl) (fun _ _ _ h => h) (Or.inl ⟨by rfl, ?_⟩) O ?_
            rotate_left
            · intro wq hSq
              (try dsimp only at hSq)

              go_simp
              try rfl
            change wpAnyH _ _ _ _ _ _ _ (Act.put _ (some 11) _) _
            simp only [Act.put, List.setIfInBounds_toArray, List.set_cons_succ, List.set_cons_zero]
            refine wpAnyH_take (i := 6) (v := ?_) rfl (by kernel_rfl) (by kernel_rfl) (by kernel_rfl) (fun _ _ _ h => h) (Or.inl ⟨by rfl, ?_⟩) O ?_
            rotate_left
            · intro wq hSq
              (try dsimp only at hSq)

              go_simp
              try rfl
            change wpAnyH _ _ _ _ _ _ _ (Act.put _ (some 17) _) _
            simp only [Act.put, List.setIfInBounds_toArray, List.set_cons_succ, List.set_cons_zero]
            refine wpAnyH_take (i := 7) (v := ?_) rfl (by kernel_rfl) (by kernel_rfl) (by kernel_rfl) (fun _ _ _ h => h) (Or.inl ⟨by rfl, ?_⟩) O ?_
            rotate_left
            · intro wq hSq
              (try dsimp only at hSq)

              go_simp
              try rfl
            change wpAnyH _ _ _ _ _ _ _ (Act.put _ (some 18) _) _
            simp only [Act.put, List.setIfInBounds_toArray, List.set_cons_succ, List.set_cons_zero]
            refine wpAnyH_take (i := 8) (v := ?_) rfl (by kernel_rfl) (by kernel_rfl) (by kernel_rfl) (fun _ _ _ h => h) (Or.inl ⟨by rfl, ?_⟩) O ?_
            rotate_left
            · intro wq hSq
              (try dsimp only at hSq)

              go_simp
              try rfl
            change wpAnyH _ _ _ _ _ _ _ (Act.put _ (some 19) _) _
            simp only [Act.put, List.setIfInBounds_toArray, List.set_cons_succ, List.set_cons_zero]
            have r0 := bP.c 0 rfl
            have rf0 := bP.f 0 (x := _) rfl
            have t0 := bQ.c 0 rfl
            have tf0 := bQ.f 0 (x := _) rfl
            have r1 := bP.c 1 rfl
            have rf1 := bP.f 1 (x := _) rfl
            have t1 := bQ.c 1 rfl
            have tf1 := bQ.f 1 (x := _) rfl
            have r2 := bP.c 2 rfl
            have rf2 := bP.f 2 (x := _) rfl
            have t2 := bQ.c 2 rfl
            have tf2 := bQ.f 2 (x := _) rfl
            have r3 := bP.c 3 rfl
            have rf3 := bP.f 3 (x := _) rfl
            have t3 := bQ.c 3 rfl
            have tf3 := bQ.f 3 (x := _) rfl
            have r4 := bP.c 4 rfl
            have rf4 := bP.f 4 (x := _) rfl
            have t4 := bQ.c 4 rfl
            have tf4 := bQ.f 4 (x := _) rfl
            refine wpAnyH_ready (rs := [11]) (by kernel_rfl) (by simp) ?_
            refine (AllReadyH.cons rfl (fun K hK => ?_) AllReadyH.nil)
            go_simp
            have O2 := below_set5 O (B := P) hVP (.int .i64 G.a) (.int .i64 G.b) (.int .i64 G.c) (.int .i64 G.d) (.int .i64 G.e)
            refine hK.out _ _ O2 (fun _ => ?_)
            clear hK K
            try simp only [Act.put, List.setIfInBounds_toArray, List.set_cons_zero, List.set_cons_succ]
            refine wpAnyH_ready (rs := [12]) (by kernel_rfl) (by simp) ?_
            refine (AllReadyH.cons rfl (fun K hK => ?_) AllReadyH.nil)
            go_simp
            have O3 := below_set5 O2 (B := Q) hVQ (.int .i64 J.a) (.int .i64 J.b) (.int .i64 J.c) (.int .i64 J.d) (.int .i64 J.e)
            refine hK.out _ _ O3 (fun _ => ?_)
            clear hK K
            try simp only [Act.put, List.setIfInBounds_toArray, List.set_cons_zero, List.set_cons_succ]
            refine wpAnyH_ready (rs := [13]) (by kernel_rfl) (by simp) ?_
            refine (AllReadyH.cons rfl (fun K hK => ?_) AllReadyH.nil)
            go_simp
            refine hK.out _ _ O3 (fun _ => ?_)
            clear hK K
            try simp only [Act.put, List.setIfInBounds_toArray, List.set_cons_zero, List.set_cons_succ]
            clear r0 rf0 t0 tf0 r1 rf1 t1 tf1 r2 rf2 t2 tf2 r3 rf3 t3 tf3 r4 rf4 t4 tf4
            refine wpAnyH_done (by kernel_rfl) ?_ _
            have b5 := ((((((bP.set5 (.int .i64 G.a) (.int .i64 G.b) (.int .i64 G.c) (.int .i64 G.d) (.int .i64 G.e)).far (C := Q) (o := 0) (u := .int .i64 J.a) hPQ).far (C := Q) (o := 1) (u := .int .i64 J.b) hPQ).far (C := Q) (o := 2) (u := .int .i64 J.c) hPQ).far (C := Q) (o := 3) (u := .int .i64 J.d) hPQ).far (C := Q) (o := 4) (u := .int .i64 J.e) hPQ)
            have d5 := ((((((bQ.far (C := P) (o := 0) (u := .int .i64 G.a) hPQ.symm).far (C := P) (o := 1) (u := .int .i64 G.b) hPQ.symm).far (C := P) (o := 2) (u := .int .i64 G.c) hPQ.symm).far (C := P) (o := 3) (u := .int .i64 G.d) hPQ.symm).far (C := P) (o := 4) (u := .int .i64 G.e) hPQ.symm)).set5 (.int .i64 J.a) (.int .i64 J.b) (.int .i64 J.c) (.int .i64 J.d) (.int .i64 J.e)
            go_wp2_with fail
            go_meet
            case rel => exact ⟨P, Q, rfl, rfl, rfl, O3, b5, d5⟩
        · go_simp
          have hVQ := O.size
          obtain ⟨bQ, hb, z⟩ := one u0ca [.int .i64 0, .int .i64 0, .int .i64 0, .int .i64 0, .int .i64 0] 25
          replace O := over_step O hb
          have hPQ : P ≠ u0ca.heap.size := Nat.ne_of_lt bP.lt
          replace bP := bP.keep hb
          clear z hb
          refine hK.out _ _ O (fun _ => ?_)
          clear hK K
          try simp only [Act.put, List.setIfInBounds_toArray, List.set_cons_zero, List.set_cons_succ]
          obtain ⟨Q, eB⟩ : ∃ B, B = u0ca.heap.size := ⟨_, rfl⟩
          obtain ⟨u0caa, eW⟩ : ∃ u, u = u0ca.alloc (.cells #[.int .i64 0, .int .i64 0, .int .i64 0, .int .i64 0, .int .i64 0] 25) := ⟨_, rfl⟩
          rw [← eW] at bQ O bP ⊢
          rw [← eB] at bQ hVQ hPQ ⊢
          clear eW eB
          refine wpAnyH_ready (rs := [3]) (by kernel_rfl) (by simp) ?_
          refine (AllReadyH.cons rfl (fun K hK => ?_) AllReadyH.nil)
          go_simp
          refine (toCf_any ba bi bh bp _).mono ?_
          rintro e u0caac ⟨rfl, hb⟩
          replace bP := bP.keep hb
          replace bQ := bQ.keep hb
          replace O := over_step O hb
          clear hb
          refine hK.out _ _ O (fun _ => ?_)
          clear hK K
          try simp only [Act.put, List.setIfInBounds_toArray, List.set_cons_zero, List.set_cons_succ]
          refine wpAnyH_ready (rs := [4]) (by kernel_rfl) (by simp) ?_
          refine (AllReadyH.cons rfl (fun K hK => ?_) AllReadyH.nil)
          go_simp
          refine (sGreet_t _ (Nat.lt_of_lt_of_le (World.block_lt_of_cell? V _ HU.out.2) O.size) H).mono ?_
          rintro e u0caacc ⟨rfl, hb⟩
          replace bP := bP.keep hb
          replace bQ := bQ.keep hb
          replace O := over_step O hb
          clear hb
          refine hK.out _ _ O (fun _ => ?_)
          clear hK K
          try simp only [Act.put, List.setIfInBounds_toArray, List.set_cons_zero, List.set_cons_succ]
          refine wpAnyH_take (i := 5) (v := ?_) rfl (by kernel_rfl) (by kernel_rfl) (by kernel_rfl) (fun _ _ _ h => h) (Or.inl ⟨by rfl, ?_⟩) O ?_
          rotate_left
          · intro wq hSq
            (try dsimp only at hSq)

            go_simp
            try rfl
          change wpAnyH _ _ _ _ _ _ _ (Act.put _ (some 11) _) _
          simp only [Act.put, List.setIfInBounds_toArray, List.set_cons_succ, List.set_cons_zero]
          refine wpAnyH_take (i := 6) (v := ?_) rfl (by kernel_rfl) (by kernel_rfl) (by kernel_rfl) (fun _ _ _ h => h) (Or.inl ⟨by rfl, ?_⟩) O ?_
          rotate_left
          · intro wq hSq
            (try dsimp only at hSq)

            go_simp
            try rfl
          change wpAnyH _ _ _ _ _ _ _ (Act.put _ (some 17) _) _
          simp only [Act.put, List.setIfInBounds_toArray, List.set_cons_succ, List.set_cons_zero]
          refine wpAnyH_take (i := 7) (v := ?_) rfl (by kernel_rfl) (by kernel_rfl) (by kernel_rfl) (fun _ _ _ h => h) (Or.inl ⟨by rfl, ?_⟩) O ?_
          rotate_left
          · intro wq hSq
            (try dsimp only at hSq)

            go_simp
            try rfl
          change wpAnyH _ _ _ _ _ _ _ (Act.put _ (some 18) _) _
          simp only [Act.put, List.setIfInBounds_toArray, List.set_cons_succ, List.set_cons_zero]
          refine wpAnyH_take (i := 8) (v := ?_) rfl (by kernel_rfl) (by kernel_rfl) (by kernel_rfl) (fun _ _ _ h => h) (Or.inl ⟨by rfl, ?_⟩) O ?_
          rotate_left
          · intro wq hSq
            (try dsimp only at hSq)

            go_simp
            try rfl
          change wpAnyH _ _ _ _ _ _ _ (Act.put _ (some 19) _) _
          simp only [Act.put, List.setIfInBounds_toArray, List.set_cons_succ, List.set_cons_zero]
          have r0 := bP.c 0 rfl
          have rf0 := bP.f 0 (x := _) rfl
          have t0 := bQ.c 0 rfl
          have tf0 := bQ.f 0 (x := _) rfl
          have r1 := bP.c 1 rfl
          have rf1 := bP.f 1 (x := _) rfl
          have t1 := bQ.c 1 rfl
          have tf1 := bQ.f 1 (x := _) rfl
          have r2 := bP.c 2 rfl
          have rf2 := bP.f 2 (x := _) rfl
          have t2 := bQ.c 2 rfl
          have tf2 := bQ.f 2 (x := _) rfl
          have r3 := bP.c 3 rfl
          have rf3 := bP.f 3 (x := _) rfl
          have t3 := bQ.c 3 rfl
          have tf3 := bQ.f 3 (x := _) rfl
          have r4 := bP.c 4 rfl
          have rf4 := bP.f 4 (x := _) rfl
          have t4 := bQ.c 4 rfl
          have tf4 := bQ.f 4 (x := _) rfl
          refine wpAnyH_ready (rs := [11]) (by kernel_rfl) (by simp) ?_
          refine (AllReadyH.cons rfl (fun K hK => ?_) AllReadyH.nil)
          go_simp
          have O2 := below_set5 O (B := P) hVP (.int .i64 G.a) (.int .i64 G.b) (.int .i64 G.c) (.int .i64 G.d) (.int .i64 G.e)
          refine hK.out _ _ O2 (fun _ => ?_)
          clear hK K
          try simp only [Act.put, List.setIfInBounds_toArray, List.set_cons_zero, List.set_cons_succ]
          refine wpAnyH_ready (rs := [12]) (by kernel_rfl) (by simp) ?_
          refine (AllReadyH.cons rfl (fun K hK => ?_) AllReadyH.nil)
          go_simp
          have O3 := below_set5 O2 (B := Q) hVQ (.int .i64 J.a) (.int .i64 J.b) (.int .i64 J.c) (.int .i64 J.d) (.int .i64 J.e)
          refine hK.out _ _ O3 (fun _ => ?_)
          clear hK K
          try simp only [Act.put, List.setIfInBounds_toArray, List.set_cons_zero, List.set_cons_succ]
          refine wpAnyH_ready (rs := [13]) (by kernel_rfl) (by simp) ?_
          refine (AllReadyH.cons rfl (fun K hK => ?_) AllReadyH.nil)
          go_simp
          refine hK.out _ _ O3 (fun _ => ?_)
          clear hK K
          try simp only [Act.put, List.setIfInBounds_toArray, List.set_cons_zero, List.set_cons_succ]
          clear r0 rf0 t0 tf0 r1 rf1 t1 tf1 r2 rf2 t2 tf2 r3 rf3 t3 tf3 r4 rf4 t4 tf4
          refine wpAnyH_done (by kernel_rfl) ?_ _
          have b5 := ((((((bP.set5 (.int .i64 G.a) (.int .i64 G.b) (.int .i64 G.c) (.int .i64 G.d) (.int .i64 G.e)).far (C := Q) (o := 0) (u := .int .i64 J.a) hPQ).far (C := Q) (o := 1) (u := .int .i64 J.b) hPQ).far (C := Q) (o := 2) (u := .int .i64 J.c) hPQ).far (C := Q) (o := 3) (u := .int .i64 J.d) hPQ).far (C := Q) (o := 4) (u := .int .i64 J.e) hPQ)
          have d5 := ((((((bQ.far (C := P) (o := 0) (u := .int .i64 G.a) hPQ.symm).far (C := P) (o := 1) (u := .int .i64 G.b) hPQ.symm).far (C := P) (o := 2) (u := .int .i64 G.c) hPQ.symm).far (C := P) (o := 3) (u := .int .i64 G.d) hPQ.symm).far (C := P) (o := 4) (u := .int .i64 G.e) hPQ.symm)).set5 (.int .i64 J.a) (.int .i64 J.b) (.int .i64 J.c) (.int .i64 J.d) (.int .i64 J.e)
          go_wp2_with fail
          go_meet
          case rel => exact ⟨P, Q, rfl, rfl, rfl, O3, b5, d5⟩
      · go_simp
        have hVQ := O.size
        obtain ⟨bQ, hb, z⟩ := one u0c [.int .i64 0, .int .i64 0, .int .i64 0, .int .i64 0, .int .i64 0] 25
        replace O := over_step O hb
        clear z hb
        refine hK.out _ _ O (fun _ => ?_)
        clear hK K
        try simp only [Act.put, List.setIfInBounds_toArray, List.set_cons_zero, List.set_cons_succ]
        obtain ⟨Q, eB⟩ : ∃ B, B = u0c.heap.size := ⟨_, rfl⟩
        obtain ⟨u0ca, eW⟩ : ∃ u, u = u0c.alloc (.cells #[.int .i64 0, .int .i64 0, .int .i64 0, .int .i64 0, .int .i64 0] 25) := ⟨_, rfl⟩
        rw [← eW] at bQ O  ⊢
        rw [← eB] at bQ hVQ  ⊢
        clear eW eB
        refine wpAnyH_ready (rs := [3, 9]) (by kernel_rfl) (by simp) ?_
        refine (AllReadyH.cons rfl (fun K hK => ?_) (AllReadyH.cons rfl (fun K hK => ?_) AllReadyH.nil))
        · go_simp
          refine (toCf_any ba bi bh bp _).mono ?_
          rintro e u0cac ⟨rfl, hb⟩
          replace bQ := bQ.keep hb
          replace O := over_step O hb
          clear hb
          refine hK.out _ _ O (fun _ => ?_)
          clear hK K
          try simp only [Act.put, List.setIfInBounds_toArray, List.set_cons_zero, List.set_cons_succ]
          refine wpAnyH_ready (rs := [4, 9]) (by kernel_rfl) (by simp) ?_
          refine (AllReadyH.cons rfl (fun K hK => ?_) (AllReadyH.cons rfl (fun K hK => ?_) AllReadyH.nil))
          · go_simp
            refine (sGreet_t _ (Nat.lt_of_lt_of_le (World.block_lt_of_cell? V _ HU.out.2) O.size) H).mono ?_
            rintro e u0cacc ⟨rfl, hb⟩
            replace bQ := bQ.keep hb
            replace O := over_step O hb
            clear hb
            refine hK.out _ _ O (fun _ => ?_)
            clear hK K
            try simp only [Act.put, List.setIfInBounds_toArray, List.set_cons_zero, List.set_cons_succ]
            refine wpAnyH_take (i := 5) (v := ?_) rfl (by kernel_rfl) (by kernel_rfl) (by kernel_rfl) (fun _ _ _ h => h) (Or.inl ⟨by rfl, ?_⟩) O ?_
            rotate_left
            · intro wq hSq
              (try dsimp only at hSq)

              go_simp
              try rfl
            change wpAnyH _ _ _ _ _ _ _ (Act.put _ (some 11) _) _
            simp only [Act.put, List.setIfInBounds_toArray, List.set_cons_succ, List.set_cons_zero]
            refine wpAnyH_take (i := 6) (v := ?_) rfl (by kernel_rfl) (by kernel_rfl) (by kernel_rfl) (fun _ _ _ h => h) (Or.inl ⟨by rfl, ?_⟩) O ?_
            rotate_left
            · intro wq hSq
              (try dsimp only at hSq)

              go_simp
              try rfl
            change wpAnyH _ _ _ _ _ _ _ (Act.put _ (some 17) _) _
            simp only [Act.put, List.setIfInBounds_toArray, List.set_cons_succ, List.set_cons_zero]
            refine wpAnyH_take (i := 7) (v := ?_) rfl (by kernel_rfl) (by kernel_rfl) (by kernel_rfl) (fun _ _ _ h => h) (Or.inl ⟨by rfl, ?_⟩) O ?_
            rotate_left
            · intro wq hSq
              (try dsimp only at hSq)

              go_simp
              try rfl
            change wpAnyH _ _ _ _ _ _ _ (Act.put _ (some 18) _) _
            simp only [Act.put, List.setIfInBounds_toArray, List.set_cons_succ, List.set_cons_zero]
            refine wpAnyH_take (i := 8) (v := ?_) rfl (by kernel_rfl) (by kernel_rfl) (by kernel_rfl) (fun _ _ _ h => h) (Or.inl ⟨by rfl, ?_⟩) O ?_
            rotate_left
            · intro wq hSq
              (try dsimp only at hSq)

              go_simp
              try rfl
            change wpAnyH _ _ _ _ _ _ _ (Act.put _ (some 19) _) _
            simp only [Act.put, List.setIfInBounds_toArray, List.set_cons_succ, List.set_cons_zero]
            refine wpAnyH_ready (rs := [9]) (by kernel_rfl) (by simp) ?_
            refine (AllReadyH.cons rfl (fun K hK => ?_) AllReadyH.nil)
            go_simp
            have hVP := O.size
            obtain ⟨bP, hb, z⟩ := one u0cacc [.int .i64 0, .int .i64 0, .int .i64 0, .int .i64 0, .int .i64 0] 25
            replace O := over_step O hb
            have hPQ : u0cacc.heap.size ≠ Q := Nat.ne_of_gt bQ.lt
            replace bQ := bQ.keep hb
            clear z hb
            refine hK.out _ _ O (fun _ => ?_)
            clear hK K
            try simp only [Act.put, List.setIfInBounds_toArray, List.set_cons_zero, List.set_cons_succ]
            obtain ⟨P, eB⟩ : ∃ B, B = u0cacc.heap.size := ⟨_, rfl⟩
            obtain ⟨u0cacca, eW⟩ : ∃ u, u = u0cacc.alloc (.cells #[.int .i64 0, .int .i64 0, .int .i64 0, .int .i64 0, .int .i64 0] 25) := ⟨_, rfl⟩
            rw [← eW] at bP O bQ ⊢
            rw [← eB] at bP hVP hPQ ⊢
            clear eW eB
            have r0 := bP.c 0 rfl
            have rf0 := bP.f 0 (x := _) rfl
            have t0 := bQ.c 0 rfl
            have tf0 := bQ.f 0 (x := _) rfl
            have r1 := bP.c 1 rfl
            have rf1 := bP.f 1 (x := _) rfl
            have t1 := bQ.c 1 rfl
            have tf1 := bQ.f 1 (x := _) rfl
            have r2 := bP.c 2 rfl
            have rf2 := bP.f 2 (x := _) rfl
            have t2 := bQ.c 2 rfl
            have tf2 := bQ.f 2 (x := _) rfl
            have r3 := bP.c 3 rfl
            have rf3 := bP.f 3 (x := _) rfl
            have t3 := bQ.c 3 rfl
            have tf3 := bQ.f 3 (x := _) rfl
            have r4 := bP.c 4 rfl
            have rf4 := bP.f 4 (x := _) rfl
            have t4 := bQ.c 4 rfl
            have tf4 := bQ.f 4 (x := _) rfl
            refine wpAnyH_ready (rs := [11]) (by kernel_rfl) (by simp) ?_
            refine (AllReadyH.cons rfl (fun K hK => ?_) AllReadyH.nil)
            go_simp
            have O2 := below_set5 O (B := P) hVP (.int .i64 G.a) (.int .i64 G.b) (.int .i64 G.c) (.int .i64 G.d) (.int .i64 G.e)
            refine hK.out _ _ O2 (fun _ => ?_)
            clear hK K
            try simp only [Act.put, List.setIfInBounds_toArray, List.set_cons_zero, List.set_cons_succ]
            refine wpAnyH_ready (rs := [12]) (by kernel_rfl) (by simp) ?_
            refine (AllReadyH.cons rfl (fun K hK => ?_) AllReadyH.nil)
            go_simp
            have O3 := below_set5 O2 (B := Q) hVQ (.int .i64 J.a) (.int .i64 J.b) (.int .i64 J.c) (.int .i64 J.d) (.int .i64 J.e)
            refine hK.out _ _ O3 (fun _ => ?_)
            clear hK K
            try simp only [Act.put, List.setIfInBounds_toArray, List.set_cons_zero, List.set_cons_succ]
            refine wpAnyH_ready (rs := [13]) (by kernel_rfl) (by simp) ?_
            refine (AllReadyH.cons rfl (fun K hK => ?_) AllReadyH.nil)
            go_simp
            refine hK.out _ _ O3 (fun _ => ?_)
            clear hK K
            try simp only [Act.put, List.setIfInBounds_toArray, List.set_cons_zero, List.set_cons_succ]
            clear r0 rf0 t0 tf0 r1 rf1 t1 tf1 r2 rf2 t2 tf2 r3 rf3 t3 tf3 r4 rf4 t4 tf4
            refine wpAnyH_done (by kernel_rfl) ?_ _
            have b5 := ((((((bP.set5 (.int .i64 G.a) (.int .i64 G.b) (.int .i64 G.c) (.int .i64 G.d) (.int .i64 G.e)).far (C := Q) (o := 0) (u := .int .i64 J.a) hPQ).far (C := Q) (o := 1) (u := .int .i64 J.b) hPQ).far (C := Q) (o := 2) (u := .int .i64 J.c) hPQ).far (C := Q) (o := 3) (u := .int .i64 J.d) hPQ).far (C := Q) (o := 4) (u := .int .i64 J.e) hPQ)
            have d5 := ((((((bQ.far (C := P) (o := 0) (u := .int .i64 G.a) hPQ.symm).far (C := P) (o := 1) (u := .int .i64 G.b) hPQ.symm).far (C := P) (o := 2) (u := .int .i64 G.c) hPQ.symm).far (C := P) (o := 3) (u := .int .i64 G.d) hPQ.symm).far (C := P) (o := 4) (u := .int .i64 G.e) hPQ.symm)).set5 (.int .i64 J.a) (.int .i64 J.b) (.int .i64 J.c) (.int .i64 J.d) (.int .i64 J.e)
            go_wp2_with fail
            go_meet
            case rel => exact ⟨P, Q, rfl, rfl, rfl, O3, b5, d5⟩
          · go_simp
            have hVP := O.size
            obtain ⟨bP, hb, z⟩ := one u0cac [.int .i64 0, .int .i64 0, .int .i64 0, .int .i64 0, .int .i64 0] 25
            replace O := over_step O hb
            have hPQ : u0cac.heap.size ≠ Q := Nat.ne_of_gt bQ.lt
            replace bQ := bQ.keep hb
            clear z hb
            refine hK.out _ _ O (fun _ => ?_)
            clear hK K
            try simp only [Act.put, List.setIfInBounds_toArray, List.set_cons_zero, List.set_cons_succ]
            obtain ⟨P, eB⟩ : ∃ B, B = u0cac.heap.size := ⟨_, rfl⟩
            obtain ⟨u0caca, eW⟩ : ∃ u, u = u0cac.alloc (.cells #[.int .i64 0, .int .i64 0, .int .i64 0, .int .i64 0, .int .i64 0] 25) := ⟨_, rfl⟩
            rw [← eW] at bP O bQ ⊢
            rw [← eB] at bP hVP hPQ ⊢
            clear eW eB
            refine wpAnyH_ready (rs := [4]) (by kernel_rfl) (by simp) ?_
            refine (AllReadyH.cons rfl (fun K hK => ?_) AllReadyH.nil)
            go_simp
            refine (sGreet_t _ (Nat.lt_of_lt_of_le (World.block_lt_of_cell? V _ HU.out.2) O.size) H).mono ?_
            rintro e u0cacac ⟨rfl, hb⟩
            replace bP := bP.keep hb
            replace bQ := bQ.keep hb
            replace O := over_step O hb
            clear hb
            refine hK.out _ _ O (fun _ => ?_)
            clear hK K
            try simp only [Act.put, List.setIfInBounds_toArray, List.set_cons_zero, List.set_cons_succ]
            refine wpAnyH_take (i := 5) (v := ?_) rfl (by kernel_rfl) (by kernel_rfl) (by kernel_rfl) (fun _ _ _ h => h) (Or.inl ⟨by rfl, ?_⟩) O ?_
            rotate_left
            · intro wq hSq
              (try dsimp only at hSq)

              go_simp
              try rfl
            change wpAnyH _ _ _ _ _ _ _ (Act.put _ (some 11) _) _
            simp only [Act.put, List.setIfInBounds_toArray, List.set_cons_succ, List.set_cons_zero]
            refine wpAnyH_take (i := 6) (v := ?_) rfl (by kernel_rfl) (by kernel_rfl) (by kernel_rfl) (fun _ _ _ h => h) (Or.inl ⟨by rfl, ?_⟩) O ?_
            rotate_left
            · intro wq hSq
              (try dsimp only at hSq)

              go_simp
              try rfl
            change wpAnyH _ _ _ _ _ _ _ (Act.put _ (some 17) _) _
            simp only [Act.put, List.setIfInBounds_toArray, List.set_cons_succ, List.set_cons_zero]
            refine wpAnyH_take (i := 7) (v := ?_) rfl (by kernel_rfl) (by kernel_rfl) (by kernel_rfl) (fun _ _ _ h => h) (Or.inl ⟨by rfl, ?_⟩) O ?_
            rotate_left
            · intro wq hSq
              (try dsimp only at hSq)

              go_simp
              try rfl
            change wpAnyH _ _ _ _ _ _ _ (Act.put _ (some 18) _) _
            simp only [Act.put, List.setIfInBounds_toArray, List.set_cons_succ, List.set_cons_zero]
            refine wpAnyH_take (i := 8) (v := ?_) rfl (by kernel_rfl) (by kernel_rfl) (by kernel_rfl) (fun _ _ _ h => h) (Or.inl ⟨by rfl, ?_⟩) O ?_
            rotate_left
            · intro wq hSq
              (try dsimp only at hSq)

              go_simp
              try rfl
            change wpAnyH _ _ _ _ _ _ _ (Act.put _ (some 19) _) _
            simp only [Act.put, List.setIfInBounds_toArray, List.set_cons_succ, List.set_cons_zero]
            have r0 := bP.c 0 rfl
            have rf0 := bP.f 0 (x := _) rfl
            have t0 := bQ.c 0 rfl
            have tf0 := bQ.f 0 (x := _) rfl
            have r1 := bP.c 1 rfl
            have rf1 := bP.f 1 (x := _) rfl
            have t1 := bQ.c 1 rfl
            have tf1 := bQ.f 1 (x := _) rfl
            have r2 := bP.c 2 rfl
            have rf2 := bP.f 2 (x := _) rfl
            have t2 := bQ.c 2 rfl
            have tf2 := bQ.f 2 (x := _) rfl
            have r3 := bP.c 3 rfl
            have rf3 := bP.f 3 (x := _) rfl
            have t3 := bQ.c 3 rfl
            have tf3 := bQ.f 3 (x := _) rfl
            have r4 := bP.c 4 rfl
            have rf4 := bP.f 4 (x := _) rfl
            have t4 := bQ.c 4 rfl
            have tf4 := bQ.f 4 (x := _) rfl
            refine wpAnyH_ready (rs := [11]) (by kernel_rfl) (by simp) ?_
            refine (AllReadyH.cons rfl (fun K hK => ?_) AllReadyH.nil)
            go_simp
            have O2 := below_set5 O (B := P) hVP (.int .i64 G.a) (.int .i64 G.b) (.int .i64 G.c) (.int .i64 G.d) (.int .i64 G.e)
            refine hK.out _ _ O2 (fun _ => ?_)
            clear hK K
            try simp only [Act.put, List.setIfInBounds_toArray, List.set_cons_zero, List.set_cons_succ]
            refine wpAnyH_ready (rs := [12]) (by kernel_rfl) (by simp) ?_
            refine (AllReadyH.cons rfl (fun K hK => ?_) AllReadyH.nil)
            go_simp
            have O3 := below_set5 O2 (B := Q) hVQ (.int .i64 J.a) (.int .i64 J.b) (.int .i64 J.c) (.int .i64 J.d) (.int .i64 J.e)
            refine hK.out _ _ O3 (fun _ => ?_)
            clear hK K
            try simp only [Act.put, List.setIfInBounds_toArray, List.set_cons_zero, List.set_cons_succ]
            refine wpAnyH_ready (rs := [13]) (by kernel_rfl) (by simp) ?_
            refine (AllReadyH.cons rfl (fun K hK => ?_) AllReadyH.nil)
            go_simp
            refine hK.out _ _ O3 (fun _ => ?_)
            clear hK K
            try simp only [Act.put, List.setIfInBounds_toArray, List.set_cons_zero, List.set_cons_succ]
            clear r0 rf0 t0 tf0 r1 rf1 t1 tf1 r2 rf2 t2 tf2 r3 rf3 t3 tf3 r4 rf4 t4 tf4
            refine wpAnyH_done (by kernel_rfl) ?_ _
            have b5 := ((((((bP.set5 (.int .i64 G.a) (.int .i64 G.b) (.int .i64 G.c) (.int .i64 G.d) (.int .i64 G.e)).far (C := Q) (o := 0) (u := .int .i64 J.a) hPQ).far (C := Q) (o := 1) (u := .int .i64 J.b) hPQ).far (C := Q) (o := 2) (u := .int .i64 J.c) hPQ).far (C := Q) (o := 3) (u := .int .i64 J.d) hPQ).far (C := Q) (o := 4) (u := .int .i64 J.e) hPQ)
            have d5 := ((((((bQ.far (C := P) (o := 0) (u := .int .i64 G.a) hPQ.symm).far (C := P) (o := 1) (u := .int .i64 G.b) hPQ.symm).far (C := P) (o := 2) (u := .int .i64 G.c) hPQ.symm).far (C := P) (o := 3) (u := .int .i64 G.d) hPQ.symm).far (C := P) (o := 4) (u := .int .i64 G.e) hPQ.symm)).set5 (.int .i64 J.a) (.int .i64 J.b) (.int .i64 J.c) (.int .i64 J.d) (.int .i64 J.e)
            go_wp2_with fail
            go_meet
            case rel => exact ⟨P, Q, rfl, rfl, rfl, O3, b5, d5⟩
        · go_simp
          have hVP := O.size
          obtain ⟨bP, hb, z⟩ := one u0ca [.int .i64 0, .int .i64 0, .int .i64 0, .int .i64 0, .int .i64 0] 25
          replace O := over_step O hb
          have hPQ : u0ca.heap.size ≠ Q := Nat.ne_of_gt bQ.lt
          replace bQ := bQ.keep hb
          clear z hb
          refine hK.out _ _ O (fun _ => ?_)
          clear hK K
          try simp only [Act.put, List.setIfInBounds_toArray, List.set_cons_zero, List.set_cons_succ]
          obtain ⟨P, eB⟩ : ∃ B, B = u0ca.heap.size := ⟨_, rfl⟩
          obtain ⟨u0caa, eW⟩ : ∃ u, u = u0ca.alloc (.cells #[.int .i64 0, .int .i64 0, .int .i64 0, .int .i64 0, .int .i64 0] 25) := ⟨_, rfl⟩
          rw [← eW] at bP O bQ ⊢
          rw [← eB] at bP hVP hPQ ⊢
          clear eW eB
          refine wpAnyH_ready (rs := [3]) (by kernel_rfl) (by simp) ?_
          refine (AllReadyH.cons rfl (fun K hK => ?_) AllReadyH.nil)
          go_simp
          refine (toCf_any ba bi bh bp _).mono ?_
          rintro e u0caac ⟨rfl, hb⟩
          replace bP := bP.keep hb
          replace bQ := bQ.keep hb
          replace O := over_step O hb
          clear hb
          refine hK.out _ _ O (fun _ => ?_)
          clear hK K
          try simp only [Act.put, List.setIfInBounds_toArray, List.set_cons_zero, List.set_cons_succ]
          refine wpAnyH_ready (rs := [4]) (by kernel_rfl) (by simp) ?_
          refine (AllReadyH.cons rfl (fun K hK => ?_) AllReadyH.nil)
          go_simp
          refine (sGreet_t _ (Nat.lt_of_lt_of_le (World.block_lt_of_cell? V _ HU.out.2) O.size) H).mono ?_
          rintro e u0caacc ⟨rfl, hb⟩
          replace bP := bP.keep hb
          replace bQ := bQ.keep hb
          replace O := over_step O hb
          clear hb
          refine hK.out _ _ O (fun _ => ?_)
          clear hK K
          try simp only [Act.put, List.setIfInBounds_toArray, List.set_cons_zero, List.set_cons_succ]
          refine wpAnyH_take (i := 5) (v := ?_) rfl (by kernel_rfl) (by kernel_rfl) (by kernel_rfl) (fun _ _ _ h => h) (Or.inl ⟨by rfl, ?_⟩) O ?_
          rotate_left
          · intro wq hSq
            (try dsimp only at hSq)

            go_simp
            try rfl
          change wpAnyH _ _ _ _ _ _ _ (Act.put _ (some 11) _) _
          simp only [Act.put, List.setIfInBounds_toArray, List.set_cons_succ, List.set_cons_zero]
          refine wpAnyH_take (i := 6) (v := ?_) rfl (by kernel_rfl) (by kernel_rfl) (by kernel_rfl) (fun _ _ _ h => h) (Or.inl ⟨by rfl, ?_⟩) O ?_
          rotate_left
          · intro wq hSq
            (try dsimp only at hSq)

            go_simp
            try rfl
          change wpAnyH _ _ _ _ _ _ _ (Act.put _ (some 17) _) _
          simp only [Act.put, List.setIfInBounds_toArray, List.set_cons_succ, List.set_cons_zero]
          refine wpAnyH_take (i := 7) (v := ?_) rfl (by kernel_rfl) (by kernel_rfl) (by kernel_rfl) (fun _ _ _ h => h) (Or.inl ⟨by rfl, ?_⟩) O ?_
          rotate_left
          · intro wq hSq
            (try dsimp only at hSq)

            go_simp
            try rfl
          change wpAnyH _ _ _ _ _ _ _ (Act.put _ (some 18) _) _
          simp only [Act.put, List.setIfInBounds_toArray, List.set_cons_succ, List.set_cons_zero]
          refine wpAnyH_take (i := 8) (v := ?_) rfl (by kernel_rfl) (by kernel_rfl) (by kernel_rfl) (fun _ _ _ h => h) (Or.inl ⟨by rfl, ?_⟩) O ?_
          rotate_left
          · intro wq hSq
            (try dsimp only at hSq)

            go_simp
            try rfl
          change wpAnyH _ _ _ _ _ _ _ (Act.put _ (some 19) _) _
          simp only [Act.put, List.setIfInBounds_toArray, List.set_cons_succ, List.set_cons_zero]
          have r0 := bP.c 0 rfl
          have rf0 := bP.f 0 (x := _) rfl
          have t0 := bQ.c 0 rfl
          have tf0 := bQ.f 0 (x := _) rfl
          have r1 := bP.c 1 rfl
          have rf1 := bP.f 1 (x := _) rfl
          have t1 := bQ.c 1 rfl
          have tf1 := bQ.f 1 (x := _) rfl
          have r2 := bP.c 2 rfl
          have rf2 := bP.f 2 (x := _) rfl
          have t2 := bQ.c 2 rfl
          have tf2 := bQ.f 2 (x := _) rfl
          have r3 := bP.c 3 rfl
          have rf3 := bP.f 3 (x := _) rfl
          have t3 := bQ.c 3 rfl
          have tf3 := bQ.f 3 (x := _) rfl
          have r4 := bP.c 4 rfl
          have rf4 := bP.f 4 (x := _) rfl
          have t4 := bQ.c 4 rfl
          have tf4 := bQ.f 4 (x := _) rfl
          refine wpAnyH_ready (rs := [11]) (by kernel_rfl) (by simp) ?_
          refine (AllReadyH.cons rfl (fun K hK => ?_) AllReadyH.nil)
          go_simp
          have O2 := below_set5 O (B := P) hVP (.int .i64 G.a) (.int .i64 G.b) (.int .i64 G.c) (.int .i64 G.d) (.int .i64 G.e)
          refine hK.out _ _ O2 (fun _ => ?_)
          clear hK K
          try simp only [Act.put, List.setIfInBounds_toArray, List.set_cons_zero, List.set_cons_succ]
          refine wpAnyH_ready (rs := [12]) (by kernel_rfl) (by simp) ?_
          refine (AllReadyH.cons rfl (fun K hK => ?_) AllReadyH.nil)
          go_simp
          have O3 := below_set5 O2 (B := Q) hVQ (.int .i64 J.a) (.int .i64 J.b) (.int .i64 J.c) (.int .i64 J.d) (.int .i64 J.e)
          refine hK.out _ _ O3 (fun _ => ?_)
          clear hK K
          try simp only [Act.put, List.setIfInBounds_toArray, List.set_cons_zero, List.set_cons_succ]
          refine wpAnyH_ready (rs := [13]) (by kernel_rfl) (by simp) ?_
          refine (AllReadyH.cons rfl (fun K hK => ?_) AllReadyH.nil)
          go_simp
          refine hK.out _ _ O3 (fun _ => ?_)
          clear hK K
          try simp only [Act.put, List.setIfInBounds_toArray, List.set_cons_zero, List.set_cons_succ]
          clear r0 rf0 t0 tf0 r1 rf1 t1 tf1 r2 rf2 t2 tf2 r3 rf3 t3 tf3 r4 rf4 t4 tf4
          refine wpAnyH_done (by kernel_rfl) ?_ _
          have b5 := ((((((bP.set5 (.int .i64 G.a) (.int .i64 G.b) (.int .i64 G.c) (.int .i64 G.d) (.int .i64 G.e)).far (C := Q) (o := 0) (u := .int .i64 J.a) hPQ).far (C := Q) (o := 1) (u := .int .i64 J.b) hPQ).far (C := Q) (o := 2) (u := .int .i64 J.c) hPQ).far (C := Q) (o := 3) (u := .int .i64 J.d) hPQ).far (C := Q) (o := 4) (u := .int .i64 J.e) hPQ)
          have d5 := ((((((bQ.far (C := P) (o := 0) (u := .int .i64 G.a) hPQ.symm).far (C := P) (o := 1) (u := .int .i64 G.b) hPQ.symm).far (C := P) (o := 2) (u := .int .i64 G.c) hPQ.symm).far (C := P) (o := 3) (u := .int .i64 G.d) hPQ.symm).far (C := P) (o := 4) (u := .int .i64 G.e) hPQ.symm)).set5 (.int .i64 J.a) (.int .i64 J.b) (.int .i64 J.c) (.int .i64 J.d) (.int .i64 J.e)
          go_wp2_with fail
          go_meet
          case rel => exact ⟨P, Q, rfl, rfl, rfl, O3, b5, d5⟩
    · go_simp
      have hVP := O.size
      obtain ⟨bP, hb, z⟩ := one u0 [.int .i64 0, .int .i64 0, .int .i64 0, .int .i64 0, .int .i64 0] 25
      replace O := over_step O hb
      clear z hb
      refine hK.out _ _ O (fun _ => ?_)
      clear hK K
      try simp only [Act.put, List.setIfInBounds_toArray, List.set_cons_zero, List.set_cons_succ]
      obtain ⟨P, eB⟩ : ∃ B, B = u0.heap.size := ⟨_, rfl⟩
      obtain ⟨u0a, eW⟩ : ∃ u, u = u0.alloc (.cells #[.int .i64 0, .int .i64 0, .int .i64 0, .int .i64 0, .int .i64 0] 25) := ⟨_, rfl⟩
      rw [← eW] at bP O  ⊢
      rw [← eB] at bP hVP  ⊢
      clear eW eB
      refine wpAnyH_ready (rs := [1, 10]) (by kernel_rfl) (by simp) ?_
      refine (AllReadyH.cons rfl (fun K hK => ?_) (AllReadyH.cons rfl (fun K hK => ?_) AllReadyH.nil))
      · go_simp
        refine (toCf_any aa ai ah ap _).mono ?_
        rintro e u0ac ⟨rfl, hb⟩
        replace bP := bP.keep hb
        replace O := over_step O hb
        clear hb
        refine hK.out _ _ O (fun _ => ?_)
        clear hK K
        try simp only [Act.put, List.setIfInBounds_toArray, List.set_cons_zero, List.set_cons_succ]
        refine wpAnyH_ready (rs := [3, 10]) (by kernel_rfl) (by simp) ?_
        refine (AllReadyH.cons rfl (fun K hK => ?_) (AllReadyH.cons rfl (fun K hK => ?_) AllReadyH.nil))
        · go_simp
          refine (toCf_any ba bi bh bp _).mono ?_
          rintro e u0acc ⟨rfl, hb⟩
          replace bP := bP.keep hb
          replace O := over_step O hb
          clear hb
          refine hK.out _ _ O (fun _ => ?_)
          clear hK K
          try simp only [Act.put, List.setIfInBounds_toArray, List.set_cons_zero, List.set_cons_succ]
          refine wpAnyH_ready (rs := [4, 10]) (by kernel_rfl) (by simp) ?_
          refine (AllReadyH.cons rfl (fun K hK => ?_) (AllReadyH.cons rfl (fun K hK => ?_) AllReadyH.nil))
          · go_simp
            refine (sGreet_t _ (Nat.lt_of_lt_of_le (World.block_lt_of_cell? V _ HU.out.2) O.size) H).mono ?_
            rintro e u0accc ⟨rfl, hb⟩
            replace bP := bP.keep hb
            replace O := over_step O hb
            clear hb
            refine hK.out _ _ O (fun _ => ?_)
            clear hK K
            try simp only [Act.put, List.setIfInBounds_toArray, List.set_cons_zero, List.set_cons_succ]
            refine wpAnyH_take (i := 5) (v := ?_) rfl (by kernel_rfl) (by kernel_rfl) (by kernel_rfl) (fun _ _ _ h => h) (Or.inl ⟨by rfl, ?_⟩) O ?_
            rotate_left
            · intro wq hSq
              (try dsimp only at hSq)

              go_simp
              try rfl
            change wpAnyH _ _ _ _ _ _ _ (Act.put _ (some 11) _) _
            simp only [Act.put, List.setIfInBounds_toArray, List.set_cons_succ, List.set_cons_zero]
            refine wpAnyH_take (i := 6) (v := ?_) rfl (by kernel_rfl) (by kernel_rfl) (by kernel_rfl) (fun _ _ _ h => h) (Or.inl ⟨by rfl, ?_⟩) O ?_
            rotate_left
            · intro wq hSq
              (try dsimp only at hSq)

              go_simp
              try rfl
            change wpAnyH _ _ _ _ _ _ _ (Act.put _ (some 17) _) _
            simp only [Act.put, List.setIfInBounds_toArray, List.set_cons_succ, List.set_cons_zero]
            refine wpAnyH_take (i := 7) (v := ?_) rfl (by kernel_rfl) (by kernel_rfl) (by kernel_rfl) (fun _ _ _ h => h) (Or.inl ⟨by rfl, ?_⟩) O ?_
            rotate_left
            · intro wq hSq
              (try dsimp only at hSq)

              go_simp
              try rfl
            change wpAnyH _ _ _ _ _ _ _ (Act.put _ (some 18) _) _
            simp only [Act.put, List.setIfInBounds_toArray, List.set_cons_succ, List.set_cons_zero]
            refine wpAnyH_take (i := 8) (v := ?_) rfl (by kernel_rfl) (by kernel_rfl) (by kernel_rfl) (fun _ _ _ h => h) (Or.inl ⟨by rfl, ?_⟩) O ?_
            rotate_left
            · intro wq hSq
              (try dsimp only at hSq)

              go_simp
              try rfl
            change wpAnyH _ _ _ _ _ _ _ (Act.put _ (some 19) _) _
            simp only [Act.put, List.setIfInBounds_toArray, List.set_cons_succ, List.set_cons_zero]
            refine wpAnyH_ready (rs := [10]) (by kernel_rfl) (by simp) ?_
            refine (AllReadyH.cons rfl (fun K hK => ?_) AllReadyH.nil)
            go_simp
            have hVQ := O.size
            obtain ⟨bQ, hb, z⟩ := one u0accc [.int .i64 0, .int .i64 0, .int .i64 0, .int .i64 0, .int .i64 0] 25
            replace O := over_step O hb
            have hPQ : P ≠ u0accc.heap.size := Nat.ne_of_lt bP.lt
            replace bP := bP.keep hb
            clear z hb
            refine hK.out _ _ O (fun _ => ?_)
            clear hK K
            try simp only [Act.put, List.setIfInBounds_toArray, List.set_cons_zero, List.set_cons_succ]
            obtain ⟨Q, eB⟩ : ∃ B, B = u0accc.heap.size := ⟨_, rfl⟩
            obtain ⟨u0accca, eW⟩ : ∃ u, u = u0accc.alloc (.cells #[.int .i64 0, .int .i64 0, .int .i64 0, .int .i64 0, .int .i64 0] 25) := ⟨_, rfl⟩
            rw [← eW] at bQ O bP ⊢
            rw [← eB] at bQ hVQ hPQ ⊢
            clear eW eB
            have r0 := bP.c 0 rfl
            have rf0 := bP.f 0 (x := _) rfl
            have t0 := bQ.c 0 rfl
            have tf0 := bQ.f 0 (x := _) rfl
            have r1 := bP.c 1 rfl
            have rf1 := bP.f 1 (x := _) rfl
            have t1 := bQ.c 1 rfl
            have tf1 := bQ.f 1 (x := _) rfl
            have r2 := bP.c 2 rfl
            have rf2 := bP.f 2 (x := _) rfl
            have t2 := bQ.c 2 rfl
            have tf2 := bQ.f 2 (x := _) rfl
            have r3 := bP.c 3 rfl
            have rf3 := bP.f 3 (x := _) rfl
            have t3 := bQ.c 3 rfl
            have tf3 := bQ.f 3 (x := _) rfl
            have r4 := bP.c 4 rfl
            have rf4 := bP.f 4 (x := _) rfl
            have t4 := bQ.c 4 rfl
            have tf4 := bQ.f 4 (x := _) rfl
            refine wpAnyH_ready (rs := [11]) (by kernel_rfl) (by simp) ?_
            refine (AllReadyH.cons rfl (fun K hK => ?_) AllReadyH.nil)
            go_simp
            have O2 := below_set5 O (B := P) hVP (.int .i64 G.a) (.int .i64 G.b) (.int .i64 G.c) (.int .i64 G.d) (.int .i64 G.e)
            refine hK.out _ _ O2 (fun _ => ?_)
            clear hK K
            try simp only [Act.put, List.setIfInBounds_toArray, List.set_cons_zero, List.set_cons_succ]
            refine wpAnyH_ready (rs := [12]) (by kernel_rfl) (by simp) ?_
            refine (AllReadyH.cons rfl (fun K hK => ?_) AllReadyH.nil)
            go_simp
            have O3 := below_set5 O2 (B := Q) hVQ (.int .i64 J.a) (.int .i64 J.b) (.int .i64 J.c) (.int .i64 J.d) (.int .i64 J.e)
            refine hK.out _ _ O3 (fun _ => ?_)
            clear hK K
            try simp only [Act.put, List.setIfInBounds_toArray, List.set_cons_zero, List.set_cons_succ]
            refine wpAnyH_ready (rs := [13]) (by kernel_rfl) (by simp) ?_
            refine (AllReadyH.cons rfl (fun K hK => ?_) AllReadyH.nil)
            go_simp
            refine hK.out _ _ O3 (fun _ => ?_)
            clear hK K
            try simp only [Act.put, List.setIfInBounds_toArray, List.set_cons_zero, List.set_cons_succ]
            clear r0 rf0 t0 tf0 r1 rf1 t1 tf1 r2 rf2 t2 tf2 r3 rf3 t3 tf3 r4 rf4 t4 tf4
            refine wpAnyH_done (by kernel_rfl) ?_ _
            have b5 := ((((((bP.set5 (.int .i64 G.a) (.int .i64 G.b) (.int .i64 G.c) (.int .i64 G.d) (.int .i64 G.e)).far (C := Q) (o := 0) (u := .int .i64 J.a) hPQ).far (C := Q) (o := 1) (u := .int .i64 J.b) hPQ).far (C := Q) (o := 2) (u := .int .i64 J.c) hPQ).far (C := Q) (o := 3) (u := .int .i64 J.d) hPQ).far (C := Q) (o := 4) (u := .int .i64 J.e) hPQ)
            have d5 := ((((((bQ.far (C := P) (o := 0) (u := .int .i64 G.a) hPQ.symm).far (C := P) (o := 1) (u := .int .i64 G.b) hPQ.symm).far (C := P) (o := 2) (u := .int .i64 G.c) hPQ.symm).far (C := P) (o := 3) (u := .int .i64 G.d) hPQ.symm).far (C := P) (o := 4) (u := .int .i64 G.e) hPQ.symm)).set5 (.int .i64 J.a) (.int .i64 J.b) (.int .i64 J.c) (.int .i64 J.d) (.int .i64 J.e)
            go_wp2_with fail
            go_meet
            case rel => exact ⟨P, Q, rfl, rfl, rfl, O3, b5, d5⟩
          · go_simp
            have hVQ := O.size
            obtain ⟨bQ, hb, z⟩ := one u0acc [.int .i64 0, .int .i64 0, .int .i64 0, .int .i64 0, .int .i64 0] 25
            replace O := over_step O hb
            have hPQ : P ≠ u0acc.heap.size := Nat.ne_of_lt bP.lt
            replace bP := bP.keep hb
            clear z hb
            refine hK.out _ _ O (fun _ => ?_)
            clear hK K
            try simp only [Act.put, List.setIfInBounds_toArray, List.set_cons_zero, List.set_cons_succ]
            obtain ⟨Q, eB⟩ : ∃ B, B = u0acc.heap.size := ⟨_, rfl⟩
            obtain ⟨u0acca, eW⟩ : ∃ u, u = u0acc.alloc (.cells #[.int .i64 0, .int .i64 0, .int .i64 0, .int .i64 0, .int .i64 0] 25) := ⟨_, rfl⟩
            rw [← eW] at bQ O bP ⊢
            rw [← eB] at bQ hVQ hPQ ⊢
            clear eW eB
            refine wpAnyH_ready (rs := [4]) (by kernel_rfl) (by simp) ?_
            refine (AllReadyH.cons rfl (fun K hK => ?_) AllReadyH.nil)
            go_simp
            refine (sGreet_t _ (Nat.lt_of_lt_of_le (World.block_lt_of_cell? V _ HU.out.2) O.size) H).mono ?_
            rintro e u0accac ⟨rfl, hb⟩
            replace bP := bP.keep hb
            replace bQ := bQ.keep hb
            replace O := over_step O hb
            clear hb
            refine hK.out _ _ O (fun _ => ?_)
            clear hK K
            try simp only [Act.put, List.setIfInBounds_toArray, List.set_cons_zero, List.set_cons_succ]
            refine wpAnyH_take (i := 5) (v := ?_) rfl (by kernel_rfl) (by kernel_rfl) (by kernel_rfl) (fun _ _ _ h => h) (Or.inl ⟨by rfl, ?_⟩) O ?_
            rotate_left
            · intro wq hSq
              (try dsimp only at hSq)

              go_simp
              try rfl
            change wpAnyH _ _ _ _ _ _ _ (Act.put _ (some 11) _) _
            simp only [Act.put, List.setIfInBounds_toArray, List.set_cons_succ, List.set_cons_zero]
            refine wpAnyH_take (i := 6) (v := ?_) rfl (by kernel_rfl) (by kernel_rfl) (by kernel_rfl) (fun _ _ _ h => h) (Or.inl ⟨by rfl, ?_⟩) O ?_
            rotate_left
            · intro wq hSq
              (try dsimp only at hSq)

              go_simp
              try rfl
            change wpAnyH _ _ _ _ _ _ _ (Act.put _ (some 17) _) _
            simp only [Act.put, List.setIfInBounds_toArray, List.set_cons_succ, List.set_cons_zero]
            refine wpAnyH_take (i := 7) (v := ?_) rfl (by kernel_rfl) (by kernel_rfl) (by kernel_rfl) (fun _ _ _ h => h) (Or.inl ⟨by rfl, ?_⟩) O ?_
            rotate_left
            · intro wq hSq
              (try dsimp only at hSq)

              go_simp
              try rfl
            change wpAnyH _ _ _ _ _ _ _ (Act.put _ (some 18) _) _
            simp only [Act.put, List.setIfInBounds_toArray, List.set_cons_succ, List.set_cons_zero]
            refine wpAnyH_take (i := 8) (v := ?_) rfl (by kernel_rfl) (by kernel_rfl) (by kernel_rfl) (fun _ _ _ h => h) (Or.inl ⟨by rfl, ?_⟩) O ?_
            rotate_left
            · intro wq hSq
              (try dsimp only at hSq)

              go_simp
              try rfl
            change wpAnyH _ _ _ _ _ _ _ (Act.put _ (some 19) _) _
            simp only [Act.put, List.setIfInBounds_toArray, List.set_cons_succ, List.set_cons_zero]
            have r0 := bP.c 0 rfl
            have rf0 := bP.f 0 (x := _) rfl
            have t0 := bQ.c 0 rfl
            have tf0 := bQ.f 0 (x := _) rfl
            have r1 := bP.c 1 rfl
            have rf1 := bP.f 1 (x := _) rfl
            have t1 := bQ.c 1 rfl
            have tf1 := bQ.f 1 (x := _) rfl
            have r2 := bP.c 2 rfl
            have rf2 := bP.f 2 (x := _) rfl
            have t2 := bQ.c 2 rfl
            have tf2 := bQ.f 2 (x := _) rfl
            have r3 := bP.c 3 rfl
            have rf3 := bP.f 3 (x := _) rfl
            have t3 := bQ.c 3 rfl
            have tf3 := bQ.f 3 (x := _) rfl
            have r4 := bP.c 4 rfl
            have rf4 := bP.f 4 (x := _) rfl
            have t4 := bQ.c 4 rfl
            have tf4 := bQ.f 4 (x := _) rfl
            refine wpAnyH_ready (rs := [11]) (by kernel_rfl) (by simp) ?_
            refine (AllReadyH.cons rfl (fun K hK => ?_) AllReadyH.nil)
            go_simp
            have O2 := below_set5 O (B := P) hVP (.int .i64 G.a) (.int .i64 G.b) (.int .i64 G.c) (.int .i64 G.d) (.int .i64 G.e)
            refine hK.out _ _ O2 (fun _ => ?_)
            clear hK K
            try simp only [Act.put, List.setIfInBounds_toArray, List.set_cons_zero, List.set_cons_succ]
            refine wpAnyH_ready (rs := [12]) (by kernel_rfl) (by simp) ?_
            refine (AllReadyH.cons rfl (fun K hK => ?_) AllReadyH.nil)
            go_simp
            have O3 := below_set5 O2 (B := Q) hVQ (.int .i64 J.a) (.int .i64 J.b) (.int .i64 J.c) (.int .i64 J.d) (.int .i64 J.e)
            refine hK.out _ _ O3 (fun _ => ?_)
            clear hK K
            try simp only [Act.put, List.setIfInBounds_toArray, List.set_cons_zero, List.set_cons_succ]
            refine wpAnyH_ready (rs := [13]) (by kernel_rfl) (by simp) ?_
            refine (AllReadyH.cons rfl (fun K hK => ?_) AllReadyH.nil)
            go_simp
            refine hK.out _ _ O3 (fun _ => ?_)
            clear hK K
            try simp only [Act.put, List.setIfInBounds_toArray, List.set_cons_zero, List.set_cons_succ]
            clear r0 rf0 t0 tf0 r1 rf1 t1 tf1 r2 rf2 t2 tf2 r3 rf3 t3 tf3 r4 rf4 t4 tf4
            refine wpAnyH_done (by kernel_rfl) ?_ _
            have b5 := ((((((bP.set5 (.int .i64 G.a) (.int .i64 G.b) (.int .i64 G.c) (.int .i64 G.d) (.int .i64 G.e)).far (C := Q) (o := 0) (u := .int .i64 J.a) hPQ).far (C := Q) (o := 1) (u := .int .i64 J.b) hPQ).far (C := Q) (o := 2) (u := .int .i64 J.c) hPQ).far (C := Q) (o := 3) (u := .int .i64 J.d) hPQ).far (C := Q) (o := 4) (u := .int .i64 J.e) hPQ)
            have d5 := ((((((bQ.far (C := P) (o := 0) (u := .int .i64 G.a) hPQ.symm).far (C := P) (o := 1) (u := .int .i64 G.b) hPQ.symm).far (C := P) (o := 2) (u := .int .i64 G.c) hPQ.symm).far (C := P) (o := 3) (u := .int .i64 G.d) hPQ.symm).far (C := P) (o := 4) (u := .int .i64 G.e) hPQ.symm)).set5 (.int .i64 J.a) (.int .i64 J.b) (.int .i64 J.c) (.int .i64 J.d) (.int .i64 J.e)
            go_wp2_with fail
            go_meet
            case rel => exact ⟨P, Q, rfl, rfl, rfl, O3, b5, d5⟩
        · go_simp
          have hVQ := O.size
          obtain ⟨bQ, hb, z⟩ := one u0ac [.int .i64 0, .int .i64 0, .int .i64 0, .int .i64 0, .int .i64 0] 25
          replace O := over_step O hb
          have hPQ : P ≠ u0ac.heap.size := Nat.ne_of_lt bP.lt
          replace bP := bP.keep hb
          clear z hb
          refine hK.out _ _ O (fun _ => ?_)
          clear hK K
          try simp only [Act.put, List.setIfInBounds_toArray, List.set_cons_zero, List.set_cons_succ]
          obtain ⟨Q, eB⟩ : ∃ B, B = u0ac.heap.size := ⟨_, rfl⟩
          obtain ⟨u0aca, eW⟩ : ∃ u, u = u0ac.alloc (.cells #[.int .i64 0, .int .i64 0, .int .i64 0, .int .i64 0, .int .i64 0] 25) := ⟨_, rfl⟩
          rw [← eW] at bQ O bP ⊢
          rw [← eB] at bQ hVQ hPQ ⊢
          clear eW eB
          refine wpAnyH_ready (rs := [3]) (by kernel_rfl) (by simp) ?_
          refine (AllReadyH.cons rfl (fun K hK => ?_) AllReadyH.nil)
          go_simp
          refine (toCf_any ba bi bh bp _).mono ?_
          rintro e u0acac ⟨rfl, hb⟩
          replace bP := bP.keep hb
          replace bQ := bQ.keep hb
          replace O := over_step O hb
          clear hb
          refine hK.out _ _ O (fun _ => ?_)
          clear hK K
          try simp only [Act.put, List.setIfInBounds_toArray, List.set_cons_zero, List.set_cons_succ]
          refine wpAnyH_ready (rs := [4]) (by kernel_rfl) (by simp) ?_
          refine (AllReadyH.cons rfl (fun K hK => ?_) AllReadyH.nil)
          go_simp
          refine (sGreet_t _ (Nat.lt_of_lt_of_le (World.block_lt_of_cell? V _ HU.out.2) O.size) H).mono ?_
          rintro e u0acacc ⟨rfl, hb⟩
          replace bP := bP.keep hb
          replace bQ := bQ.keep hb
          replace O := over_step O hb
          clear hb
          refine hK.out _ _ O (fun _ => ?_)
          clear hK K
          try simp only [Act.put, List.setIfInBounds_toArray, List.set_cons_zero, List.set_cons_succ]
          refine wpAnyH_take (i := 5) (v := ?_) rfl (by kernel_rfl) (by kernel_rfl) (by kernel_rfl) (fun _ _ _ h => h) (Or.inl ⟨by rfl, ?_⟩) O ?_
          rotate_left
          · intro wq hSq
            (try dsimp only at hSq)

            go_simp
            try rfl
          change wpAnyH _ _ _ _ _ _ _ (Act.put _ (some 11) _) _
          simp only [Act.put, List.setIfInBounds_toArray, List.set_cons_succ, List.set_cons_zero]
          refine wpAnyH_take (i := 6) (v := ?_) rfl (by kernel_rfl) (by kernel_rfl) (by kernel_rfl) (fun _ _ _ h => h) (Or.inl ⟨by rfl, ?_⟩) O ?_
          rotate_left
          · intro wq hSq
            (try dsimp only at hSq)

            go_simp
            try rfl
          change wpAnyH _ _ _ _ _ _ _ (Act.put _ (some 17) _) _
          simp only [Act.put, List.setIfInBounds_toArray, List.set_cons_succ, List.set_cons_zero]
          refine wpAnyH_take (i := 7) (v := ?_) rfl (by kernel_rfl) (by kernel_rfl) (by kernel_rfl) (fun _ _ _ h => h) (Or.inl ⟨by rfl, ?_⟩) O ?_
          rotate_left
          · intro wq hSq
            (try dsimp only at hSq)

            go_simp
            try rfl
          change wpAnyH _ _ _ _ _ _ _ (Act.put _ (some 18) _) _
          simp only [Act.put, List.setIfInBounds_toArray, List.set_cons_succ, List.set_cons_zero]
          refine wpAnyH_take (i := 8) (v := ?_) rfl (by kernel_rfl) (by kernel_rfl) (by kernel_rfl) (fun _ _ _ h => h) (Or.inl ⟨by rfl, ?_⟩) O ?_
          rotate_left
          · intro wq hSq
            (try dsimp only at hSq)

            go_simp
            try rfl
          change wpAnyH _ _ _ _ _ _ _ (Act.put _ (some 19) _) _
          simp only [Act.put, List.setIfInBounds_toArray, List.set_cons_succ, List.set_cons_zero]
          have r0 := bP.c 0 rfl
          have rf0 := bP.f 0 (x := _) rfl
          have t0 := bQ.c 0 rfl
          have tf0 := bQ.f 0 (x := _) rfl
          have r1 := bP.c 1 rfl
          have rf1 := bP.f 1 (x := _) rfl
          have t1 := bQ.c 1 rfl
          have tf1 := bQ.f 1 (x := _) rfl
          have r2 := bP.c 2 rfl
          have rf2 := bP.f 2 (x := _) rfl
          have t2 := bQ.c 2 rfl
          have tf2 := bQ.f 2 (x := _) rfl
          have r3 := bP.c 3 rfl
          have rf3 := bP.f 3 (x := _) rfl
          have t3 := bQ.c 3 rfl
          have tf3 := bQ.f 3 (x := _) rfl
          have r4 := bP.c 4 rfl
          have rf4 := bP.f 4 (x := _) rfl
          have t4 := bQ.c 4 rfl
          have tf4 := bQ.f 4 (x := _) rfl
          refine wpAnyH_ready (rs := [11]) (by kernel_rfl) (by simp) ?_
          refine (AllReadyH.cons rfl (fun K hK => ?_) AllReadyH.nil)
          go_simp
          have O2 := below_set5 O (B := P) hVP (.int .i64 G.a) (.int .i64 G.b) (.int .i64 G.c) (.int .i64 G.d) (.int .i64 G.e)
          refine hK.out _ _ O2 (fun _ => ?_)
          clear hK K
          try simp only [Act.put, List.setIfInBounds_toArray, List.set_cons_zero, List.set_cons_succ]
          refine wpAnyH_ready (rs := [12]) (by kernel_rfl) (by simp) ?_
          refine (AllReadyH.cons rfl (fun K hK => ?_) AllReadyH.nil)
          go_simp
          have O3 := below_set5 O2 (B := Q) hVQ (.int .i64 J.a) (.int .i64 J.b) (.int .i64 J.c) (.int .i64 J.d) (.int .i64 J.e)
          refine hK.out _ _ O3 (fun _ => ?_)
          clear hK K
          try simp only [Act.put, List.setIfInBounds_toArray, List.set_cons_zero, List.set_cons_succ]
          refine wpAnyH_ready (rs := [13]) (by kernel_rfl) (by simp) ?_
          refine (AllReadyH.cons rfl (fun K hK => ?_) AllReadyH.nil)
          go_simp
          refine hK.out _ _ O3 (fun _ => ?_)
          clear hK K
          try simp only [Act.put, List.setIfInBounds_toArray, List.set_cons_zero, List.set_cons_succ]
          clear r0 rf0 t0 tf0 r1 rf1 t1 tf1 r2 rf2 t2 tf2 r3 rf3 t3 tf3 r4 rf4 t4 tf4
          refine wpAnyH_done (by kernel_rfl) ?_ _
          have b5 := ((((((bP.set5 (.int .i64 G.a) (.int .i64 G.b) (.int .i64 G.c) (.int .i64 G.d) (.int .i64 G.e)).far (C := Q) (o := 0) (u := .int .i64 J.a) hPQ).far (C := Q) (o := 1) (u := .int .i64 J.b) hPQ).far (C := Q) (o := 2) (u := .int .i64 J.c) hPQ).far (C := Q) (o := 3) (u := .int .i64 J.d) hPQ).far (C := Q) (o := 4) (u := .int .i64 J.e) hPQ)
          have d5 := ((((((bQ.far (C := P) (o := 0) (u := .int .i64 G.a) hPQ.symm).far (C := P) (o := 1) (u := .int .i64 G.b) hPQ.symm).far (C := P) (o := 2) (u := .int .i64 G.c) hPQ.symm).far (C := P) (o := 3) (u := .int .i64 G.d) hPQ.symm).far (C := P) (o := 4) (u := .int .i64 G.e) hPQ.symm)).set5 (.int .i64 J.a) (.int .i64 J.b) (.int .i64 J.c) (.int .i64 J.d) (.int .i64 J.e)
          go_wp2_with fail
          go_meet
          case rel => exact ⟨P, Q, rfl, rfl, rfl, O3, b5, d5⟩
      · go_simp
        have hVQ := O.size
        obtain ⟨bQ, hb, z⟩ := one u0a [.int .i64 0, .int .i64 0, .int .i64 0, .int .i64 0, .int .i64 0] 25
        replace O := over_step O hb
        have hPQ : P ≠ u0a.heap.size := Nat.ne_of_lt bP.lt
        replace bP := bP.keep hb
        clear z hb
        refine hK.out _ _ O (fun _ => ?_)
        clear hK K
        try simp only [Act.put, List.setIfInBounds_toArray, List.set_cons_zero, List.set_cons_succ]
        obtain ⟨Q, eB⟩ : ∃ B, B = u0a.heap.size := ⟨_, rfl⟩
        obtain ⟨u0aa, eW⟩ : ∃ u, u = u0a.alloc (.cells #[.int .i64 0, .int .i64 0, .int .i64 0, .int .i64 0, .int .i64 0] 25) := ⟨_, rfl⟩
        rw [← eW] at bQ O bP ⊢
        rw [← eB] at bQ hVQ hPQ ⊢
        clear eW eB
        refine wpAnyH_ready (rs := [1]) (by kernel_rfl) (by simp) ?_
        refine (AllReadyH.cons rfl (fun K hK => ?_) AllReadyH.nil)
        go_simp
        refine (toCf_any aa ai ah ap _).mono ?_
        rintro e u0aac ⟨rfl, hb⟩
        replace bP := bP.keep hb
        replace bQ := bQ.keep hb
        replace O := over_step O hb
        clear hb
        refine hK.out _ _ O (fun _ => ?_)
        clear hK K
        try simp only [Act.put, List.setIfInBounds_toArray, List.set_cons_zero, List.set_cons_succ]
        refine wpAnyH_ready (rs := [3]) (by kernel_rfl) (by simp) ?_
        refine (AllReadyH.cons rfl (fun K hK => ?_) AllReadyH.nil)
        go_simp
        refine (toCf_any ba bi bh bp _).mono ?_
        rintro e u0aacc ⟨rfl, hb⟩
        replace bP := bP.keep hb
        replace bQ := bQ.keep hb
        replace O := over_step O hb
        clear hb
        refine hK.out _ _ O (fun _ => ?_)
        clear hK K
        try simp only [Act.put, List.setIfInBounds_toArray, List.set_cons_zero, List.set_cons_succ]
        refine wpAnyH_ready (rs := [4]) (by kernel_rfl) (by simp) ?_
        refine (AllReadyH.cons rfl (fun K hK => ?_) AllReadyH.nil)
        go_simp
        refine (sGreet_t _ (Nat.lt_of_lt_of_le (World.block_lt_of_cell? V _ HU.out.2) O.size) H).mono ?_
        rintro e u0aaccc ⟨rfl, hb⟩
        replace bP := bP.keep hb
        replace bQ := bQ.keep hb
        replace O := over_step O hb
        clear hb
        refine hK.out _ _ O (fun _ => ?_)
        clear hK K
        try simp only [Act.put, List.setIfInBounds_toArray, List.set_cons_zero, List.set_cons_succ]
        refine wpAnyH_take (i := 5) (v := ?_) rfl (by kernel_rfl) (by kernel_rfl) (by kernel_rfl) (fun _ _ _ h => h) (Or.inl ⟨by rfl, ?_⟩) O ?_
        rotate_left
        · intro wq hSq
          (try dsimp only at hSq)

          go_simp
          try rfl
        change wpAnyH _ _ _ _ _ _ _ (Act.put _ (some 11) _) _
        simp only [Act.put, List.setIfInBounds_toArray, List.set_cons_succ, List.set_cons_zero]
        refine wpAnyH_take (i := 6) (v := ?_) rfl (by kernel_rfl) (by kernel_rfl) (by kernel_rfl) (fun _ _ _ h => h) (Or.inl ⟨by rfl, ?_⟩) O ?_
        rotate_left
        · intro wq hSq
          (try dsimp only at hSq)

          go_simp
          try rfl
        change wpAnyH _ _ _ _ _ _ _ (Act.put _ (some 17) _) _
        simp only [Act.put, List.setIfInBounds_toArray, List.set_cons_succ, List.set_cons_zero]
        refine wpAnyH_take (i := 7) (v := ?_) rfl (by kernel_rfl) (by kernel_rfl) (by kernel_rfl) (fun _ _ _ h => h) (Or.inl ⟨by rfl, ?_⟩) O ?_
        rotate_left
        · intro wq hSq
          (try dsimp only at hSq)

          go_simp
          try rfl
        change wpAnyH _ _ _ _ _ _ _ (Act.put _ (some 18) _) _
        simp only [Act.put, List.setIfInBounds_toArray, List.set_cons_succ, List.set_cons_zero]
        refine wpAnyH_take (i := 8) (v := ?_) rfl (by kernel_rfl) (by kernel_rfl) (by kernel_rfl) (fun _ _ _ h => h) (Or.inl ⟨by rfl, ?_⟩) O ?_
        rotate_left
        · intro wq hSq
          (try dsimp only at hSq)

          go_simp
          try rfl
        change wpAnyH _ _ _ _ _ _ _ (Act.put _ (some 19) _) _
        simp only [Act.put, List.setIfInBounds_toArray, List.set_cons_succ, List.set_cons_zero]
        have r0 := bP.c 0 rfl
        have rf0 := bP.f 0 (x := _) rfl
        have t0 := bQ.c 0 rfl
        have tf0 := bQ.f 0 (x := _) rfl
        have r1 := bP.c 1 rfl
        have rf1 := bP.f 1 (x := _) rfl
        have t1 := bQ.c 1 rfl
        have tf1 := bQ.f 1 (x := _) rfl
        have r2 := bP.c 2 rfl
        have rf2 := bP.f 2 (x := _) rfl
        have t2 := bQ.c 2 rfl
        have tf2 := bQ.f 2 (x := _) rfl
        have r3 := bP.c 3 rfl
        have rf3 := bP.f 3 (x := _) rfl
        have t3 := bQ.c 3 rfl
        have tf3 := bQ.f 3 (x := _) rfl
        have r4 := bP.c 4 rfl
        have rf4 := bP.f 4 (x := _) rfl
        have t4 := bQ.c 4 rfl
        have tf4 := bQ.f 4 (x := _) rfl
        refine wpAnyH_ready (rs := [11]) (by kernel_rfl) (by simp) ?_
        refine (AllReadyH.cons rfl (fun K hK => ?_) AllReadyH.nil)
        go_simp
        have O2 := below_set5 O (B := P) hVP (.int .i64 G.a) (.int .i64 G.b) (.int .i64 G.c) (.int .i64 G.d) (.int .i64 G.e)
        refine hK.out _ _ O2 (fun _ => ?_)
        clear hK K
        try simp only [Act.put, List.setIfInBounds_toArray, List.set_cons_zero, List.set_cons_succ]
        refine wpAnyH_ready (rs := [12]) (by kernel_rfl) (by simp) ?_
        refine (AllReadyH.cons rfl (fun K hK => ?_) AllReadyH.nil)
        go_simp
        have O3 := below_set5 O2 (B := Q) hVQ (.int .i64 J.a) (.int .i64 J.b) (.int .i64 J.c) (.int .i64 J.d) (.int .i64 J.e)
        refine hK.out _ _ O3 (fun _ => ?_)
        clear hK K
        try simp only [Act.put, List.setIfInBounds_toArray, List.set_cons_zero, List.set_cons_succ]
        refine wpAnyH_ready (rs := [13]) (by kernel_rfl) (by simp) ?_
        refine (AllReadyH.cons rfl (fun K hK => ?_) AllReadyH.nil)
        go_simp
        refine hK.out _ _ O3 (fun _ => ?_)
        clear hK K
        try simp only [Act.put, List.setIfInBounds_toArray, List.set_cons_zero, List.set_cons_succ]
        clear r0 rf0 t0 tf0 r1 rf1 t1 tf1 r2 rf2 t2 tf2 r3 rf3 t3 tf3 r4 rf4 t4 tf4
        refine wpAnyH_done (by kernel_rfl) ?_ _
        have b5 := ((((((bP.set5 (.int .i64 G.a) (.int .i64 G.b) (.int .i64 G.c) (.int .i64 G.d) (.int .i64 G.e)).far (C := Q) (o := 0) (u := .int .i64 J.a) hPQ).far (C := Q) (o := 1) (u := .int .i64 J.b) hPQ).far (C := Q) (o := 2) (u := .int .i64 J.c) hPQ).far (C := Q) (o := 3) (u := .int .i64 J.d) hPQ).far (C := Q) (o := 4) (u := .int .i64 J.e) hPQ)
        have d5 := ((((((bQ.far (C := P) (o := 0) (u := .int .i64 G.a) hPQ.symm).far (C := P) (o := 1) (u := .int .i64 G.b) hPQ.symm).far (C := P) (o := 2) (u := .int .i64 G.c) hPQ.symm).far (C := P) (o := 3) (u := .int .i64 G.d) hPQ.symm).far (C := P) (o := 4) (u := .int .i64 G.e) hPQ.symm)).set5 (.int .i64 J.a) (.int .i64 J.b) (.int .i64 J.c) (.int .i64 J.d) (.int .i64 J.e)
        go_wp2_with fail
        go_meet
        case rel => exact ⟨P, Q, rfl, rfl, rfl, O3, b5, d5⟩
    · go_simp
      have hVQ := O.size
      obtain ⟨bQ, hb, z⟩ := one u0 [.int .i64 0, .int .i64 0, .int .i64 0, .int .i64 0, .int .i64 0] 25
      replace O := over_step O hb
      clear z hb
      refine hK.out _ _ O (fun _ => ?_)
      clear hK K
      try simp only [Act.put, List.setIfInBounds_toArray, List.set_cons_zero, List.set_cons_succ]
      obtain ⟨Q, eB⟩ : ∃ B, B = u0.heap.size := ⟨_, rfl⟩
      obtain ⟨u0a, eW⟩ : ∃ u, u = u0.alloc (.cells #[.int .i64 0, .int .i64 0, .int .i64 0, .int .i64 0, .int .i64 0] 25) := ⟨_, rfl⟩
      rw [← eW] at bQ O  ⊢
      rw [← eB] at bQ hVQ  ⊢
      clear eW eB
      refine wpAnyH_ready (rs := [1, 9]) (by kernel_rfl) (by simp) ?_
      refine (AllReadyH.cons rfl (fun K hK => ?_) (AllReadyH.cons rfl (fun K hK => ?_) AllReadyH.nil))
      · go_simp
        refine (toCf_any aa ai ah ap _).mono ?_
        rintro e u0ac ⟨rfl, hb⟩
        replace bQ := bQ.keep hb
        replace O := over_step O hb
        clear hb
        refine hK.out _ _ O (fun _ => ?_)
        clear hK K
        try simp only [Act.put, List.setIfInBounds_toArray, List.set_cons_zero, List.set_cons_succ]
        refine wpAnyH_ready (rs := [3, 9]) (by kernel_rfl) (by simp) ?_
        refine (AllReadyH.cons rfl (fun K hK => ?_) (AllReadyH.cons rfl (fun K hK => ?_) AllReadyH.nil))
        · go_simp
          refine (toCf_any ba bi bh bp _).mono ?_
          rintro e u0acc ⟨rfl, hb⟩
          replace bQ := bQ.keep hb
          replace O := over_step O hb
          clear hb
          refine hK.out _ _ O (fun _ => ?_)
          clear hK K
          try simp only [Act.put, List.setIfInBounds_toArray, List.set_cons_zero, List.set_cons_succ]
          refine wpAnyH_ready (rs := [4, 9]) (by kernel_rfl) (by simp) ?_
          refine (AllReadyH.cons rfl (fun K hK => ?_) (AllReadyH.cons rfl (fun K hK => ?_) AllReadyH.nil))
          · go_simp
            refine (sGreet_t _ (Nat.lt_of_lt_of_le (World.block_lt_of_cell? V _ HU.out.2) O.size) H).mono ?_
            rintro e u0accc ⟨rfl, hb⟩
            replace bQ := bQ.keep hb
            replace O := over_step O hb
            clear hb
            refine hK.out _ _ O (fun _ => ?_)
            clear hK K
            try simp only [Act.put, List.setIfInBounds_toArray, List.set_cons_zero, List.set_cons_succ]
            refine wpAnyH_take (i := 5) (v := ?_) rfl (by kernel_rfl) (by kernel_rfl) (by kernel_rfl) (fun _ _ _ h => h) (Or.inl ⟨by rfl, ?_⟩) O ?_
            rotate_left
            · intro wq hSq
              (try dsimp only at hSq)

              go_simp
              try rfl
            change wpAnyH _ _ _ _ _ _ _ (Act.put _ (some 11) _) _
            simp only [Act.put, List.setIfInBounds_toArray, List.set_cons_succ, List.set_cons_zero]
            refine wpAnyH_take (i := 6) (v := ?_) rfl (by kernel_rfl) (by kernel_rfl) (by kernel_rfl) (fun _ _ _ h => h) (Or.inl ⟨by rfl, ?_⟩) O ?_
            rotate_left
            · intro wq hSq
              (try dsimp only at hSq)

              go_simp
              try rfl
            change wpAnyH _ _ _ _ _ _ _ (Act.put _ (some 17) _) _
            simp only [Act.put, List.setIfInBounds_toArray, List.set_cons_succ, List.set_cons_zero]
            refine wpAnyH_take (i := 7) (v := ?_) rfl (by kernel_rfl) (by kernel_rfl) (by kernel_rfl) (fun _ _ _ h => h) (Or.inl ⟨by rfl, ?_⟩) O ?_
            rotate_left
            · intro wq hSq
              (try dsimp only at hSq)

              go_simp
              try rfl
            change wpAnyH _ _ _ _ _ _ _ (Act.put _ (some 18) _) _
            simp only [Act.put, List.setIfInBounds_toArray, List.set_cons_succ, List.set_cons_zero]
            refine wpAnyH_take (i := 8) (v := ?_) rfl (by kernel_rfl) (by kernel_rfl) (by kernel_rfl) (fun _ _ _ h => h) (Or.inl ⟨by rfl, ?_⟩) O ?_
            rotate_left
            · intro wq hSq
              (try dsimp only at hSq)

              go_simp
              try rfl
            change wpAnyH _ _ _ _ _ _ _ (Act.put _ (some 19) _) _
            simp only [Act.put, List.setIfInBounds_toArray, List.set_cons_succ, List.set_cons_zero]
            refine wpAnyH_ready (rs := [9]) (by kernel_rfl) (by simp) ?_
            refine (AllReadyH.cons rfl (fun K hK => ?_) AllReadyH.nil)
            go_simp
            have hVP := O.size
            obtain ⟨bP, hb, z⟩ := one u0accc [.int .i64 0, .int .i64 0, .int .i64 0, .int .i64 0, .int .i64 0] 25
            replace O := over_step O hb
            have hPQ : u0accc.heap.size ≠ Q := Nat.ne_of_gt bQ.lt
            replace bQ := bQ.keep hb
            clear z hb
            refine hK.out _ _ O (fun _ => ?_)
            clear hK K
            try simp only [Act.put, List.setIfInBounds_toArray, List.set_cons_zero, List.set_cons_succ]
            obtain ⟨P, eB⟩ : ∃ B, B = u0accc.heap.size := ⟨_, rfl⟩
            obtain ⟨u0accca, eW⟩ : ∃ u, u = u0accc.alloc (.cells #[.int .i64 0, .int .i64 0, .int .i64 0, .int .i64 0, .int .i64 0] 25) := ⟨_, rfl⟩
            rw [← eW] at bP O bQ ⊢
            rw [← eB] at bP hVP hPQ ⊢
            clear eW eB
            have r0 := bP.c 0 rfl
            have rf0 := bP.f 0 (x := _) rfl
            have t0 := bQ.c 0 rfl
            have tf0 := bQ.f 0 (x := _) rfl
            have r1 := bP.c 1 rfl
            have rf1 := bP.f 1 (x := _) rfl
            have t1 := bQ.c 1 rfl
            have tf1 := bQ.f 1 (x := _) rfl
            have r2 := bP.c 2 rfl
            have rf2 := bP.f 2 (x := _) rfl
            have t2 := bQ.c 2 rfl
            have tf2 := bQ.f 2 (x := _) rfl
            have r3 := bP.c 3 rfl
            have rf3 := bP.f 3 (x := _) rfl
            have t3 := bQ.c 3 rfl
            have tf3 := bQ.f 3 (x := _) rfl
            have r4 := bP.c 4 rfl
            have rf4 := bP.f 4 (x := _) rfl
            have t4 := bQ.c 4 rfl
            have tf4 := bQ.f 4 (x := _) rfl
            refine wpAnyH_ready (rs := [11]) (by kernel_rfl) (by simp) ?_
            refine (AllReadyH.cons rfl (fun K hK => ?_) AllReadyH.nil)
            go_simp
            have O2 := below_set5 O (B := P) hVP (.int .i64 G.a) (.int .i64 G.b) (.int .i64 G.c) (.int .i64 G.d) (.int .i64 G.e)
            refine hK.out _ _ O2 (fun _ => ?_)
            clear hK K
            try simp only [Act.put, List.setIfInBounds_toArray, List.set_cons_zero, List.set_cons_succ]
            refine wpAnyH_ready (rs := [12]) (by kernel_rfl) (by simp) ?_
            refine (AllReadyH.cons rfl (fun K hK => ?_) AllReadyH.nil)
            go_simp
            have O3 := below_set5 O2 (B := Q) hVQ (.int .i64 J.a) (.int .i64 J.b) (.int .i64 J.c) (.int .i64 J.d) (.int .i64 J.e)
            refine hK.out _ _ O3 (fun _ => ?_)
            clear hK K
            try simp only [Act.put, List.setIfInBounds_toArray, List.set_cons_zero, List.set_cons_succ]
            refine wpAnyH_ready (rs := [13]) (by kernel_rfl) (by simp) ?_
            refine (AllReadyH.cons rfl (fun K hK => ?_) AllReadyH.nil)
            go_simp
            refine hK.out _ _ O3 (fun _ => ?_)
            clear hK K
            try simp only [Act.put, List.setIfInBounds_toArray, List.set_cons_zero, List.set_cons_succ]
            clear r0 rf0 t0 tf0 r1 rf1 t1 tf1 r2 rf2 t2 tf2 r3 rf3 t3 tf3 r4 rf4 t4 tf4
            refine wpAnyH_done (by kernel_rfl) ?_ _
            have b5 := ((((((bP.set5 (.int .i64 G.a) (.int .i64 G.b) (.int .i64 G.c) (.int .i64 G.d) (.int .i64 G.e)).far (C := Q) (o := 0) (u := .int .i64 J.a) hPQ).far (C := Q) (o := 1) (u := .int .i64 J.b) hPQ).far (C := Q) (o := 2) (u := .int .i64 J.c) hPQ).far (C := Q) (o := 3) (u := .int .i64 J.d) hPQ).far (C := Q) (o := 4) (u := .int .i64 J.e) hPQ)
            have d5 := ((((((bQ.far (C := P) (o := 0) (u := .int .i64 G.a) hPQ.symm).far (C := P) (o := 1) (u := .int .i64 G.b) hPQ.symm).far (C := P) (o := 2) (u := .int .i64 G.c) hPQ.symm).far (C := P) (o := 3) (u := .int .i64 G.d) hPQ.symm).far (C := P) (o := 4) (u := .int .i64 G.e) hPQ.symm)).set5 (.int .i64 J.a) (.int .i64 J.b) (.int .i64 J.c) (.int .i64 J.d) (.int .i64 J.e)
            go_wp2_with fail
            go_meet
            case rel => exact ⟨P, Q, rfl, rfl, rfl, O3, b5, d5⟩
          · go_simp
            have hVP := O.size
            obtain ⟨bP, hb, z⟩ := one u0acc [.int .i64 0, .int .i64 0, .int .i64 0, .int .i64 0, .int .i64 0] 25
            replace O := over_step O hb
            have hPQ : u0acc.heap.size ≠ Q := Nat.ne_of_gt bQ.lt
            replace bQ := bQ.keep hb
            clear z hb
            refine hK.out _ _ O (fun _ => ?_)
            clear hK K
            try simp only [Act.put, List.setIfInBounds_toArray, List.set_cons_zero, List.set_cons_succ]
            obtain ⟨P, eB⟩ : ∃ B, B = u0acc.heap.size := ⟨_, rfl⟩
            obtain ⟨u0acca, eW⟩ : ∃ u, u = u0acc.alloc (.cells #[.int .i64 0, .int .i64 0, .int .i64 0, .int .i64 0, .int .i64 0] 25) := ⟨_, rfl⟩
            rw [← eW] at bP O bQ ⊢
            rw [← eB] at bP hVP hPQ ⊢
            clear eW eB
            refine wpAnyH_ready (rs := [4]) (by kernel_rfl) (by simp) ?_
            refine (AllReadyH.cons rfl (fun K hK => ?_) AllReadyH.nil)
            go_simp
            refine (sGreet_t _ (Nat.lt_of_lt_of_le (World.block_lt_of_cell? V _ HU.out.2) O.size) H).mono ?_
            rintro e u0accac ⟨rfl, hb⟩
            replace bP := bP.keep hb
            replace bQ := bQ.keep hb
            replace O := over_step O hb
            clear hb
            refine hK.out _ _ O (fun _ => ?_)
            clear hK K
            try simp only [Act.put, List.setIfInBounds_toArray, List.set_cons_zero, List.set_cons_succ]
            refine wpAnyH_take (i := 5) (v := ?_) rfl (by kernel_rfl) (by kernel_rfl) (by kernel_rfl) (fun _ _ _ h => h) (Or.inl ⟨by rfl, ?_⟩) O ?_
            rotate_left
            · intro wq hSq
              (try dsimp only at hSq)

              go_simp
              try rfl
            change wpAnyH _ _ _ _ _ _ _ (Act.put _ (some 11) _) _
            simp only [Act.put, List.setIfInBounds_toArray, List.set_cons_succ, List.set_cons_zero]
            refine wpAnyH_take (i := 6) (v := ?_) rfl (by kernel_rfl) (by kernel_rfl) (by kernel_rfl) (fun _ _ _ h => h) (Or.inl ⟨by rfl, ?_⟩) O ?_
            rotate_left
            · intro wq hSq
              (try dsimp only at hSq)

              go_simp
              try rfl
            change wpAnyH _ _ _ _ _ _ _ (Act.put _ (some 17) _) _
            simp only [Act.put, List.setIfInBounds_toArray, List.set_cons_succ, List.set_cons_zero]
            refine wpAnyH_take (i := 7) (v := ?_) rfl (by kernel_rfl) (by kernel_rfl) (by kernel_rfl) (fun _ _ _ h => h) (Or.inl ⟨by rfl, ?_⟩) O ?_
            rotate_left
            · intro wq hSq
              (try dsimp only at hSq)

              go_simp
              try rfl
            change wpAnyH _ _ _ _ _ _ _ (Act.put _ (some 18) _) _
            simp only [Act.put, List.setIfInBounds_toArray, List.set_cons_succ, List.set_cons_zero]
            refine wpAnyH_take (i := 8) (v := ?_) rfl (by kernel_rfl) (by kernel_rfl) (by kernel_rfl) (fun _ _ _ h => h) (Or.inl ⟨by rfl, ?_⟩) O ?_
            rotate_left
            · intro wq hSq
              (try dsimp only at hSq)

              go_simp
              try rfl
            change wpAnyH _ _ _ _ _ _ _ (Act.put _ (some 19) _) _
            simp only [Act.put, List.setIfInBounds_toArray, List.set_cons_succ, List.set_cons_zero]
            have r0 := bP.c 0 rfl
            have rf0 := bP.f 0 (x := _) rfl
            have t0 := bQ.c 0 rfl
            have tf0 := bQ.f 0 (x := _) rfl
            have r1 := bP.c 1 rfl
            have rf1 := bP.f 1 (x := _) rfl
            have t1 := bQ.c 1 rfl
            have tf1 := bQ.f 1 (x := _) rfl
            have r2 := bP.c 2 rfl
            have rf2 := bP.f 2 (x := _) rfl
            have t2 := bQ.c 2 rfl
            have tf2 := bQ.f 2 (x := _) rfl
            have r3 := bP.c 3 rfl
            have rf3 := bP.f 3 (x := _) rfl
            have t3 := bQ.c 3 rfl
            have tf3 := bQ.f 3 (x := _) rfl
            have r4 := bP.c 4 rfl
            have rf4 := bP.f 4 (x := _) rfl
            have t4 := bQ.c 4 rfl
            have tf4 := bQ.f 4 (x := _) rfl
            refine wpAnyH_ready (rs := [11]) (by kernel_rfl) (by simp) ?_
            refine (AllReadyH.cons rfl (fun K hK => ?_) AllReadyH.nil)
            go_simp
            have O2 := below_set5 O (B := P) hVP (.int .i64 G.a) (.int .i64 G.b) (.int .i64 G.c) (.int .i64 G.d) (.int .i64 G.e)
            refine hK.out _ _ O2 (fun _ => ?_)
            clear hK K
            try simp only [Act.put, List.setIfInBounds_toArray, List.set_cons_zero, List.set_cons_succ]
            refine wpAnyH_ready (rs := [12]) (by kernel_rfl) (by simp) ?_
            refine (AllReadyH.cons rfl (fun K hK => ?_) AllReadyH.nil)
            go_simp
            have O3 := below_set5 O2 (B := Q) hVQ (.int .i64 J.a) (.int .i64 J.b) (.int .i64 J.c) (.int .i64 J.d) (.int .i64 J.e)
            refine hK.out _ _ O3 (fun _ => ?_)
            clear hK K
            try simp only [Act.put, List.setIfInBounds_toArray, List.set_cons_zero, List.set_cons_succ]
            refine wpAnyH_ready (rs := [13]) (by kernel_rfl) (by simp) ?_
            refine (AllReadyH.cons rfl (fun K hK => ?_) AllReadyH.nil)
            go_simp
            refine hK.out _ _ O3 (fun _ => ?_)
            clear hK K
            try simp only [Act.put, List.setIfInBounds_toArray, List.set_cons_zero, List.set_cons_succ]
            clear r0 rf0 t0 tf0 r1 rf1 t1 tf1 r2 rf2 t2 tf2 r3 rf3 t3 tf3 r4 rf4 t4 tf4
            refine wpAnyH_done (by kernel_rfl) ?_ _
            have b5 := ((((((bP.set5 (.int .i64 G.a) (.int .i64 G.b) (.int .i64 G.c) (.int .i64 G.d) (.int .i64 G.e)).far (C := Q) (o := 0) (u := .int .i64 J.a) hPQ).far (C := Q) (o := 1) (u := .int .i64 J.b) hPQ).far (C := Q) (o := 2) (u := .int .i64 J.c) hPQ).far (C := Q) (o := 3) (u := .int .i64 J.d) hPQ).far (C := Q) (o := 4) (u := .int .i64 J.e) hPQ)
            have d5 := ((((((bQ.far (C := P) (o := 0) (u := .int .i64 G.a) hPQ.symm).far (C := P) (o := 1) (u := .int .i64 G.b) hPQ.symm).far (C := P) (o := 2) (u := .int .i64 G.c) hPQ.symm).far (C := P) (o := 3) (u := .int .i64 G.d) hPQ.symm).far (C := P) (o := 4) (u := .int .i64 G.e) hPQ.symm)).set5 (.int .i64 J.a) (.int .i64 J.b) (.int .i64 J.c) (.int .i64 J.d) (.int .i64 J.e)
            go_wp2_with fail
            go_meet
            case rel => exact ⟨P, Q, rfl, rfl, rfl, O3, b5, d5⟩
        · go_simp
          have hVP := O.size
          obtain ⟨bP, hb, z⟩ := one u0ac [.int .i64 0, .int .i64 0, .int .i64 0, .int .i64 0, .int .i64 0] 25
          replace O := over_step O hb
          have hPQ : u0ac.heap.size ≠ Q := Nat.ne_of_gt bQ.lt
          replace bQ := bQ.keep hb
          clear z hb
          refine hK.out _ _ O (fun _ => ?_)
          clear hK K
          try simp only [Act.put, List.setIfInBounds_toArray, List.set_cons_zero, List.set_cons_succ]
          obtain ⟨P, eB⟩ : ∃ B, B = u0ac.heap.size := ⟨_, rfl⟩
          obtain ⟨u0aca, eW⟩ : ∃ u, u = u0ac.alloc (.cells #[.int .i64 0, .int .i64 0, .int .i64 0, .int .i64 0, .int .i64 0] 25) := ⟨_, rfl⟩
          rw [← eW] at bP O bQ ⊢
          rw [← eB] at bP hVP hPQ ⊢
          clear eW eB
          refine wpAnyH_ready (rs := [3]) (by kernel_rfl) (by simp) ?_
          refine (AllReadyH.cons rfl (fun K hK => ?_) AllReadyH.nil)
          go_simp
          refine (toCf_any ba bi bh bp _).mono ?_
          rintro e u0acac ⟨rfl, hb⟩
          replace bP := bP.keep hb
          replace bQ := bQ.keep hb
          replace O := over_step O hb
          clear hb
          refine hK.out _ _ O (fun _ => ?_)
          clear hK K
          try simp only [Act.put, List.setIfInBounds_toArray, List.set_cons_zero, List.set_cons_succ]
          refine wpAnyH_ready (rs := [4]) (by kernel_rfl) (by simp) ?_
          refine (AllReadyH.cons rfl (fun K hK => ?_) AllReadyH.nil)
          go_simp
          refine (sGreet_t _ (Nat.lt_of_lt_of_le (World.block_lt_of_cell? V _ HU.out.2) O.size) H).mono ?_
          rintro e u0acacc ⟨rfl, hb⟩
          replace bP := bP.keep hb
          replace bQ := bQ.keep hb
          replace O := over_step O hb
          clear hb
          refine hK.out _ _ O (fun _ => ?_)
          clear hK K
          try simp only [Act.put, List.setIfInBounds_toArray, List.set_cons_zero, List.set_cons_succ]
          refine wpAnyH_take (i := 5) (v := ?_) rfl (by kernel_rfl) (by kernel_rfl) (by kernel_rfl) (fun _ _ _ h => h) (Or.inl ⟨by rfl, ?_⟩) O ?_
          rotate_left
          · intro wq hSq
            (try dsimp only at hSq)

            go_simp
            try rfl
          change wpAnyH _ _ _ _ _ _ _ (Act.put _ (some 11) _) _
          simp only [Act.put, List.setIfInBounds_toArray, List.set_cons_succ, List.set_cons_zero]
          refine wpAnyH_take (i := 6) (v := ?_) rfl (by kernel_rfl) (by kernel_rfl) (by kernel_rfl) (fun _ _ _ h => h) (Or.inl ⟨by rfl, ?_⟩) O ?_
          rotate_left
          · intro wq hSq
            (try dsimp only at hSq)

            go_simp
            try rfl
          change wpAnyH _ _ _ _ _ _ _ (Act.put _ (some 17) _) _
          simp only [Act.put, List.setIfInBounds_toArray, List.set_cons_succ, List.set_cons_zero]
          refine wpAnyH_take (i := 7) (v := ?_) rfl (by kernel_rfl) (by kernel_rfl) (by kernel_rfl) (fun _ _ _ h => h) (Or.inl ⟨by rfl, ?_⟩) O ?_
          rotate_left
          · intro wq hSq
            (try dsimp only at hSq)

            go_simp
            try rfl
          change wpAnyH _ _ _ _ _ _ _ (Act.put _ (some 18) _) _
          simp only [Act.put, List.setIfInBounds_toArray, List.set_cons_succ, List.set_cons_zero]
          refine wpAnyH_take (i := 8) (v := ?_) rfl (by kernel_rfl) (by kernel_rfl) (by kernel_rfl) (fun _ _ _ h => h) (Or.inl ⟨by rfl, ?_⟩) O ?_
          rotate_left
          · intro wq hSq
            (try dsimp only at hSq)

            go_simp
            try rfl
          change wpAnyH _ _ _ _ _ _ _ (Act.put _ (some 19) _) _
          simp only [Act.put, List.setIfInBounds_toArray, List.set_cons_succ, List.set_cons_zero]
          have r0 := bP.c 0 rfl
          have rf0 := bP.f 0 (x := _) rfl
          have t0 := bQ.c 0 rfl
          have tf0 := bQ.f 0 (x := _) rfl
          have r1 := bP.c 1 rfl
          have rf1 := bP.f 1 (x := _) rfl
          have t1 := bQ.c 1 rfl
          have tf1 := bQ.f 1 (x := _) rfl
          have r2 := bP.c 2 rfl
          have rf2 := bP.f 2 (x := _) rfl
          have t2 := bQ.c 2 rfl
          have tf2 := bQ.f 2 (x := _) rfl
          have r3 := bP.c 3 rfl
          have rf3 := bP.f 3 (x := _) rfl
          have t3 := bQ.c 3 rfl
          have tf3 := bQ.f 3 (x := _) rfl
          have r4 := bP.c 4 rfl
          have rf4 := bP.f 4 (x := _) rfl
          have t4 := bQ.c 4 rfl
          have tf4 := bQ.f 4 (x := _) rfl
          refine wpAnyH_ready (rs := [11]) (by kernel_rfl) (by simp) ?_
          refine (AllReadyH.cons rfl (fun K hK => ?_) AllReadyH.nil)
          go_simp
          have O2 := below_set5 O (B := P) hVP (.int .i64 G.a) (.int .i64 G.b) (.int .i64 G.c) (.int .i64 G.d) (.int .i64 G.e)
          refine hK.out _ _ O2 (fun _ => ?_)
          clear hK K
          try simp only [Act.put, List.setIfInBounds_toArray, List.set_cons_zero, List.set_cons_succ]
          refine wpAnyH_ready (rs := [12]) (by kernel_rfl) (by simp) ?_
          refine (AllReadyH.cons rfl (fun K hK => ?_) AllReadyH.nil)
          go_simp
          have O3 := below_set5 O2 (B := Q) hVQ (.int .i64 J.a) (.int .i64 J.b) (.int .i64 J.c) (.int .i64 J.d) (.int .i64 J.e)
          refine hK.out _ _ O3 (fun _ => ?_)
          clear hK K
          try simp only [Act.put, List.setIfInBounds_toArray, List.set_cons_zero, List.set_cons_succ]
          refine wpAnyH_ready (rs := [13]) (by kernel_rfl) (by simp) ?_
          refine (AllReadyH.cons rfl (fun K hK => ?_) AllReadyH.nil)
          go_simp
          refine hK.out _ _ O3 (fun _ => ?_)
          clear hK K
          try simp only [Act.put, List.setIfInBounds_toArray, List.set_cons_zero, List.set_cons_succ]
          clear r0 rf0 t0 tf0 r1 rf1 t1 tf1 r2 rf2 t2 tf2 r3 rf3 t3 tf3 r4 rf4 t4 tf4
          refine wpAnyH_done (by kernel_rfl) ?_ _
          have b5 := ((((((bP.set5 (.int .i64 G.a) (.int .i64 G.b) (.int .i64 G.c) (.int .i64 G.d) (.int .i64 G.e)).far (C := Q) (o := 0) (u := .int .i64 J.a) hPQ).far (C := Q) (o := 1) (u := .int .i64 J.b) hPQ).far (C := Q) (o := 2) (u := .int .i64 J.c) hPQ).far (C := Q) (o := 3) (u := .int .i64 J.d) hPQ).far (C := Q) (o := 4) (u := .int .i64 J.e) hPQ)
          have d5 := ((((((bQ.far (C := P) (o := 0) (u := .int .i64 G.a) hPQ.symm).far (C := P) (o := 1) (u := .int .i64 G.b) hPQ.symm).far (C := P) (o := 2) (u := .int .i64 G.c) hPQ.symm).far (C := P) (o := 3) (u := .int .i64 G.d) hPQ.symm).far (C := P) (o := 4) (u := .int .i64 G.e) hPQ.symm)).set5 (.int .i64 J.a) (.int .i64 J.b) (.int .i64 J.c) (.int .i64 J.d) (.int .i64 J.e)
          go_wp2_with fail
          go_meet
          case rel => exact ⟨P, Q, rfl, rfl, rfl, O3, b5, d5⟩
      · go_simp
        have hVP := O.size
        obtain ⟨bP, hb, z⟩ := one u0a [.int .i64 0, .int .i64 0, .int .i64 0, .int .i64 0, .int .i64 0] 25
        replace O := over_step O hb
        have hPQ : u0a.heap.size ≠ Q := Nat.ne_of_gt bQ.lt
        replace bQ := bQ.keep hb
        clear z hb
        refine hK.out _ _ O (fun _ => ?_)
        clear hK K
        try simp only [Act.put, List.setIfInBounds_toArray, List.set_cons_zero, List.set_cons_succ]
        obtain ⟨P, eB⟩ : ∃ B, B = u0a.heap.size := ⟨_, rfl⟩
        obtain ⟨u0aa, eW⟩ : ∃ u, u = u0a.alloc (.cells #[.int .i64 0, .int .i64 0, .int .i64 0, .int .i64 0, .int .i64 0] 25) := ⟨_, rfl⟩
        rw [← eW] at bP O bQ ⊢
        rw [← eB] at bP hVP hPQ ⊢
        clear eW eB
        refine wpAnyH_ready (rs := [1]) (by kernel_rfl) (by simp) ?_
        refine (AllReadyH.cons rfl (fun K hK => ?_) AllReadyH.nil)
        go_simp
        refine (toCf_any aa ai ah ap _).mono ?_
        rintro e u0aac ⟨rfl, hb⟩
        replace bP := bP.keep hb
        replace bQ := bQ.keep hb
        replace O := over_step O hb
        clear hb
        refine hK.out _ _ O (fun _ => ?_)
        clear hK K
        try simp only [Act.put, List.setIfInBounds_toArray, List.set_cons_zero, List.set_cons_succ]
        refine wpAnyH_ready (rs := [3]) (by kernel_rfl) (by simp) ?_
        refine (AllReadyH.cons rfl (fun K hK => ?_) AllReadyH.nil)
        go_simp
        refine (toCf_any ba bi bh bp _).mono ?_
        rintro e u0aacc ⟨rfl, hb⟩
        replace bP := bP.keep hb
        replace bQ := bQ.keep hb
        replace O := over_step O hb
        clear hb
        refine hK.out _ _ O (fun _ => ?_)
        clear hK K
        try simp only [Act.put, List.setIfInBounds_toArray, List.set_cons_zero, List.set_cons_succ]
        refine wpAnyH_ready (rs := [4]) (by kernel_rfl) (by simp) ?_
        refine (AllReadyH.cons rfl (fun K hK => ?_) AllReadyH.nil)
        go_simp
        refine (sGreet_t _ (Nat.lt_of_lt_of_le (World.block_lt_of_cell? V _ HU.out.2) O.size) H).mono ?_
        rintro e u0aaccc ⟨rfl, hb⟩
        replace bP := bP.keep hb
        replace bQ := bQ.keep hb
        replace O := over_step O hb
        clear hb
        refine hK.out _ _ O (fun _ => ?_)
        clear hK K
        try simp only [Act.put, List.setIfInBounds_toArray, List.set_cons_zero, List.set_cons_succ]
        refine wpAnyH_take (i := 5) (v := ?_) rfl (by kernel_rfl) (by kernel_rfl) (by kernel_rfl) (fun _ _ _ h => h) (Or.inl ⟨by rfl, ?_⟩) O ?_
        rotate_left
        · intro wq hSq
          (try dsimp only at hSq)

          go_simp
          try rfl
        change wpAnyH _ _ _ _ _ _ _ (Act.put _ (some 11) _) _
        simp only [Act.put, List.setIfInBounds_toArray, List.set_cons_succ, List.set_cons_zero]
        refine wpAnyH_take (i := 6) (v := ?_) rfl (by kernel_rfl) (by kernel_rfl) (by kernel_rfl) (fun _ _ _ h => h) (Or.inl ⟨by rfl, ?_⟩) O ?_
        rotate_left
        · intro wq hSq
          (try dsimp only at hSq)

          go_simp
          try rfl
        change wpAnyH _ _ _ _ _ _ _ (Act.put _ (some 17) _) _
        simp only [Act.put, List.setIfInBounds_toArray, List.set_cons_succ, List.set_cons_zero]
        refine wpAnyH_take (i := 7) (v := ?_) rfl (by kernel_rfl) (by kernel_rfl) (by kernel_rfl) (fun _ _ _ h => h) (Or.inl ⟨by rfl, ?_⟩) O ?_
        rotate_left
        · intro wq hSq
          (try dsimp only at hSq)

          go_simp
          try rfl
        change wpAnyH _ _ _ _ _ _ _ (Act.put _ (some 18) _) _
        simp only [Act.put, List.setIfInBounds_toArray, List.set_cons_succ, List.set_cons_zero]
        refine wpAnyH_take (i := 8) (v := ?_) rfl (by kernel_rfl) (by kernel_rfl) (by kernel_rfl) (fun _ _ _ h => h) (Or.inl ⟨by rfl, ?_⟩) O ?_
        rotate_left
        · intro wq hSq
          (try dsimp only at hSq)

          go_simp
          try rfl
        change wpAnyH _ _ _ _ _ _ _ (Act.put _ (some 19) _) _
        simp only [Act.put, List.setIfInBounds_toArray, List.set_cons_succ, List.set_cons_zero]
        have r0 := bP.c 0 rfl
        have rf0 := bP.f 0 (x := _) rfl
        have t0 := bQ.c 0 rfl
        have tf0 := bQ.f 0 (x := _) rfl
        have r1 := bP.c 1 rfl
        have rf1 := bP.f 1 (x := _) rfl
        have t1 := bQ.c 1 rfl
        have tf1 := bQ.f 1 (x := _) rfl
        have r2 := bP.c 2 rfl
        have rf2 := bP.f 2 (x := _) rfl
        have t2 := bQ.c 2 rfl
        have tf2 := bQ.f 2 (x := _) rfl
        have r3 := bP.c 3 rfl
        have rf3 := bP.f 3 (x := _) rfl
        have t3 := bQ.c 3 rfl
        have tf3 := bQ.f 3 (x := _) rfl
        have r4 := bP.c 4 rfl
        have rf4 := bP.f 4 (x := _) rfl
        have t4 := bQ.c 4 rfl
        have tf4 := bQ.f 4 (x := _) rfl
        refine wpAnyH_ready (rs := [11]) (by kernel_rfl) (by simp) ?_
        refine (AllReadyH.cons rfl (fun K hK => ?_) AllReadyH.nil)
        go_simp
        have O2 := below_set5 O (B := P) hVP (.int .i64 G.a) (.int .i64 G.b) (.int .i64 G.c) (.int .i64 G.d) (.int .i64 G.e)
        refine hK.out _ _ O2 (fun _ => ?_)
        clear hK K
        try simp only [Act.put, List.setIfInBounds_toArray, List.set_cons_zero, List.set_cons_succ]
        refine wpAnyH_ready (rs := [12]) (by kernel_rfl) (by simp) ?_
        refine (AllReadyH.cons rfl (fun K hK => ?_) AllReadyH.nil)
        go_simp
        have O3 := below_set5 O2 (B := Q) hVQ (.int .i64 J.a) (.int .i64 J.b) (.int .i64 J.c) (.int .i64 J.d) (.int .i64 J.e)
        refine hK.out _ _ O3 (fun _ => ?_)
        clear hK K
        try simp only [Act.put, List.setIfInBounds_toArray, List.set_cons_zero, List.set_cons_succ]
        refine wpAnyH_ready (rs := [13]) (by kernel_rfl) (by simp) ?_
        refine (AllReadyH.cons rfl (fun K hK => ?_) AllReadyH.nil)
        go_simp
        refine hK.out _ _ O3 (fun _ => ?_)
        clear hK K
        try simp only [Act.put, List.setIfInBounds_toArray, List.set_cons_zero, List.set_cons_succ]
        clear r0 rf0 t0 tf0 r1 rf1 t1 tf1 r2 rf2 t2 tf2 r3 rf3 t3 tf3 r4 rf4 t4 tf4
        refine wpAnyH_done (by kernel_rfl) ?_ _
        have b5 := ((((((bP.set5 (.int .i64 G.a) (.int .i64 G.b) (.int .i64 G.c) (.int .i64 G.d) (.int .i64 G.e)).far (C := Q) (o := 0) (u := .int .i64 J.a) hPQ).far (C := Q) (o := 1) (u := .int .i64 J.b) hPQ).far (C := Q) (o := 2) (u := .int .i64 J.c) hPQ).far (C := Q) (o := 3) (u := .int .i64 J.d) hPQ).far (C := Q) (o := 4) (u := .int .i64 J.e) hPQ)
        have d5 := ((((((bQ.far (C := P) (o := 0) (u := .int .i64 G.a) hPQ.symm).far (C := P) (o := 1) (u := .int .i64 G.b) hPQ.symm).far (C := P) (o := 2) (u := .int .i64 G.c) hPQ.symm).far (C := P) (o := 3) (u := .int .i64 G.d) hPQ.symm).far (C := P) (o := 4) (u := .int .i64 G.e) hPQ.symm)).set5 (.int .i64 J.a) (.int .i64 J.b) (.int .i64 J.c) (.int .i64 J.d) (.int .i64 J.e)
        go_wp2_with fail
        go_meet
        case rel => exact ⟨P, Q, rfl, rfl, rfl, O3, b5, d5⟩
  case rest =>
    obtain ⟨P1, Q1, rfl, rfl, rfl, O1, bP1, bQ1⟩ := hcut
    replace bA := bA.keep O1
    replace bB := bB.keep O1
    replace B0 := below_step B0 O1
    have HU2 := Lib.hid (And.intro (over_cell O1 (World.block_lt_of_cell? V _ HU.out.1) HU.out.1) (over_cell O1 (World.block_lt_of_cell? V _ HU.out.2) HU.out.2))
    clear HU O1
    go_wp2_with fail
    go_cut [8, 9, 10] from 11 (fun s8 s9 s10 wx => KeptG wc wx G J t s8 s9 s10)
    case first =>
      refine wp_region_held_drew (S := fun w' => Over wc w') (by kernel_rfl) (over_drew wc) (fun hHeld => ?_)
      obtain ⟨u0, e0⟩ : ∃ u, u = wc.drew := ⟨_, rfl⟩
      have O : Over wc u0 := by rw [e0]; exact over_drew wc
      rw [← e0]
      clear e0 hHeld
      refine wpAnyH_take (i := 0) (v := ?_) rfl (by kernel_rfl) (by kernel_rfl) (by kernel_rfl) (fun _ _ _ h => h) (Or.inl ⟨by rfl, ?_⟩) O ?_
      rotate_left
      · intro wq hSq
        (try dsimp only at hSq)
        have q0 := bA.o hSq 0 rfl
        have q1 := bA.o hSq 1 rfl
        have q2 := bA.o hSq 2 rfl
        have q3 := bA.o hSq 3 rfl
        go_simp
        try rfl
      change wpAnyH _ _ _ _ _ _ _ (Act.put _ (some 21) _) _
      simp only [Act.put, List.setIfInBounds_toArray, List.set_cons_succ, List.set_cons_zero]
      refine wpAnyH_take (i := 2) (v := ?_) rfl (by kernel_rfl) (by kernel_rfl) (by kernel_rfl) (fun _ _ _ h => h) (Or.inl ⟨by rfl, ?_⟩) O ?_
      rotate_left
      · intro wq hSq
        (try dsimp only at hSq)
        have q0 := bB.o hSq 0 rfl
        have q1 := bB.o hSq 1 rfl
        have q2 := bB.o hSq 2 rfl
        have q3 := bB.o hSq 3 rfl
        go_simp
        try rfl
      change wpAnyH _ _ _ _ _ _ _ (Act.put _ (some 23) _) _
      simp only [Act.put, List.setIfInBounds_toArray, List.set_cons_succ, List.set_cons_zero]
      refine wpAnyH_ready (rs := [1, 9, 10]) (by kernel_rfl) (by simp) ?_
      refine (AllReadyH.cons rfl (fun K hK => ?_) (AllReadyH.cons rfl (fun K hK => ?_) (AllReadyH.cons rfl (fun K hK => ?_) AllReadyH.nil)))
      · go_simp
        refine (toCf_any aa ai ah ap _).mono ?_
        rintro e u0c ⟨rfl, hb⟩
        replace O := over_step O hb
        clear hb
        refine hK.out _ _ O (fun _ => ?_)
        clear hK K
        try simp only [Act.put, List.setIfInBounds_toArray, List.set_cons_zero, List.set_cons_succ]
        refine wpAnyH_ready (rs := [3, 9, 10]) (by kernel_rfl) (by simp) ?_
        refine (AllReadyH.cons rfl (fun K hK => ?_) (AllReadyH.cons rfl (fun K hK => ?_) (AllReadyH.cons rfl (fun K hK => ?_) AllReadyH.nil)))
        · go_simp
          refine (toCf_any ba bi bh bp _).mono ?_
          rintro e u0cc ⟨rfl, hb⟩
          replace O := over_step O hb
          clear hb
          refine hK.out _ _ O (fun _ => ?_)
          clear hK K
          try simp only [Act.put, List.setIfInBounds_toArray, List.set_cons_zero, List.set_cons_succ]
          refine wpAnyH_ready (rs := [4, 9, 10]) (by kernel_rfl) (by simp) ?_
          refine (AllReadyH.cons rfl (fun K hK => ?_) (AllReadyH.cons rfl (fun K hK => ?_) (AllReadyH.cons rfl (fun K hK => ?_) AllReadyH.nil)))
          · go_simp
            refine (iGreet_t u _ (over_cell O (World.block_lt_of_cell? wc _ HU2.out.1) HU2.out.1) (over_cell O (World.block_lt_of_cell? wc _ HU2.out.2) HU2.out.2) H).mono ?_
            rintro e u0ccc ⟨rfl, hb⟩
            replace O := over_step O hb
            clear hb
            refine hK.out _ _ O (fun _ => ?_)
            clear hK K
            try simp only [Act.put, List.setIfInBounds_toArray, List.set_cons_zero, List.set_cons_succ]
            refine wpAnyH_take (i := 5) (v := ?_) rfl (by kernel_rfl) (by kernel_rfl) (by kernel_rfl) (fun _ _ _ h => h) (Or.inl ⟨by rfl, ?_⟩) O ?_
            rotate_left
            · intro wq hSq
              (try dsimp only at hSq)

              go_simp
              try rfl
            change wpAnyH _ _ _ _ _ _ _ (Act.put _ (some 20) _) _
            simp only [Act.put, List.setIfInBounds_toArray, List.set_cons_succ, List.set_cons_zero]
            refine wpAnyH_take (i := 6) (v := ?_) rfl (by kernel_rfl) (by kernel_rfl) (by kernel_rfl) (fun _ _ _ h => h) (Or.inl ⟨by rfl, ?_⟩) O ?_
            rotate_left
            · intro wq hSq
              (try dsimp only at hSq)

              go_simp
              try rfl
            change wpAnyH _ _ _ _ _ _ _ (Act.put _ (some 26) _) _
            simp only [Act.put, List.setIfInBounds_toArray, List.set_cons_succ, List.set_cons_zero]
            refine wpAnyH_take (i := 7) (v := ?_) rfl (by kernel_rfl) (by kernel_rfl) (by kernel_rfl) (fun _ _ _ h => h) (Or.inl ⟨by rfl, ?_⟩) O ?_
            rotate_left
            · intro wq hSq
              (try dsimp only at hSq)

              go_simp
              try rfl
            change wpAnyH _ _ _ _ _ _ _ (Act.put _ (some 27) _) _
            simp only [Act.put, List.setIfInBounds_toArray, List.set_cons_succ, List.set_cons_zero]
            refine wpAnyH_take (i := 8) (v := ?_) rfl (by kernel_rfl) (by kernel_rfl) (by kernel_rfl) (fun _ _ _ h => h) (Or.inl ⟨by rfl, ?_⟩) O ?_
            rotate_left
            · intro wq hSq
              (try dsimp only at hSq)

              go_simp
              try rfl
            change wpAnyH _ _ _ _ _ _ _ (Act.put _ (some 28) _) _
            simp only [Act.put, List.setIfInBounds_toArray, List.set_cons_succ, List.set_cons_zero]
            refine wpAnyH_ready (rs := [9, 10]) (by kernel_rfl) (by simp) ?_
            refine (AllReadyH.cons rfl (fun K hK => ?_) (AllReadyH.cons rfl (fun K hK => ?_) AllReadyH.nil))
            · go_simp
              have hVP := O.size
              obtain ⟨bP, hb, z⟩ := one u0ccc [.int .i64 0, .int .i64 0, .int .i64 0, .int .i64 0, .int .i64 0] 25
              replace O := over_step O hb
              clear z hb
              refine hK.out _ _ O (fun _ => ?_)
              clear hK K
              try simp only [Act.put, List.setIfInBounds_toArray, List.set_cons_zero, List.set_cons_succ]
              obtain ⟨P, eB⟩ : ∃ B, B = u0ccc.heap.size := ⟨_, rfl⟩
              obtain ⟨u0ccca, eW⟩ : ∃ u, u = u0ccc.alloc (.cells #[.int .i64 0, .int .i64 0, .int .i64 0, .int .i64 0, .int .i64 0] 25) := ⟨_, rfl⟩
              rw [← eW] at bP O  ⊢
              rw [← eB] at bP hVP  ⊢
              clear eW eB
              refine wpAnyH_ready (rs := [10]) (by kernel_rfl) (by simp) ?_
              refine (AllReadyH.cons rfl (fun K hK => ?_) AllReadyH.nil)
              go_simp
              have hVQ := O.size
              obtain ⟨bQ, hb, z⟩ := one u0ccca [.int .i64 0, .int .i64 0, .int .i64 0, .int .i64 0, .int .i64 0] 25
              replace O := over_step O hb
              have hPQ : P ≠ u0ccca.heap.size := Nat.ne_of_lt bP.lt
              replace bP := bP.keep hb
              clear z hb
              refine hK.out _ _ O (fun _ => ?_)
              clear hK K
              try simp only [Act.put, List.setIfInBounds_toArray, List.set_cons_zero, List.set_cons_succ]
              obtain ⟨Q, eB⟩ : ∃ B, B = u0ccca.heap.size := ⟨_, rfl⟩
              obtain ⟨u0cccaa, eW⟩ : ∃ u, u = u0ccca.alloc (.cells #[.int .i64 0, .int .i64 0, .int .i64 0, .int .i64 0, .int .i64 0] 25) := ⟨_, rfl⟩
              rw [← eW] at bQ O bP ⊢
              rw [← eB] at bQ hVQ hPQ ⊢
              clear eW eB
              have r0 := bP.c 0 rfl
              have rf0 := bP.f 0 (x := _) rfl
              have t0 := bQ.c 0 rfl
              have tf0 := bQ.f 0 (x := _) rfl
              have r1 := bP.c 1 rfl
              have rf1 := bP.f 1 (x := _) rfl
              have t1 := bQ.c 1 rfl
              have tf1 := bQ.f 1 (x := _) rfl
              have r2 := bP.c 2 rfl
              have rf2 := bP.f 2 (x := _) rfl
              have t2 := bQ.c 2 rfl
              have tf2 := bQ.f 2 (x := _) rfl
              have r3 := bP.c 3 rfl
              have rf3 := bP.f 3 (x := _) rfl
              have t3 := bQ.c 3 rfl
              have tf3 := bQ.f 3 (x := _) rfl
              have r4 := bP.c 4 rfl
              have rf4 := bP.f 4 (x := _) rfl
              have t4 := bQ.c 4 rfl
              have tf4 := bQ.f 4 (x := _) rfl
              refine wpAnyH_ready (rs := [11]) (by kernel_rfl) (by simp) ?_
              refine (AllReadyH.cons rfl (fun K hK => ?_) AllReadyH.nil)
              go_simp
              have O2 := below_set5 O (B := P) hVP (.int .i64 G.a) (.int .i64 G.b) (.int .i64 G.c) (.int .i64 G.d) (.int .i64 G.e)
              refine hK.out _ _ O2 (fun _ => ?_)
              clear hK K
              try simp only [Act.put, List.setIfInBounds_toArray, List.set_cons_zero, List.set_cons_succ]
              refine wpAnyH_ready (rs := [12]) (by kernel_rfl) (by simp) ?_
              refine (AllReadyH.cons rfl (fun K hK => ?_) AllReadyH.nil)
              go_simp
              have O3 := below_set5 O2 (B := Q) hVQ (.int .i64 J.a) (.int .i64 J.b) (.int .i64 J.c) (.int .i64 J.d) (.int .i64 J.e)
              refine hK.out _ _ O3 (fun _ => ?_)
              clear hK K
              try simp only [Act.put, List.setIfInBounds_toArray, List.set_cons_zero, List.set_cons_succ]
              refine wpAnyH_ready (rs := [13]) (by kernel_rfl) (by simp) ?_
              refine (AllReadyH.cons rfl (fun K hK => ?_) AllReadyH.nil)
              go_simp
              refine hK.out _ _ O3 (fun _ => ?_)
              clear hK K
              try simp only [Act.put, List.setIfInBounds_toArray, List.set_cons_zero, List.set_cons_succ]
              clear r0 rf0 t0 tf0 r1 rf1 t1 tf1 r2 rf2 t2 tf2 r3 rf3 t3 tf3 r4 rf4 t4 tf4
              refine wpAnyH_done (by kernel_rfl) ?_ _
              have b5 := ((((((bP.set5 (.int .i64 G.a) (.int .i64 G.b) (.int .i64 G.c) (.int .i64 G.d) (.int .i64 G.e)).far (C := Q) (o := 0) (u := .int .i64 J.a) hPQ).far (C := Q) (o := 1) (u := .int .i64 J.b) hPQ).far (C := Q) (o := 2) (u := .int .i64 J.c) hPQ).far (C := Q) (o := 3) (u := .int .i64 J.d) hPQ).far (C := Q) (o := 4) (u := .int .i64 J.e) hPQ)
              have d5 := ((((((bQ.far (C := P) (o := 0) (u := .int .i64 G.a) hPQ.symm).far (C := P) (o := 1) (u := .int .i64 G.b) hPQ.symm).far (C := P) (o := 2) (u := .int .i64 G.c) hPQ.symm).far (C := P) (o := 3) (u := .int .i64 G.d) hPQ.symm).far (C := P) (o := 4) (u := .int .i64 G.e) hPQ.symm)).set5 (.int .i64 J.a) (.int .i64 J.b) (.int .i64 J.c) (.int .i64 J.d) (.int .i64 J.e)
              go_wp2_with fail
              go_meet
              case rel => exact ⟨P, Q, rfl, rfl, rfl, O3, b5, d5⟩
            · go_simp
              have hVQ := O.size
              obtain ⟨bQ, hb, z⟩ := one u0ccc [.int .i64 0, .int .i64 0, .int .i64 0, .int .i64 0, .int .i64 0] 25
              replace O := over_step O hb
              clear z hb
              refine hK.out _ _ O (fun _ => ?_)
              clear hK K
              try simp only [Act.put, List.setIfInBounds_toArray, List.set_cons_zero, List.set_cons_succ]
              obtain ⟨Q, eB⟩ : ∃ B, B = u0ccc.heap.size := ⟨_, rfl⟩
              obtain ⟨u0ccca, eW⟩ : ∃ u, u = u0ccc.alloc (.cells #[.int .i64 0, .int .i64 0, .int .i64 0, .int .i64 0, .int .i64 0] 25) := ⟨_, rfl⟩
              rw [← eW] at bQ O  ⊢
              rw [← eB] at bQ hVQ  ⊢
              clear eW eB
              refine wpAnyH_ready (rs := [9]) (by kernel_rfl) (by simp) ?_
              refine (AllReadyH.cons rfl (fun K hK => ?_) AllReadyH.nil)
              go_simp
              have hVP := O.size
              obtain ⟨bP, hb, z⟩ := one u0ccca [.int .i64 0, .int .i64 0, .int .i64 0, .int .i64 0, .int .i64 0] 25
              replace O := over_step O hb
              have hPQ : u0ccca.heap.size ≠ Q := Nat.ne_of_gt bQ.lt
              replace bQ := bQ.keep hb
              clear z hb
              refine hK.out _ _ O (fun _ => ?_)
              clear hK K
              try simp only [Act.put, List.setIfInBounds_toArray, List.set_cons_zero, List.set_cons_succ]
              obtain ⟨P, eB⟩ : ∃ B, B = u0ccca.heap.size := ⟨_, rfl⟩
              obtain ⟨u0cccaa, eW⟩ : ∃ u, u = u0ccca.alloc (.cells #[.int .i64 0, .int .i64 0, .int .i64 0, .int .i64 0, .int .i64 0] 25) := ⟨_, rfl⟩
              rw [← eW] at bP O bQ ⊢
              rw [← eB] at bP hVP hPQ ⊢
              clear eW eB
              have r0 := bP.c 0 rfl
              have rf0 := bP.f 0 (x := _) rfl
              have t0 := bQ.c 0 rfl
              have tf0 := bQ.f 0 (x := _) rfl
              have r1 := bP.c 1 rfl
              have rf1 := bP.f 1 (x := _) rfl
              have t1 := bQ.c 1 rfl
              have tf1 := bQ.f 1 (x := _) rfl
              have r2 := bP.c 2 rfl
              have rf2 := bP.f 2 (x := _) rfl
              have t2 := bQ.c 2 rfl
              have tf2 := bQ.f 2 (x := _) rfl
              have r3 := bP.c 3 rfl
              have rf3 := bP.f 3 (x := _) rfl
              have t3 := bQ.c 3 rfl
              have tf3 := bQ.f 3 (x := _) rfl
              have r4 := bP.c 4 rfl
              have rf4 := bP.f 4 (x := _) rfl
              have t4 := bQ.c 4 rfl
              have tf4 := bQ.f 4 (x := _) rfl
              refine wpAnyH_ready (rs := [11]) (by kernel_rfl) (by simp) ?_
              refine (AllReadyH.cons rfl (fun K hK => ?_) AllReadyH.nil)
              go_simp
              have O2 := below_set5 O (B := P) hVP (.int .i64 G.a) (.int .i64 G.b) (.int .i64 G.c) (.int .i64 G.d) (.int .i64 G.e)
              refine hK.out _ _ O2 (fun _ => ?_)
              clear hK K
              try simp only [Act.put, List.setIfInBounds_toArray, List.set_cons_zero, List.set_cons_succ]
              refine wpAnyH_ready (rs := [12]) (by kernel_rfl) (by simp) ?_
              refine (AllReadyH.cons rfl (fun K hK => ?_) AllReadyH.nil)
              go_simp
              have O3 := below_set5 O2 (B := Q) hVQ (.int .i64 J.a) (.int .i64 J.b) (.int .i64 J.c) (.int .i64 J.d) (.int .i64 J.e)
              refine hK.out _ _ O3 (fun _ => ?_)
              clear hK K
              try simp only [Act.put, List.setIfInBounds_toArray, List.set_cons_zero, List.set_cons_succ]
              refine wpAnyH_ready (rs := [13]) (by kernel_rfl) (by simp) ?_
              refine (AllReadyH.cons rfl (fun K hK => ?_) AllReadyH.nil)
              go_simp
              refine hK.out _ _ O3 (fun _ => ?_)
              clear hK K
              try simp only [Act.put, List.setIfInBounds_toArray, List.set_cons_zero, List.set_cons_succ]
              clear r0 rf0 t0 tf0 r1 rf1 t1 tf1 r2 rf2 t2 tf2 r3 rf3 t3 tf3 r4 rf4 t4 tf4
              refine wpAnyH_done (by kernel_rfl) ?_ _
              have b5 := ((((((bP.set5 (.int .i64 G.a) (.int .i64 G.b) (.int .i64 G.c) (.int .i64 G.d) (.int .i64 G.e)).far (C := Q) (o := 0) (u := .int .i64 J.a) hPQ).far (C := Q) (o := 1) (u := .int .i64 J.b) hPQ).far (C := Q) (o := 2) (u := .int .i64 J.c) hPQ).far (C := Q) (o := 3) (u := .int .i64 J.d) hPQ).far (C := Q) (o := 4) (u := .int .i64 J.e) hPQ)
              have d5 := ((((((bQ.far (C := P) (o := 0) (u := .int .i64 G.a) hPQ.symm).far (C := P) (o := 1) (u := .int .i64 G.b) hPQ.symm).far (C := P) (o := 2) (u := .int .i64 G.c) hPQ.symm).far (C := P) (o := 3) (u := .int .i64 G.d) hPQ.symm).far (C := P) (o := 4) (u := .int .i64 G.e) hPQ.symm)).set5 (.int .i64 J.a) (.int .i64 J.b) (.int .i64 J.c) (.int .i64 J.d) (.int .i64 J.e)
              go_wp2_with fail
              go_meet
              case rel => exact ⟨P, Q, rfl, rfl, rfl, O3, b5, d5⟩
          · go_simp
            have hVP := O.size
            obtain ⟨bP, hb, z⟩ := one u0cc [.int .i64 0, .int .i64 0, .int .i64 0, .int .i64 0, .int .i64 0] 25
            replace O := over_step O hb
            clear z hb
            refine hK.out _ _ O (fun _ => ?_)
            clear hK K
            try simp only [Act.put, List.setIfInBounds_toArray, List.set_cons_zero, List.set_cons_succ]
            obtain ⟨P, eB⟩ : ∃ B, B = u0cc.heap.size := ⟨_, rfl⟩
            obtain ⟨u0cca, eW⟩ : ∃ u, u = u0cc.alloc (.cells #[.int .i64 0, .int .i64 0, .int .i64 0, .int .i64 0, .int .i64 0] 25) := ⟨_, rfl⟩
            rw [← eW] at bP O  ⊢
            rw [← eB] at bP hVP  ⊢
            clear eW eB
            refine wpAnyH_ready (rs := [4, 10]) (by kernel_rfl) (by simp) ?_
            refine (AllReadyH.cons rfl (fun K hK => ?_) (AllReadyH.cons rfl (fun K hK => ?_) AllReadyH.nil))
            · go_simp
              refine (iGreet_t u _ (over_cell O (World.block_lt_of_cell? wc _ HU2.out.1) HU2.out.1) (over_cell O (World.block_lt_of_cell? wc _ HU2.out.2) HU2.out.2) H).mono ?_
              rintro e u0ccac ⟨rfl, hb⟩
              replace bP := bP.keep hb
              replace O := over_step O hb
              clear hb
              refine hK.out _ _ O (fun _ => ?_)
              clear hK K
              try simp only [Act.put, List.setIfInBounds_toArray, List.set_cons_zero, List.set_cons_succ]
              refine wpAnyH_take (i := 5) (v := ?_) rfl (by kernel_rfl) (by kernel_rfl) (by kernel_rfl) (fun _ _ _ h => h) (Or.inl ⟨by rfl, ?_⟩) O ?_
              rotate_left
              · intro wq hSq
                (try dsimp only at hSq)

                go_simp
                try rfl
              change wpAnyH _ _ _ _ _ _ _ (Act.put _ (some 20) _) _
              simp only [Act.put, List.setIfInBounds_toArray, List.set_cons_succ, List.set_cons_zero]
              refine wpAnyH_take (i := 6) (v := ?_) rfl (by kernel_rfl) (by kernel_rfl) (by kernel_rfl) (fun _ _ _ h => h) (Or.inl ⟨by rfl, ?_⟩) O ?_
              rotate_left
              · intro wq hSq
                (try dsimp only at hSq)

                go_simp
                try rfl
              change wpAnyH _ _ _ _ _ _ _ (Act.put _ (some 26) _) _
              simp only [Act.put, List.setIfInBounds_toArray, List.set_cons_succ, List.set_cons_zero]
              refine wpAnyH_take (i := 7) (v := ?_) rfl (by kernel_rfl) (by kernel_rfl) (by kernel_rfl) (fun _ _ _ h => h) (Or.inl ⟨by rfl, ?_⟩) O ?_
              rotate_left
              · intro wq hSq
                (try dsimp only at hSq)

                go_simp
                try rfl
              change wpAnyH _ _ _ _ _ _ _ (Act.put _ (some 27) _) _
              simp only [Act.put, List.setIfInBounds_toArray, List.set_cons_succ, List.set_cons_zero]
              refine wpAnyH_take (i := 8) (v := ?_) rfl (by kernel_rfl) (by kernel_rfl) (by kernel_rfl) (fun _ _ _ h => h) (Or.inl ⟨by rfl, ?_⟩) O ?_
              rotate_left
              · intro wq hSq
                (try dsimp only at hSq)

                go_simp
                try rfl
              change wpAnyH _ _ _ _ _ _ _ (Act.put _ (some 28) _) _
              simp only [Act.put, List.setIfInBounds_toArray, List.set_cons_succ, List.set_cons_zero]
              refine wpAnyH_ready (rs := [10]) (by kernel_rfl) (by simp) ?_
              refine (AllReadyH.cons rfl (fun K hK => ?_) AllReadyH.nil)
              go_simp
              have hVQ := O.size
              obtain ⟨bQ, hb, z⟩ := one u0ccac [.int .i64 0, .int .i64 0, .int .i64 0, .int .i64 0, .int .i64 0] 25
              replace O := over_step O hb
              have hPQ : P ≠ u0ccac.heap.size := Nat.ne_of_lt bP.lt
              replace bP := bP.keep hb
              clear z hb
              refine hK.out _ _ O (fun _ => ?_)
              clear hK K
              try simp only [Act.put, List.setIfInBounds_toArray, List.set_cons_zero, List.set_cons_succ]
              obtain ⟨Q, eB⟩ : ∃ B, B = u0ccac.heap.size := ⟨_, rfl⟩
              obtain ⟨u0ccaca, eW⟩ : ∃ u, u = u0ccac.alloc (.cells #[.int .i64 0, .int .i64 0, .int .i64 0, .int .i64 0, .int .i64 0] 25) := ⟨_, rfl⟩
              rw [← eW] at bQ O bP ⊢
              rw [← eB] at bQ hVQ hPQ ⊢
              clear eW eB
              have r0 := bP.c 0 rfl
              have rf0 := bP.f 0 (x := _) rfl
              have t0 := bQ.c 0 rfl
              have tf0 := bQ.f 0 (x := _) rfl
              have r1 := bP.c 1 rfl
              have rf1 := bP.f 1 (x := _) rfl
              have t1 := bQ.c 1 rfl
              have tf1 := bQ.f 1 (x := _) rfl
              have r2 := bP.c 2 rfl
              have rf2 := bP.f 2 (x := _) rfl
              have t2 := bQ.c 2 rfl
              have tf2 := bQ.f 2 (x := _) rfl
              have r3 := bP.c 3 rfl
              have rf3 := bP.f 3 (x := _) rfl
              have t3 := bQ.c 3 rfl
              have tf3 := bQ.f 3 (x := _) rfl
              have r4 := bP.c 4 rfl
              have rf4 := bP.f 4 (x := _) rfl
              have t4 := bQ.c 4 rfl
              have tf4 := bQ.f 4 (x := _) rfl
              refine wpAnyH_ready (rs := [11]) (by kernel_rfl) (by simp) ?_
              refine (AllReadyH.cons rfl (fun K hK => ?_) AllReadyH.nil)
              go_simp
              have O2 := below_set5 O (B := P) hVP (.int .i64 G.a) (.int .i64 G.b) (.int .i64 G.c) (.int .i64 G.d) (.int .i64 G.e)
              refine hK.out _ _ O2 (fun _ => ?_)
              clear hK K
              try simp only [Act.put, List.setIfInBounds_toArray, List.set_cons_zero, List.set_cons_succ]
              refine wpAnyH_ready (rs := [12]) (by kernel_rfl) (by simp) ?_
              refine (AllReadyH.cons rfl (fun K hK => ?_) AllReadyH.nil)
              go_simp
              have O3 := below_set5 O2 (B := Q) hVQ (.int .i64 J.a) (.int .i64 J.b) (.int .i64 J.c) (.int .i64 J.d) (.int .i64 J.e)
              refine hK.out _ _ O3 (fun _ => ?_)
              clear hK K
              try simp only [Act.put, List.setIfInBounds_toArray, List.set_cons_zero, List.set_cons_succ]
              refine wpAnyH_ready (rs := [13]) (by kernel_rfl) (by simp) ?_
              refine (AllReadyH.cons rfl (fun K hK => ?_) AllReadyH.nil)
              go_simp
              refine hK.out _ _ O3 (fun _ => ?_)
              clear hK K
              try simp only [Act.put, List.setIfInBounds_toArray, List.set_cons_zero, List.set_cons_succ]
              clear r0 rf0 t0 tf0 r1 rf1 t1 tf1 r2 rf2 t2 tf2 r3 rf3 t3 tf3 r4 rf4 t4 tf4
              refine wpAnyH_done (by kernel_rfl) ?_ _
              have b5 := ((((((bP.set5 (.int .i64 G.a) (.int .i64 G.b) (.int .i64 G.c) (.int .i64 G.d) (.int .i64 G.e)).far (C := Q) (o := 0) (u := .int .i64 J.a) hPQ).far (C := Q) (o := 1) (u := .int .i64 J.b) hPQ).far (C := Q) (o := 2) (u := .int .i64 J.c) hPQ).far (C := Q) (o := 3) (u := .int .i64 J.d) hPQ).far (C := Q) (o := 4) (u := .int .i64 J.e) hPQ)
              have d5 := ((((((bQ.far (C := P) (o := 0) (u := .int .i64 G.a) hPQ.symm).far (C := P) (o := 1) (u := .int .i64 G.b) hPQ.symm).far (C := P) (o := 2) (u := .int .i64 G.c) hPQ.symm).far (C := P) (o := 3) (u := .int .i64 G.d) hPQ.symm).far (C := P) (o := 4) (u := .int .i64 G.e) hPQ.symm)).set5 (.int .i64 J.a) (.int .i64 J.b) (.int .i64 J.c) (.int .i64 J.d) (.int .i64 J.e)
              go_wp2_with fail
              go_meet
              case rel => exact ⟨P, Q, rfl, rfl, rfl, O3, b5, d5⟩
            · go_simp
              have hVQ := O.size
              obtain ⟨bQ, hb, z⟩ := one u0cca [.int .i64 0, .int .i64 0, .int .i64 0, .int .i64 0, .int .i64 0] 25
              replace O := over_step O hb
              have hPQ : P ≠ u0cca.heap.size := Nat.ne_of_lt bP.lt
              replace bP := bP.keep hb
              clear z hb
              refine hK.out _ _ O (fun _ => ?_)
              clear hK K
              try simp only [Act.put, List.setIfInBounds_toArray, List.set_cons_zero, List.set_cons_succ]
              obtain ⟨Q, eB⟩ : ∃ B, B = u0cca.heap.size := ⟨_, rfl⟩
              obtain ⟨u0ccaa, eW⟩ : ∃ u, u = u0cca.alloc (.cells #[.int .i64 0, .int .i64 0, .int .i64 0, .int .i64 0, .int .i64 0] 25) := ⟨_, rfl⟩
              rw [← eW] at bQ O bP ⊢
              rw [← eB] at bQ hVQ hPQ ⊢
              clear eW eB
              refine wpAnyH_ready (rs := [4]) (by kernel_rfl) (by simp) ?_
              refine (AllReadyH.cons rfl (fun K hK => ?_) AllReadyH.nil)
              go_simp
              refine (iGreet_t u _ (over_cell O (World.block_lt_of_cell? wc _ HU2.out.1) HU2.out.1) (over_cell O (World.block_lt_of_cell? wc _ HU2.out.2) HU2.out.2) H).mono ?_
              rintro e u0ccaac ⟨rfl, hb⟩
              replace bP := bP.keep hb
              replace bQ := bQ.keep hb
              replace O := over_step O hb
              clear hb
              refine hK.out _ _ O (fun _ => ?_)
              clear hK K
              try simp only [Act.put, List.setIfInBounds_toArray, List.set_cons_zero, List.set_cons_succ]
              refine wpAnyH_take (i := 5) (v := ?_) rfl (by kernel_rfl) (by kernel_rfl) (by kernel_rfl) (fun _ _ _ h => h) (Or.inl ⟨by rfl, ?_⟩) O ?_
              rotate_left
              · intro wq hSq
                (try dsimp only at hSq)

                go_simp
                try rfl
              change wpAnyH _ _ _ _ _ _ _ (Act.put _ (some 20) _) _
              simp only [Act.put, List.setIfInBounds_toArray, List.set_cons_succ, List.set_cons_zero]
              refine wpAnyH_take (i := 6) (v := ?_) rfl (by kernel_rfl) (by kernel_rfl) (by kernel_rfl) (fun _ _ _ h => h) (Or.inl ⟨by rfl, ?_⟩) O ?_
              rotate_left
              · intro wq hSq
                (try dsimp only at hSq)

                go_simp
                try rfl
              change wpAnyH _ _ _ _ _ _ _ (Act.put _ (some 26) _) _
              simp only [Act.put, List.setIfInBounds_toArray, List.set_cons_succ, List.set_cons_zero]
              refine wpAnyH_take (i := 7) (v := ?_) rfl (by kernel_rfl) (by kernel_rfl) (by kernel_rfl) (fun _ _ _ h => h) (Or.inl ⟨by rfl, ?_⟩) O ?_
              rotate_left
              · intro wq hSq
                (try dsimp only at hSq)

                go_simp
                try rfl
              change wpAnyH _ _ _ _ _ _ _ (Act.put _ (some 27) _) _
              simp only [Act.put, List.setIfInBounds_toArray, List.set_cons_succ, List.set_cons_zero]
              refine wpAnyH_take (i := 8) (v := ?_) rfl (by kernel_rfl) (by kernel_rfl) (by kernel_rfl) (fun _ _ _ h => h) (Or.inl ⟨by rfl, ?_⟩) O ?_
              rotate_left
              · intro wq hSq
                (try dsimp only at hSq)

                go_simp
                try rfl
              change wpAnyH _ _ _ _ _ _ _ (Act.put _ (some 28) _) _
              simp only [Act.put, List.setIfInBounds_toArray, List.set_cons_succ, List.set_cons_zero]
              have r0 := bP.c 0 rfl
              have rf0 := bP.f 0 (x := _) rfl
              have t0 := bQ.c 0 rfl
              have tf0 := bQ.f 0 (x := _) rfl
              have r1 := bP.c 1 rfl
              have rf1 := bP.f 1 (x := _) rfl
              have t1 := bQ.c 1 rfl
              have tf1 := bQ.f 1 (x := _) rfl
              have r2 := bP.c 2 rfl
              have rf2 := bP.f 2 (x := _) rfl
              have t2 := bQ.c 2 rfl
              have tf2 := bQ.f 2 (x := _) rfl
              have r3 := bP.c 3 rfl
              have rf3 := bP.f 3 (x := _) rfl
              have t3 := bQ.c 3 rfl
              have tf3 := bQ.f 3 (x := _) rfl
              have r4 := bP.c 4 rfl
              have rf4 := bP.f 4 (x := _) rfl
              have t4 := bQ.c 4 rfl
              have tf4 := bQ.f 4 (x := _) rfl
              refine wpAnyH_ready (rs := [11]) (by kernel_rfl) (by simp) ?_
              refine (AllReadyH.cons rfl (fun K hK => ?_) AllReadyH.nil)
              go_simp
              have O2 := below_set5 O (B := P) hVP (.int .i64 G.a) (.int .i64 G.b) (.int .i64 G.c) (.int .i64 G.d) (.int .i64 G.e)
              refine hK.out _ _ O2 (fun _ => ?_)
              clear hK K
              try simp only [Act.put, List.setIfInBounds_toArray, List.set_cons_zero, List.set_cons_succ]
              refine wpAnyH_ready (rs := [12]) (by kernel_rfl) (by simp) ?_
              refine (AllReadyH.cons rfl (fun K hK => ?_) AllReadyH.nil)
              go_simp
              have O3 := below_set5 O2 (B := Q) hVQ (.int .i64 J.a) (.int .i64 J.b) (.int .i64 J.c) (.int .i64 J.d) (.int .i64 J.e)
              refine hK.out _ _ O3 (fun _ => ?_)
              clear hK K
              try simp only [Act.put, List.setIfInBounds_toArray, List.set_cons_zero, List.set_cons_succ]
              refine wpAnyH_ready (rs := [13]) (by kernel_rfl) (by simp) ?_
              refine (AllReadyH.cons rfl (fun K hK => ?_) AllReadyH.nil)
              go_simp
              refine hK.out _ _ O3 (fun _ => ?_)
              clear hK K
              try simp only [Act.put, List.setIfInBounds_toArray, List.set_cons_zero, List.set_cons_succ]
              clear r0 rf0 t0 tf0 r1 rf1 t1 tf1 r2 rf2 t2 tf2 r3 rf3 t3 tf3 r4 rf4 t4 tf4
              refine wpAnyH_done (by kernel_rfl) ?_ _
              have b5 := ((((((bP.set5 (.int .i64 G.a) (.int .i64 G.b) (.int .i64 G.c) (.int .i64 G.d) (.int .i64 G.e)).far (C := Q) (o := 0) (u := .int .i64 J.a) hPQ).far (C := Q) (o := 1) (u := .int .i64 J.b) hPQ).far (C := Q) (o := 2) (u := .int .i64 J.c) hPQ).far (C := Q) (o := 3) (u := .int .i64 J.d) hPQ).far (C := Q) (o := 4) (u := .int .i64 J.e) hPQ)
              have d5 := ((((((bQ.far (C := P) (o := 0) (u := .int .i64 G.a) hPQ.symm).far (C := P) (o := 1) (u := .int .i64 G.b) hPQ.symm).far (C := P) (o := 2) (u := .int .i64 G.c) hPQ.symm).far (C := P) (o := 3) (u := .int .i64 G.d) hPQ.symm).far (C := P) (o := 4) (u := .int .i64 G.e) hPQ.symm)).set5 (.int .i64 J.a) (.int .i64 J.b) (.int .i64 J.c) (.int .i64 J.d) (.int .i64 J.e)
              go_wp2_with fail
              go_meet
              case rel => exact ⟨P, Q, rfl, rfl, rfl, O3, b5, d5⟩
          · go_simp
            have hVQ := O.size
            obtain ⟨bQ, hb, z⟩ := one u0cc [.int .i64 0, .int .i64 0, .int .i64 0, .int .i64 0, .int .i64 0] 25
            replace O := over_step O hb
            clear z hb
            refine hK.out _ _ O (fun _ => ?_)
            clear hK K
            try simp only [Act.put, List.setIfInBounds_toArray, List.set_cons_zero, List.set_cons_succ]
            obtain ⟨Q, eB⟩ : ∃ B, B = u0cc.heap.size := ⟨_, rfl⟩
            obtain ⟨u0cca, eW⟩ : ∃ u, u = u0cc.alloc (.cells #[.int .i64 0, .int .i64 0, .int .i64 0, .int .i64 0, .int .i64 0] 25) := ⟨_, rfl⟩
            rw [← eW] at bQ O  ⊢
            rw [← eB] at bQ hVQ  ⊢
            clear eW eB
            refine wpAnyH_ready (rs := [4, 9]) (by kernel_rfl) (by simp) ?_
            refine (AllReadyH.cons rfl (fun K hK => ?_) (AllReadyH.cons rfl (fun K hK => ?_) AllReadyH.nil))
            · go_simp
              refine (iGreet_t u _ (over_cell O (World.block_lt_of_cell? wc _ HU2.out.1) HU2.out.1) (over_cell O (World.block_lt_of_cell? wc _ HU2.out.2) HU2.out.2) H).mono ?_
              rintro e u0ccac ⟨rfl, hb⟩
              replace bQ := bQ.keep hb
              replace O := over_step O hb
              clear hb
              refine hK.out _ _ O (fun _ => ?_)
              clear hK K
              try simp only [Act.put, List.setIfInBounds_toArray, List.set_cons_zero, List.set_cons_succ]
              refine wpAnyH_take (i := 5) (v := ?_) rfl (by kernel_rfl) (by kernel_rfl) (by kernel_rfl) (fun _ _ _ h => h) (Or.inl ⟨by rfl, ?_⟩) O ?_
              rotate_left
              · intro wq hSq
                (try dsimp only at hSq)

                go_simp
                try rfl
              change wpAnyH _ _ _ _ _ _ _ (Act.put _ (some 20) _) _
              simp only [Act.put, List.setIfInBounds_toArray, List.set_cons_succ, List.set_cons_zero]
              refine wpAnyH_take (i := 6) (v := ?_) rfl (by kernel_rfl) (by kernel_rfl) (by kernel_rfl) (fun _ _ _ h => h) (Or.inl ⟨by rfl, ?_⟩) O ?_
              rotate_left
              · intro wq hSq
                (try dsimp only at hSq)

                go_simp
                try rfl
              change wpAnyH _ _ _ _ _ _ _ (Act.put _ (some 26) _) _
              simp only [Act.put, List.setIfInBounds_toArray, List.set_cons_succ, List.set_cons_zero]
              refine wpAnyH_take (i := 7) (v := ?_) rfl (by kernel_rfl) (by kernel_rfl) (by kernel_rfl) (fun _ _ _ h => h) (Or.inl ⟨by rfl, ?_⟩) O ?_
              rotate_left
              · intro wq hSq
                (try dsimp only at hSq)

                go_simp
                try rfl
              change wpAnyH _ _ _ _ _ _ _ (Act.put _ (some 27) _) _
              simp only [Act.put, List.setIfInBounds_toArray, List.set_cons_succ, List.set_cons_zero]
              refine wpAnyH_take (i := 8) (v := ?_) rfl (by kernel_rfl) (by kernel_rfl) (by kernel_rfl) (fun _ _ _ h => h) (Or.inl ⟨by rfl, ?_⟩) O ?_
              rotate_left
              · intro wq hSq
                (try dsimp only at hSq)

                go_simp
                try rfl
              change wpAnyH _ _ _ _ _ _ _ (Act.put _ (some 28) _) _
              simp only [Act.put, List.setIfInBounds_toArray, List.set_cons_succ, List.set_cons_zero]
              refine wpAnyH_ready (rs := [9]) (by kernel_rfl) (by simp) ?_
              refine (AllReadyH.cons rfl (fun K hK => ?_) AllReadyH.nil)
              go_simp
              have hVP := O.size
              obtain ⟨bP, hb, z⟩ := one u0ccac [.int .i64 0, .int .i64 0, .int .i64 0, .int .i64 0, .int .i64 0] 25
              replace O := over_step O hb
              have hPQ : u0ccac.heap.size ≠ Q := Nat.ne_of_gt bQ.lt
              replace bQ := bQ.keep hb
              clear z hb
              refine hK.out _ _ O (fun _ => ?_)
              clear hK K
              try simp only [Act.put, List.setIfInBounds_toArray, List.set_cons_zero, List.set_cons_succ]
              obtain ⟨P, eB⟩ : ∃ B, B = u0ccac.heap.size := ⟨_, rfl⟩
              obtain ⟨u0ccaca, eW⟩ : ∃ u, u = u0ccac.alloc (.cells #[.int .i64 0, .int .i64 0, .int .i64 0, .int .i64 0, .int .i64 0] 25) := ⟨_, rfl⟩
              rw [← eW] at bP O bQ ⊢
              rw [← eB] at bP hVP hPQ ⊢
              clear eW eB
              have r0 := bP.c 0 rfl
              have rf0 := bP.f 0 (x := _) rfl
              have t0 := bQ.c 0 rfl
              have tf0 := bQ.f 0 (x := _) rfl
              have r1 := bP.c 1 rfl
              have rf1 := bP.f 1 (x := _) rfl
              have t1 := bQ.c 1 rfl
              have tf1 := bQ.f 1 (x := _) rfl
              have r2 := bP.c 2 rfl
              have rf2 := bP.f 2 (x := _) rfl
              have t2 := bQ.c 2 rfl
              have tf2 := bQ.f 2 (x := _) rfl
              have r3 := bP.c 3 rfl
              have rf3 := bP.f 3 (x := _) rfl
              have t3 := bQ.c 3 rfl
              have tf3 := bQ.f 3 (x := _) rfl
              have r4 := bP.c 4 rfl
              have rf4 := bP.f 4 (x := _) rfl
              have t4 := bQ.c 4 rfl
              have tf4 := bQ.f 4 (x := _) rfl
              refine wpAnyH_ready (rs := [11]) (by kernel_rfl) (by simp) ?_
              refine (AllReadyH.cons rfl (fun K hK => ?_) AllReadyH.nil)
              go_simp
              have O2 := below_set5 O (B := P) hVP (.int .i64 G.a) (.int .i64 G.b) (.int .i64 G.c) (.int .i64 G.d) (.int .i64 G.e)
              refine hK.out _ _ O2 (fun _ => ?_)
              clear hK K
              try simp only [Act.put, List.setIfInBounds_toArray, List.set_cons_zero, List.set_cons_succ]
              refine wpAnyH_ready (rs := [12]) (by kernel_rfl) (by simp) ?_
              refine (AllReadyH.cons rfl (fun K hK => ?_) AllReadyH.nil)
              go_simp
              have O3 := below_set5 O2 (B := Q) hVQ (.int .i64 J.a) (.int .i64 J.b) (.int .i64 J.c) (.int .i64 J.d) (.int .i64 J.e)
              refine hK.out _ _ O3 (fun _ => ?_)
              clear hK K
              try simp only [Act.put, List.setIfInBounds_toArray, List.set_cons_zero, List.set_cons_succ]
              refine wpAnyH_ready (rs := [13]) (by kernel_rfl) (by simp) ?_
              refine (AllReadyH.cons rfl (fun K hK => ?_) AllReadyH.nil)
              go_simp
              refine hK.out _ _ O3 (fun _ => ?_)
              clear hK K
              try simp only [Act.put, List.setIfInBounds_toArray, List.set_cons_zero, List.set_cons_succ]
              clear r0 rf0 t0 tf0 r1 rf1 t1 tf1 r2 rf2 t2 tf2 r3 rf3 t3 tf3 r4 rf4 t4 tf4
              refine wpAnyH_done (by kernel_rfl) ?_ _
              have b5 := ((((((bP.set5 (.int .i64 G.a) (.int .i64 G.b) (.int .i64 G.c) (.int .i64 G.d) (.int .i64 G.e)).far (C := Q) (o := 0) (u := .int .i64 J.a) hPQ).far (C := Q) (o := 1) (u := .int .i64 J.b) hPQ).far (C := Q) (o := 2) (u := .int .i64 J.c) hPQ).far (C := Q) (o := 3) (u := .int .i64 J.d) hPQ).far (C := Q) (o := 4) (u := .int .i64 J.e) hPQ)
              have d5 := ((((((bQ.far (C := P) (o := 0) (u := .int .i64 G.a) hPQ.symm).far (C := P) (o := 1) (u := .int .i64 G.b) hPQ.symm).far (C := P) (o := 2) (u := .int .i64 G.c) hPQ.symm).far (C := P) (o := 3) (u := .int .i64 G.d) hPQ.symm).far (C := P) (o := 4) (u := .int .i64 G.e) hPQ.symm)).set5 (.int .i64 J.a) (.int .i64 J.b) (.int .i64 J.c) (.int .i64 J.d) (.int .i64 J.e)
              go_wp2_with fail
              go_meet
              case rel => exact ⟨P, Q, rfl, rfl, rfl, O3, b5, d5⟩
            · go_simp
              have hVP := O.size
              obtain ⟨bP, hb, z⟩ := one u0cca [.int .i64 0, .int .i64 0, .int .i64 0, .int .i64 0, .int .i64 0] 25
              replace O := over_step O hb
              have hPQ : u0cca.heap.size ≠ Q := Nat.ne_of_gt bQ.lt
              replace bQ := bQ.keep hb
              clear z hb
              refine hK.out _ _ O (fun _ => ?_)
              clear hK K
              try simp only [Act.put, List.setIfInBounds_toArray, List.set_cons_zero, List.set_cons_succ]
              obtain ⟨P, eB⟩ : ∃ B, B = u0cca.heap.size := ⟨_, rfl⟩
              obtain ⟨u0ccaa, eW⟩ : ∃ u, u = u0cca.alloc (.cells #[.int .i64 0, .int .i64 0, .int .i64 0, .int .i64 0, .int .i64 0] 25) := ⟨_, rfl⟩
              rw [← eW] at bP O bQ ⊢
              rw [← eB] at bP hVP hPQ ⊢
              clear eW eB
              refine wpAnyH_ready (rs := [4]) (by kernel_rfl) (by simp) ?_
              refine (AllReadyH.cons rfl (fun K hK => ?_) AllReadyH.nil)
              go_simp
              refine (iGreet_t u _ (over_cell O (World.block_lt_of_cell? wc _ HU2.out.1) HU2.out.1) (over_cell O (World.block_lt_of_cell? wc _ HU2.out.2) HU2.out.2) H).mono ?_
              rintro e u0ccaac ⟨rfl, hb⟩
              replace bP := bP.keep hb
              replace bQ := bQ.keep hb
              replace O := over_step O hb
              clear hb
              refine hK.out _ _ O (fun _ => ?_)
              clear hK K
              try simp only [Act.put, List.setIfInBounds_toArray, List.set_cons_zero, List.set_cons_succ]
              refine wpAnyH_take (i := 5) (v := ?_) rfl (by kernel_rfl) (by kernel_rfl) (by kernel_rfl) (fun _ _ _ h => h) (Or.inl ⟨by rfl, ?_⟩) O ?_
              rotate_left
              · intro wq hSq
                (try dsimp only at hSq)

                go_simp
                try rfl
              change wpAnyH _ _ _ _ _ _ _ (Act.put _ (some 20) _) _
              simp only [Act.put, List.setIfInBounds_toArray, List.set_cons_succ, List.set_cons_zero]
              refine wpAnyH_take (i := 6) (v := ?_) rfl (by kernel_rfl) (by kernel_rfl) (by kernel_rfl) (fun _ _ _ h => h) (Or.inl ⟨by rfl, ?_⟩) O ?_
              rotate_left
              · intro wq hSq
                (try dsimp only at hSq)

                go_simp
                try rfl
              change wpAnyH _ _ _ _ _ _ _ (Act.put _ (some 26) _) _
              simp only [Act.put, List.setIfInBounds_toArray, List.set_cons_succ, List.set_cons_zero]
              refine wpAnyH_take (i := 7) (v := ?_) rfl (by kernel_rfl) (by kernel_rfl) (by kernel_rfl) (fun _ _ _ h => h) (Or.inl ⟨by rfl, ?_⟩) O ?_
              rotate_left
              · intro wq hSq
                (try dsimp only at hSq)

                go_simp
                try rfl
              change wpAnyH _ _ _ _ _ _ _ (Act.put _ (some 27) _) _
              simp only [Act.put, List.setIfInBounds_toArray, List.set_cons_succ, List.set_cons_zero]
              refine wpAnyH_take (i := 8) (v := ?_) rfl (by kernel_rfl) (by kernel_rfl) (by kernel_rfl) (fun _ _ _ h => h) (Or.inl ⟨by rfl, ?_⟩) O ?_
              rotate_left
              · intro wq hSq
                (try dsimp only at hSq)

                go_simp
                try rfl
              change wpAnyH _ _ _ _ _ _ _ (Act.put _ (some 28) _) _
              simp only [Act.put, List.setIfInBounds_toArray, List.set_cons_succ, List.set_cons_zero]
              have r0 := bP.c 0 rfl
              have rf0 := bP.f 0 (x := _) rfl
              have t0 := bQ.c 0 rfl
              have tf0 := bQ.f 0 (x := _) rfl
              have r1 := bP.c 1 rfl
              have rf1 := bP.f 1 (x := _) rfl
              have t1 := bQ.c 1 rfl
              have tf1 := bQ.f 1 (x := _) rfl
              have r2 := bP.c 2 rfl
              have rf2 := bP.f 2 (x := _) rfl
              have t2 := bQ.c 2 rfl
              have tf2 := bQ.f 2 (x := _) rfl
              have r3 := bP.c 3 rfl
              have rf3 := bP.f 3 (x := _) rfl
              have t3 := bQ.c 3 rfl
              have tf3 := bQ.f 3 (x := _) rfl
              have r4 := bP.c 4 rfl
              have rf4 := bP.f 4 (x := _) rfl
              have t4 := bQ.c 4 rfl
              have tf4 := bQ.f 4 (x := _) rfl
              refine wpAnyH_ready (rs := [11]) (by kernel_rfl) (by simp) ?_
              refine (AllReadyH.cons rfl (fun K hK => ?_) AllReadyH.nil)
              go_simp
              have O2 := below_set5 O (B := P) hVP (.int .i64 G.a) (.int .i64 G.b) (.int .i64 G.c) (.int .i64 G.d) (.int .i64 G.e)
              refine hK.out _ _ O2 (fun _ => ?_)
              clear hK K
              try simp only [Act.put, List.setIfInBounds_toArray, List.set_cons_zero, List.set_cons_succ]
              refine wpAnyH_ready (rs := [12]) (by kernel_rfl) (by simp) ?_
              refine (AllReadyH.cons rfl (fun K hK => ?_) AllReadyH.nil)
              go_simp
              have O3 := below_set5 O2 (B := Q) hVQ (.int .i64 J.a) (.int .i64 J.b) (.int .i64 J.c) (.int .i64 J.d) (.int .i64 J.e)
              refine hK.out _ _ O3 (fun _ => ?_)
              clear hK K
              try simp only [Act.put, List.setIfInBounds_toArray, List.set_cons_zero, List.set_cons_succ]
              refine wpAnyH_ready (rs := [13]) (by kernel_rfl) (by simp) ?_
              refine (AllReadyH.cons rfl (fun K hK => ?_) AllReadyH.nil)
              go_simp
              refine hK.out _ _ O3 (fun _ => ?_)
              clear hK K
              try simp only [Act.put, List.setIfInBounds_toArray, List.set_cons_zero, List.set_cons_succ]
              clear r0 rf0 t0 tf0 r1 rf1 t1 tf1 r2 rf2 t2 tf2 r3 rf3 t3 tf3 r4 rf4 t4 tf4
              refine wpAnyH_done (by kernel_rfl) ?_ _
              have b5 := ((((((bP.set5 (.int .i64 G.a) (.int .i64 G.b) (.int .i64 G.c) (.int .i64 G.d) (.int .i64 G.e)).far (C := Q) (o := 0) (u := .int .i64 J.a) hPQ).far (C := Q) (o := 1) (u := .int .i64 J.b) hPQ).far (C := Q) (o := 2) (u := .int .i64 J.c) hPQ).far (C := Q) (o := 3) (u := .int .i64 J.d) hPQ).far (C := Q) (o := 4) (u := .int .i64 J.e) hPQ)
              have d5 := ((((((bQ.far (C := P) (o := 0) (u := .int .i64 G.a) hPQ.symm).far (C := P) (o := 1) (u := .int .i64 G.b) hPQ.symm).far (C := P) (o := 2) (u := .int .i64 G.c) hPQ.symm).far (C := P) (o := 3) (u := .int .i64 G.d) hPQ.symm).far (C := P) (o := 4) (u := .int .i64 G.e) hPQ.symm)).set5 (.int .i64 J.a) (.int .i64 J.b) (.int .i64 J.c) (.int .i64 J.d) (.int .i64 J.e)
              go_wp2_with fail
              go_meet
              case rel => exact ⟨P, Q, rfl, rfl, rfl, O3, b5, d5⟩
        · go_simp
          have hVP := O.size
          obtain ⟨bP, hb, z⟩ := one u0c [.int .i64 0, .int .i64 0, .int .i64 0, .int .i64 0, .int .i64 0] 25
          replace O := over_step O hb
          clear z hb
          refine hK.out _ _ O (fun _ => ?_)
          clear hK K
          try simp only [Act.put, List.setIfInBounds_toArray, List.set_cons_zero, List.set_cons_succ]
          obtain ⟨P, eB⟩ : ∃ B, B = u0c.heap.size := ⟨_, rfl⟩
          obtain ⟨u0ca, eW⟩ : ∃ u, u = u0c.alloc (.cells #[.int .i64 0, .int .i64 0, .int .i64 0, .int .i64 0, .int .i64 0] 25) := ⟨_, rfl⟩
          rw [← eW] at bP O  ⊢
          rw [← eB] at bP hVP  ⊢
          clear eW eB
          refine wpAnyH_ready (rs := [3, 10]) (by kernel_rfl) (by simp) ?_
          refine (AllReadyH.cons rfl (fun K hK => ?_) (AllReadyH.cons rfl (fun K hK => ?_) AllReadyH.nil))
          · go_simp
            refine (toCf_any ba bi bh bp _).mono ?_
            rintro e u0cac ⟨rfl, hb⟩
            replace bP := bP.keep hb
            replace O := over_step O hb
            clear hb
            refine hK.out _ _ O (fun _ => ?_)
            clear hK K
            try simp only [Act.put, List.setIfInBounds_toArray, List.set_cons_zero, List.set_cons_succ]
            refine wpAnyH_ready (rs := [4, 10]) (by kernel_rfl) (by simp) ?_
            refine (AllReadyH.cons rfl (fun K hK => ?_) (AllReadyH.cons rfl (fun K hK => ?_) AllReadyH.nil))
            · go_simp
              refine (iGreet_t u _ (over_cell O (World.block_lt_of_cell? wc _ HU2.out.1) HU2.out.1) (over_cell O (World.block_lt_of_cell? wc _ HU2.out.2) HU2.out.2) H).mono ?_
              rintro e u0cacc ⟨rfl, hb⟩
              replace bP := bP.keep hb
              replace O := over_step O hb
              clear hb
              refine hK.out _ _ O (fun _ => ?_)
              clear hK K
              try simp only [Act.put, List.setIfInBounds_toArray, List.set_cons_zero, List.set_cons_succ]
              refine wpAnyH_take (i := 5) (v := ?_) rfl (by kernel_rfl) (by kernel_rfl) (by kernel_rfl) (fun _ _ _ h => h) (Or.inl ⟨by rfl, ?_⟩) O ?_
              rotate_left
              · intro wq hSq
                (try dsimp only at hSq)

                go_simp
                try rfl
              change wpAnyH _ _ _ _ _ _ _ (Act.put _ (some 20) _) _
              simp only [Act.put, List.setIfInBounds_toArray, List.set_cons_succ, List.set_cons_zero]
              refine wpAnyH_take (i := 6) (v := ?_) rfl (by kernel_rfl) (by kernel_rfl) (by kernel_rfl) (fun _ _ _ h => h) (Or.inl ⟨by rfl, ?_⟩) O ?_
              rotate_left
              · intro wq hSq
                (try dsimp only at hSq)

                go_simp
                try rfl
              change wpAnyH _ _ _ _ _ _ _ (Act.put _ (some 26) _) _
              simp only [Act.put, List.setIfInBounds_toArray, List.set_cons_succ, List.set_cons_zero]
              refine wpAnyH_take (i := 7) (v := ?_) rfl (by kernel_rfl) (by kernel_rfl) (by kernel_rfl) (fun _ _ _ h => h) (Or.inl ⟨by rfl, ?_⟩) O ?_
              rotate_left
              · intro wq hSq
                (try dsimp only at hSq)

                go_simp
                try rfl
              change wpAnyH _ _ _ _ _ _ _ (Act.put _ (some 27) _) _
              simp only [Act.put, List.setIfInBounds_toArray, List.set_cons_succ, List.set_cons_zero]
              refine wpAnyH_take (i := 8) (v := ?_) rfl (by kernel_rfl) (by kernel_rfl) (by kernel_rfl) (fun _ _ _ h => h) (Or.inl ⟨by rfl, ?_⟩) O ?_
              rotate_left
              · intro wq hSq
                (try dsimp only at hSq)

                go_simp
                try rfl
              change wpAnyH _ _ _ _ _ _ _ (Act.put _ (some 28) _) _
              simp only [Act.put, List.setIfInBounds_toArray, List.set_cons_succ, List.set_cons_zero]
              refine wpAnyH_ready (rs := [10]) (by kernel_rfl) (by simp) ?_
              refine (AllReadyH.cons rfl (fun K hK => ?_) AllReadyH.nil)
              go_simp
              have hVQ := O.size
              obtain ⟨bQ, hb, z⟩ := one u0cacc [.int .i64 0, .int .i64 0, .int .i64 0, .int .i64 0, .int .i64 0] 25
              replace O := over_step O hb
              have hPQ : P ≠ u0cacc.heap.size := Nat.ne_of_lt bP.lt
              replace bP := bP.keep hb
              clear z hb
              refine hK.out _ _ O (fun _ => ?_)
              clear hK K
              try simp only [Act.put, List.setIfInBounds_toArray, List.set_cons_zero, List.set_cons_succ]
              obtain ⟨Q, eB⟩ : ∃ B, B = u0cacc.heap.size := ⟨_, rfl⟩
              obtain ⟨u0cacca, eW⟩ : ∃ u, u = u0cacc.alloc (.cells #[.int .i64 0, .int .i64 0, .int .i64 0, .int .i64 0, .int .i64 0] 25) := ⟨_, rfl⟩
              rw [← eW] at bQ O bP ⊢
              rw [← eB] at bQ hVQ hPQ ⊢
              clear eW eB
              have r0 := bP.c 0 rfl
              have rf0 := bP.f 0 (x := _) rfl
              have t0 := bQ.c 0 rfl
              have tf0 := bQ.f 0 (x := _) rfl
              have r1 := bP.c 1 rfl
              have rf1 := bP.f 1 (x := _) rfl
              have t1 := bQ.c 1 rfl
              have tf1 := bQ.f 1 (x := _) rfl
              have r2 := bP.c 2 rfl
              have rf2 := bP.f 2 (x := _) rfl
              have t2 := bQ.c 2 rfl
              have tf2 := bQ.f 2 (x := _) rfl
              have r3 := bP.c 3 rfl
              have rf3 := bP.f 3 (x := _) rfl
              have t3 := bQ.c 3 rfl
              have tf3 := bQ.f 3 (x := _) rfl
              have r4 := bP.c 4 rfl
              have rf4 := bP.f 4 (x := _) rfl
              have t4 := bQ.c 4 rfl
              have tf4 := bQ.f 4 (x := _) rfl
              refine wpAnyH_ready (rs := [11]) (by kernel_rfl) (by simp) ?_
              refine (AllReadyH.cons rfl (fun K hK => ?_) AllReadyH.nil)
              go_simp
              have O2 := below_set5 O (B := P) hVP (.int .i64 G.a) (.int .i64 G.b) (.int .i64 G.c) (.int .i64 G.d) (.int .i64 G.e)
              refine hK.out _ _ O2 (fun _ => ?_)
              clear hK K
              try simp only [Act.put, List.setIfInBounds_toArray, List.set_cons_zero, List.set_cons_succ]
              refine wpAnyH_ready (rs := [12]) (by kernel_rfl) (by simp) ?_
              refine (AllReadyH.cons rfl (fun K hK => ?_) AllReadyH.nil)
              go_simp
              have O3 := below_set5 O2 (B := Q) hVQ (.int .i64 J.a) (.int .i64 J.b) (.int .i64 J.c) (.int .i64 J.d) (.int .i64 J.e)
              refine hK.out _ _ O3 (fun _ => ?_)
              clear hK K
              try simp only [Act.put, List.setIfInBounds_toArray, List.set_cons_zero, List.set_cons_succ]
              refine wpAnyH_ready (rs := [13]) (by kernel_rfl) (by simp) ?_
              refine (AllReadyH.cons rfl (fun K hK => ?_) AllReadyH.nil)
              go_simp
              refine hK.out _ _ O3 (fun _ => ?_)
              clear hK K
              try simp only [Act.put, List.setIfInBounds_toArray, List.set_cons_zero, List.set_cons_succ]
              clear r0 rf0 t0 tf0 r1 rf1 t1 tf1 r2 rf2 t2 tf2 r3 rf3 t3 tf3 r4 rf4 t4 tf4
              refine wpAnyH_done (by kernel_rfl) ?_ _
              have b5 := ((((((bP.set5 (.int .i64 G.a) (.int .i64 G.b) (.int .i64 G.c) (.int .i64 G.d) (.int .i64 G.e)).far (C := Q) (o := 0) (u := .int .i64 J.a) hPQ).far (C := Q) (o := 1) (u := .int .i64 J.b) hPQ).far (C := Q) (o := 2) (u := .int .i64 J.c) hPQ).far (C := Q) (o := 3) (u := .int .i64 J.d) hPQ).far (C := Q) (o := 4) (u := .int .i64 J.e) hPQ)
              have d5 := ((((((bQ.far (C := P) (o := 0) (u := .int .i64 G.a) hPQ.symm).far (C := P) (o := 1) (u := .int .i64 G.b) hPQ.symm).far (C := P) (o := 2) (u := .int .i64 G.c) hPQ.symm).far (C := P) (o := 3) (u := .int .i64 G.d) hPQ.symm).far (C := P) (o := 4) (u := .int .i64 G.e) hPQ.symm)).set5 (.int .i64 J.a) (.int .i64 J.b) (.int .i64 J.c) (.int .i64 J.d) (.int .i64 J.e)
              go_wp2_with fail
              go_meet
              case rel => exact ⟨P, Q, rfl, rfl, rfl, O3, b5, d5⟩
            · go_simp
              have hVQ := O.size
              obtain ⟨bQ, hb, z⟩ := one u0cac [.int .i64 0, .int .i64 0, .int .i64 0, .int .i64 0, .int .i64 0] 25
              replace O := over_step O hb
              have hPQ : P ≠ u0cac.heap.size := Nat.ne_of_lt bP.lt
              replace bP := bP.keep hb
              clear z hb
              refine hK.out _ _ O (fun _ => ?_)
              clear hK K
              try simp only [Act.put, List.setIfInBounds_toArray, List.set_cons_zero, List.set_cons_succ]
              obtain ⟨Q, eB⟩ : ∃ B, B = u0cac.heap.size := ⟨_, rfl⟩
              obtain ⟨u0caca, eW⟩ : ∃ u, u = u0cac.alloc (.cells #[.int .i64 0, .int .i64 0, .int .i64 0, .int .i64 0, .int .i64 0] 25) := ⟨_, rfl⟩
              rw [← eW] at bQ O bP ⊢
              rw [← eB] at bQ hVQ hPQ ⊢
              clear eW eB
              refine wpAnyH_ready (rs := [4]) (by kernel_rfl) (by simp) ?_
              refine (AllReadyH.cons rfl (fun K hK => ?_) AllReadyH.nil)
              go_simp
              refine (iGreet_t u _ (over_cell O (World.block_lt_of_cell? wc _ HU2.out.1) HU2.out.1) (over_cell O (World.block_lt_of_cell? wc _ HU2.out.2) HU2.out.2) H).mono ?_
              rintro e u0cacac ⟨rfl, hb⟩
              replace bP := bP.keep hb
              replace bQ := bQ.keep hb
              replace O := over_step O hb
              clear hb
              refine hK.out _ _ O (fun _ => ?_)
              clear hK K
              try simp only [Act.put, List.setIfInBounds_toArray, List.set_cons_zero, List.set_cons_succ]
              refine wpAnyH_take (i := 5) (v := ?_) rfl (by kernel_rfl) (by kernel_rfl) (by kernel_rfl) (fun _ _ _ h => h) (Or.inl ⟨by rfl, ?_⟩) O ?_
              rotate_left
              · intro wq hSq
                (try dsimp only at hSq)

                go_simp
                try rfl
              change wpAnyH _ _ _ _ _ _ _ (Act.put _ (some 20) _) _
              simp only [Act.put, List.setIfInBounds_toArray, List.set_cons_succ, List.set_cons_zero]
              refine wpAnyH_take (i := 6) (v := ?_) rfl (by kernel_rfl) (by kernel_rfl) (by kernel_rfl) (fun _ _ _ h => h) (Or.inl ⟨by rfl, ?_⟩) O ?_
              rotate_left
              · intro wq hSq
                (try dsimp only at hSq)

                go_simp
                try rfl
              change wpAnyH _ _ _ _ _ _ _ (Act.put _ (some 26) _) _
              simp only [Act.put, List.setIfInBounds_toArray, List.set_cons_succ, List.set_cons_zero]
              refine wpAnyH_take (i := 7) (v := ?_) rfl (by kernel_rfl) (by kernel_rfl) (by kernel_rfl) (fun _ _ _ h => h) (Or.inl ⟨by rfl, ?_⟩) O ?_
              rotate_left
              · intro wq hSq
                (try dsimp only at hSq)

                go_simp
                try rfl
              change wpAnyH _ _ _ _ _ _ _ (Act.put _ (some 27) _) _
              simp only [Act.put, List.setIfInBounds_toArray, List.set_cons_succ, List.set_cons_zero]
              refine wpAnyH_take (i := 8) (v := ?_) rfl (by kernel_rfl) (by kernel_rfl) (by kernel_rfl) (fun _ _ _ h => h) (Or.inl ⟨by rfl, ?_⟩) O ?_
              rotate_left
              · intro wq hSq
                (try dsimp only at hSq)

                go_simp
                try rfl
              change wpAnyH _ _ _ _ _ _ _ (Act.put _ (some 28) _) _
              simp only [Act.put, List.setIfInBounds_toArray, List.set_cons_succ, List.set_cons_zero]
              have r0 := bP.c 0 rfl
              have rf0 := bP.f 0 (x := _) rfl
              have t0 := bQ.c 0 rfl
              have tf0 := bQ.f 0 (x := _) rfl
              have r1 := bP.c 1 rfl
              have rf1 := bP.f 1 (x := _) rfl
              have t1 := bQ.c 1 rfl
              have tf1 := bQ.f 1 (x := _) rfl
              have r2 := bP.c 2 rfl
              have rf2 := bP.f 2 (x := _) rfl
              have t2 := bQ.c 2 rfl
              have tf2 := bQ.f 2 (x := _) rfl
              have r3 := bP.c 3 rfl
              have rf3 := bP.f 3 (x := _) rfl
              have t3 := bQ.c 3 rfl
              have tf3 := bQ.f 3 (x := _) rfl
              have r4 := bP.c 4 rfl
              have rf4 := bP.f 4 (x := _) rfl
              have t4 := bQ.c 4 rfl
              have tf4 := bQ.f 4 (x := _) rfl
              refine wpAnyH_ready (rs := [11]) (by kernel_rfl) (by simp) ?_
              refine (AllReadyH.cons rfl (fun K hK => ?_) AllReadyH.nil)
              go_simp
              have O2 := below_set5 O (B := P) hVP (.int .i64 G.a) (.int .i64 G.b) (.int .i64 G.c) (.int .i64 G.d) (.int .i64 G.e)
              refine hK.out _ _ O2 (fun _ => ?_)
              clear hK K
              try simp only [Act.put, List.setIfInBounds_toArray, List.set_cons_zero, List.set_cons_succ]
              refine wpAnyH_ready (rs := [12]) (by kernel_rfl) (by simp) ?_
              refine (AllReadyH.cons rfl (fun K hK => ?_) AllReadyH.nil)
              go_simp
              have O3 := below_set5 O2 (B := Q) hVQ (.int .i64 J.a) (.int .i64 J.b) (.int .i64 J.c) (.int .i64 J.d) (.int .i64 J.e)
              refine hK.out _ _ O3 (fun _ => ?_)
              clear hK K
              try simp only [Act.put, List.setIfInBounds_toArray, List.set_cons_zero, List.set_cons_succ]
              refine wpAnyH_ready (rs := [13]) (by kernel_rfl) (by simp) ?_
              refine (AllReadyH.cons rfl (fun K hK => ?_) AllReadyH.nil)
              go_simp
              refine hK.out _ _ O3 (fun _ => ?_)
              clear hK K
              try simp only [Act.put, List.setIfInBounds_toArray, List.set_cons_zero, List.set_cons_succ]
              clear r0 rf0 t0 tf0 r1 rf1 t1 tf1 r2 rf2 t2 tf2 r3 rf3 t3 tf3 r4 rf4 t4 tf4
              refine wpAnyH_done (by kernel_rfl) ?_ _
              have b5 := ((((((bP.set5 (.int .i64 G.a) (.int .i64 G.b) (.int .i64 G.c) (.int .i64 G.d) (.int .i64 G.e)).far (C := Q) (o := 0) (u := .int .i64 J.a) hPQ).far (C := Q) (o := 1) (u := .int .i64 J.b) hPQ).far (C := Q) (o := 2) (u := .int .i64 J.c) hPQ).far (C := Q) (o := 3) (u := .int .i64 J.d) hPQ).far (C := Q) (o := 4) (u := .int .i64 J.e) hPQ)
              have d5 := ((((((bQ.far (C := P) (o := 0) (u := .int .i64 G.a) hPQ.symm).far (C := P) (o := 1) (u := .int .i64 G.b) hPQ.symm).far (C := P) (o := 2) (u := .int .i64 G.c) hPQ.symm).far (C := P) (o := 3) (u := .int .i64 G.d) hPQ.symm).far (C := P) (o := 4) (u := .int .i64 G.e) hPQ.symm)).set5 (.int .i64 J.a) (.int .i64 J.b) (.int .i64 J.c) (.int .i64 J.d) (.int .i64 J.e)
              go_wp2_with fail
              go_meet
              case rel => exact ⟨P, Q, rfl, rfl, rfl, O3, b5, d5⟩
          · go_simp
            have hVQ := O.size
            obtain ⟨bQ, hb, z⟩ := one u0ca [.int .i64 0, .int .i64 0, .int .i64 0, .int .i64 0, .int .i64 0] 25
            replace O := over_step O hb
            have hPQ : P ≠ u0ca.heap.size := Nat.ne_of_lt bP.lt
            replace bP := bP.keep hb
            clear z hb
            refine hK.out _ _ O (fun _ => ?_)
            clear hK K
            try simp only [Act.put, List.setIfInBounds_toArray, List.set_cons_zero, List.set_cons_succ]
            obtain ⟨Q, eB⟩ : ∃ B, B = u0ca.heap.size := ⟨_, rfl⟩
            obtain ⟨u0caa, eW⟩ : ∃ u, u = u0ca.alloc (.cells #[.int .i64 0, .int .i64 0, .int .i64 0, .int .i64 0, .int .i64 0] 25) := ⟨_, rfl⟩
            rw [← eW] at bQ O bP ⊢
            rw [← eB] at bQ hVQ hPQ ⊢
            clear eW eB
            refine wpAnyH_ready (rs := [3]) (by kernel_rfl) (by simp) ?_
            refine (AllReadyH.cons rfl (fun K hK => ?_) AllReadyH.nil)
            go_simp
            refine (toCf_any ba bi bh bp _).mono ?_
            rintro e u0caac ⟨rfl, hb⟩
            replace bP := bP.keep hb
            replace bQ := bQ.keep hb
            replace O := over_step O hb
            clear hb
            refine hK.out _ _ O (fun _ => ?_)
            clear hK K
            try simp only [Act.put, List.setIfInBounds_toArray, List.set_cons_zero, List.set_cons_succ]
            refine wpAnyH_ready (rs := [4]) (by kernel_rfl) (by simp) ?_
            refine (AllReadyH.cons rfl (fun K hK => ?_) AllReadyH.nil)
            go_simp
            refine (iGreet_t u _ (over_cell O (World.block_lt_of_cell? wc _ HU2.out.1) HU2.out.1) (over_cell O (World.block_lt_of_cell? wc _ HU2.out.2) HU2.out.2) H).mono ?_
            rintro e u0caacc ⟨rfl, hb⟩
            replace bP := bP.keep hb
            replace bQ := bQ.keep hb
            replace O := over_step O hb
            clear hb
            refine hK.out _ _ O (fun _ => ?_)
            clear hK K
            try simp only [Act.put, List.setIfInBounds_toArray, List.set_cons_zero, List.set_cons_succ]
            refine wpAnyH_take (i := 5) (v := ?_) rfl (by kernel_rfl) (by kernel_rfl) (by kernel_rfl) (fun _ _ _ h => h) (Or.inl ⟨by rfl, ?_⟩) O ?_
            rotate_left
            · intro wq hSq
              (try dsimp only at hSq)

              go_simp
              try rfl
            change wpAnyH _ _ _ _ _ _ _ (Act.put _ (some 20) _) _
            simp only [Act.put, List.setIfInBounds_toArray, List.set_cons_succ, List.set_cons_zero]
            refine wpAnyH_take (i := 6) (v := ?_) rfl (by kernel_rfl) (by kernel_rfl) (by kernel_rfl) (fun _ _ _ h => h) (Or.inl ⟨by rfl, ?_⟩) O ?_
            rotate_left
            · intro wq hSq
              (try dsimp only at hSq)

              go_simp
              try rfl
            change wpAnyH _ _ _ _ _ _ _ (Act.put _ (some 26) _) _
            simp only [Act.put, List.setIfInBounds_toArray, List.set_cons_succ, List.set_cons_zero]
            refine wpAnyH_take (i := 7) (v := ?_) rfl (by kernel_rfl) (by kernel_rfl) (by kernel_rfl) (fun _ _ _ h => h) (Or.inl ⟨by rfl, ?_⟩) O ?_
            rotate_left
            · intro wq hSq
              (try dsimp only at hSq)

              go_simp
              try rfl
            change wpAnyH _ _ _ _ _ _ _ (Act.put _ (some 27) _) _
            simp only [Act.put, List.setIfInBounds_toArray, List.set_cons_succ, List.set_cons_zero]
            refine wpAnyH_take (i := 8) (v := ?_) rfl (by kernel_rfl) (by kernel_rfl) (by kernel_rfl) (fun _ _ _ h => h) (Or.inl ⟨by rfl, ?_⟩) O ?_
            rotate_left
            · intro wq hSq
              (try dsimp only at hSq)

              go_simp
              try rfl
            change wpAnyH _ _ _ _ _ _ _ (Act.put _ (some 28) _) _
            simp only [Act.put, List.setIfInBounds_toArray, List.set_cons_succ, List.set_cons_zero]
            have r0 := bP.c 0 rfl
            have rf0 := bP.f 0 (x := _) rfl
            have t0 := bQ.c 0 rfl
            have tf0 := bQ.f 0 (x := _) rfl
            have r1 := bP.c 1 rfl
            have rf1 := bP.f 1 (x := _) rfl
            have t1 := bQ.c 1 rfl
            have tf1 := bQ.f 1 (x := _) rfl
            have r2 := bP.c 2 rfl
            have rf2 := bP.f 2 (x := _) rfl
            have t2 := bQ.c 2 rfl
            have tf2 := bQ.f 2 (x := _) rfl
            have r3 := bP.c 3 rfl
            have rf3 := bP.f 3 (x := _) rfl
            have t3 := bQ.c 3 rfl
            have tf3 := bQ.f 3 (x := _) rfl
            have r4 := bP.c 4 rfl
            have rf4 := bP.f 4 (x := _) rfl
            have t4 := bQ.c 4 rfl
            have tf4 := bQ.f 4 (x := _) rfl
            refine wpAnyH_ready (rs := [11]) (by kernel_rfl) (by simp) ?_
            refine (AllReadyH.cons rfl (fun K hK => ?_) AllReadyH.nil)
            go_simp
            have O2 := below_set5 O (B := P) hVP (.int .i64 G.a) (.int .i64 G.b) (.int .i64 G.c) (.int .i64 G.d) (.int .i64 G.e)
            refine hK.out _ _ O2 (fun _ => ?_)
            clear hK K
            try simp only [Act.put, List.setIfInBounds_toArray, List.set_cons_zero, List.set_cons_succ]
            refine wpAnyH_ready (rs := [12]) (by kernel_rfl) (by simp) ?_
            refine (AllReadyH.cons rfl (fun K hK => ?_) AllReadyH.nil)
            go_simp
            have O3 := below_set5 O2 (B := Q) hVQ (.int .i64 J.a) (.int .i64 J.b) (.int .i64 J.c) (.int .i64 J.d) (.int .i64 J.e)
            refine hK.out _ _ O3 (fun _ => ?_)
            clear hK K
            try simp only [Act.put, List.setIfInBounds_toArray, List.set_cons_zero, List.set_cons_succ]
            refine wpAnyH_ready (rs := [13]) (by kernel_rfl) (by simp) ?_
            refine (AllReadyH.cons rfl (fun K hK => ?_) AllReadyH.nil)
            go_simp
            refine hK.out _ _ O3 (fun _ => ?_)
            clear hK K
            try simp only [Act.put, List.setIfInBounds_toArray, List.set_cons_zero, List.set_cons_succ]
            clear r0 rf0 t0 tf0 r1 rf1 t1 tf1 r2 rf2 t2 tf2 r3 rf3 t3 tf3 r4 rf4 t4 tf4
            refine wpAnyH_done (by kernel_rfl) ?_ _
            have b5 := ((((((bP.set5 (.int .i64 G.a) (.int .i64 G.b) (.int .i64 G.c) (.int .i64 G.d) (.int .i64 G.e)).far (C := Q) (o := 0) (u := .int .i64 J.a) hPQ).far (C := Q) (o := 1) (u := .int .i64 J.b) hPQ).far (C := Q) (o := 2) (u := .int .i64 J.c) hPQ).far (C := Q) (o := 3) (u := .int .i64 J.d) hPQ).far (C := Q) (o := 4) (u := .int .i64 J.e) hPQ)
            have d5 := ((((((bQ.far (C := P) (o := 0) (u := .int .i64 G.a) hPQ.symm).far (C := P) (o := 1) (u := .int .i64 G.b) hPQ.symm).far (C := P) (o := 2) (u := .int .i64 G.c) hPQ.symm).far (C := P) (o := 3) (u := .int .i64 G.d) hPQ.symm).far (C := P) (o := 4) (u := .int .i64 G.e) hPQ.symm)).set5 (.int .i64 J.a) (.int .i64 J.b) (.int .i64 J.c) (.int .i64 J.d) (.int .i64 J.e)
            go_wp2_with fail
            go_meet
            case rel => exact ⟨P, Q, rfl, rfl, rfl, O3, b5, d5⟩
        · go_simp
          have hVQ := O.size
          obtain ⟨bQ, hb, z⟩ := one u0c [.int .i64 0, .int .i64 0, .int .i64 0, .int .i64 0, .int .i64 0] 25
          replace O := over_step O hb
          clear z hb
          refine hK.out _ _ O (fun _ => ?_)
          clear hK K
          try simp only [Act.put, List.setIfInBounds_toArray, List.set_cons_zero, List.set_cons_succ]
          obtain ⟨Q, eB⟩ : ∃ B, B = u0c.heap.size := ⟨_, rfl⟩
          obtain ⟨u0ca, eW⟩ : ∃ u, u = u0c.alloc (.cells #[.int .i64 0, .int .i64 0, .int .i64 0, .int .i64 0, .int .i64 0] 25) := ⟨_, rfl⟩
          rw [← eW] at bQ O  ⊢
          rw [← eB] at bQ hVQ  ⊢
          clear eW eB
          refine wpAnyH_ready (rs := [3, 9]) (by kernel_rfl) (by simp) ?_
          refine (AllReadyH.cons rfl (fun K hK => ?_) (AllReadyH.cons rfl (fun K hK => ?_) AllReadyH.nil))
          · go_simp
            refine (toCf_any ba bi bh bp _).mono ?_
            rintro e u0cac ⟨rfl, hb⟩
            replace bQ := bQ.keep hb
            replace O := over_step O hb
            clear hb
            refine hK.out _ _ O (fun _ => ?_)
            clear hK K
            try simp only [Act.put, List.setIfInBounds_toArray, List.set_cons_zero, List.set_cons_succ]
            refine wpAnyH_ready (rs := [4, 9]) (by kernel_rfl) (by simp) ?_
            refine (AllReadyH.cons rfl (fun K hK => ?_) (AllReadyH.cons rfl (fun K hK => ?_) AllReadyH.nil))
            · go_simp
              refine (iGreet_t u _ (over_cell O (World.block_lt_of_cell? wc _ HU2.out.1) HU2.out.1) (over_cell O (World.block_lt_of_cell? wc _ HU2.out.2) HU2.out.2) H).mono ?_
              rintro e u0cacc ⟨rfl, hb⟩
              replace bQ := bQ.keep hb
              replace O := over_step O hb
              clear hb
              refine hK.out _ _ O (fun _ => ?_)
              clear hK K
              try simp only [Act.put, List.setIfInBounds_toArray, List.set_cons_zero, List.set_cons_succ]
              refine wpAnyH_take (i := 5) (v := ?_) rfl (by kernel_rfl) (by kernel_rfl) (by kernel_rfl) (fun _ _ _ h => h) (Or.inl ⟨by rfl, ?_⟩) O ?_
              rotate_left
              · intro wq hSq
                (try dsimp only at hSq)

                go_simp
                try rfl
              change wpAnyH _ _ _ _ _ _ _ (Act.put _ (some 20) _) _
              simp only [Act.put, List.setIfInBounds_toArray, List.set_cons_succ, List.set_cons_zero]
              refine wpAnyH_take (i := 6) (v := ?_) rfl (by kernel_rfl) (by kernel_rfl) (by kernel_rfl) (fun _ _ _ h => h) (Or.inl ⟨by rfl, ?_⟩) O ?_
              rotate_left
              · intro wq hSq
                (try dsimp only at hSq)

                go_simp
                try rfl
              change wpAnyH _ _ _ _ _ _ _ (Act.put _ (some 26) _) _
              simp only [Act.put, List.setIfInBounds_toArray, List.set_cons_succ, List.set_cons_zero]
              refine wpAnyH_take (i := 7) (v := ?_) rfl (by kernel_rfl) (by kernel_rfl) (by kernel_rfl) (fun _ _ _ h => h) (Or.inl ⟨by rfl, ?_⟩) O ?_
              rotate_left
              · intro wq hSq
                (try dsimp only at hSq)

                go_simp
                try rfl
              change wpAnyH _ _ _ _ _ _ _ (Act.put _ (some 27) _) _
              simp only [Act.put, List.setIfInBounds_toArray, List.set_cons_succ, List.set_cons_zero]
              refine wpAnyH_take (i := 8) (v := ?_) rfl (by kernel_rfl) (by kernel_rfl) (by kernel_rfl) (fun _ _ _ h => h) (Or.inl ⟨by rfl, ?_⟩) O ?_
              rotate_left
              · intro wq hSq
                (try dsimp only at hSq)

                go_simp
                try rfl
              change wpAnyH _ _ _ _ _ _ _ (Act.put _ (some 28) _) _
              simp only [Act.put, List.setIfInBounds_toArray, List.set_cons_succ, List.set_cons_zero]
              refine wpAnyH_ready (rs := [9]) (by kernel_rfl) (by simp) ?_
              refine (AllReadyH.cons rfl (fun K hK => ?_) AllReadyH.nil)
              go_simp
              have hVP := O.size
              obtain ⟨bP, hb, z⟩ := one u0cacc [.int .i64 0, .int .i64 0, .int .i64 0, .int .i64 0, .int .i64 0] 25
              replace O := over_step O hb
              have hPQ : u0cacc.heap.size ≠ Q := Nat.ne_of_gt bQ.lt
              replace bQ := bQ.keep hb
              clear z hb
              refine hK.out _ _ O (fun _ => ?_)
              clear hK K
              try simp only [Act.put, List.setIfInBounds_toArray, List.set_cons_zero, List.set_cons_succ]
              obtain ⟨P, eB⟩ : ∃ B, B = u0cacc.heap.size := ⟨_, rfl⟩
              obtain ⟨u0cacca, eW⟩ : ∃ u, u = u0cacc.alloc (.cells #[.int .i64 0, .int .i64 0, .int .i64 0, .int .i64 0, .int .i64 0] 25) := ⟨_, rfl⟩
              rw [← eW] at bP O bQ ⊢
              rw [← eB] at bP hVP hPQ ⊢
              clear eW eB
              have r0 := bP.c 0 rfl
              have rf0 := bP.f 0 (x := _) rfl
              have t0 := bQ.c 0 rfl
              have tf0 := bQ.f 0 (x := _) rfl
              have r1 := bP.c 1 rfl
              have rf1 := bP.f 1 (x := _) rfl
              have t1 := bQ.c 1 rfl
              have tf1 := bQ.f 1 (x := _) rfl
              have r2 := bP.c 2 rfl
              have rf2 := bP.f 2 (x := _) rfl
              have t2 := bQ.c 2 rfl
              have tf2 := bQ.f 2 (x := _) rfl
              have r3 := bP.c 3 rfl
              have rf3 := bP.f 3 (x := _) rfl
              have t3 := bQ.c 3 rfl
              have tf3 := bQ.f 3 (x := _) rfl
              have r4 := bP.c 4 rfl
              have rf4 := bP.f 4 (x := _) rfl
              have t4 := bQ.c 4 rfl
              have tf4 := bQ.f 4 (x := _) rfl
              refine wpAnyH_ready (rs := [11]) (by kernel_rfl) (by simp) ?_
              refine (AllReadyH.cons rfl (fun K hK => ?_) AllReadyH.nil)
              go_simp
              have O2 := below_set5 O (B := P) hVP (.int .i64 G.a) (.int .i64 G.b) (.int .i64 G.c) (.int .i64 G.d) (.int .i64 G.e)
              refine hK.out _ _ O2 (fun _ => ?_)
              clear hK K
              try simp only [Act.put, List.setIfInBounds_toArray, List.set_cons_zero, List.set_cons_succ]
              refine wpAnyH_ready (rs := [12]) (by kernel_rfl) (by simp) ?_
              refine (AllReadyH.cons rfl (fun K hK => ?_) AllReadyH.nil)
              go_simp
              have O3 := below_set5 O2 (B := Q) hVQ (.int .i64 J.a) (.int .i64 J.b) (.int .i64 J.c) (.int .i64 J.d) (.int .i64 J.e)
              refine hK.out _ _ O3 (fun _ => ?_)
              clear hK K
              try simp only [Act.put, List.setIfInBounds_toArray, List.set_cons_zero, List.set_cons_succ]
              refine wpAnyH_ready (rs := [13]) (by kernel_rfl) (by simp) ?_
              refine (AllReadyH.cons rfl (fun K hK => ?_) AllReadyH.nil)
              go_simp
              refine hK.out _ _ O3 (fun _ => ?_)
              clear hK K
              try simp only [Act.put, List.setIfInBounds_toArray, List.set_cons_zero, List.set_cons_succ]
              clear r0 rf0 t0 tf0 r1 rf1 t1 tf1 r2 rf2 t2 tf2 r3 rf3 t3 tf3 r4 rf4 t4 tf4
              refine wpAnyH_done (by kernel_rfl) ?_ _
              have b5 := ((((((bP.set5 (.int .i64 G.a) (.int .i64 G.b) (.int .i64 G.c) (.int .i64 G.d) (.int .i64 G.e)).far (C := Q) (o := 0) (u := .int .i64 J.a) hPQ).far (C := Q) (o := 1) (u := .int .i64 J.b) hPQ).far (C := Q) (o := 2) (u := .int .i64 J.c) hPQ).far (C := Q) (o := 3) (u := .int .i64 J.d) hPQ).far (C := Q) (o := 4) (u := .int .i64 J.e) hPQ)
              have d5 := ((((((bQ.far (C := P) (o := 0) (u := .int .i64 G.a) hPQ.symm).far (C := P) (o := 1) (u := .int .i64 G.b) hPQ.symm).far (C := P) (o := 2) (u := .int .i64 G.c) hPQ.symm).far (C := P) (o := 3) (u := .int .i64 G.d) hPQ.symm).far (C := P) (o := 4) (u := .int .i64 G.e) hPQ.symm)).set5 (.int .i64 J.a) (.int .i64 J.b) (.int .i64 J.c) (.int .i64 J.d) (.int .i64 J.e)
              go_wp2_with fail
              go_meet
              case rel => exact ⟨P, Q, rfl, rfl, rfl, O3, b5, d5⟩
            · go_simp
              have hVP := O.size
              obtain ⟨bP, hb, z⟩ := one u0cac [.int .i64 0, .int .i64 0, .int .i64 0, .int .i64 0, .int .i64 0] 25
              replace O := over_step O hb
              have hPQ : u0cac.heap.size ≠ Q := Nat.ne_of_gt bQ.lt
              replace bQ := bQ.keep hb
              clear z hb
              refine hK.out _ _ O (fun _ => ?_)
              clear hK K
              try simp only [Act.put, List.setIfInBounds_toArray, List.set_cons_zero, List.set_cons_succ]
              obtain ⟨P, eB⟩ : ∃ B, B = u0cac.heap.size := ⟨_, rfl⟩
              obtain ⟨u0caca, eW⟩ : ∃ u, u = u0cac.alloc (.cells #[.int .i64 0, .int .i64 0, .int .i64 0, .int .i64 0, .int .i64 0] 25) := ⟨_, rfl⟩
              rw [← eW] at bP O bQ ⊢
              rw [← eB] at bP hVP hPQ ⊢
              clear eW eB
              refine wpAnyH_ready (rs := [4]) (by kernel_rfl) (by simp) ?_
              refine (AllReadyH.cons rfl (fun K hK => ?_) AllReadyH.nil)
              go_simp
              refine (iGreet_t u _ (over_cell O (World.block_lt_of_cell? wc _ HU2.out.1) HU2.out.1) (over_cell O (World.block_lt_of_cell? wc _ HU2.out.2) HU2.out.2) H).mono ?_
              rintro e u0cacac ⟨rfl, hb⟩
              replace bP := bP.keep hb
              replace bQ := bQ.keep hb
              replace O := over_step O hb
              clear hb
              refine hK.out _ _ O (fun _ => ?_)
              clear hK K
              try simp only [Act.put, List.setIfInBounds_toArray, List.set_cons_zero, List.set_cons_succ]
              refine wpAnyH_take (i := 5) (v := ?_) rfl (by kernel_rfl) (by kernel_rfl) (by kernel_rfl) (fun _ _ _ h => h) (Or.inl ⟨by rfl, ?_⟩) O ?_
              rotate_left
              · intro wq hSq
                (try dsimp only at hSq)

                go_simp
                try rfl
              change wpAnyH _ _ _ _ _ _ _ (Act.put _ (some 20) _) _
              simp only [Act.put, List.setIfInBounds_toArray, List.set_cons_succ, List.set_cons_zero]
              refine wpAnyH_take (i := 6) (v := ?_) rfl (by kernel_rfl) (by kernel_rfl) (by kernel_rfl) (fun _ _ _ h => h) (Or.inl ⟨by rfl, ?_⟩) O ?_
              rotate_left
              · intro wq hSq
                (try dsimp only at hSq)

                go_simp
                try rfl
              change wpAnyH _ _ _ _ _ _ _ (Act.put _ (some 26) _) _
              simp only [Act.put, List.setIfInBounds_toArray, List.set_cons_succ, List.set_cons_zero]
              refine wpAnyH_take (i := 7) (v := ?_) rfl (by kernel_rfl) (by kernel_rfl) (by kernel_rfl) (fun _ _ _ h => h) (Or.inl ⟨by rfl, ?_⟩) O ?_
              rotate_left
              · intro wq hSq
                (try dsimp only at hSq)

                go_simp
                try rfl
              change wpAnyH _ _ _ _ _ _ _ (Act.put _ (some 27) _) _
              simp only [Act.put, List.setIfInBounds_toArray, List.set_cons_succ, List.set_cons_zero]
              refine wpAnyH_take (i := 8) (v := ?_) rfl (by kernel_rfl) (by kernel_rfl) (by kernel_rfl) (fun _ _ _ h => h) (Or.inl ⟨by rfl, ?_⟩) O ?_
              rotate_left
              · intro wq hSq
                (try dsimp only at hSq)

                go_simp
                try rfl
              change wpAnyH _ _ _ _ _ _ _ (Act.put _ (some 28) _) _
              simp only [Act.put, List.setIfInBounds_toArray, List.set_cons_succ, List.set_cons_zero]
              have r0 := bP.c 0 rfl
              have rf0 := bP.f 0 (x := _) rfl
              have t0 := bQ.c 0 rfl
              have tf0 := bQ.f 0 (x := _) rfl
              have r1 := bP.c 1 rfl
              have rf1 := bP.f 1 (x := _) rfl
              have t1 := bQ.c 1 rfl
              have tf1 := bQ.f 1 (x := _) rfl
              have r2 := bP.c 2 rfl
              have rf2 := bP.f 2 (x := _) rfl
              have t2 := bQ.c 2 rfl
              have tf2 := bQ.f 2 (x := _) rfl
              have r3 := bP.c 3 rfl
              have rf3 := bP.f 3 (x := _) rfl
              have t3 := bQ.c 3 rfl
              have tf3 := bQ.f 3 (x := _) rfl
              have r4 := bP.c 4 rfl
              have rf4 := bP.f 4 (x := _) rfl
              have t4 := bQ.c 4 rfl
              have tf4 := bQ.f 4 (x := _) rfl
              refine wpAnyH_ready (rs := [11]) (by kernel_rfl) (by simp) ?_
              refine (AllReadyH.cons rfl (fun K hK => ?_) AllReadyH.nil)
              go_simp
              have O2 := below_set5 O (B := P) hVP (.int .i64 G.a) (.int .i64 G.b) (.int .i64 G.c) (.int .i64 G.d) (.int .i64 G.e)
              refine hK.out _ _ O2 (fun _ => ?_)
              clear hK K
              try simp only [Act.put, List.setIfInBounds_toArray, List.set_cons_zero, List.set_cons_succ]
              refine wpAnyH_ready (rs := [12]) (by kernel_rfl) (by simp) ?_
              refine (AllReadyH.cons rfl (fun K hK => ?_) AllReadyH.nil)
              go_simp
              have O3 := below_set5 O2 (B := Q) hVQ (.int .i64 J.a) (.int .i64 J.b) (.int .i64 J.c) (.int .i64 J.d) (.int .i64 J.e)
              refine hK.out _ _ O3 (fun _ => ?_)
              clear hK K
              try simp only [Act.put, List.setIfInBounds_toArray, List.set_cons_zero, List.set_cons_succ]
              refine wpAnyH_ready (rs := [13]) (by kernel_rfl) (by simp) ?_
              refine (AllReadyH.cons rfl (fun K hK => ?_) AllReadyH.nil)
              go_simp
              refine hK.out _ _ O3 (fun _ => ?_)
              clear hK K
              try simp only [Act.put, List.setIfInBounds_toArray, List.set_cons_zero, List.set_cons_succ]
              clear r0 rf0 t0 tf0 r1 rf1 t1 tf1 r2 rf2 t2 tf2 r3 rf3 t3 tf3 r4 rf4 t4 tf4
              refine wpAnyH_done (by kernel_rfl) ?_ _
              have b5 := ((((((bP.set5 (.int .i64 G.a) (.int .i64 G.b) (.int .i64 G.c) (.int .i64 G.d) (.int .i64 G.e)).far (C := Q) (o := 0) (u := .int .i64 J.a) hPQ).far (C := Q) (o := 1) (u := .int .i64 J.b) hPQ).far (C := Q) (o := 2) (u := .int .i64 J.c) hPQ).far (C := Q) (o := 3) (u := .int .i64 J.d) hPQ).far (C := Q) (o := 4) (u := .int .i64 J.e) hPQ)
              have d5 := ((((((bQ.far (C := P) (o := 0) (u := .int .i64 G.a) hPQ.symm).far (C := P) (o := 1) (u := .int .i64 G.b) hPQ.symm).far (C := P) (o := 2) (u := .int .i64 G.c) hPQ.symm).far (C := P) (o := 3) (u := .int .i64 G.d) hPQ.symm).far (C := P) (o := 4) (u := .int .i64 G.e) hPQ.symm)).set5 (.int .i64 J.a) (.int .i64 J.b) (.int .i64 J.c) (.int .i64 J.d) (.int .i64 J.e)
              go_wp2_with fail
              go_meet
              case rel => exact ⟨P, Q, rfl, rfl, rfl, O3, b5, d5⟩
          · go_simp
            have hVP := O.size
            obtain ⟨bP, hb, z⟩ := one u0ca [.int .i64 0, .int .i64 0, .int .i64 0, .int .i64 0, .int .i64 0] 25
            replace O := over_step O hb
            have hPQ : u0ca.heap.size ≠ Q := Nat.ne_of_gt bQ.lt
            replace bQ := bQ.keep hb
            clear z hb
            refine hK.out _ _ O (fun _ => ?_)
            clear hK K
            try simp only [Act.put, List.setIfInBounds_toArray, List.set_cons_zero, List.set_cons_succ]
            obtain ⟨P, eB⟩ : ∃ B, B = u0ca.heap.size := ⟨_, rfl⟩
            obtain ⟨u0caa, eW⟩ : ∃ u, u = u0ca.alloc (.cells #[.int .i64 0, .int .i64 0, .int .i64 0, .int .i64 0, .int .i64 0] 25) := ⟨_, rfl⟩
            rw [← eW] at bP O bQ ⊢
            rw [← eB] at bP hVP hPQ ⊢
            clear eW eB
            refine wpAnyH_ready (rs := [3]) (by kernel_rfl) (by simp) ?_
            refine (AllReadyH.cons rfl (fun K hK => ?_) AllReadyH.nil)
            go_simp
            refine (toCf_any ba bi bh bp _).mono ?_
            rintro e u0caac ⟨rfl, hb⟩
            replace bP := bP.keep hb
            replace bQ := bQ.keep hb
            replace O := over_step O hb
            clear hb
            refine hK.out _ _ O (fun _ => ?_)
            clear hK K
            try simp only [Act.put, List.setIfInBounds_toArray, List.set_cons_zero, List.set_cons_succ]
            refine wpAnyH_ready (rs := [4]) (by kernel_rfl) (by simp) ?_
            refine (AllReadyH.cons rfl (fun K hK => ?_) AllReadyH.nil)
            go_simp
            refine (iGreet_t u _ (over_cell O (World.block_lt_of_cell? wc _ HU2.out.1) HU2.out.1) (over_cell O (World.block_lt_of_cell? wc _ HU2.out.2) HU2.out.2) H).mono ?_
            rintro e u0caacc ⟨rfl, hb⟩
            replace bP := bP.keep hb
            replace bQ := bQ.keep hb
            replace O := over_step O hb
            clear hb
            refine hK.out _ _ O (fun _ => ?_)
            clear hK K
            try simp only [Act.put, List.setIfInBounds_toArray, List.set_cons_zero, List.set_cons_succ]
            refine wpAnyH_take (i := 5) (v := ?_) rfl (by kernel_rfl) (by kernel_rfl) (by kernel_rfl) (fun _ _ _ h => h) (Or.inl ⟨by rfl, ?_⟩) O ?_
            rotate_left
            · intro wq hSq
              (try dsimp only at hSq)

              go_simp
              try rfl
            change wpAnyH _ _ _ _ _ _ _ (Act.put _ (some 20) _) _
            simp only [Act.put, List.setIfInBounds_toArray, List.set_cons_succ, List.set_cons_zero]
            refine wpAnyH_take (i := 6) (v := ?_) rfl (by kernel_rfl) (by kernel_rfl) (by kernel_rfl) (fun _ _ _ h => h) (Or.inl ⟨by rfl, ?_⟩) O ?_
            rotate_left
            · intro wq hSq
              (try dsimp only at hSq)

              go_simp
              try rfl
            change wpAnyH _ _ _ _ _ _ _ (Act.put _ (some 26) _) _
            simp only [Act.put, List.setIfInBounds_toArray, List.set_cons_succ, List.set_cons_zero]
            refine wpAnyH_take (i := 7) (v := ?_) rfl (by kernel_rfl) (by kernel_rfl) (by kernel_rfl) (fun _ _ _ h => h) (Or.inl ⟨by rfl, ?_⟩) O ?_
            rotate_left
            · intro wq hSq
              (try dsimp only at hSq)

              go_simp
              try rfl
            change wpAnyH _ _ _ _ _ _ _ (Act.put _ (some 27) _) _
            simp only [Act.put, List.setIfInBounds_toArray, List.set_cons_succ, List.set_cons_zero]
            refine wpAnyH_take (i := 8) (v := ?_) rfl (by kernel_rfl) (by kernel_rfl) (by kernel_rfl) (fun _ _ _ h => h) (Or.inl ⟨by rfl, ?_⟩) O ?_
            rotate_left
            · intro wq hSq
              (try dsimp only at hSq)

              go_simp
              try rfl
            change wpAnyH _ _ _ _ _ _ _ (Act.put _ (some 28) _) _
            simp only [Act.put, List.setIfInBounds_toArray, List.set_cons_succ, List.set_cons_zero]
            have r0 := bP.c 0 rfl
            have rf0 := bP.f 0 (x := _) rfl
            have t0 := bQ.c 0 rfl
            have tf0 := bQ.f 0 (x := _) rfl
            have r1 := bP.c 1 rfl
            have rf1 := bP.f 1 (x := _) rfl
            have t1 := bQ.c 1 rfl
            have tf1 := bQ.f 1 (x := _) rfl
            have r2 := bP.c 2 rfl
            have rf2 := bP.f 2 (x := _) rfl
            have t2 := bQ.c 2 rfl
            have tf2 := bQ.f 2 (x := _) rfl
            have r3 := bP.c 3 rfl
            have rf3 := bP.f 3 (x := _) rfl
            have t3 := bQ.c 3 rfl
            have tf3 := bQ.f 3 (x := _) rfl
            have r4 := bP.c 4 rfl
            have rf4 := bP.f 4 (x := _) rfl
            have t4 := bQ.c 4 rfl
            have tf4 := bQ.f 4 (x := _) rfl
            refine wpAnyH_ready (rs := [11]) (by kernel_rfl) (by simp) ?_
            refine (AllReadyH.cons rfl (fun K hK => ?_) AllReadyH.nil)
            go_simp
            have O2 := below_set5 O (B := P) hVP (.int .i64 G.a) (.int .i64 G.b) (.int .i64 G.c) (.int .i64 G.d) (.int .i64 G.e)
            refine hK.out _ _ O2 (fun _ => ?_)
            clear hK K
            try simp only [Act.put, List.setIfInBounds_toArray, List.set_cons_zero, List.set_cons_succ]
            refine wpAnyH_ready (rs := [12]) (by kernel_rfl) (by simp) ?_
            refine (AllReadyH.cons rfl (fun K hK => ?_) AllReadyH.nil)
            go_simp
            have O3 := below_set5 O2 (B := Q) hVQ (.int .i64 J.a) (.int .i64 J.b) (.int .i64 J.c) (.int .i64 J.d) (.int .i64 J.e)
            refine hK.out _ _ O3 (fun _ => ?_)
            clear hK K
            try simp only [Act.put, List.setIfInBounds_toArray, List.set_cons_zero, List.set_cons_succ]
            refine wpAnyH_ready (rs := [13]) (by kernel_rfl) (by simp) ?_
            refine (AllReadyH.cons rfl (fun K hK => ?_) AllReadyH.nil)
            go_simp
            refine hK.out _ _ O3 (fun _ => ?_)
            clear hK K
            try simp only [Act.put, List.setIfInBounds_toArray, List.set_cons_zero, List.set_cons_succ]
            clear r0 rf0 t0 tf0 r1 rf1 t1 tf1 r2 rf2 t2 tf2 r3 rf3 t3 tf3 r4 rf4 t4 tf4
            refine wpAnyH_done (by kernel_rfl) ?_ _
            have b5 := ((((((bP.set5 (.int .i64 G.a) (.int .i64 G.b) (.int .i64 G.c) (.int .i64 G.d) (.int .i64 G.e)).far (C := Q) (o := 0) (u := .int .i64 J.a) hPQ).far (C := Q) (o := 1) (u := .int .i64 J.b) hPQ).far (C := Q) (o := 2) (u := .int .i64 J.c) hPQ).far (C := Q) (o := 3) (u := .int .i64 J.d) hPQ).far (C := Q) (o := 4) (u := .int .i64 J.e) hPQ)
            have d5 := ((((((bQ.far (C := P) (o := 0) (u := .int .i64 G.a) hPQ.symm).far (C := P) (o := 1) (u := .int .i64 G.b) hPQ.symm).far (C := P) (o := 2) (u := .int .i64 G.c) hPQ.symm).far (C := P) (o := 3) (u := .int .i64 G.d) hPQ.symm).far (C := P) (o := 4) (u := .int .i64 G.e) hPQ.symm)).set5 (.int .i64 J.a) (.int .i64 J.b) (.int .i64 J.c) (.int .i64 J.d) (.int .i64 J.e)
            go_wp2_with fail
            go_meet
            case rel => exact ⟨P, Q, rfl, rfl, rfl, O3, b5, d5⟩
      · go_simp
        have hVP := O.size
        obtain ⟨bP, hb, z⟩ := one u0 [.int .i64 0, .int .i64 0, .int .i64 0, .int .i64 0, .int .i64 0] 25
        replace O := over_step O hb
        clear z hb
        refine hK.out _ _ O (fun _ => ?_)
        clear hK K
        try simp only [Act.put, List.setIfInBounds_toArray, List.set_cons_zero, List.set_cons_succ]
        obtain ⟨P, eB⟩ : ∃ B, B = u0.heap.size := ⟨_, rfl⟩
        obtain ⟨u0a, eW⟩ : ∃ u, u = u0.alloc (.cells #[.int .i64 0, .int .i64 0, .int .i64 0, .int .i64 0, .int .i64 0] 25) := ⟨_, rfl⟩
        rw [← eW] at bP O  ⊢
        rw [← eB] at bP hVP  ⊢
        clear eW eB
        refine wpAnyH_ready (rs := [1, 10]) (by kernel_rfl) (by simp) ?_
        refine (AllReadyH.cons rfl (fun K hK => ?_) (AllReadyH.cons rfl (fun K hK => ?_) AllReadyH.nil))
        · go_simp
          refine (toCf_any aa ai ah ap _).mono ?_
          rintro e u0ac ⟨rfl, hb⟩
          replace bP := bP.keep hb
          replace O := over_step O hb
          clear hb
          refine hK.out _ _ O (fun _ => ?_)
          clear hK K
          try simp only [Act.put, List.setIfInBounds_toArray, List.set_cons_zero, List.set_cons_succ]
          refine wpAnyH_ready (rs := [3, 10]) (by kernel_rfl) (by simp) ?_
          refine (AllReadyH.cons rfl (fun K hK => ?_) (AllReadyH.cons rfl (fun K hK => ?_) AllReadyH.nil))
          · go_simp
            refine (toCf_any ba bi bh bp _).mono ?_
            rintro e u0acc ⟨rfl, hb⟩
            replace bP := bP.keep hb
            replace O := over_step O hb
            clear hb
            refine hK.out _ _ O (fun _ => ?_)
            clear hK K
            try simp only [Act.put, List.setIfInBounds_toArray, List.set_cons_zero, List.set_cons_succ]
            refine wpAnyH_ready (rs := [4, 10]) (by kernel_rfl) (by simp) ?_
            refine (AllReadyH.cons rfl (fun K hK => ?_) (AllReadyH.cons rfl (fun K hK => ?_) AllReadyH.nil))
            · go_simp
              refine (iGreet_t u _ (over_cell O (World.block_lt_of_cell? wc _ HU2.out.1) HU2.out.1) (over_cell O (World.block_lt_of_cell? wc _ HU2.out.2) HU2.out.2) H).mono ?_
              rintro e u0accc ⟨rfl, hb⟩
              replace bP := bP.keep hb
              replace O := over_step O hb
              clear hb
              refine hK.out _ _ O (fun _ => ?_)
              clear hK K
              try simp only [Act.put, List.setIfInBounds_toArray, List.set_cons_zero, List.set_cons_succ]
              refine wpAnyH_take (i := 5) (v := ?_) rfl (by kernel_rfl) (by kernel_rfl) (by kernel_rfl) (fun _ _ _ h => h) (Or.inl ⟨by rfl, ?_⟩) O ?_
              rotate_left
              · intro wq hSq
                (try dsimp only at hSq)

                go_simp
                try rfl
              change wpAnyH _ _ _ _ _ _ _ (Act.put _ (some 20) _) _
              simp only [Act.put, List.setIfInBounds_toArray, List.set_cons_succ, List.set_cons_zero]
              refine wpAnyH_take (i := 6) (v := ?_) rfl (by kernel_rfl) (by kernel_rfl) (by kernel_rfl) (fun _ _ _ h => h) (Or.inl ⟨by rfl, ?_⟩) O ?_
              rotate_left
              · intro wq hSq
                (try dsimp only at hSq)

                go_simp
                try rfl
              change wpAnyH _ _ _ _ _ _ _ (Act.put _ (some 26) _) _
              simp only [Act.put, List.setIfInBounds_toArray, List.set_cons_succ, List.set_cons_zero]
              refine wpAnyH_take (i := 7) (v := ?_) rfl (by kernel_rfl) (by kernel_rfl) (by kernel_rfl) (fun _ _ _ h => h) (Or.inl ⟨by rfl, ?_⟩) O ?_
              rotate_left
              · intro wq hSq
                (try dsimp only at hSq)

                go_simp
                try rfl
              change wpAnyH _ _ _ _ _ _ _ (Act.put _ (some 27) _) _
              simp only [Act.put, List.setIfInBounds_toArray, List.set_cons_succ, List.set_cons_zero]
              refine wpAnyH_take (i := 8) (v := ?_) rfl (by kernel_rfl) (by kernel_rfl) (by kernel_rfl) (fun _ _ _ h => h) (Or.inl ⟨by rfl, ?_⟩) O ?_
              rotate_left
              · intro wq hSq
                (try dsimp only at hSq)

                go_simp
                try rfl
              change wpAnyH _ _ _ _ _ _ _ (Act.put _ (some 28) _) _
              simp only [Act.put, List.setIfInBounds_toArray, List.set_cons_succ, List.set_cons_zero]
              refine wpAnyH_ready (rs := [10]) (by kernel_rfl) (by simp) ?_
              refine (AllReadyH.cons rfl (fun K hK => ?_) AllReadyH.nil)
              go_simp
              have hVQ := O.size
              obtain ⟨bQ, hb, z⟩ := one u0accc [.int .i64 0, .int .i64 0, .int .i64 0, .int .i64 0, .int .i64 0] 25
              replace O := over_step O hb
              have hPQ : P ≠ u0accc.heap.size := Nat.ne_of_lt bP.lt
              replace bP := bP.keep hb
              clear z hb
              refine hK.out _ _ O (fun _ => ?_)
              clear hK K
              try simp only [Act.put, List.setIfInBounds_toArray, List.set_cons_zero, List.set_cons_succ]
              obtain ⟨Q, eB⟩ : ∃ B, B = u0accc.heap.size := ⟨_, rfl⟩
              obtain ⟨u0accca, eW⟩ : ∃ u, u = u0accc.alloc (.cells #[.int .i64 0, .int .i64 0, .int .i64 0, .int .i64 0, .int .i64 0] 25) := ⟨_, rfl⟩
              rw [← eW] at bQ O bP ⊢
              rw [← eB] at bQ hVQ hPQ ⊢
              clear eW eB
              have r0 := bP.c 0 rfl
              have rf0 := bP.f 0 (x := _) rfl
              have t0 := bQ.c 0 rfl
              have tf0 := bQ.f 0 (x := _) rfl
              have r1 := bP.c 1 rfl
              have rf1 := bP.f 1 (x := _) rfl
              have t1 := bQ.c 1 rfl
              have tf1 := bQ.f 1 (x := _) rfl
              have r2 := bP.c 2 rfl
              have rf2 := bP.f 2 (x := _) rfl
              have t2 := bQ.c 2 rfl
              have tf2 := bQ.f 2 (x := _) rfl
              have r3 := bP.c 3 rfl
              have rf3 := bP.f 3 (x := _) rfl
              have t3 := bQ.c 3 rfl
              have tf3 := bQ.f 3 (x := _) rfl
              have r4 := bP.c 4 rfl
              have rf4 := bP.f 4 (x := _) rfl
              have t4 := bQ.c 4 rfl
              have tf4 := bQ.f 4 (x := _) rfl
              refine wpAnyH_ready (rs := [11]) (by kernel_rfl) (by simp) ?_
              refine (AllReadyH.cons rfl (fun K hK => ?_) AllReadyH.nil)
              go_simp
              have O2 := below_set5 O (B := P) hVP (.int .i64 G.a) (.int .i64 G.b) (.int .i64 G.c) (.int .i64 G.d) (.int .i64 G.e)
              refine hK.out _ _ O2 (fun _ => ?_)
              clear hK K
              try simp only [Act.put, List.setIfInBounds_toArray, List.set_cons_zero, List.set_cons_succ]
              refine wpAnyH_ready (rs := [12]) (by kernel_rfl) (by simp) ?_
              refine (AllReadyH.cons rfl (fun K hK => ?_) AllReadyH.nil)
              go_simp
              have O3 := below_set5 O2 (B := Q) hVQ (.int .i64 J.a) (.int .i64 J.b) (.int .i64 J.c) (.int .i64 J.d) (.int .i64 J.e)
              refine hK.out _ _ O3 (fun _ => ?_)
              clear hK K
              try simp only [Act.put, List.setIfInBounds_toArray, List.set_cons_zero, List.set_cons_succ]
              refine wpAnyH_ready (rs := [13]) (by kernel_rfl) (by simp) ?_
              refine (AllReadyH.cons rfl (fun K hK => ?_) AllReadyH.nil)
              go_simp
              refine hK.out _ _ O3 (fun _ => ?_)
              clear hK K
              try simp only [Act.put, List.setIfInBounds_toArray, List.set_cons_zero, List.set_cons_succ]
              clear r0 rf0 t0 tf0 r1 rf1 t1 tf1 r2 rf2 t2 tf2 r3 rf3 t3 tf3 r4 rf4 t4 tf4
              refine wpAnyH_done (by kernel_rfl) ?_ _
              have b5 := ((((((bP.set5 (.int .i64 G.a) (.int .i64 G.b) (.int .i64 G.c) (.int .i64 G.d) (.int .i64 G.e)).far (C := Q) (o := 0) (u := .int .i64 J.a) hPQ).far (C := Q) (o := 1) (u := .int .i64 J.b) hPQ).far (C := Q) (o := 2) (u := .int .i64 J.c) hPQ).far (C := Q) (o := 3) (u := .int .i64 J.d) hPQ).far (C := Q) (o := 4) (u := .int .i64 J.e) hPQ)
              have d5 := ((((((bQ.far (C := P) (o := 0) (u := .int .i64 G.a) hPQ.symm).far (C := P) (o := 1) (u := .int .i64 G.b) hPQ.symm).far (C := P) (o := 2) (u := .int .i64 G.c) hPQ.symm).far (C := P) (o := 3) (u := .int .i64 G.d) hPQ.symm).far (C := P) (o := 4) (u := .int .i64 G.e) hPQ.symm)).set5 (.int .i64 J.a) (.int .i64 J.b) (.int .i64 J.c) (.int .i64 J.d) (.int .i64 J.e)
              go_wp2_with fail
              go_meet
              case rel => exact ⟨P, Q, rfl, rfl, rfl, O3, b5, d5⟩
            · go_simp
              have hVQ := O.size
              obtain ⟨bQ, hb, z⟩ := one u0acc [.int .i64 0, .int .i64 0, .int .i64 0, .int .i64 0, .int .i64 0] 25
              replace O := over_step O hb
              have hPQ : P ≠ u0acc.heap.size := Nat.ne_of_lt bP.lt
              replace bP := bP.keep hb
              clear z hb
              refine hK.out _ _ O (fun _ => ?_)
              clear hK K
              try simp only [Act.put, List.setIfInBounds_toArray, List.set_cons_zero, List.set_cons_succ]
              obtain ⟨Q, eB⟩ : ∃ B, B = u0acc.heap.size := ⟨_, rfl⟩
              obtain ⟨u0acca, eW⟩ : ∃ u, u = u0acc.alloc (.cells #[.int .i64 0, .int .i64 0, .int .i64 0, .int .i64 0, .int .i64 0] 25) := ⟨_, rfl⟩
              rw [← eW] at bQ O bP ⊢
              rw [← eB] at bQ hVQ hPQ ⊢
              clear eW eB
              refine wpAnyH_ready (rs := [4]) (by kernel_rfl) (by simp) ?_
              refine (AllReadyH.cons rfl (fun K hK => ?_) AllReadyH.nil)
              go_simp
              refine (iGreet_t u _ (over_cell O (World.block_lt_of_cell? wc _ HU2.out.1) HU2.out.1) (over_cell O (World.block_lt_of_cell? wc _ HU2.out.2) HU2.out.2) H).mono ?_
              rintro e u0accac ⟨rfl, hb⟩
              replace bP := bP.keep hb
              replace bQ := bQ.keep hb
              replace O := over_step O hb
              clear hb
              refine hK.out _ _ O (fun _ => ?_)
              clear hK K
              try simp only [Act.put, List.setIfInBounds_toArray, List.set_cons_zero, List.set_cons_succ]
              refine wpAnyH_take (i := 5) (v := ?_) rfl (by kernel_rfl) (by kernel_rfl) (by kernel_rfl) (fun _ _ _ h => h) (Or.inl ⟨by rfl, ?_⟩) O ?_
              rotate_left
              · intro wq hSq
                (try dsimp only at hSq)

                go_simp
                try rfl
              change wpAnyH _ _ _ _ _ _ _ (Act.put _ (some 20) _) _
              simp only [Act.put, List.setIfInBounds_toArray, List.set_cons_succ, List.set_cons_zero]
              refine wpAnyH_take (i := 6) (v := ?_) rfl (by kernel_rfl) (by kernel_rfl) (by kernel_rfl) (fun _ _ _ h => h) (Or.inl ⟨by rfl, ?_⟩) O ?_
              rotate_left
              · intro wq hSq
                (try dsimp only at hSq)

                go_simp
                try rfl
              change wpAnyH _ _ _ _ _ _ _ (Act.put _ (some 26) _) _
              simp only [Act.put, List.setIfInBounds_toArray, List.set_cons_succ, List.set_cons_zero]
              refine wpAnyH_take (i := 7) (v := ?_) rfl (by kernel_rfl) (by kernel_rfl) (by kernel_rfl) (fun _ _ _ h => h) (Or.inl ⟨by rfl, ?_⟩) O ?_
              rotate_left
              · intro wq hSq
                (try dsimp only at hSq)

                go_simp
                try rfl
              change wpAnyH _ _ _ _ _ _ _ (Act.put _ (some 27) _) _
              simp only [Act.put, List.setIfInBounds_toArray, List.set_cons_succ, List.set_cons_zero]
              refine wpAnyH_take (i := 8) (v := ?_) rfl (by kernel_rfl) (by kernel_rfl) (by kernel_rfl) (fun _ _ _ h => h) (Or.inl ⟨by rfl, ?_⟩) O ?_
              rotate_left
              · intro wq hSq
                (try dsimp only at hSq)

                go_simp
                try rfl
              change wpAnyH _ _ _ _ _ _ _ (Act.put _ (some 28) _) _
              simp only [Act.put, List.setIfInBounds_toArray, List.set_cons_succ, List.set_cons_zero]
              have r0 := bP.c 0 rfl
              have rf0 := bP.f 0 (x := _) rfl
              have t0 := bQ.c 0 rfl
              have tf0 := bQ.f 0 (x := _) rfl
              have r1 := bP.c 1 rfl
              have rf1 := bP.f 1 (x := _) rfl
              have t1 := bQ.c 1 rfl
              have tf1 := bQ.f 1 (x := _) rfl
              have r2 := bP.c 2 rfl
              have rf2 := bP.f 2 (x := _) rfl
              have t2 := bQ.c 2 rfl
              have tf2 := bQ.f 2 (x := _) rfl
              have r3 := bP.c 3 rfl
              have rf3 := bP.f 3 (x := _) rfl
              have t3 := bQ.c 3 rfl
              have tf3 := bQ.f 3 (x := _) rfl
              have r4 := bP.c 4 rfl
              have rf4 := bP.f 4 (x := _) rfl
              have t4 := bQ.c 4 rfl
              have tf4 := bQ.f 4 (x := _) rfl
              refine wpAnyH_ready (rs := [11]) (by kernel_rfl) (by simp) ?_
              refine (AllReadyH.cons rfl (fun K hK => ?_) AllReadyH.nil)
              go_simp
              have O2 := below_set5 O (B := P) hVP (.int .i64 G.a) (.int .i64 G.b) (.int .i64 G.c) (.int .i64 G.d) (.int .i64 G.e)
              refine hK.out _ _ O2 (fun _ => ?_)
              clear hK K
              try simp only [Act.put, List.setIfInBounds_toArray, List.set_cons_zero, List.set_cons_succ]
              refine wpAnyH_ready (rs := [12]) (by kernel_rfl) (by simp) ?_
              refine (AllReadyH.cons rfl (fun K hK => ?_) AllReadyH.nil)
              go_simp
              have O3 := below_set5 O2 (B := Q) hVQ (.int .i64 J.a) (.int .i64 J.b) (.int .i64 J.c) (.int .i64 J.d) (.int .i64 J.e)
              refine hK.out _ _ O3 (fun _ => ?_)
              clear hK K
              try simp only [Act.put, List.setIfInBounds_toArray, List.set_cons_zero, List.set_cons_succ]
              refine wpAnyH_ready (rs := [13]) (by kernel_rfl) (by simp) ?_
              refine (AllReadyH.cons rfl (fun K hK => ?_) AllReadyH.nil)
              go_simp
              refine hK.out _ _ O3 (fun _ => ?_)
              clear hK K
              try simp only [Act.put, List.setIfInBounds_toArray, List.set_cons_zero, List.set_cons_succ]
              clear r0 rf0 t0 tf0 r1 rf1 t1 tf1 r2 rf2 t2 tf2 r3 rf3 t3 tf3 r4 rf4 t4 tf4
              refine wpAnyH_done (by kernel_rfl) ?_ _
              have b5 := ((((((bP.set5 (.int .i64 G.a) (.int .i64 G.b) (.int .i64 G.c) (.int .i64 G.d) (.int .i64 G.e)).far (C := Q) (o := 0) (u := .int .i64 J.a) hPQ).far (C := Q) (o := 1) (u := .int .i64 J.b) hPQ).far (C := Q) (o := 2) (u := .int .i64 J.c) hPQ).far (C := Q) (o := 3) (u := .int .i64 J.d) hPQ).far (C := Q) (o := 4) (u := .int .i64 J.e) hPQ)
              have d5 := ((((((bQ.far (C := P) (o := 0) (u := .int .i64 G.a) hPQ.symm).far (C := P) (o := 1) (u := .int .i64 G.b) hPQ.symm).far (C := P) (o := 2) (u := .int .i64 G.c) hPQ.symm).far (C := P) (o := 3) (u := .int .i64 G.d) hPQ.symm).far (C := P) (o := 4) (u := .int .i64 G.e) hPQ.symm)).set5 (.int .i64 J.a) (.int .i64 J.b) (.int .i64 J.c) (.int .i64 J.d) (.int .i64 J.e)
              go_wp2_with fail
              go_meet
              case rel => exact ⟨P, Q, rfl, rfl, rfl, O3, b5, d5⟩
          · go_simp
            have hVQ := O.size
            obtain ⟨bQ, hb, z⟩ := one u0ac [.int .i64 0, .int .i64 0, .int .i64 0, .int .i64 0, .int .i64 0] 25
            replace O := over_step O hb
            have hPQ : P ≠ u0ac.heap.size := Nat.ne_of_lt bP.lt
            replace bP := bP.keep hb
            clear z hb
            refine hK.out _ _ O (fun _ => ?_)
            clear hK K
            try simp only [Act.put, List.setIfInBounds_toArray, List.set_cons_zero, List.set_cons_succ]
            obtain ⟨Q, eB⟩ : ∃ B, B = u0ac.heap.size := ⟨_, rfl⟩
            obtain ⟨u0aca, eW⟩ : ∃ u, u = u0ac.alloc (.cells #[.int .i64 0, .int .i64 0, .int .i64 0, .int .i64 0, .int .i64 0] 25) := ⟨_, rfl⟩
            rw [← eW] at bQ O bP ⊢
            rw [← eB] at bQ hVQ hPQ ⊢
            clear eW eB
            refine wpAnyH_ready (rs := [3]) (by kernel_rfl) (by simp) ?_
            refine (AllReadyH.cons rfl (fun K hK => ?_) AllReadyH.nil)
            go_simp
            refine (toCf_any ba bi bh bp _).mono ?_
            rintro e u0acac ⟨rfl, hb⟩
            replace bP := bP.keep hb
            replace bQ := bQ.keep hb
            replace O := over_step O hb
            clear hb
            refine hK.out _ _ O (fun _ => ?_)
            clear hK K
            try simp only [Act.put, List.setIfInBounds_toArray, List.set_cons_zero, List.set_cons_succ]
            refine wpAnyH_ready (rs := [4]) (by kernel_rfl) (by simp) ?_
            refine (AllReadyH.cons rfl (fun K hK => ?_) AllReadyH.nil)
            go_simp
            refine (iGreet_t u _ (over_cell O (World.block_lt_of_cell? wc _ HU2.out.1) HU2.out.1) (over_cell O (World.block_lt_of_cell? wc _ HU2.out.2) HU2.out.2) H).mono ?_
            rintro e u0acacc ⟨rfl, hb⟩
            replace bP := bP.keep hb
            replace bQ := bQ.keep hb
            replace O := over_step O hb
            clear hb
            refine hK.out _ _ O (fun _ => ?_)
            clear hK K
            try simp only [Act.put, List.setIfInBounds_toArray, List.set_cons_zero, List.set_cons_succ]
            refine wpAnyH_take (i := 5) (v := ?_) rfl (by kernel_rfl) (by kernel_rfl) (by kernel_rfl) (fun _ _ _ h => h) (Or.inl ⟨by rfl, ?_⟩) O ?_
            rotate_left
            · intro wq hSq
              (try dsimp only at hSq)

              go_simp
              try rfl
            change wpAnyH _ _ _ _ _ _ _ (Act.put _ (some 20) _) _
            simp only [Act.put, List.setIfInBounds_toArray, List.set_cons_succ, List.set_cons_zero]
            refine wpAnyH_take (i := 6) (v := ?_) rfl (by kernel_rfl) (by kernel_rfl) (by kernel_rfl) (fun _ _ _ h => h) (Or.inl ⟨by rfl, ?_⟩) O ?_
            rotate_left
            · intro wq hSq
              (try dsimp only at hSq)

              go_simp
              try rfl
            change wpAnyH _ _ _ _ _ _ _ (Act.put _ (some 26) _) _
            simp only [Act.put, List.setIfInBounds_toArray, List.set_cons_succ, List.set_cons_zero]
            refine wpAnyH_take (i := 7) (v := ?_) rfl (by kernel_rfl) (by kernel_rfl) (by kernel_rfl) (fun _ _ _ h => h) (Or.inl ⟨by rfl, ?_⟩) O ?_
            rotate_left
            · intro wq hSq
              (try dsimp only at hSq)

              go_simp
              try rfl
            change wpAnyH _ _ _ _ _ _ _ (Act.put _ (some 27) _) _
            simp only [Act.put, List.setIfInBounds_toArray, List.set_cons_succ, List.set_cons_zero]
            refine wpAnyH_take (i := 8) (v := ?_) rfl (by kernel_rfl) (by kernel_rfl) (by kernel_rfl) (fun _ _ _ h => h) (Or.inl ⟨by rfl, ?_⟩) O ?_
            rotate_left
            · intro wq hSq
              (try dsimp only at hSq)

              go_simp
              try rfl
            change wpAnyH _ _ _ _ _ _ _ (Act.put _ (some 28) _) _
            simp only [Act.put, List.setIfInBounds_toArray, List.set_cons_succ, List.set_cons_zero]
            have r0 := bP.c 0 rfl
            have rf0 := bP.f 0 (x := _) rfl
            have t0 := bQ.c 0 rfl
            have tf0 := bQ.f 0 (x := _) rfl
            have r1 := bP.c 1 rfl
            have rf1 := bP.f 1 (x := _) rfl
            have t1 := bQ.c 1 rfl
            have tf1 := bQ.f 1 (x := _) rfl
            have r2 := bP.c 2 rfl
            have rf2 := bP.f 2 (x := _) rfl
            have t2 := bQ.c 2 rfl
            have tf2 := bQ.f 2 (x := _) rfl
            have r3 := bP.c 3 rfl
            have rf3 := bP.f 3 (x := _) rfl
            have t3 := bQ.c 3 rfl
            have tf3 := bQ.f 3 (x := _) rfl
            have r4 := bP.c 4 rfl
            have rf4 := bP.f 4 (x := _) rfl
            have t4 := bQ.c 4 rfl
            have tf4 := bQ.f 4 (x := _) rfl
            refine wpAnyH_ready (rs := [11]) (by kernel_rfl) (by simp) ?_
            refine (AllReadyH.cons rfl (fun K hK => ?_) AllReadyH.nil)
            go_simp
            have O2 := below_set5 O (B := P) hVP (.int .i64 G.a) (.int .i64 G.b) (.int .i64 G.c) (.int .i64 G.d) (.int .i64 G.e)
            refine hK.out _ _ O2 (fun _ => ?_)
            clear hK K
            try simp only [Act.put, List.setIfInBounds_toArray, List.set_cons_zero, List.set_cons_succ]
            refine wpAnyH_ready (rs := [12]) (by kernel_rfl) (by simp) ?_
            refine (AllReadyH.cons rfl (fun K hK => ?_) AllReadyH.nil)
            go_simp
            have O3 := below_set5 O2 (B := Q) hVQ (.int .i64 J.a) (.int .i64 J.b) (.int .i64 J.c) (.int .i64 J.d) (.int .i64 J.e)
            refine hK.out _ _ O3 (fun _ => ?_)
            clear hK K
            try simp only [Act.put, List.setIfInBounds_toArray, List.set_cons_zero, List.set_cons_succ]
            refine wpAnyH_ready (rs := [13]) (by kernel_rfl) (by simp) ?_
            refine (AllReadyH.cons rfl (fun K hK => ?_) AllReadyH.nil)
            go_simp
            refine hK.out _ _ O3 (fun _ => ?_)
            clear hK K
            try simp only [Act.put, List.setIfInBounds_toArray, List.set_cons_zero, List.set_cons_succ]
            clear r0 rf0 t0 tf0 r1 rf1 t1 tf1 r2 rf2 t2 tf2 r3 rf3 t3 tf3 r4 rf4 t4 tf4
            refine wpAnyH_done (by kernel_rfl) ?_ _
            have b5 := ((((((bP.set5 (.int .i64 G.a) (.int .i64 G.b) (.int .i64 G.c) (.int .i64 G.d) (.int .i64 G.e)).far (C := Q) (o := 0) (u := .int .i64 J.a) hPQ).far (C := Q) (o := 1) (u := .int .i64 J.b) hPQ).far (C := Q) (o := 2) (u := .int .i64 J.c) hPQ).far (C := Q) (o := 3) (u := .int .i64 J.d) hPQ).far (C := Q) (o := 4) (u := .int .i64 J.e) hPQ)
            have d5 := ((((((bQ.far (C := P) (o := 0) (u := .int .i64 G.a) hPQ.symm).far (C := P) (o := 1) (u := .int .i64 G.b) hPQ.symm).far (C := P) (o := 2) (u := .int .i64 G.c) hPQ.symm).far (C := P) (o := 3) (u := .int .i64 G.d) hPQ.symm).far (C := P) (o := 4) (u := .int .i64 G.e) hPQ.symm)).set5 (.int .i64 J.a) (.int .i64 J.b) (.int .i64 J.c) (.int .i64 J.d) (.int .i64 J.e)
            go_wp2_with fail
            go_meet
            case rel => exact ⟨P, Q, rfl, rfl, rfl, O3, b5, d5⟩
        · go_simp
          have hVQ := O.size
          obtain ⟨bQ, hb, z⟩ := one u0a [.int .i64 0, .int .i64 0, .int .i64 0, .int .i64 0, .int .i64 0] 25
          replace O := over_step O hb
          have hPQ : P ≠ u0a.heap.size := Nat.ne_of_lt bP.lt
          replace bP := bP.keep hb
          clear z hb
          refine hK.out _ _ O (fun _ => ?_)
          clear hK K
          try simp only [Act.put, List.setIfInBounds_toArray, List.set_cons_zero, List.set_cons_succ]
          obtain ⟨Q, eB⟩ : ∃ B, B = u0a.heap.size := ⟨_, rfl⟩
          obtain ⟨u0aa, eW⟩ : ∃ u, u = u0a.alloc (.cells #[.int .i64 0, .int .i64 0, .int .i64 0, .int .i64 0, .int .i64 0] 25) := ⟨_, rfl⟩
          rw [← eW] at bQ O bP ⊢
          rw [← eB] at bQ hVQ hPQ ⊢
          clear eW eB
          refine wpAnyH_ready (rs := [1]) (by kernel_rfl) (by simp) ?_
          refine (AllReadyH.cons rfl (fun K hK => ?_) AllReadyH.nil)
          go_simp
          refine (toCf_any aa ai ah ap _).mono ?_
          rintro e u0aac ⟨rfl, hb⟩
          replace bP := bP.keep hb
          replace bQ := bQ.keep hb
          replace O := over_step O hb
          clear hb
          refine hK.out _ _ O (fun _ => ?_)
          clear hK K
          try simp only [Act.put, List.setIfInBounds_toArray, List.set_cons_zero, List.set_cons_succ]
          refine wpAnyH_ready (rs := [3]) (by kernel_rfl) (by simp) ?_
          refine (AllReadyH.cons rfl (fun K hK => ?_) AllReadyH.nil)
          go_simp
          refine (toCf_any ba bi bh bp _).mono ?_
          rintro e u0aacc ⟨rfl, hb⟩
          replace bP := bP.keep hb
          replace bQ := bQ.keep hb
          replace O := over_step O hb
          clear hb
          refine hK.out _ _ O (fun _ => ?_)
          clear hK K
          try simp only [Act.put, List.setIfInBounds_toArray, List.set_cons_zero, List.set_cons_succ]
          refine wpAnyH_ready (rs := [4]) (by kernel_rfl) (by simp) ?_
          refine (AllReadyH.cons rfl (fun K hK => ?_) AllReadyH.nil)
          go_simp
          refine (iGreet_t u _ (over_cell O (World.block_lt_of_cell? wc _ HU2.out.1) HU2.out.1) (over_cell O (World.block_lt_of_cell? wc _ HU2.out.2) HU2.out.2) H).mono ?_
          rintro e u0aaccc ⟨rfl, hb⟩
          replace bP := bP.keep hb
          replace bQ := bQ.keep hb
          replace O := over_step O hb
          clear hb
          refine hK.out _ _ O (fun _ => ?_)
          clear hK K
          try simp only [Act.put, List.setIfInBounds_toArray, List.set_cons_zero, List.set_cons_succ]
          refine wpAnyH_take (i := 5) (v := ?_) rfl (by kernel_rfl) (by kernel_rfl) (by kernel_rfl) (fun _ _ _ h => h) (Or.inl ⟨by rfl, ?_⟩) O ?_
          rotate_left
          · intro wq hSq
            (try dsimp only at hSq)

            go_simp
            try rfl
          change wpAnyH _ _ _ _ _ _ _ (Act.put _ (some 20) _) _
          simp only [Act.put, List.setIfInBounds_toArray, List.set_cons_succ, List.set_cons_zero]
          refine wpAnyH_take (i := 6) (v := ?_) rfl (by kernel_rfl) (by kernel_rfl) (by kernel_rfl) (fun _ _ _ h => h) (Or.inl ⟨by rfl, ?_⟩) O ?_
          rotate_left
          · intro wq hSq
            (try dsimp only at hSq)

            go_simp
            try rfl
          change wpAnyH _ _ _ _ _ _ _ (Act.put _ (some 26) _) _
          simp only [Act.put, List.setIfInBounds_toArray, List.set_cons_succ, List.set_cons_zero]
          refine wpAnyH_take (i := 7) (v := ?_) rfl (by kernel_rfl) (by kernel_rfl) (by kernel_rfl) (fun _ _ _ h => h) (Or.inl ⟨by rfl, ?_⟩) O ?_
          rotate_left
          · intro wq hSq
            (try dsimp only at hSq)

            go_simp
            try rfl
          change wpAnyH _ _ _ _ _ _ _ (Act.put _ (some 27) _) _
          simp only [Act.put, List.setIfInBounds_toArray, List.set_cons_succ, List.set_cons_zero]
          refine wpAnyH_take (i := 8) (v := ?_) rfl (by kernel_rfl) (by kernel_rfl) (by kernel_rfl) (fun _ _ _ h => h) (Or.inl ⟨by rfl, ?_⟩) O ?_
          rotate_left
          · intro wq hSq
            (try dsimp only at hSq)

            go_simp
            try rfl
          change wpAnyH _ _ _ _ _ _ _ (Act.put _ (some 28) _) _
          simp only [Act.put, List.setIfInBounds_toArray, List.set_cons_succ, List.set_cons_zero]
          have r0 := bP.c 0 rfl
          have rf0 := bP.f 0 (x := _) rfl
          have t0 := bQ.c 0 rfl
          have tf0 := bQ.f 0 (x := _) rfl
          have r1 := bP.c 1 rfl
          have rf1 := bP.f 1 (x := _) rfl
          have t1 := bQ.c 1 rfl
          have tf1 := bQ.f 1 (x := _) rfl
          have r2 := bP.c 2 rfl
          have rf2 := bP.f 2 (x := _) rfl
          have t2 := bQ.c 2 rfl
          have tf2 := bQ.f 2 (x := _) rfl
          have r3 := bP.c 3 rfl
          have rf3 := bP.f 3 (x := _) rfl
          have t3 := bQ.c 3 rfl
          have tf3 := bQ.f 3 (x := _) rfl
          have r4 := bP.c 4 rfl
          have rf4 := bP.f 4 (x := _) rfl
          have t4 := bQ.c 4 rfl
          have tf4 := bQ.f 4 (x := _) rfl
          refine wpAnyH_ready (rs := [11]) (by kernel_rfl) (by simp) ?_
          refine (AllReadyH.cons rfl (fun K hK => ?_) AllReadyH.nil)
          go_simp
          have O2 := below_set5 O (B := P) hVP (.int .i64 G.a) (.int .i64 G.b) (.int .i64 G.c) (.int .i64 G.d) (.int .i64 G.e)
          refine hK.out _ _ O2 (fun _ => ?_)
          clear hK K
          try simp only [Act.put, List.setIfInBounds_toArray, List.set_cons_zero, List.set_cons_succ]
          refine wpAnyH_ready (rs := [12]) (by kernel_rfl) (by simp) ?_
          refine (AllReadyH.cons rfl (fun K hK => ?_) AllReadyH.nil)
          go_simp
          have O3 := below_set5 O2 (B := Q) hVQ (.int .i64 J.a) (.int .i64 J.b) (.int .i64 J.c) (.int .i64 J.d) (.int .i64 J.e)
          refine hK.out _ _ O3 (fun _ => ?_)
          clear hK K
          try simp only [Act.put, List.setIfInBounds_toArray, List.set_cons_zero, List.set_cons_succ]
          refine wpAnyH_ready (rs := [13]) (by kernel_rfl) (by simp) ?_
          refine (AllReadyH.cons rfl (fun K hK => ?_) AllReadyH.nil)
          go_simp
          refine hK.out _ _ O3 (fun _ => ?_)
          clear hK K
          try simp only [Act.put, List.setIfInBounds_toArray, List.set_cons_zero, List.set_cons_succ]
          clear r0 rf0 t0 tf0 r1 rf1 t1 tf1 r2 rf2 t2 tf2 r3 rf3 t3 tf3 r4 rf4 t4 tf4
          refine wpAnyH_done (by kernel_rfl) ?_ _
          have b5 := ((((((bP.set5 (.int .i64 G.a) (.int .i64 G.b) (.int .i64 G.c) (.int .i64 G.d) (.int .i64 G.e)).far (C := Q) (o := 0) (u := .int .i64 J.a) hPQ).far (C := Q) (o := 1) (u := .int .i64 J.b) hPQ).far (C := Q) (o := 2) (u := .int .i64 J.c) hPQ).far (C := Q) (o := 3) (u := .int .i64 J.d) hPQ).far (C := Q) (o := 4) (u := .int .i64 J.e) hPQ)
          have d5 := ((((((bQ.far (C := P) (o := 0) (u := .int .i64 G.a) hPQ.symm).far (C := P) (o := 1) (u := .int .i64 G.b) hPQ.symm).far (C := P) (o := 2) (u := .int .i64 G.c) hPQ.symm).far (C := P) (o := 3) (u := .int .i64 G.d) hPQ.symm).far (C := P) (o := 4) (u := .int .i64 G.e) hPQ.symm)).set5 (.int .i64 J.a) (.int .i64 J.b) (.int .i64 J.c) (.int .i64 J.d) (.int .i64 J.e)
          go_wp2_with fail
          go_meet
          case rel => exact ⟨P, Q, rfl, rfl, rfl, O3, b5, d5⟩
      · go_simp
        have hVQ := O.size
        obtain ⟨bQ, hb, z⟩ := one u0 [.int .i64 0, .int .i64 0, .int .i64 0, .int .i64 0, .int .i64 0] 25
        replace O := over_step O hb
        clear z hb
        refine hK.out _ _ O (fun _ => ?_)
        clear hK K
        try simp only [Act.put, List.setIfInBounds_toArray, List.set_cons_zero, List.set_cons_succ]
        obtain ⟨Q, eB⟩ : ∃ B, B = u0.heap.size := ⟨_, rfl⟩
        obtain ⟨u0a, eW⟩ : ∃ u, u = u0.alloc (.cells #[.int .i64 0, .int .i64 0, .int .i64 0, .int .i64 0, .int .i64 0] 25) := ⟨_, rfl⟩
        rw [← eW] at bQ O  ⊢
        rw [← eB] at bQ hVQ  ⊢
        clear eW eB
        refine wpAnyH_ready (rs := [1, 9]) (by kernel_rfl) (by simp) ?_
        refine (AllReadyH.cons rfl (fun K hK => ?_) (AllReadyH.cons rfl (fun K hK => ?_) AllReadyH.nil))
        · go_simp
          refine (toCf_any aa ai ah ap _).mono ?_
          rintro e u0ac ⟨rfl, hb⟩
          replace bQ := bQ.keep hb
          replace O := over_step O hb
          clear hb
          refine hK.out _ _ O (fun _ => ?_)
          clear hK K
          try simp only [Act.put, List.setIfInBounds_toArray, List.set_cons_zero, List.set_cons_succ]
          refine wpAnyH_ready (rs := [3, 9]) (by kernel_rfl) (by simp) ?_
          refine (AllReadyH.cons rfl (fun K hK => ?_) (AllReadyH.cons rfl (fun K hK => ?_) AllReadyH.nil))
          · go_simp
            refine (toCf_any ba bi bh bp _).mono ?_
            rintro e u0acc ⟨rfl, hb⟩
            replace bQ := bQ.keep hb
            replace O := over_step O hb
            clear hb
            refine hK.out _ _ O (fun _ => ?_)
            clear hK K
            try simp only [Act.put, List.setIfInBounds_toArray, List.set_cons_zero, List.set_cons_succ]
            refine wpAnyH_ready (rs := [4, 9]) (by kernel_rfl) (by simp) ?_
            refine (AllReadyH.cons rfl (fun K hK => ?_) (AllReadyH.cons rfl (fun K hK => ?_) AllReadyH.nil))
            · go_simp
              refine (iGreet_t u _ (over_cell O (World.block_lt_of_cell? wc _ HU2.out.1) HU2.out.1) (over_cell O (World.block_lt_of_cell? wc _ HU2.out.2) HU2.out.2) H).mono ?_
              rintro e u0accc ⟨rfl, hb⟩
              replace bQ := bQ.keep hb
              replace O := over_step O hb
              clear hb
              refine hK.out _ _ O (fun _ => ?_)
              clear hK K
              try simp only [Act.put, List.setIfInBounds_toArray, List.set_cons_zero, List.set_cons_succ]
              refine wpAnyH_take (i := 5) (v := ?_) rfl (by kernel_rfl) (by kernel_rfl) (by kernel_rfl) (fun _ _ _ h => h) (Or.inl ⟨by rfl, ?_⟩) O ?_
              rotate_left
              · intro wq hSq
                (try dsimp only at hSq)

                go_simp
                try rfl
              change wpAnyH _ _ _ _ _ _ _ (Act.put _ (some 20) _) _
              simp only [Act.put, List.setIfInBounds_toArray, List.set_cons_succ, List.set_cons_zero]
              refine wpAnyH_take (i := 6) (v := ?_) rfl (by kernel_rfl) (by kernel_rfl) (by kernel_rfl) (fun _ _ _ h => h) (Or.inl ⟨by rfl, ?_⟩) O ?_
              rotate_left
              · intro wq hSq
                (try dsimp only at hSq)

                go_simp
                try rfl
              change wpAnyH _ _ _ _ _ _ _ (Act.put _ (some 26) _) _
              simp only [Act.put, List.setIfInBounds_toArray, List.set_cons_succ, List.set_cons_zero]
              refine wpAnyH_take (i := 7) (v := ?_) rfl (by kernel_rfl) (by kernel_rfl) (by kernel_rfl) (fun _ _ _ h => h) (Or.inl ⟨by rfl, ?_⟩) O ?_
              rotate_left
              · intro wq hSq
                (try dsimp only at hSq)

                go_simp
                try rfl
              change wpAnyH _ _ _ _ _ _ _ (Act.put _ (some 27) _) _
              simp only [Act.put, List.setIfInBounds_toArray, List.set_cons_succ, List.set_cons_zero]
              refine wpAnyH_take (i := 8) (v := ?_) rfl (by kernel_rfl) (by kernel_rfl) (by kernel_rfl) (fun _ _ _ h => h) (Or.inl ⟨by rfl, ?_⟩) O ?_
              rotate_left
              · intro wq hSq
                (try dsimp only at hSq)

                go_simp
                try rfl
              change wpAnyH _ _ _ _ _ _ _ (Act.put _ (some 28) _) _
              simp only [Act.put, List.setIfInBounds_toArray, List.set_cons_succ, List.set_cons_zero]
              refine wpAnyH_ready (rs := [9]) (by kernel_rfl) (by simp) ?_
              refine (AllReadyH.cons rfl (fun K hK => ?_) AllReadyH.nil)
              go_simp
              have hVP := O.size
              obtain ⟨bP, hb, z⟩ := one u0accc [.int .i64 0, .int .i64 0, .int .i64 0, .int .i64 0, .int .i64 0] 25
              replace O := over_step O hb
              have hPQ : u0accc.heap.size ≠ Q := Nat.ne_of_gt bQ.lt
              replace bQ := bQ.keep hb
              clear z hb
              refine hK.out _ _ O (fun _ => ?_)
              clear hK K
              try simp only [Act.put, List.setIfInBounds_toArray, List.set_cons_zero, List.set_cons_succ]
              obtain ⟨P, eB⟩ : ∃ B, B = u0accc.heap.size := ⟨_, rfl⟩
              obtain ⟨u0accca, eW⟩ : ∃ u, u = u0accc.alloc (.cells #[.int .i64 0, .int .i64 0, .int .i64 0, .int .i64 0, .int .i64 0] 25) := ⟨_, rfl⟩
              rw [← eW] at bP O bQ ⊢
              rw [← eB] at bP hVP hPQ ⊢
              clear eW eB
              have r0 := bP.c 0 rfl
              have rf0 := bP.f 0 (x := _) rfl
              have t0 := bQ.c 0 rfl
              have tf0 := bQ.f 0 (x := _) rfl
              have r1 := bP.c 1 rfl
              have rf1 := bP.f 1 (x := _) rfl
              have t1 := bQ.c 1 rfl
              have tf1 := bQ.f 1 (x := _) rfl
              have r2 := bP.c 2 rfl
              have rf2 := bP.f 2 (x := _) rfl
              have t2 := bQ.c 2 rfl
              have tf2 := bQ.f 2 (x := _) rfl
              have r3 := bP.c 3 rfl
              have rf3 := bP.f 3 (x := _) rfl
              have t3 := bQ.c 3 rfl
              have tf3 := bQ.f 3 (x := _) rfl
              have r4 := bP.c 4 rfl
              have rf4 := bP.f 4 (x := _) rfl
              have t4 := bQ.c 4 rfl
              have tf4 := bQ.f 4 (x := _) rfl
              refine wpAnyH_ready (rs := [11]) (by kernel_rfl) (by simp) ?_
              refine (AllReadyH.cons rfl (fun K hK => ?_) AllReadyH.nil)
              go_simp
              have O2 := below_set5 O (B := P) hVP (.int .i64 G.a) (.int .i64 G.b) (.int .i64 G.c) (.int .i64 G.d) (.int .i64 G.e)
              refine hK.out _ _ O2 (fun _ => ?_)
              clear hK K
              try simp only [Act.put, List.setIfInBounds_toArray, List.set_cons_zero, List.set_cons_succ]
              refine wpAnyH_ready (rs := [12]) (by kernel_rfl) (by simp) ?_
              refine (AllReadyH.cons rfl (fun K hK => ?_) AllReadyH.nil)
              go_simp
              have O3 := below_set5 O2 (B := Q) hVQ (.int .i64 J.a) (.int .i64 J.b) (.int .i64 J.c) (.int .i64 J.d) (.int .i64 J.e)
              refine hK.out _ _ O3 (fun _ => ?_)
              clear hK K
              try simp only [Act.put, List.setIfInBounds_toArray, List.set_cons_zero, List.set_cons_succ]
              refine wpAnyH_ready (rs := [13]) (by kernel_rfl) (by simp) ?_
              refine (AllReadyH.cons rfl (fun K hK => ?_) AllReadyH.nil)
              go_simp
              refine hK.out _ _ O3 (fun _ => ?_)
              clear hK K
              try simp only [Act.put, List.setIfInBounds_toArray, List.set_cons_zero, List.set_cons_succ]
              clear r0 rf0 t0 tf0 r1 rf1 t1 tf1 r2 rf2 t2 tf2 r3 rf3 t3 tf3 r4 rf4 t4 tf4
              refine wpAnyH_done (by kernel_rfl) ?_ _
              have b5 := ((((((bP.set5 (.int .i64 G.a) (.int .i64 G.b) (.int .i64 G.c) (.int .i64 G.d) (.int .i64 G.e)).far (C := Q) (o := 0) (u := .int .i64 J.a) hPQ).far (C := Q) (o := 1) (u := .int .i64 J.b) hPQ).far (C := Q) (o := 2) (u := .int .i64 J.c) hPQ).far (C := Q) (o := 3) (u := .int .i64 J.d) hPQ).far (C := Q) (o := 4) (u := .int .i64 J.e) hPQ)
              have d5 := ((((((bQ.far (C := P) (o := 0) (u := .int .i64 G.a) hPQ.symm).far (C := P) (o := 1) (u := .int .i64 G.b) hPQ.symm).far (C := P) (o := 2) (u := .int .i64 G.c) hPQ.symm).far (C := P) (o := 3) (u := .int .i64 G.d) hPQ.symm).far (C := P) (o := 4) (u := .int .i64 G.e) hPQ.symm)).set5 (.int .i64 J.a) (.int .i64 J.b) (.int .i64 J.c) (.int .i64 J.d) (.int .i64 J.e)
              go_wp2_with fail
              go_meet
              case rel => exact ⟨P, Q, rfl, rfl, rfl, O3, b5, d5⟩
            · go_simp
              have hVP := O.size
              obtain ⟨bP, hb, z⟩ := one u0acc [.int .i64 0, .int .i64 0, .int .i64 0, .int .i64 0, .int .i64 0] 25
              replace O := over_step O hb
              have hPQ : u0acc.heap.size ≠ Q := Nat.ne_of_gt bQ.lt
              replace bQ := bQ.keep hb
              clear z hb
              refine hK.out _ _ O (fun _ => ?_)
              clear hK K
              try simp only [Act.put, List.setIfInBounds_toArray, List.set_cons_zero, List.set_cons_succ]
              obtain ⟨P, eB⟩ : ∃ B, B = u0acc.heap.size := ⟨_, rfl⟩
              obtain ⟨u0acca, eW⟩ : ∃ u, u = u0acc.alloc (.cells #[.int .i64 0, .int .i64 0, .int .i64 0, .int .i64 0, .int .i64 0] 25) := ⟨_, rfl⟩
              rw [← eW] at bP O bQ ⊢
              rw [← eB] at bP hVP hPQ ⊢
              clear eW eB
              refine wpAnyH_ready (rs := [4]) (by kernel_rfl) (by simp) ?_
              refine (AllReadyH.cons rfl (fun K hK => ?_) AllReadyH.nil)
              go_simp
              refine (iGreet_t u _ (over_cell O (World.block_lt_of_cell? wc _ HU2.out.1) HU2.out.1) (over_cell O (World.block_lt_of_cell? wc _ HU2.out.2) HU2.out.2) H).mono ?_
              rintro e u0accac ⟨rfl, hb⟩
              replace bP := bP.keep hb
              replace bQ := bQ.keep hb
              replace O := over_step O hb
              clear hb
              refine hK.out _ _ O (fun _ => ?_)
              clear hK K
              try simp only [Act.put, List.setIfInBounds_toArray, List.set_cons_zero, List.set_cons_succ]
              refine wpAnyH_take (i := 5) (v := ?_) rfl (by kernel_rfl) (by kernel_rfl) (by kernel_rfl) (fun _ _ _ h => h) (Or.inl ⟨by rfl, ?_⟩) O ?_
              rotate_left
              · intro wq hSq
                (try dsimp only at hSq)

                go_simp
                try rfl
              change wpAnyH _ _ _ _ _ _ _ (Act.put _ (some 20) _) _
              simp only [Act.put, List.setIfInBounds_toArray, List.set_cons_succ, List.set_cons_zero]
              refine wpAnyH_take (i := 6) (v := ?_) rfl (by kernel_rfl) (by kernel_rfl) (by kernel_rfl) (fun _ _ _ h => h) (Or.inl ⟨by rfl, ?_⟩) O ?_
              rotate_left
              · intro wq hSq
                (try dsimp only at hSq)

                go_simp
                try rfl
              change wpAnyH _ _ _ _ _ _ _ (Act.put _ (some 26) _) _
              simp only [Act.put, List.setIfInBounds_toArray, List.set_cons_succ, List.set_cons_zero]
              refine wpAnyH_take (i := 7) (v := ?_) rfl (by kernel_rfl) (by kernel_rfl) (by kernel_rfl) (fun _ _ _ h => h) (Or.inl ⟨by rfl, ?_⟩) O ?_
              rotate_left
              · intro wq hSq
                (try dsimp only at hSq)

                go_simp
                try rfl
              change wpAnyH _ _ _ _ _ _ _ (Act.put _ (some 27) _) _
              simp only [Act.put, List.setIfInBounds_toArray, List.set_cons_succ, List.set_cons_zero]
              refine wpAnyH_take (i := 8) (v := ?_) rfl (by kernel_rfl) (by kernel_rfl) (by kernel_rfl) (fun _ _ _ h => h) (Or.inl ⟨by rfl, ?_⟩) O ?_
              rotate_left
              · intro wq hSq
                (try dsimp only at hSq)

                go_simp
                try rfl
              change wpAnyH _ _ _ _ _ _ _ (Act.put _ (some 28) _) _
              simp only [Act.put, List.setIfInBounds_toArray, List.set_cons_succ, List.set_cons_zero]
              have r0 := bP.c 0 rfl
              have rf0 := bP.f 0 (x := _) rfl
              have t0 := bQ.c 0 rfl
              have tf0 := bQ.f 0 (x := _) rfl
              have r1 := bP.c 1 rfl
              have rf1 := bP.f 1 (x := _) rfl
              have t1 := bQ.c 1 rfl
              have tf1 := bQ.f 1 (x := _) rfl
              have r2 := bP.c 2 rfl
              have rf2 := bP.f 2 (x := _) rfl
              have t2 := bQ.c 2 rfl
              have tf2 := bQ.f 2 (x := _) rfl
              have r3 := bP.c 3 rfl
              have rf3 := bP.f 3 (x := _) rfl
              have t3 := bQ.c 3 rfl
              have tf3 := bQ.f 3 (x := _) rfl
              have r4 := bP.c 4 rfl
              have rf4 := bP.f 4 (x := _) rfl
              have t4 := bQ.c 4 rfl
              have tf4 := bQ.f 4 (x := _) rfl
              refine wpAnyH_ready (rs := [11]) (by kernel_rfl) (by simp) ?_
              refine (AllReadyH.cons rfl (fun K hK => ?_) AllReadyH.nil)
              go_simp
              have O2 := below_set5 O (B := P) hVP (.int .i64 G.a) (.int .i64 G.b) (.int .i64 G.c) (.int .i64 G.d) (.int .i64 G.e)
              refine hK.out _ _ O2 (fun _ => ?_)
              clear hK K
              try simp only [Act.put, List.setIfInBounds_toArray, List.set_cons_zero, List.set_cons_succ]
              refine wpAnyH_ready (rs := [12]) (by kernel_rfl) (by simp) ?_
              refine (AllReadyH.cons rfl (fun K hK => ?_) AllReadyH.nil)
              go_simp
              have O3 := below_set5 O2 (B := Q) hVQ (.int .i64 J.a) (.int .i64 J.b) (.int .i64 J.c) (.int .i64 J.d) (.int .i64 J.e)
              refine hK.out _ _ O3 (fun _ => ?_)
              clear hK K
              try simp only [Act.put, List.setIfInBounds_toArray, List.set_cons_zero, List.set_cons_succ]
              refine wpAnyH_ready (rs := [13]) (by kernel_rfl) (by simp) ?_
              refine (AllReadyH.cons rfl (fun K hK => ?_) AllReadyH.nil)
              go_simp
              refine hK.out _ _ O3 (fun _ => ?_)
              clear hK K
              try simp only [Act.put, List.setIfInBounds_toArray, List.set_cons_zero, List.set_cons_succ]
              clear r0 rf0 t0 tf0 r1 rf1 t1 tf1 r2 rf2 t2 tf2 r3 rf3 t3 tf3 r4 rf4 t4 tf4
              refine wpAnyH_done (by kernel_rfl) ?_ _
              have b5 := ((((((bP.set5 (.int .i64 G.a) (.int .i64 G.b) (.int .i64 G.c) (.int .i64 G.d) (.int .i64 G.e)).far (C := Q) (o := 0) (u := .int .i64 J.a) hPQ).far (C := Q) (o := 1) (u := .int .i64 J.b) hPQ).far (C := Q) (o := 2) (u := .int .i64 J.c) hPQ).far (C := Q) (o := 3) (u := .int .i64 J.d) hPQ).far (C := Q) (o := 4) (u := .int .i64 J.e) hPQ)
              have d5 := ((((((bQ.far (C := P) (o := 0) (u := .int .i64 G.a) hPQ.symm).far (C := P) (o := 1) (u := .int .i64 G.b) hPQ.symm).far (C := P) (o := 2) (u := .int .i64 G.c) hPQ.symm).far (C := P) (o := 3) (u := .int .i64 G.d) hPQ.symm).far (C := P) (o := 4) (u := .int .i64 G.e) hPQ.symm)).set5 (.int .i64 J.a) (.int .i64 J.b) (.int .i64 J.c) (.int .i64 J.d) (.int .i64 J.e)
              go_wp2_with fail
              go_meet
              case rel => exact ⟨P, Q, rfl, rfl, rfl, O3, b5, d5⟩
          · go_simp
            have hVP := O.size
            obtain ⟨bP, hb, z⟩ := one u0ac [.int .i64 0, .int .i64 0, .int .i64 0, .int .i64 0, .int .i64 0] 25
            replace O := over_step O hb
            have hPQ : u0ac.heap.size ≠ Q := Nat.ne_of_gt bQ.lt
            replace bQ := bQ.keep hb
            clear z hb
            refine hK.out _ _ O (fun _ => ?_)
            clear hK K
            try simp only [Act.put, List.setIfInBounds_toArray, List.set_cons_zero, List.set_cons_succ]
            obtain ⟨P, eB⟩ : ∃ B, B = u0ac.heap.size := ⟨_, rfl⟩
            obtain ⟨u0aca, eW⟩ : ∃ u, u = u0ac.alloc (.cells #[.int .i64 0, .int .i64 0, .int .i64 0, .int .i64 0, .int .i64 0] 25) := ⟨_, rfl⟩
            rw [← eW] at bP O bQ ⊢
            rw [← eB] at bP hVP hPQ ⊢
            clear eW eB
            refine wpAnyH_ready (rs := [3]) (by kernel_rfl) (by simp) ?_
            refine (AllReadyH.cons rfl (fun K hK => ?_) AllReadyH.nil)
            go_simp
            refine (toCf_any ba bi bh bp _).mono ?_
            rintro e u0acac ⟨rfl, hb⟩
            replace bP := bP.keep hb
            replace bQ := bQ.keep hb
            replace O := over_step O hb
            clear hb
            refine hK.out _ _ O (fun _ => ?_)
            clear hK K
            try simp only [Act.put, List.setIfInBounds_toArray, List.set_cons_zero, List.set_cons_succ]
            refine wpAnyH_ready (rs := [4]) (by kernel_rfl) (by simp) ?_
            refine (AllReadyH.cons rfl (fun K hK => ?_) AllReadyH.nil)
            go_simp
            refine (iGreet_t u _ (over_cell O (World.block_lt_of_cell? wc _ HU2.out.1) HU2.out.1) (over_cell O (World.block_lt_of_cell? wc _ HU2.out.2) HU2.out.2) H).mono ?_
            rintro e u0acacc ⟨rfl, hb⟩
            replace bP := bP.keep hb
            replace bQ := bQ.keep hb
            replace O := over_step O hb
            clear hb
            refine hK.out _ _ O (fun _ => ?_)
            clear hK K
            try simp only [Act.put, List.setIfInBounds_toArray, List.set_cons_zero, List.set_cons_succ]
            refine wpAnyH_take (i := 5) (v := ?_) rfl (by kernel_rfl) (by kernel_rfl) (by kernel_rfl) (fun _ _ _ h => h) (Or.inl ⟨by rfl, ?_⟩) O ?_
            rotate_left
            · intro wq hSq
              (try dsimp only at hSq)

              go_simp
              try rfl
            change wpAnyH _ _ _ _ _ _ _ (Act.put _ (some 20) _) _
            simp only [Act.put, List.setIfInBounds_toArray, List.set_cons_succ, List.set_cons_zero]
            refine wpAnyH_take (i := 6) (v := ?_) rfl (by kernel_rfl) (by kernel_rfl) (by kernel_rfl) (fun _ _ _ h => h) (Or.inl ⟨by rfl, ?_⟩) O ?_
            rotate_left
            · intro wq hSq
              (try dsimp only at hSq)

              go_simp
              try rfl
            change wpAnyH _ _ _ _ _ _ _ (Act.put _ (some 26) _) _
            simp only [Act.put, List.setIfInBounds_toArray, List.set_cons_succ, List.set_cons_zero]
            refine wpAnyH_take (i := 7) (v := ?_) rfl (by kernel_rfl) (by kernel_rfl) (by kernel_rfl) (fun _ _ _ h => h) (Or.inl ⟨by rfl, ?_⟩) O ?_
            rotate_left
            · intro wq hSq
              (try dsimp only at hSq)

              go_simp
              try rfl
            change wpAnyH _ _ _ _ _ _ _ (Act.put _ (some 27) _) _
            simp only [Act.put, List.setIfInBounds_toArray, List.set_cons_succ, List.set_cons_zero]
            refine wpAnyH_take (i := 8) (v := ?_) rfl (by kernel_rfl) (by kernel_rfl) (by kernel_rfl) (fun _ _ _ h => h) (Or.inl ⟨by rfl, ?_⟩) O ?_
            rotate_left
            · intro wq hSq
              (try dsimp only at hSq)

              go_simp
              try rfl
            change wpAnyH _ _ _ _ _ _ _ (Act.put _ (some 28) _) _
            simp only [Act.put, List.setIfInBounds_toArray, List.set_cons_succ, List.set_cons_zero]
            have r0 := bP.c 0 rfl
            have rf0 := bP.f 0 (x := _) rfl
            have t0 := bQ.c 0 rfl
            have tf0 := bQ.f 0 (x := _) rfl
            have r1 := bP.c 1 rfl
            have rf1 := bP.f 1 (x := _) rfl
            have t1 := bQ.c 1 rfl
            have tf1 := bQ.f 1 (x := _) rfl
            have r2 := bP.c 2 rfl
            have rf2 := bP.f 2 (x := _) rfl
            have t2 := bQ.c 2 rfl
            have tf2 := bQ.f 2 (x := _) rfl
            have r3 := bP.c 3 rfl
            have rf3 := bP.f 3 (x := _) rfl
            have t3 := bQ.c 3 rfl
            have tf3 := bQ.f 3 (x := _) rfl
            have r4 := bP.c 4 rfl
            have rf4 := bP.f 4 (x := _) rfl
            have t4 := bQ.c 4 rfl
            have tf4 := bQ.f 4 (x := _) rfl
            refine wpAnyH_ready (rs := [11]) (by kernel_rfl) (by simp) ?_
            refine (AllReadyH.cons rfl (fun K hK => ?_) AllReadyH.nil)
            go_simp
            have O2 := below_set5 O (B := P) hVP (.int .i64 G.a) (.int .i64 G.b) (.int .i64 G.c) (.int .i64 G.d) (.int .i64 G.e)
            refine hK.out _ _ O2 (fun _ => ?_)
            clear hK K
            try simp only [Act.put, List.setIfInBounds_toArray, List.set_cons_zero, List.set_cons_succ]
            refine wpAnyH_ready (rs := [12]) (by kernel_rfl) (by simp) ?_
            refine (AllReadyH.cons rfl (fun K hK => ?_) AllReadyH.nil)
            go_simp
            have O3 := below_set5 O2 (B := Q) hVQ (.int .i64 J.a) (.int .i64 J.b) (.int .i64 J.c) (.int .i64 J.d) (.int .i64 J.e)
            refine hK.out _ _ O3 (fun _ => ?_)
            clear hK K
            try simp only [Act.put, List.setIfInBounds_toArray, List.set_cons_zero, List.set_cons_succ]
            refine wpAnyH_ready (rs := [13]) (by kernel_rfl) (by simp) ?_
            refine (AllReadyH.cons rfl (fun K hK => ?_) AllReadyH.nil)
            go_simp
            refine hK.out _ _ O3 (fun _ => ?_)
            clear hK K
            try simp only [Act.put, List.setIfInBounds_toArray, List.set_cons_zero, List.set_cons_succ]
            clear r0 rf0 t0 tf0 r1 rf1 t1 tf1 r2 rf2 t2 tf2 r3 rf3 t3 tf3 r4 rf4 t4 tf4
            refine wpAnyH_done (by kernel_rfl) ?_ _
            have b5 := ((((((bP.set5 (.int .i64 G.a) (.int .i64 G.b) (.int .i64 G.c) (.int .i64 G.d) (.int .i64 G.e)).far (C := Q) (o := 0) (u := .int .i64 J.a) hPQ).far (C := Q) (o := 1) (u := .int .i64 J.b) hPQ).far (C := Q) (o := 2) (u := .int .i64 J.c) hPQ).far (C := Q) (o := 3) (u := .int .i64 J.d) hPQ).far (C := Q) (o := 4) (u := .int .i64 J.e) hPQ)
            have d5 := ((((((bQ.far (C := P) (o := 0) (u := .int .i64 G.a) hPQ.symm).far (C := P) (o := 1) (u := .int .i64 G.b) hPQ.symm).far (C := P) (o := 2) (u := .int .i64 G.c) hPQ.symm).far (C := P) (o := 3) (u := .int .i64 G.d) hPQ.symm).far (C := P) (o := 4) (u := .int .i64 G.e) hPQ.symm)).set5 (.int .i64 J.a) (.int .i64 J.b) (.int .i64 J.c) (.int .i64 J.d) (.int .i64 J.e)
            go_wp2_with fail
            go_meet
            case rel => exact ⟨P, Q, rfl, rfl, rfl, O3, b5, d5⟩
        · go_simp
          have hVP := O.size
          obtain ⟨bP, hb, z⟩ := one u0a [.int .i64 0, .int .i64 0, .int .i64 0, .int .i64 0, .int .i64 0] 25
          replace O := over_step O hb
          have hPQ : u0a.heap.size ≠ Q := Nat.ne_of_gt bQ.lt
          replace bQ := bQ.keep hb
          clear z hb
          refine hK.out _ _ O (fun _ => ?_)
          clear hK K
          try simp only [Act.put, List.setIfInBounds_toArray, List.set_cons_zero, List.set_cons_succ]
          obtain ⟨P, eB⟩ : ∃ B, B = u0a.heap.size := ⟨_, rfl⟩
          obtain ⟨u0aa, eW⟩ : ∃ u, u = u0a.alloc (.cells #[.int .i64 0, .int .i64 0, .int .i64 0, .int .i64 0, .int .i64 0] 25) := ⟨_, rfl⟩
          rw [← eW] at bP O bQ ⊢
          rw [← eB] at bP hVP hPQ ⊢
          clear eW eB
          refine wpAnyH_ready (rs := [1]) (by kernel_rfl) (by simp) ?_
          refine (AllReadyH.cons rfl (fun K hK => ?_) AllReadyH.nil)
          go_simp
          refine (toCf_any aa ai ah ap _).mono ?_
          rintro e u0aac ⟨rfl, hb⟩
          replace bP := bP.keep hb
          replace bQ := bQ.keep hb
          replace O := over_step O hb
          clear hb
          refine hK.out _ _ O (fun _ => ?_)
          clear hK K
          try simp only [Act.put, List.setIfInBounds_toArray, List.set_cons_zero, List.set_cons_succ]
          refine wpAnyH_ready (rs := [3]) (by kernel_rfl) (by simp) ?_
          refine (AllReadyH.cons rfl (fun K hK => ?_) AllReadyH.nil)
          go_simp
          refine (toCf_any ba bi bh bp _).mono ?_
          rintro e u0aacc ⟨rfl, hb⟩
          replace bP := bP.keep hb
          replace bQ := bQ.keep hb
          replace O := over_step O hb
          clear hb
          refine hK.out _ _ O (fun _ => ?_)
          clear hK K
          try simp only [Act.put, List.setIfInBounds_toArray, List.set_cons_zero, List.set_cons_succ]
          refine wpAnyH_ready (rs := [4]) (by kernel_rfl) (by simp) ?_
          refine (AllReadyH.cons rfl (fun K hK => ?_) AllReadyH.nil)
          go_simp
          refine (iGreet_t u _ (over_cell O (World.block_lt_of_cell? wc _ HU2.out.1) HU2.out.1) (over_cell O (World.block_lt_of_cell? wc _ HU2.out.2) HU2.out.2) H).mono ?_
          rintro e u0aaccc ⟨rfl, hb⟩
          replace bP := bP.keep hb
          replace bQ := bQ.keep hb
          replace O := over_step O hb
          clear hb
          refine hK.out _ _ O (fun _ => ?_)
          clear hK K
          try simp only [Act.put, List.setIfInBounds_toArray, List.set_cons_zero, List.set_cons_succ]
          refine wpAnyH_take (i := 5) (v := ?_) rfl (by kernel_rfl) (by kernel_rfl) (by kernel_rfl) (fun _ _ _ h => h) (Or.inl ⟨by rfl, ?_⟩) O ?_
          rotate_left
          · intro wq hSq
            (try dsimp only at hSq)

            go_simp
            try rfl
          change wpAnyH _ _ _ _ _ _ _ (Act.put _ (some 20) _) _
          simp only [Act.put, List.setIfInBounds_toArray, List.set_cons_succ, List.set_cons_zero]
          refine wpAnyH_take (i := 6) (v := ?_) rfl (by kernel_rfl) (by kernel_rfl) (by kernel_rfl) (fun _ _ _ h => h) (Or.inl ⟨by rfl, ?_⟩) O ?_
          rotate_left
          · intro wq hSq
            (try dsimp only at hSq)

            go_simp
            try rfl
          change wpAnyH _ _ _ _ _ _ _ (Act.put _ (some 26) _) _
          simp only [Act.put, List.setIfInBounds_toArray, List.set_cons_succ, List.set_cons_zero]
          refine wpAnyH_take (i := 7) (v := ?_) rfl (by kernel_rfl) (by kernel_rfl) (by kernel_rfl) (fun _ _ _ h => h) (Or.inl ⟨by rfl, ?_⟩) O ?_
          rotate_left
          · intro wq hSq
            (try dsimp only at hSq)

            go_simp
            try rfl
          change wpAnyH _ _ _ _ _ _ _ (Act.put _ (some 27) _) _
          simp only [Act.put, List.setIfInBounds_toArray, List.set_cons_succ, List.set_cons_zero]
          refine wpAnyH_take (i := 8) (v := ?_) rfl (by kernel_rfl) (by kernel_rfl) (by kernel_rfl) (fun _ _ _ h => h) (Or.inl ⟨by rfl, ?_⟩) O ?_
          rotate_left
          · intro wq hSq
            (try dsimp only at hSq)

            go_simp
            try rfl
          change wpAnyH _ _ _ _ _ _ _ (Act.put _ (some 28) _) _
          simp only [Act.put, List.setIfInBounds_toArray, List.set_cons_succ, List.set_cons_zero]
          have r0 := bP.c 0 rfl
          have rf0 := bP.f 0 (x := _) rfl
          have t0 := bQ.c 0 rfl
          have tf0 := bQ.f 0 (x := _) rfl
          have r1 := bP.c 1 rfl
          have rf1 := bP.f 1 (x := _) rfl
          have t1 := bQ.c 1 rfl
          have tf1 := bQ.f 1 (x := _) rfl
          have r2 := bP.c 2 rfl
          have rf2 := bP.f 2 (x := _) rfl
          have t2 := bQ.c 2 rfl
          have tf2 := bQ.f 2 (x := _) rfl
          have r3 := bP.c 3 rfl
          have rf3 := bP.f 3 (x := _) rfl
          have t3 := bQ.c 3 rfl
          have tf3 := bQ.f 3 (x := _) rfl
          have r4 := bP.c 4 rfl
          have rf4 := bP.f 4 (x := _) rfl
          have t4 := bQ.c 4 rfl
          have tf4 := bQ.f 4 (x := _) rfl
          refine wpAnyH_ready (rs := [11]) (by kernel_rfl) (by simp) ?_
          refine (AllReadyH.cons rfl (fun K hK => ?_) AllReadyH.nil)
          go_simp
          have O2 := below_set5 O (B := P) hVP (.int .i64 G.a) (.int .i64 G.b) (.int .i64 G.c) (.int .i64 G.d) (.int .i64 G.e)
          refine hK.out _ _ O2 (fun _ => ?_)
          clear hK K
          try simp only [Act.put, List.setIfInBounds_toArray, List.set_cons_zero, List.set_cons_succ]
          refine wpAnyH_ready (rs := [12]) (by kernel_rfl) (by simp) ?_
          refine (AllReadyH.cons rfl (fun K hK => ?_) AllReadyH.nil)
          go_simp
          have O3 := below_set5 O2 (B := Q) hVQ (.int .i64 J.a) (.int .i64 J.b) (.int .i64 J.c) (.int .i64 J.d) (.int .i64 J.e)
          refine hK.out _ _ O3 (fun _ => ?_)
          clear hK K
          try simp only [Act.put, List.setIfInBounds_toArray, List.set_cons_zero, List.set_cons_succ]
          refine wpAnyH_ready (rs := [13]) (by kernel_rfl) (by simp) ?_
          refine (AllReadyH.cons rfl (fun K hK => ?_) AllReadyH.nil)
          go_simp
          refine hK.out _ _ O3 (fun _ => ?_)
          clear hK K
          try simp only [Act.put, List.setIfInBounds_toArray, List.set_cons_zero, List.set_cons_succ]
          clear r0 rf0 t0 tf0 r1 rf1 t1 tf1 r2 rf2 t2 tf2 r3 rf3 t3 tf3 r4 rf4 t4 tf4
          refine wpAnyH_done (by kernel_rfl) ?_ _
          have b5 := ((((((bP.set5 (.int .i64 G.a) (.int .i64 G.b) (.int .i64 G.c) (.int .i64 G.d) (.int .i64 G.e)).far (C := Q) (o := 0) (u := .int .i64 J.a) hPQ).far (C := Q) (o := 1) (u := .int .i64 J.b) hPQ).far (C := Q) (o := 2) (u := .int .i64 J.c) hPQ).far (C := Q) (o := 3) (u := .int .i64 J.d) hPQ).far (C := Q) (o := 4) (u := .int .i64 J.e) hPQ)
          have d5 := ((((((bQ.far (C := P) (o := 0) (u := .int .i64 G.a) hPQ.symm).far (C := P) (o := 1) (u := .int .i64 G.b) hPQ.symm).far (C := P) (o := 2) (u := .int .i64 G.c) hPQ.symm).far (C := P) (o := 3) (u := .int .i64 G.d) hPQ.symm).far (C := P) (o := 4) (u := .int .i64 G.e) hPQ.symm)).set5 (.int .i64 J.a) (.int .i64 J.b) (.int .i64 J.c) (.int .i64 J.d) (.int .i64 J.e)
          go_wp2_with fail
          go_meet
          case rel => exact ⟨P, Q, rfl, rfl, rfl, O3, b5, d5⟩
    case rest =>
      obtain ⟨P2, Q2, rfl, rfl, rfl, O2, bP2, bQ2⟩ := hcut
      replace bP1 := bP1.keep O2
      replace bQ1 := bQ1.keep O2
      replace B0 := below_step B0 O2
      clear O2 HU2 bA bB
      have x0 := bP2.c 0 rfl
      have x1 := bP2.c 1 rfl
      have x2 := bP2.c 2 rfl
      have x3 := bP2.c 3 rfl
      have x4 := bP2.c 4 rfl
      have y0 := bP1.c 0 rfl
      have y1 := bP1.c 1 rfl
      have y2 := bP1.c 2 rfl
      have y3 := bP1.c 3 rfl
      have y4 := bP1.c 4 rfl
      go_wp2_with fail
      clear x0 x1 x2 x3 x4
      clear y0 y1 y2 y3 y4
      refine (eqSn_sameG G.a G.b G.c G.d G.e _).mono ?_
      rintro e w8 ⟨rfl, hb⟩
      replace bQ1 := bQ1.keep hb
      replace bQ2 := bQ2.keep hb
      replace B0 := below_step B0 hb
      clear hb bP1 bP2
      have x0 := bQ2.c 0 rfl
      have x1 := bQ2.c 1 rfl
      have x2 := bQ2.c 2 rfl
      have x3 := bQ2.c 3 rfl
      have x4 := bQ2.c 4 rfl
      have y0 := bQ1.c 0 rfl
      have y1 := bQ1.c 1 rfl
      have y2 := bQ1.c 2 rfl
      have y3 := bQ1.c 3 rfl
      have y4 := bQ1.c 4 rfl
      go_wp2_with fail
      clear x0 x1 x2 x3 x4
      clear y0 y1 y2 y3 y4
      refine (eqSn_sameG J.a J.b J.c J.d J.e _).mono ?_
      rintro e w9 ⟨rfl, hb⟩
      replace B0 := below_step B0 hb
      clear hb bQ1 bQ2
      go_wp2
      go_ret
      exact ⟨rfl, B0⟩
end Go.Proofs.YtnklnibjlhnicaaRRRRDoor
