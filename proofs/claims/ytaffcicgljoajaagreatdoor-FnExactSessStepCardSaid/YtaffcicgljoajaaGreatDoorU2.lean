/-
  The law on SessStep, walked. Conditions: those in the statement.
-/
import Derived.Test.YtaffcicgljoajaaGreatDoorU1
import Derived.Test.YtaffcicgljoajaaGreatDoorS2
import Derived.Outline
namespace Go.Proofs.YtaffcicgljoajaaGreatDoor
open Go.ChangeShapes Go.WideShapes Go.ChangeAt Go.RowKit Go.BigFrame Go.Joins
set_option linter.unusedVariables false
set_option maxRecDepth 100000
set_option linter.unusedSimpArgs false

set_option maxHeartbeats 8000000 in
theorem sessStep_walk (W : World) (v0 v1 v2 : Value) (w0 : Is_Conf W v0) (w1 : Is_Session W v1) (w2 : Is_Event W v2) (u : Value) (hu : W.cell? ⟨0, 0, none⟩ = some (.iface 177 u)) (hg1 : W.cell? ⟨1, 0, none⟩ = some (.iface 164 (.agg #[.pointer (some ⟨2, 102, none⟩)]))) :
    Calls Tryz.prog 5 #[v0, v1, v2] W fun e w' => e = .returned (.bool true) ∧ Below W.heap.size W w' := by
  obtain ⟨xa, xi, xh, xp, rfl⟩ := w0
  obtain ⟨s0, s1, s2, s3, s4, rfl⟩ := w1
  obtain ⟨gv, cv, pv, mv, gs, cs, ps, ms, ek, ee, kn, sa, ho, ix, pr, bw, er, rfl, hg, hc, hp, hm⟩ := w2
  obtain ⟨ga, gx, rfl⟩ := hg.len
  obtain ⟨ca, cx, rfl⟩ := hc.len
  obtain ⟨pa, px, rfl⟩ := hp.len
  obtain ⟨ma, mx, rfl⟩ := hm.len
  obtain ⟨bA, bS, bE, B0, z⟩ := three W [.int .i64 xa, .int .i64 xi, .int .i64 xh, .int .i64 xp] [.int .i64 s0, .int .i64 s1, .int .i64 s2, .int .i64 s3, .int .i64 s4] [.int .i64 ek, .int .i64 kn, .int .i64 sa, .int .i64 ho, .int .i64 ix, .slice ga gs.length gx, .slice ca cs.length cx, .slice pa ps.length px, .int .i64 pr, .slice ma ms.length mx, .int .i64 bw, .int .i64 er, .int .i64 ee] 47 48 54
  replace hg := hg.keep B0
  replace hc := hc.keep B0
  replace hp := hp.keep B0
  replace hm := hm.keep B0
  replace hu := cell_keep B0 (World.block_lt_of_cell? W _ hu) hu
  replace hg1 := cell_keep B0 (World.block_lt_of_cell? W _ hg1) hg1
  clear z
  obtain ⟨R, hR⟩ : ∃ R, R = (ssF xa xi xh xp s0 s1 s2 s3 s4 gs cs ps ms ek ee kn sa ho ix pr bw er) := ⟨_, rfl⟩
  have HR := Lib.hid hR
  have HL1 : Hid (R.l = [] ∨ ∃ m, R.l = [m]) := Lib.hid (by rw [hR]; exact ssF_l xa xi xh xp s0 s1 s2 s3 s4 ga ca pa ma gx cx px mx gs cs ps ms ek ee kn sa ho ix pr bw er)
  clear hR
  have fa0 := bE.c 0 rfl
  have fa1 := bE.c 1 rfl
  have fa2 := bE.c 2 rfl
  have fa3 := bE.c 3 rfl
  have fa4 := bE.c 4 rfl
  have fa5 := bE.c 5 rfl
  have fa6 := bE.c 6 rfl
  have fa7 := bE.c 7 rfl
  have fa8 := bE.c 8 rfl
  have fa9 := bE.c 9 rfl
  have fa10 := bE.c 10 rfl
  have fa11 := bE.c 11 rfl
  have fa12 := bE.c 12 rfl
  go_enter Tryz.func5, Tryz.ntmps5
  go_wp2_with fail
  clear fa0 fa1 fa2 fa3 fa4 fa5 fa6 fa7 fa8 fa9 fa10 fa11 fa12
  refine (szE_any _ _ _ _ gs cs ps ms ek ee kn sa ho ix pr bw er _ hg hc hp hm).mono ?_
  rintro e V1 ⟨r, rfl, hlen, hb⟩
  replace hu := cell_keep hb (World.block_lt_of_cell? _ _ hu) hu
  replace hg1 := cell_keep hb (World.block_lt_of_cell? _ _ hg1) hg1
  replace bA := bA.keep hb
  replace bS := bS.keep hb
  replace bE := bE.keep hb
  replace hg := hg.keep hb
  replace hc := hc.keep hb
  replace hp := hp.keep hb
  replace hm := hm.keep hb
  replace B0 := below_step B0 hb
  clear hb
  by_cases hr : r < 0
  · clear hlen
    go_wp2
    go_ret
    exact ⟨rfl, B0⟩
  obtain ⟨l0, l1, l2, l3⟩ := hlen hr
  have L0 := Lib.hid l0
  have L1 := Lib.hid l1
  have L2 := Lib.hid l2
  have L3 := Lib.hid l3
  have HG := Lib.hid hg
  have HC := Lib.hid hc
  have HP := Lib.hid hp
  have HM := Lib.hid hm
  have HU := Lib.hid (And.intro hu (World.block_lt_of_cell? _ _ hu))
  have HT := Lib.hid (And.intro hg1 (World.block_lt_of_cell? _ _ hg1))
  clear hlen l0 l1 l2 l3 hg hc hp hm hu hg1
  go_wp2_with fail
  go_cut [8, 9] from 23 to 32 (fun s8 s9 wx => Kept V1 wx R s8 s9)
  case first =>
    refine wp_region_held_drew (S := fun w' => Over V1 w') (by kernel_rfl) (over_drew V1) (fun hHeld => ?_)
    obtain ⟨u0, e0⟩ : ∃ u, u = V1.drew := ⟨_, rfl⟩
    have O : Over V1 u0 := by rw [e0]; exact over_drew V1
    rw [← e0]
    clear e0 hHeld
    refine wpAnyH_take (i := 0) (v := ?_) rfl (by kernel_rfl) (by kernel_rfl) (by kernel_rfl) (fun _ _ _ h => h) (Or.inl ⟨by rfl, ?_⟩) O ?_
    rotate_left
    · intro wq hSq
      (try dsimp only at hSq)
      have q0 := bA.o hSq 0 rfl
      have q1 := bA.o hSq 1 rfl
      have q2 := bA.o hSq 2 rfl
      have q3 := bA.o hSq 3 rfl
      go_simp
      try rfl
    change wpAnyH _ _ _ _ _ _ _ (Act.put _ (some 24) _) _
    simp only [Act.put, List.setIfInBounds_toArray, List.set_cons_succ, List.set_cons_zero]
    refine wpAnyH_take (i := 2) (v := ?_) rfl (by kernel_rfl) (by kernel_rfl) (by kernel_rfl) (fun _ _ _ h => h) (Or.inl ⟨by rfl, ?_⟩) O ?_
    rotate_left
    · intro wq hSq
      (try dsimp only at hSq)
      have q0 := bS.o hSq 0 rfl
      have q1 := bS.o hSq 1 rfl
      have q2 := bS.o hSq 2 rfl
      have q3 := bS.o hSq 3 rfl
      have q4 := bS.o hSq 4 rfl
      go_simp
      try rfl
    change wpAnyH _ _ _ _ _ _ _ (Act.put _ (some 26) _) _
    simp only [Act.put, List.setIfInBounds_toArray, List.set_cons_succ, List.set_cons_zero]
    refine wpAnyH_take (i := 4) (v := ?_) rfl (by kernel_rfl) (by kernel_rfl) (by kernel_rfl) (fun _ _ _ h => h) (Or.inl ⟨by rfl, ?_⟩) O ?_
    rotate_left
    · intro wq hSq
      (try dsimp only at hSq)
      have q0 := bE.o hSq 0 rfl
      have q1 := bE.o hSq 1 rfl
      have q2 := bE.o hSq 2 rfl
      have q3 := bE.o hSq 3 rfl
      have q4 := bE.o hSq 4 rfl
      have q5 := bE.o hSq 5 rfl
      have q6 := bE.o hSq 6 rfl
      have q7 := bE.o hSq 7 rfl
      have q8 := bE.o hSq 8 rfl
      have q9 := bE.o hSq 9 rfl
      have q10 := bE.o hSq 10 rfl
      have q11 := bE.o hSq 11 rfl
      have q12 := bE.o hSq 12 rfl
      go_simp
      try rfl
    change wpAnyH _ _ _ _ _ _ _ (Act.put _ (some 28) _) _
    simp only [Act.put, List.setIfInBounds_toArray, List.set_cons_succ, List.set_cons_zero]
    refine wpAnyH_ready (rs := [1, 10]) (by kernel_rfl) (by simp) ?_
    refine (AllReadyH.cons rfl (fun K hK => ?_) (AllReadyH.cons rfl (fun K hK => ?_) AllReadyH.nil))
    · go_simp
      refine (toCf_any xa xi xh xp _).mono ?_
      rintro e u0c ⟨rfl, hb⟩
      have O := over_step O hb
      clear hb
      refine hK.out _ _ O (fun _ => ?_)
      clear hK K
      try simp only [Act.put, List.setIfInBounds_toArray, List.set_cons_zero, List.set_cons_succ]
      refine wpAnyH_ready (rs := [3, 10]) (by kernel_rfl) (by simp) ?_
      refine (AllReadyH.cons rfl (fun K hK => ?_) (AllReadyH.cons rfl (fun K hK => ?_) AllReadyH.nil))
      · go_simp
        refine (toS_any s0 s1 s2 s3 s4 _).mono ?_
        rintro e u0cc ⟨rfl, hb⟩
        have O := over_step O hb
        clear hb
        refine hK.out _ _ O (fun _ => ?_)
        clear hK K
        try simp only [Act.put, List.setIfInBounds_toArray, List.set_cons_zero, List.set_cons_succ]
        refine wpAnyH_ready (rs := [5, 10]) (by kernel_rfl) (by simp) ?_
        refine (AllReadyH.cons rfl (fun K hK => ?_) (AllReadyH.cons rfl (fun K hK => ?_) AllReadyH.nil))
        · go_simp
          refine (toE_any _ _ _ _ gs cs ps ms ek ee kn sa ho ix pr bw er _ (HG.out.keep O) (HC.out.keep O) (HP.out.keep O) (HM.out.keep O) L0.out L1.out L2.out L3.out).mono ?_
          rintro e u0ccc ⟨g2, gx2, c2, cx2, p2, px2, m2, mx2, rfl, hG2, hC2, hP2, hM2, -, -, -, -, -, -, hb⟩
          have O := over_step O hb
          clear hb
          refine hK.out _ _ O (fun _ => ?_)
          clear hK K
          try simp only [Act.put, List.setIfInBounds_toArray, List.set_cons_zero, List.set_cons_succ]
          refine wpAnyH_ready (rs := [6, 10]) (by kernel_rfl) (by simp) ?_
          refine (AllReadyH.cons rfl (fun K hK => ?_) (AllReadyH.cons rfl (fun K hK => ?_) AllReadyH.nil))
          · go_simp
            refine ((sSS_any xa xi xh xp s0 s1 s2 s3 s4 _ _ _ _ _ _ _ _ gs cs ps ms ek ee kn sa ho ix pr bw er _ hG2.rd hC2.rd (hP2.rd HP.out.1) (hM2.rd HM.out.1) L0.out L1.out L2.out L3.out)).mono ?_
            rw [← HR.out]
            rintro e u0cccc ⟨uq, rfl, ho_, hb⟩
            have hOS := O.size
            replace hG2 := hG2.keep hb
            replace hC2 := hC2.keep hb
            replace hP2 := hP2.keep hb
            replace hM2 := hM2.keep hb
            have O := over_step O hb
            obtain ⟨loq, eL⟩ : ∃ q, q = u0ccc.heap.size := ⟨_, rfl⟩
            obtain ⟨hiq, eH⟩ : ∃ q, q = u0cccc.heap.size := ⟨_, rfl⟩
            rw [← eL] at ho_
            have hGM := GM.of ho_ HL1.out
            rw [← eH] at hGM
            have hqV : V1.heap.size ≤ loq := by rw [eL]; exact hOS
            have hqs : hiq ≤ u0cccc.heap.size := Nat.le_of_eq eH

            clear ho_ eH eL hOS
            clear hb
            refine hK.out _ _ O (fun _ => ?_)
            clear hK K
            try simp only [Act.put, List.setIfInBounds_toArray, List.set_cons_zero, List.set_cons_succ]
            refine wpAnyH_take (i := 7) (v := ?_) rfl (by kernel_rfl) (by kernel_rfl) (by kernel_rfl) (fun _ _ _ h => h) (Or.inl ⟨by rfl, ?_⟩) O ?_
            rotate_left
            · intro wq hSq
              (try dsimp only at hSq)

              go_simp
              try rfl
            change wpAnyH _ _ _ _ _ _ _ (Act.put _ (some 23) _) _
            simp only [Act.put, List.setIfInBounds_toArray, List.set_cons_succ, List.set_cons_zero]
            refine wpAnyH_take (i := 8) (v := ?_) rfl (by kernel_rfl) (by kernel_rfl) (by kernel_rfl) (fun _ _ _ h => h) (Or.inl ⟨by rfl, ?_⟩) O ?_
            rotate_left
            · intro wq hSq
              (try dsimp only at hSq)

              go_simp
              try rfl
            change wpAnyH _ _ _ _ _ _ _ (Act.put _ (some 31) _) _
            simp only [Act.put, List.setIfInBounds_toArray, List.set_cons_succ, List.set_cons_zero]
            refine wpAnyH_take (i := 9) (v := ?_) rfl (by kernel_rfl) (by kernel_rfl) (by kernel_rfl) (fun _ _ _ h => h) (Or.inl ⟨by rfl, ?_⟩) O ?_
            rotate_left
            · intro wq hSq
              (try dsimp only at hSq)

              go_simp
              try rfl
            change wpAnyH _ _ _ _ _ _ _ (Act.put _ (some 32) _) _
            simp only [Act.put, List.setIfInBounds_toArray, List.set_cons_succ, List.set_cons_zero]
            refine wpAnyH_ready (rs := [10]) (by kernel_rfl) (by simp) ?_
            refine (AllReadyH.cons rfl (fun K hK => ?_) AllReadyH.nil)
            go_simp
            have hOs := O.size
            obtain ⟨bN, hb, z⟩ := one u0cccc [.int .i64 0, .int .i64 0, .int .i64 0, .int .i64 0, .int .i64 0] 26
            have O := over_step O hb
            replace hGM := hGM.keep hb
            have hqt := Nat.le_trans hqs hb.size
            clear z hb
            refine hK.out _ _ O (fun _ => ?_)
            clear hK K
            try simp only [Act.put, List.setIfInBounds_toArray, List.set_cons_zero, List.set_cons_succ]
            obtain ⟨B, eB⟩ : ∃ B, B = u0cccc.heap.size := ⟨_, rfl⟩
            have hBV : V1.heap.size ≤ B := by rw [eB]; exact hOs
            have hBq : hiq ≤ B := by rw [eB]; exact hqs
            obtain ⟨u0cccca, eW⟩ : ∃ u, u = u0cccc.alloc (.cells #[.int .i64 0, .int .i64 0, .int .i64 0, .int .i64 0, .int .i64 0] 26) := ⟨_, rfl⟩
            rw [← eW] at bN O hGM hqt ⊢
            rw [← eB] at bN ⊢
            replace hqs := hqt
            clear hqt
            clear eW eB hOs
            have r0 := bN.c 0 rfl
            have rf0 := bN.f 0 (x := _) rfl
            have r1 := bN.c 1 rfl
            have rf1 := bN.f 1 (x := _) rfl
            have r2 := bN.c 2 rfl
            have rf2 := bN.f 2 (x := _) rfl
            have r3 := bN.c 3 rfl
            have rf3 := bN.f 3 (x := _) rfl
            have r4 := bN.c 4 rfl
            have rf4 := bN.f 4 (x := _) rfl
            refine wpAnyH_ready (rs := [11]) (by kernel_rfl) (by simp) ?_
            refine (AllReadyH.cons rfl (fun K hK => ?_) AllReadyH.nil)
            go_simp
            have O2 := below_set5 O (B := B) hBV (.int .i64 R.a) (.int .i64 R.b) (.int .i64 R.c) (.int .i64 R.d) (.int .i64 R.e)
            refine hK.out _ _ O2 (fun _ => ?_)
            clear hK K
            try simp only [Act.put, List.setIfInBounds_toArray, List.set_cons_zero, List.set_cons_succ]
            refine wpAnyH_ready (rs := [12]) (by kernel_rfl) (by simp) ?_
            refine (AllReadyH.cons rfl (fun K hK => ?_) AllReadyH.nil)
            go_simp
            refine hK.out _ _ O2 (fun _ => ?_)
            clear hK K
            try simp only [Act.put, List.setIfInBounds_toArray, List.set_cons_zero, List.set_cons_succ]
            clear r0 rf0 r1 rf1 r2 rf2 r3 rf3 r4 rf4
            refine wpAnyH_done (by kernel_rfl) ?_ _
            have b5 := bN.set5 (.int .i64 R.a) (.int .i64 R.b) (.int .i64 R.c) (.int .i64 R.d) (.int .i64 R.e)
            have m5 := mid_set5 u0cccca B (.int .i64 R.a) (.int .i64 R.b) (.int .i64 R.c) (.int .i64 R.d) (.int .i64 R.e)
            have hD : hiq ≤ B ∨ B + 1 ≤ loq := by first | exact .inl hBq | exact .inr hqB
            have g5 := hGM.mid m5 hD
            have z5 := m5.size
            go_wp2_with fail
            go_meet
            case rel => exact ⟨B, loq, hiq, rfl, O2, b5, g5, hBV, hqV, Nat.le_trans hqs z5, hD⟩
          · go_simp
            have hOs := O.size
            obtain ⟨bN, hb, z⟩ := one u0ccc [.int .i64 0, .int .i64 0, .int .i64 0, .int .i64 0, .int .i64 0] 26
            have O := over_step O hb
            replace hG2 := hG2.keep hb
            replace hC2 := hC2.keep hb
            replace hP2 := hP2.keep hb
            replace hM2 := hM2.keep hb
            clear z hb
            refine hK.out _ _ O (fun _ => ?_)
            clear hK K
            try simp only [Act.put, List.setIfInBounds_toArray, List.set_cons_zero, List.set_cons_succ]
            obtain ⟨B, eB⟩ : ∃ B, B = u0ccc.heap.size := ⟨_, rfl⟩
            have hBV : V1.heap.size ≤ B := by rw [eB]; exact hOs
            obtain ⟨u0ccca, eW⟩ : ∃ u, u = u0ccc.alloc (.cells #[.int .i64 0, .int .i64 0, .int .i64 0, .int .i64 0, .int .i64 0] 26) := ⟨_, rfl⟩
            rw [← eW] at bN O hG2 hC2 hP2 hM2  ⊢
            rw [← eB] at bN ⊢
            clear eW eB hOs
            refine wpAnyH_ready (rs := [6]) (by kernel_rfl) (by simp) ?_
            refine (AllReadyH.cons rfl (fun K hK => ?_) AllReadyH.nil)
            go_simp
            refine ((sSS_any xa xi xh xp s0 s1 s2 s3 s4 _ _ _ _ _ _ _ _ gs cs ps ms ek ee kn sa ho ix pr bw er _ hG2.rd hC2.rd (hP2.rd HP.out.1) (hM2.rd HM.out.1) L0.out L1.out L2.out L3.out)).mono ?_
            rw [← HR.out]
            rintro e u0cccac ⟨uq, rfl, ho_, hb⟩
            have hOS := O.size
            have hqBl := bN.lt
            replace hG2 := hG2.keep hb
            replace hC2 := hC2.keep hb
            replace hP2 := hP2.keep hb
            replace hM2 := hM2.keep hb
            replace bN := bN.keep hb
            have O := over_step O hb
            obtain ⟨loq, eL⟩ : ∃ q, q = u0ccca.heap.size := ⟨_, rfl⟩
            obtain ⟨hiq, eH⟩ : ∃ q, q = u0cccac.heap.size := ⟨_, rfl⟩
            rw [← eL] at ho_
            have hGM := GM.of ho_ HL1.out
            rw [← eH] at hGM
            have hqV : V1.heap.size ≤ loq := by rw [eL]; exact hOS
            have hqs : hiq ≤ u0cccac.heap.size := Nat.le_of_eq eH
            have hqB : B + 1 ≤ loq := by rw [eL]; exact hqBl
            clear ho_ eH eL hOS
            clear hb
            refine hK.out _ _ O (fun _ => ?_)
            clear hK K
            try simp only [Act.put, List.setIfInBounds_toArray, List.set_cons_zero, List.set_cons_succ]
            refine wpAnyH_take (i := 7) (v := ?_) rfl (by kernel_rfl) (by kernel_rfl) (by kernel_rfl) (fun _ _ _ h => h) (Or.inl ⟨by rfl, ?_⟩) O ?_
            rotate_left
            · intro wq hSq
              (try dsimp only at hSq)

              go_simp
              try rfl
            change wpAnyH _ _ _ _ _ _ _ (Act.put _ (some 23) _) _
            simp only [Act.put, List.setIfInBounds_toArray, List.set_cons_succ, List.set_cons_zero]
            refine wpAnyH_take (i := 8) (v := ?_) rfl (by kernel_rfl) (by kernel_rfl) (by kernel_rfl) (fun _ _ _ h => h) (Or.inl ⟨by rfl, ?_⟩) O ?_
            rotate_left
            · intro wq hSq
              (try dsimp only at hSq)

              go_simp
              try rfl
            change wpAnyH _ _ _ _ _ _ _ (Act.put _ (some 31) _) _
            simp only [Act.put, List.setIfInBounds_toArray, List.set_cons_succ, List.set_cons_zero]
            refine wpAnyH_take (i := 9) (v := ?_) rfl (by kernel_rfl) (by kernel_rfl) (by kernel_rfl) (fun _ _ _ h => h) (Or.inl ⟨by rfl, ?_⟩) O ?_
            rotate_left
            · intro wq hSq
              (try dsimp only at hSq)

              go_simp
              try rfl
            change wpAnyH _ _ _ _ _ _ _ (Act.put _ (some 32) _) _
            simp only [Act.put, List.setIfInBounds_toArray, List.set_cons_succ, List.set_cons_zero]
            have r0 := bN.c 0 rfl
            have rf0 := bN.f 0 (x := _) rfl
            have r1 := bN.c 1 rfl
            have rf1 := bN.f 1 (x := _) rfl
            have r2 := bN.c 2 rfl
            have rf2 := bN.f 2 (x := _) rfl
            have r3 := bN.c 3 rfl
            have rf3 := bN.f 3 (x := _) rfl
            have r4 := bN.c 4 rfl
            have rf4 := bN.f 4 (x := _) rfl
            refine wpAnyH_ready (rs := [11]) (by kernel_rfl) (by simp) ?_
            refine (AllReadyH.cons rfl (fun K hK => ?_) AllReadyH.nil)
            go_simp
            have O2 := below_set5 O (B := B) hBV (.int .i64 R.a) (.int .i64 R.b) (.int .i64 R.c) (.int .i64 R.d) (.int .i64 R.e)
            refine hK.out _ _ O2 (fun _ => ?_)
            clear hK K
            try simp only [Act.put, List.setIfInBounds_toArray, List.set_cons_zero, List.set_cons_succ]
            refine wpAnyH_ready (rs := [12]) (by kernel_rfl) (by simp) ?_
            refine (AllReadyH.cons rfl (fun K hK => ?_) AllReadyH.nil)
            go_simp
            refine hK.out _ _ O2 (fun _ => ?_)
            clear hK K
            try simp only [Act.put, List.setIfInBounds_toArray, List.set_cons_zero, List.set_cons_succ]
            clear r0 rf0 r1 rf1 r2 rf2 r3 rf3 r4 rf4
            refine wpAnyH_done (by kernel_rfl) ?_ _
            have b5 := bN.set5 (.int .i64 R.a) (.int .i64 R.b) (.int .i64 R.c) (.int .i64 R.d) (.int .i64 R.e)
            have m5 := mid_set5 u0cccac B (.int .i64 R.a) (.int .i64 R.b) (.int .i64 R.c) (.int .i64 R.d) (.int .i64 R.e)
            have hD : hiq ≤ B ∨ B + 1 ≤ loq := by first | exact .inl hBq | exact .inr hqB
            have g5 := hGM.mid m5 hD
            have z5 := m5.size
            go_wp2_with fail
            go_meet
            case rel => exact ⟨B, loq, hiq, rfl, O2, b5, g5, hBV, hqV, Nat.le_trans hqs z5, hD⟩
        · go_simp
          have hOs := O.size
          obtain ⟨bN, hb, z⟩ := one u0cc [.int .i64 0, .int .i64 0, .int .i64 0, .int .i64 0, .int .i64 0] 26
          have O := over_step O hb
          clear z hb
          refine hK.out _ _ O (fun _ => ?_)
          clear hK K
          try simp only [Act.put, List.setIfInBounds_toArray, List.set_cons_zero, List.set_cons_succ]
          obtain ⟨B, eB⟩ : ∃ B, B = u0cc.heap.size := ⟨_, rfl⟩
          have hBV : V1.heap.size ≤ B := by rw [eB]; exact hOs
          obtain ⟨u0cca, eW⟩ : ∃ u, u = u0cc.alloc (.cells #[.int .i64 0, .int .i64 0, .int .i64 0, .int .i64 0, .int .i64 0] 26) := ⟨_, rfl⟩
          rw [← eW] at bN O   ⊢
          rw [← eB] at bN ⊢
          clear eW eB hOs
          refine wpAnyH_ready (rs := [5]) (by kernel_rfl) (by simp) ?_
          refine (AllReadyH.cons rfl (fun K hK => ?_) AllReadyH.nil)
          go_simp
          refine (toE_any _ _ _ _ gs cs ps ms ek ee kn sa ho ix pr bw er _ (HG.out.keep O) (HC.out.keep O) (HP.out.keep O) (HM.out.keep O) L0.out L1.out L2.out L3.out).mono ?_
          rintro e u0ccac ⟨g2, gx2, c2, cx2, p2, px2, m2, mx2, rfl, hG2, hC2, hP2, hM2, -, -, -, -, -, -, hb⟩
          replace bN := bN.keep hb
          have O := over_step O hb
          clear hb
          refine hK.out _ _ O (fun _ => ?_)
          clear hK K
          try simp only [Act.put, List.setIfInBounds_toArray, List.set_cons_zero, List.set_cons_succ]
          refine wpAnyH_ready (rs := [6]) (by kernel_rfl) (by simp) ?_
          refine (AllReadyH.cons rfl (fun K hK => ?_) AllReadyH.nil)
          go_simp
          refine ((sSS_any xa xi xh xp s0 s1 s2 s3 s4 _ _ _ _ _ _ _ _ gs cs ps ms ek ee kn sa ho ix pr bw er _ hG2.rd hC2.rd (hP2.rd HP.out.1) (hM2.rd HM.out.1) L0.out L1.out L2.out L3.out)).mono ?_
          rw [← HR.out]
          rintro e u0ccacc ⟨uq, rfl, ho_, hb⟩
          have hOS := O.size
          have hqBl := bN.lt
          replace bN := bN.keep hb
          replace hG2 := hG2.keep hb
          replace hC2 := hC2.keep hb
          replace hP2 := hP2.keep hb
          replace hM2 := hM2.keep hb
          have O := over_step O hb
          obtain ⟨loq, eL⟩ : ∃ q, q = u0ccac.heap.size := ⟨_, rfl⟩
          obtain ⟨hiq, eH⟩ : ∃ q, q = u0ccacc.heap.size := ⟨_, rfl⟩
          rw [← eL] at ho_
          have hGM := GM.of ho_ HL1.out
          rw [← eH] at hGM
          have hqV : V1.heap.size ≤ loq := by rw [eL]; exact hOS
          have hqs : hiq ≤ u0ccacc.heap.size := Nat.le_of_eq eH
          have hqB : B + 1 ≤ loq := by rw [eL]; exact hqBl
          clear ho_ eH eL hOS
          clear hb
          refine hK.out _ _ O (fun _ => ?_)
          clear hK K
          try simp only [Act.put, List.setIfInBounds_toArray, List.set_cons_zero, List.set_cons_succ]
          refine wpAnyH_take (i := 7) (v := ?_) rfl (by kernel_rfl) (by kernel_rfl) (by kernel_rfl) (fun _ _ _ h => h) (Or.inl ⟨by rfl, ?_⟩) O ?_
          rotate_left
          · intro wq hSq
            (try dsimp only at hSq)

            go_simp
            try rfl
          change wpAnyH _ _ _ _ _ _ _ (Act.put _ (some 23) _) _
          simp only [Act.put, List.setIfInBounds_toArray, List.set_cons_succ, List.set_cons_zero]
          refine wpAnyH_take (i := 8) (v := ?_) rfl (by kernel_rfl) (by kernel_rfl) (by kernel_rfl) (fun _ _ _ h => h) (Or.inl ⟨by rfl, ?_⟩) O ?_
          rotate_left
          · intro wq hSq
            (try dsimp only at hSq)

            go_simp
            try rfl
          change wpAnyH _ _ _ _ _ _ _ (Act.put _ (some 31) _) _
          simp only [Act.put, List.setIfInBounds_toArray, List.set_cons_succ, List.set_cons_zero]
          refine wpAnyH_take (i := 9) (v := ?_) rfl (by kernel_rfl) (by kernel_rfl) (by kernel_rfl) (fun _ _ _ h => h) (Or.inl ⟨by rfl, ?_⟩) O ?_
          rotate_left
          · intro wq hSq
            (try dsimp only at hSq)

            go_simp
            try rfl
          change wpAnyH _ _ _ _ _ _ _ (Act.put _ (some 32) _) _
          simp only [Act.put, List.setIfInBounds_toArray, List.set_cons_succ, List.set_cons_zero]
          have r0 := bN.c 0 rfl
          have rf0 := bN.f 0 (x := _) rfl
          have r1 := bN.c 1 rfl
          have rf1 := bN.f 1 (x := _) rfl
          have r2 := bN.c 2 rfl
          have rf2 := bN.f 2 (x := _) rfl
          have r3 := bN.c 3 rfl
          have rf3 := bN.f 3 (x := _) rfl
          have r4 := bN.c 4 rfl
          have rf4 := bN.f 4 (x := _) rfl
          refine wpAnyH_ready (rs := [11]) (by kernel_rfl) (by simp) ?_
          refine (AllReadyH.cons rfl (fun K hK => ?_) AllReadyH.nil)
          go_simp
          have O2 := below_set5 O (B := B) hBV (.int .i64 R.a) (.int .i64 R.b) (.int .i64 R.c) (.int .i64 R.d) (.int .i64 R.e)
          refine hK.out _ _ O2 (fun _ => ?_)
          clear hK K
          try simp only [Act.put, List.setIfInBounds_toArray, List.set_cons_zero, List.set_cons_succ]
          refine wpAnyH_ready (rs := [12]) (by kernel_rfl) (by simp) ?_
          refine (AllReadyH.cons rfl (fun K hK => ?_) AllReadyH.nil)
          go_simp
          refine hK.out _ _ O2 (fun _ => ?_)
          clear hK K
          try simp only [Act.put, List.setIfInBounds_toArray, List.set_cons_zero, List.set_cons_succ]
          clear r0 rf0 r1 rf1 r2 rf2 r3 rf3 r4 rf4
          refine wpAnyH_done (by kernel_rfl) ?_ _
          have b5 := bN.set5 (.int .i64 R.a) (.int .i64 R.b) (.int .i64 R.c) (.int .i64 R.d) (.int .i64 R.e)
          have m5 := mid_set5 u0ccacc B (.int .i64 R.a) (.int .i64 R.b) (.int .i64 R.c) (.int .i64 R.d) (.int .i64 R.e)
          have hD : hiq ≤ B ∨ B + 1 ≤ loq := by first | exact .inl hBq | exact .inr hqB
          have g5 := hGM.mid m5 hD
          have z5 := m5.size
          go_wp2_with fail
          go_meet
          case rel => exact ⟨B, loq, hiq, rfl, O2, b5, g5, hBV, hqV, Nat.le_trans hqs z5, hD⟩
      · go_simp
        have hOs := O.size
        obtain ⟨bN, hb, z⟩ := one u0c [.int .i64 0, .int .i64 0, .int .i64 0, .int .i64 0, .int .i64 0] 26
        have O := over_step O hb
        clear z hb
        refine hK.out _ _ O (fun _ => ?_)
        clear hK K
        try simp only [Act.put, List.setIfInBounds_toArray, List.set_cons_zero, List.set_cons_succ]
        obtain ⟨B, eB⟩ : ∃ B, B = u0c.heap.size := ⟨_, rfl⟩
        have hBV : V1.heap.size ≤ B := by rw [eB]; exact hOs
        obtain ⟨u0ca, eW⟩ : ∃ u, u = u0c.alloc (.cells #[.int .i64 0, .int .i64 0, .int .i64 0, .int .i64 0, .int .i64 0] 26) := ⟨_, rfl⟩
        rw [← eW] at bN O   ⊢
        rw [← eB] at bN ⊢
        clear eW eB hOs
        refine wpAnyH_ready (rs := [3]) (by kernel_rfl) (by simp) ?_
        refine (AllReadyH.cons rfl (fun K hK => ?_) AllReadyH.nil)
        go_simp
        refine (toS_any s0 s1 s2 s3 s4 _).mono ?_
        rintro e u0cac ⟨rfl, hb⟩
        replace bN := bN.keep hb
        have O := over_step O hb
        clear hb
        refine hK.out _ _ O (fun _ => ?_)
        clear hK K
        try simp only [Act.put, List.setIfInBounds_toArray, List.set_cons_zero, List.set_cons_succ]
        refine wpAnyH_ready (rs := [5]) (by kernel_rfl) (by simp) ?_
        refine (AllReadyH.cons rfl (fun K hK => ?_) AllReadyH.nil)
        go_simp
        refine (toE_any _ _ _ _ gs cs ps ms ek ee kn sa ho ix pr bw er _ (HG.out.keep O) (HC.out.keep O) (HP.out.keep O) (HM.out.keep O) L0.out L1.out L2.out L3.out).mono ?_
        rintro e u0cacc ⟨g2, gx2, c2, cx2, p2, px2, m2, mx2, rfl, hG2, hC2, hP2, hM2, -, -, -, -, -, -, hb⟩
        replace bN := bN.keep hb
        have O := over_step O hb
        clear hb
        refine hK.out _ _ O (fun _ => ?_)
        clear hK K
        try simp only [Act.put, List.setIfInBounds_toArray, List.set_cons_zero, List.set_cons_succ]
        refine wpAnyH_ready (rs := [6]) (by kernel_rfl) (by simp) ?_
        refine (AllReadyH.cons rfl (fun K hK => ?_) AllReadyH.nil)
        go_simp
        refine ((sSS_any xa xi xh xp s0 s1 s2 s3 s4 _ _ _ _ _ _ _ _ gs cs ps ms ek ee kn sa ho ix pr bw er _ hG2.rd hC2.rd (hP2.rd HP.out.1) (hM2.rd HM.out.1) L0.out L1.out L2.out L3.out)).mono ?_
        rw [← HR.out]
        rintro e u0caccc ⟨uq, rfl, ho_, hb⟩
        have hOS := O.size
        have hqBl := bN.lt
        replace bN := bN.keep hb
        replace hG2 := hG2.keep hb
        replace hC2 := hC2.keep hb
        replace hP2 := hP2.keep hb
        replace hM2 := hM2.keep hb
        have O := over_step O hb
        obtain ⟨loq, eL⟩ : ∃ q, q = u0cacc.heap.size := ⟨_, rfl⟩
        obtain ⟨hiq, eH⟩ : ∃ q, q = u0caccc.heap.size := ⟨_, rfl⟩
        rw [← eL] at ho_
        have hGM := GM.of ho_ HL1.out
        rw [← eH] at hGM
        have hqV : V1.heap.size ≤ loq := by rw [eL]; exact hOS
        have hqs : hiq ≤ u0caccc.heap.size := Nat.le_of_eq eH
        have hqB : B + 1 ≤ loq := by rw [eL]; exact hqBl
        clear ho_ eH eL hOS
        clear hb
        refine hK.out _ _ O (fun _ => ?_)
        clear hK K
        try simp only [Act.put, List.setIfInBounds_toArray, List.set_cons_zero, List.set_cons_succ]
        refine wpAnyH_take (i := 7) (v := ?_) rfl (by kernel_rfl) (by kernel_rfl) (by kernel_rfl) (fun _ _ _ h => h) (Or.inl ⟨by rfl, ?_⟩) O ?_
        rotate_left
        · intro wq hSq
          (try dsimp only at hSq)

          go_simp
          try rfl
        change wpAnyH _ _ _ _ _ _ _ (Act.put _ (some 23) _) _
        simp only [Act.put, List.setIfInBounds_toArray, List.set_cons_succ, List.set_cons_zero]
        refine wpAnyH_take (i := 8) (v := ?_) rfl (by kernel_rfl) (by kernel_rfl) (by kernel_rfl) (fun _ _ _ h => h) (Or.inl ⟨by rfl, ?_⟩) O ?_
        rotate_left
        · intro wq hSq
          (try dsimp only at hSq)

          go_simp
          try rfl
        change wpAnyH _ _ _ _ _ _ _ (Act.put _ (some 31) _) _
        simp only [Act.put, List.setIfInBounds_toArray, List.set_cons_succ, List.set_cons_zero]
        refine wpAnyH_take (i := 9) (v := ?_) rfl (by kernel_rfl) (by kernel_rfl) (by kernel_rfl) (fun _ _ _ h => h) (Or.inl ⟨by rfl, ?_⟩) O ?_
        rotate_left
        · intro wq hSq
          (try dsimp only at hSq)

          go_simp
          try rfl
        change wpAnyH _ _ _ _ _ _ _ (Act.put _ (some 32) _) _
        simp only [Act.put, List.setIfInBounds_toArray, List.set_cons_succ, List.set_cons_zero]
        have r0 := bN.c 0 rfl
        have rf0 := bN.f 0 (x := _) rfl
        have r1 := bN.c 1 rfl
        have rf1 := bN.f 1 (x := _) rfl
        have r2 := bN.c 2 rfl
        have rf2 := bN.f 2 (x := _) rfl
        have r3 := bN.c 3 rfl
        have rf3 := bN.f 3 (x := _) rfl
        have r4 := bN.c 4 rfl
        have rf4 := bN.f 4 (x := _) rfl
        refine wpAnyH_ready (rs := [11]) (by kernel_rfl) (by simp) ?_
        refine (AllReadyH.cons rfl (fun K hK => ?_) AllReadyH.nil)
        go_simp
        have O2 := below_set5 O (B := B) hBV (.int .i64 R.a) (.int .i64 R.b) (.int .i64 R.c) (.int .i64 R.d) (.int .i64 R.e)
        refine hK.out _ _ O2 (fun _ => ?_)
        clear hK K
        try simp only [Act.put, List.setIfInBounds_toArray, List.set_cons_zero, List.set_cons_succ]
        refine wpAnyH_ready (rs := [12]) (by kernel_rfl) (by simp) ?_
        refine (AllReadyH.cons rfl (fun K hK => ?_) AllReadyH.nil)
        go_simp
        refine hK.out _ _ O2 (fun _ => ?_)
        clear hK K
        try simp only [Act.put, List.setIfInBounds_toArray, List.set_cons_zero, List.set_cons_succ]
        clear r0 rf0 r1 rf1 r2 rf2 r3 rf3 r4 rf4
        refine wpAnyH_done (by kernel_rfl) ?_ _
        have b5 := bN.set5 (.int .i64 R.a) (.int .i64 R.b) (.int .i64 R.c) (.int .i64 R.d) (.int .i64 R.e)
        have m5 := mid_set5 u0caccc B (.int .i64 R.a) (.int .i64 R.b) (.int .i64 R.c) (.int .i64 R.d) (.int .i64 R.e)
        have hD : hiq ≤ B ∨ B + 1 ≤ loq := by first | exact .inl hBq | exact .inr hqB
        have g5 := hGM.mid m5 hD
        have z5 := m5.size
        go_wp2_with fail
        go_meet
        case rel => exact ⟨B, loq, hiq, rfl, O2, b5, g5, hBV, hqV, Nat.le_trans hqs z5, hD⟩
    · go_simp
      have hOs := O.size
      obtain ⟨bN, hb, z⟩ := one u0 [.int .i64 0, .int .i64 0, .int .i64 0, .int .i64 0, .int .i64 0] 26
      have O := over_step O hb
      clear z hb
      refine hK.out _ _ O (fun _ => ?_)
      clear hK K
      try simp only [Act.put, List.setIfInBounds_toArray, List.set_cons_zero, List.set_cons_succ]
      obtain ⟨B, eB⟩ : ∃ B, B = u0.heap.size := ⟨_, rfl⟩
      have hBV : V1.heap.size ≤ B := by rw [eB]; exact hOs
      obtain ⟨u0a, eW⟩ : ∃ u, u = u0.alloc (.cells #[.int .i64 0, .int .i64 0, .int .i64 0, .int .i64 0, .int .i64 0] 26) := ⟨_, rfl⟩
      rw [← eW] at bN O   ⊢
      rw [← eB] at bN ⊢
      clear eW eB hOs
      refine wpAnyH_ready (rs := [1]) (by kernel_rfl) (by simp) ?_
      refine (AllReadyH.cons rfl (fun K hK => ?_) AllReadyH.nil)
      go_simp
      refine (toCf_any xa xi xh xp _).mono ?_
      rintro e u0ac ⟨rfl, hb⟩
      replace bN := bN.keep hb
      have O := over_step O hb
      clear hb
      refine hK.out _ _ O (fun _ => ?_)
      clear hK K
      try simp only [Act.put, List.setIfInBounds_toArray, List.set_cons_zero, List.set_cons_succ]
      refine wpAnyH_ready (rs := [3]) (by kernel_rfl) (by simp) ?_
      refine (AllReadyH.cons rfl (fun K hK => ?_) AllReadyH.nil)
      go_simp
      refine (toS_any s0 s1 s2 s3 s4 _).mono ?_
      rintro e u0acc ⟨rfl, hb⟩
      replace bN := bN.keep hb
      have O := over_step O hb
      clear hb
      refine hK.out _ _ O (fun _ => ?_)
      clear hK K
      try simp only [Act.put, List.setIfInBounds_toArray, List.set_cons_zero, List.set_cons_succ]
      refine wpAnyH_ready (rs := [5]) (by kernel_rfl) (by simp) ?_
      refine (AllReadyH.cons rfl (fun K hK => ?_) AllReadyH.nil)
      go_simp
      refine (toE_any _ _ _ _ gs cs ps ms ek ee kn sa ho ix pr bw er _ (HG.out.keep O) (HC.out.keep O) (HP.out.keep O) (HM.out.keep O) L0.out L1.out L2.out L3.out).mono ?_
      rintro e u0accc ⟨g2, gx2, c2, cx2, p2, px2, m2, mx2, rfl, hG2, hC2, hP2, hM2, -, -, -, -, -, -, hb⟩
      replace bN := bN.keep hb
      have O := over_step O hb
      clear hb
      refine hK.out _ _ O (fun _ => ?_)
      clear hK K
      try simp only [Act.put, List.setIfInBounds_toArray, List.set_cons_zero, List.set_cons_succ]
      refine wpAnyH_ready (rs := [6]) (by kernel_rfl) (by simp) ?_
      refine (AllReadyH.cons rfl (fun K hK => ?_) AllReadyH.nil)
      go_simp
      refine ((sSS_any xa xi xh xp s0 s1 s2 s3 s4 _ _ _ _ _ _ _ _ gs cs ps ms ek ee kn sa ho ix pr bw er _ hG2.rd hC2.rd (hP2.rd HP.out.1) (hM2.rd HM.out.1) L0.out L1.out L2.out L3.out)).mono ?_
      rw [← HR.out]
      rintro e u0acccc ⟨uq, rfl, ho_, hb⟩
      have hOS := O.size
      have hqBl := bN.lt
      replace bN := bN.keep hb
      replace hG2 := hG2.keep hb
      replace hC2 := hC2.keep hb
      replace hP2 := hP2.keep hb
      replace hM2 := hM2.keep hb
      have O := over_step O hb
      obtain ⟨loq, eL⟩ : ∃ q, q = u0accc.heap.size := ⟨_, rfl⟩
      obtain ⟨hiq, eH⟩ : ∃ q, q = u0acccc.heap.size := ⟨_, rfl⟩
      rw [← eL] at ho_
      have hGM := GM.of ho_ HL1.out
      rw [← eH] at hGM
      have hqV : V1.heap.size ≤ loq := by rw [eL]; exact hOS
      have hqs : hiq ≤ u0acccc.heap.size := Nat.le_of_eq eH
      have hqB : B + 1 ≤ loq := by rw [eL]; exact hqBl
      clear ho_ eH eL hOS
      clear hb
      refine hK.out _ _ O (fun _ => ?_)
      clear hK K
      try simp only [Act.put, List.setIfInBounds_toArray, List.set_cons_zero, List.set_cons_succ]
      refine wpAnyH_take (i := 7) (v := ?_) rfl (by kernel_rfl) (by kernel_rfl) (by kernel_rfl) (fun _ _ _ h => h) (Or.inl ⟨by rfl, ?_⟩) O ?_
      rotate_left
      · intro wq hSq
        (try dsimp only at hSq)

        go_simp
        try rfl
      change wpAnyH _ _ _ _ _ _ _ (Act.put _ (some 23) _) _
      simp only [Act.put, List.setIfInBounds_toArray, List.set_cons_succ, List.set_cons_zero]
      refine wpAnyH_take (i := 8) (v := ?_) rfl (by kernel_rfl) (by kernel_rfl) (by kernel_rfl) (fun _ _ _ h => h) (Or.inl ⟨by rfl, ?_⟩) O ?_
      rotate_left
      · intro wq hSq
        (try dsimp only at hSq)

        go_simp
        try rfl
      change wpAnyH _ _ _ _ _ _ _ (Act.put _ (some 31) _) _
      simp only [Act.put, List.setIfInBounds_toArray, List.set_cons_succ, List.set_cons_zero]
      refine wpAnyH_take (i := 9) (v := ?_) rfl (by kernel_rfl) (by kernel_rfl) (by kernel_rfl) (fun _ _ _ h => h) (Or.inl ⟨by rfl, ?_⟩) O ?_
      rotate_left
      · intro wq hSq
        (try dsimp only at hSq)

        go_simp
        try rfl
      change wpAnyH _ _ _ _ _ _ _ (Act.put _ (some 32) _) _
      simp only [Act.put, List.setIfInBounds_toArray, List.set_cons_succ, List.set_cons_zero]
      have r0 := bN.c 0 rfl
      have rf0 := bN.f 0 (x := _) rfl
      have r1 := bN.c 1 rfl
      have rf1 := bN.f 1 (x := _) rfl
      have r2 := bN.c 2 rfl
      have rf2 := bN.f 2 (x := _) rfl
      have r3 := bN.c 3 rfl
      have rf3 := bN.f 3 (x := _) rfl
      have r4 := bN.c 4 rfl
      have rf4 := bN.f 4 (x := _) rfl
      refine wpAnyH_ready (rs := [11]) (by kernel_rfl) (by simp) ?_
      refine (AllReadyH.cons rfl (fun K hK => ?_) AllReadyH.nil)
      go_simp
      have O2 := below_set5 O (B := B) hBV (.int .i64 R.a) (.int .i64 R.b) (.int .i64 R.c) (.int .i64 R.d) (.int .i64 R.e)
      refine hK.out _ _ O2 (fun _ => ?_)
      clear hK K
      try simp only [Act.put, List.setIfInBounds_toArray, List.set_cons_zero, List.set_cons_succ]
      refine wpAnyH_ready (rs := [12]) (by kernel_rfl) (by simp) ?_
      refine (AllReadyH.cons rfl (fun K hK => ?_) AllReadyH.nil)
      go_simp
      refine hK.out _ _ O2 (fun _ => ?_)
      clear hK K
      try simp only [Act.put, List.setIfInBounds_toArray, List.set_cons_zero, List.set_cons_succ]
      clear r0 rf0 r1 rf1 r2 rf2 r3 rf3 r4 rf4
      refine wpAnyH_done (by kernel_rfl) ?_ _
      have b5 := bN.set5 (.int .i64 R.a) (.int .i64 R.b) (.int .i64 R.c) (.int .i64 R.d) (.int .i64 R.e)
      have m5 := mid_set5 u0acccc B (.int .i64 R.a) (.int .i64 R.b) (.int .i64 R.c) (.int .i64 R.d) (.int .i64 R.e)
      have hD : hiq ≤ B ∨ B + 1 ≤ loq := by first | exact .inl hBq | exact .inr hqB
      have g5 := hGM.mid m5 hD
      have z5 := m5.size
      go_wp2_with fail
      go_meet
      case rel => exact ⟨B, loq, hiq, rfl, O2, b5, g5, hBV, hqV, Nat.le_trans hqs z5, hD⟩
  case rest =>
    obtain ⟨wA, rfl⟩ : ∃ x : World, x = wc := ⟨_, rfl⟩
    obtain ⟨B8, lo8, hi8, rfl, OA, b8, G8, h8a, h8b, h8c, h8d⟩ := hcut
    have bE8 := bE.keep OA
    have fa0 := bE8.c 0 rfl
    have fa1 := bE8.c 1 rfl
    have fa2 := bE8.c 2 rfl
    have fa3 := bE8.c 3 rfl
    have fa4 := bE8.c 4 rfl
    have fa5 := bE8.c 5 rfl
    have fa6 := bE8.c 6 rfl
    have fa7 := bE8.c 7 rfl
    have fa8 := bE8.c 8 rfl
    have fa9 := bE8.c 9 rfl
    have fa10 := bE8.c 10 rfl
    have fa11 := bE8.c 11 rfl
    have fa12 := bE8.c 12 rfl
    go_wp2_with fail
    clear fa0 fa1 fa2 fa3 fa4 fa5 fa6 fa7 fa8 fa9 fa10 fa11 fa12
    clear bE8
    refine (toE_any _ _ _ _ gs cs ps ms ek ee kn sa ho ix pr bw er _ (HG.out.keep OA) (HC.out.keep OA) (HP.out.keep OA) (HM.out.keep OA) L0.out L1.out L2.out L3.out).mono ?_
    rintro e w4 ⟨g4, gx4, c4, cx4, p4, px4, m4, mx4, rfl, hG4, hC4, hP4, hM4, ap40, ap41, ap42, ap43, ap44, ap45, hb⟩
    have nG := Lib.hid (fun k h => (World.ownsRow.lt hG4 k h).2)
    have nC := Lib.hid (fun k h => (World.ownsRow.lt hC4 k h).2)
    have nP := Lib.hid (fun k h => (World.ownsRow.lt hP4 k h).2)
    have nM := Lib.hid (fun k h => (World.ownsRow.lt hM4 k h).2)
    have z4 := hb.size
    have zA := OA.size
    have lB8 := b8.lt
    replace OA := over_step OA hb
    replace b8 := b8.keep hb
    replace G8 := G8.keep hb
    obtain ⟨loE, eL⟩ : ∃ q, q = wA.heap.size := ⟨_, rfl⟩
    obtain ⟨hiE, eH⟩ : ∃ q, q = w4.heap.size := ⟨_, rfl⟩
    rw [← eL] at hG4 hC4 hP4 hM4 z4 h8c zA lB8
    rw [← eH] at nG nC nP nM z4
    clear hb eL
    go_wp2_with fail
    obtain ⟨bX, hb, z⟩ := one w4 [.int .i64 ek, .int .i64 kn, .int .i64 sa, .int .i64 ho, .int .i64 ix, .slice g4 gs.length gx4, .slice c4 cs.length cx4, .slice p4 ps.length px4, .int .i64 pr, .slice m4 ms.length mx4, .int .i64 bw, .int .i64 er, .int .i64 ee] 34
    have zV := hb.size
    rw [← eH] at zV bX
    replace OA := over_step OA hb
    replace b8 := b8.keep hb
    replace G8 := G8.keep hb
    replace hG4 := hG4.keep hb
    replace hC4 := hC4.keep hb
    replace hP4 := hP4.keep hb
    replace hM4 := hM4.keep hb
    clear hb z
    obtain ⟨V7, eV⟩ : ∃ x, x = w4.alloc (.cells #[.int .i64 ek, .int .i64 kn, .int .i64 sa, .int .i64 ho, .int .i64 ix, .slice g4 gs.length gx4, .slice c4 cs.length cx4, .slice p4 ps.length px4, .int .i64 pr, .slice m4 ms.length mx4, .int .i64 bw, .int .i64 er, .int .i64 ee] 34) := ⟨_, rfl⟩
    rw [← eV] at bX OA b8 G8 hG4 hC4 hP4 hM4 zV ⊢
    rw [← eH]
    clear eV eH
    have HAP := Lib.hid (And.intro (And.intro ap40 (And.intro ap41 ap42)) (And.intro ap43 (And.intro ap44 ap45)))
    clear ap40 ap41 ap42 ap43 ap44 ap45
    have bA7 := bA.keep OA
    have bS7 := bS.keep OA
    go_cut [11, 12] from 35 to 43 (fun s11 s12 wx => Kept V7 wx R s11 s12)
    case first =>
      refine wp_region_held_drew (S := fun w' => Over V7 w') (by kernel_rfl) (over_drew V7) (fun hHeld => ?_)
      obtain ⟨u0, e0⟩ : ∃ u, u = V7.drew := ⟨_, rfl⟩
      have O : Over V7 u0 := by rw [e0]; exact over_drew V7
      rw [← e0]
      clear e0 hHeld
      refine wpAnyH_take (i := 0) (v := ?_) rfl (by kernel_rfl) (by kernel_rfl) (by kernel_rfl) (fun _ _ _ h => h) (Or.inl ⟨by rfl, ?_⟩) O ?_
      rotate_left
      · intro wq hSq
        (try dsimp only at hSq)
        have q0 := bA7.o hSq 0 rfl
        have q1 := bA7.o hSq 1 rfl
        have q2 := bA7.o hSq 2 rfl
        have q3 := bA7.o hSq 3 rfl
        go_simp
        try rfl
      change wpAnyH _ _ _ _ _ _ _ (Act.put _ (some 36) _) _
      simp only [Act.put, List.setIfInBounds_toArray, List.set_cons_succ, List.set_cons_zero]
      refine wpAnyH_take (i := 2) (v := ?_) rfl (by kernel_rfl) (by kernel_rfl) (by kernel_rfl) (fun _ _ _ h => h) (Or.inl ⟨by rfl, ?_⟩) O ?_
      rotate_left
      · intro wq hSq
        (try dsimp only at hSq)
        have q0 := bS7.o hSq 0 rfl
        have q1 := bS7.o hSq 1 rfl
        have q2 := bS7.o hSq 2 rfl
        have q3 := bS7.o hSq 3 rfl
        have q4 := bS7.o hSq 4 rfl
        go_simp
        try rfl
      change wpAnyH _ _ _ _ _ _ _ (Act.put _ (some 38) _) _
      simp only [Act.put, List.setIfInBounds_toArray, List.set_cons_succ, List.set_cons_zero]
      refine wpAnyH_take (i := 4) (v := ?_) rfl (by kernel_rfl) (by kernel_rfl) (by kernel_rfl) (fun _ _ _ h => h) (Or.inl ⟨by rfl, ?_⟩) O ?_
      rotate_left
      · intro wq hSq
        (try dsimp only at hSq)
        have q0 := bX.o hSq 0 rfl
        have q1 := bX.o hSq 1 rfl
        have q2 := bX.o hSq 2 rfl
        have q3 := bX.o hSq 3 rfl
        have q4 := bX.o hSq 4 rfl
        have q5 := bX.o hSq 5 rfl
        have q6 := bX.o hSq 6 rfl
        have q7 := bX.o hSq 7 rfl
        have q8 := bX.o hSq 8 rfl
        have q9 := bX.o hSq 9 rfl
        have q10 := bX.o hSq 10 rfl
        have q11 := bX.o hSq 11 rfl
        have q12 := bX.o hSq 12 rfl
        go_simp
        try rfl
      change wpAnyH _ _ _ _ _ _ _ (Act.put _ (some 40) _) _
      simp only [Act.put, List.setIfInBounds_toArray, List.set_cons_succ, List.set_cons_zero]
      refine wpAnyH_ready (rs := [1, 9]) (by kernel_rfl) (by simp) ?_
      refine (AllReadyH.cons rfl (fun K hK => ?_) (AllReadyH.cons rfl (fun K hK => ?_) AllReadyH.nil))
      · go_simp
        refine (toCf_any xa xi xh xp _).mono ?_
        rintro e u0c ⟨rfl, hb⟩
        have O := over_step O hb
        clear hb
        refine hK.out _ _ O (fun _ => ?_)
        clear hK K
        try simp only [Act.put, List.setIfInBounds_toArray, List.set_cons_zero, List.set_cons_succ]
        refine wpAnyH_ready (rs := [3, 9]) (by kernel_rfl) (by simp) ?_
        refine (AllReadyH.cons rfl (fun K hK => ?_) (AllReadyH.cons rfl (fun K hK => ?_) AllReadyH.nil))
        · go_simp
          refine (toS_any s0 s1 s2 s3 s4 _).mono ?_
          rintro e u0cc ⟨rfl, hb⟩
          have O := over_step O hb
          clear hb
          refine hK.out _ _ O (fun _ => ?_)
          clear hK K
          try simp only [Act.put, List.setIfInBounds_toArray, List.set_cons_zero, List.set_cons_succ]
          refine wpAnyH_ready (rs := [5, 9]) (by kernel_rfl) (by simp) ?_
          refine (AllReadyH.cons rfl (fun K hK => ?_) (AllReadyH.cons rfl (fun K hK => ?_) AllReadyH.nil))
          · go_simp
            refine ((iSS_any xa xi xh xp s0 s1 s2 s3 s4 _ _ _ _ _ _ _ _ gs cs ps ms ek ee kn sa ho ix pr bw er u _ (hG4.rd.keep O) (hC4.rd.keep O) ((hP4.rd HP.out.1).keep O) ((hM4.rd HM.out.1).keep O) (over_cell (over_step OA O) HU.out.2 HU.out.1) (over_cell (over_step OA O) HT.out.2 HT.out.1))).mono ?_
            rw [← HR.out]
            rintro e u0ccc ⟨uq, rfl, ho_, hb⟩
            have hOS := O.size
            have O := over_step O hb
            obtain ⟨loq, eL⟩ : ∃ q, q = u0cc.heap.size := ⟨_, rfl⟩
            obtain ⟨hiq, eH⟩ : ∃ q, q = u0ccc.heap.size := ⟨_, rfl⟩
            rw [← eL] at ho_
            have hGM := GM.of ho_ HL1.out
            rw [← eH] at hGM
            have hqV : V7.heap.size ≤ loq := by rw [eL]; exact hOS
            have hqs : hiq ≤ u0ccc.heap.size := Nat.le_of_eq eH

            clear ho_ eH eL hOS
            clear hb
            refine hK.out _ _ O (fun _ => ?_)
            clear hK K
            try simp only [Act.put, List.setIfInBounds_toArray, List.set_cons_zero, List.set_cons_succ]
            refine wpAnyH_take (i := 6) (v := ?_) rfl (by kernel_rfl) (by kernel_rfl) (by kernel_rfl) (fun _ _ _ h => h) (Or.inl ⟨by rfl, ?_⟩) O ?_
            rotate_left
            · intro wq hSq
              (try dsimp only at hSq)

              go_simp
              try rfl
            change wpAnyH _ _ _ _ _ _ _ (Act.put _ (some 35) _) _
            simp only [Act.put, List.setIfInBounds_toArray, List.set_cons_succ, List.set_cons_zero]
            refine wpAnyH_take (i := 7) (v := ?_) rfl (by kernel_rfl) (by kernel_rfl) (by kernel_rfl) (fun _ _ _ h => h) (Or.inl ⟨by rfl, ?_⟩) O ?_
            rotate_left
            · intro wq hSq
              (try dsimp only at hSq)

              go_simp
              try rfl
            change wpAnyH _ _ _ _ _ _ _ (Act.put _ (some 42) _) _
            simp only [Act.put, List.setIfInBounds_toArray, List.set_cons_succ, List.set_cons_zero]
            refine wpAnyH_take (i := 8) (v := ?_) rfl (by kernel_rfl) (by kernel_rfl) (by kernel_rfl) (fun _ _ _ h => h) (Or.inl ⟨by rfl, ?_⟩) O ?_
            rotate_left
            · intro wq hSq
              (try dsimp only at hSq)

              go_simp
              try rfl
            change wpAnyH _ _ _ _ _ _ _ (Act.put _ (some 43) _) _
            simp only [Act.put, List.setIfInBounds_toArray, List.set_cons_succ, List.set_cons_zero]
            refine wpAnyH_ready (rs := [9]) (by kernel_rfl) (by simp) ?_
            refine (AllReadyH.cons rfl (fun K hK => ?_) AllReadyH.nil)
            go_simp
            have hOs := O.size
            obtain ⟨bN, hb, z⟩ := one u0ccc [.int .i64 0, .int .i64 0, .int .i64 0, .int .i64 0, .int .i64 0] 26
            have O := over_step O hb
            replace hGM := hGM.keep hb
            have hqt := Nat.le_trans hqs hb.size
            clear z hb
            refine hK.out _ _ O (fun _ => ?_)
            clear hK K
            try simp only [Act.put, List.setIfInBounds_toArray, List.set_cons_zero, List.set_cons_succ]
            obtain ⟨B, eB⟩ : ∃ B, B = u0ccc.heap.size := ⟨_, rfl⟩
            have hBV : V7.heap.size ≤ B := by rw [eB]; exact hOs
            have hBq : hiq ≤ B := by rw [eB]; exact hqs
            obtain ⟨u0ccca, eW⟩ : ∃ u, u = u0ccc.alloc (.cells #[.int .i64 0, .int .i64 0, .int .i64 0, .int .i64 0, .int .i64 0] 26) := ⟨_, rfl⟩
            rw [← eW] at bN O hGM hqt ⊢
            rw [← eB] at bN ⊢
            replace hqs := hqt
            clear hqt
            clear eW eB hOs
            have r0 := bN.c 0 rfl
            have rf0 := bN.f 0 (x := _) rfl
            have r1 := bN.c 1 rfl
            have rf1 := bN.f 1 (x := _) rfl
            have r2 := bN.c 2 rfl
            have rf2 := bN.f 2 (x := _) rfl
            have r3 := bN.c 3 rfl
            have rf3 := bN.f 3 (x := _) rfl
            have r4 := bN.c 4 rfl
            have rf4 := bN.f 4 (x := _) rfl
            refine wpAnyH_ready (rs := [10]) (by kernel_rfl) (by simp) ?_
            refine (AllReadyH.cons rfl (fun K hK => ?_) AllReadyH.nil)
            go_simp
            have O2 := below_set5 O (B := B) hBV (.int .i64 R.a) (.int .i64 R.b) (.int .i64 R.c) (.int .i64 R.d) (.int .i64 R.e)
            refine hK.out _ _ O2 (fun _ => ?_)
            clear hK K
            try simp only [Act.put, List.setIfInBounds_toArray, List.set_cons_zero, List.set_cons_succ]
            refine wpAnyH_ready (rs := [11]) (by kernel_rfl) (by simp) ?_
            refine (AllReadyH.cons rfl (fun K hK => ?_) AllReadyH.nil)
            go_simp
            refine hK.out _ _ O2 (fun _ => ?_)
            clear hK K
            try simp only [Act.put, List.setIfInBounds_toArray, List.set_cons_zero, List.set_cons_succ]
            clear r0 rf0 r1 rf1 r2 rf2 r3 rf3 r4 rf4
            refine wpAnyH_done (by kernel_rfl) ?_ _
            have b5 := bN.set5 (.int .i64 R.a) (.int .i64 R.b) (.int .i64 R.c) (.int .i64 R.d) (.int .i64 R.e)
            have m5 := mid_set5 u0ccca B (.int .i64 R.a) (.int .i64 R.b) (.int .i64 R.c) (.int .i64 R.d) (.int .i64 R.e)
            have hD : hiq ≤ B ∨ B + 1 ≤ loq := by first | exact .inl hBq | exact .inr hqB
            have g5 := hGM.mid m5 hD
            have z5 := m5.size
            go_wp2_with fail
            go_meet
            case rel => exact ⟨B, loq, hiq, rfl, O2, b5, g5, hBV, hqV, Nat.le_trans hqs z5, hD⟩
          · go_simp
            have hOs := O.size
            obtain ⟨bN, hb, z⟩ := one u0cc [.int .i64 0, .int .i64 0, .int .i64 0, .int .i64 0, .int .i64 0] 26
            have O := over_step O hb
            clear z hb
            refine hK.out _ _ O (fun _ => ?_)
            clear hK K
            try simp only [Act.put, List.setIfInBounds_toArray, List.set_cons_zero, List.set_cons_succ]
            obtain ⟨B, eB⟩ : ∃ B, B = u0cc.heap.size := ⟨_, rfl⟩
            have hBV : V7.heap.size ≤ B := by rw [eB]; exact hOs
            obtain ⟨u0cca, eW⟩ : ∃ u, u = u0cc.alloc (.cells #[.int .i64 0, .int .i64 0, .int .i64 0, .int .i64 0, .int .i64 0] 26) := ⟨_, rfl⟩
            rw [← eW] at bN O   ⊢
            rw [← eB] at bN ⊢
            clear eW eB hOs
            refine wpAnyH_ready (rs := [5]) (by kernel_rfl) (by simp) ?_
            refine (AllReadyH.cons rfl (fun K hK => ?_) AllReadyH.nil)
            go_simp
            refine ((iSS_any xa xi xh xp s0 s1 s2 s3 s4 _ _ _ _ _ _ _ _ gs cs ps ms ek ee kn sa ho ix pr bw er u _ (hG4.rd.keep O) (hC4.rd.keep O) ((hP4.rd HP.out.1).keep O) ((hM4.rd HM.out.1).keep O) (over_cell (over_step OA O) HU.out.2 HU.out.1) (over_cell (over_step OA O) HT.out.2 HT.out.1))).mono ?_
            rw [← HR.out]
            rintro e u0ccac ⟨uq, rfl, ho_, hb⟩
            have hOS := O.size
            have hqBl := bN.lt
            replace bN := bN.keep hb
            have O := over_step O hb
            obtain ⟨loq, eL⟩ : ∃ q, q = u0cca.heap.size := ⟨_, rfl⟩
            obtain ⟨hiq, eH⟩ : ∃ q, q = u0ccac.heap.size := ⟨_, rfl⟩
            rw [← eL] at ho_
            have hGM := GM.of ho_ HL1.out
            rw [← eH] at hGM
            have hqV : V7.heap.size ≤ loq := by rw [eL]; exact hOS
            have hqs : hiq ≤ u0ccac.heap.size := Nat.le_of_eq eH
            have hqB : B + 1 ≤ loq := by rw [eL]; exact hqBl
            clear ho_ eH eL hOS
            clear hb
            refine hK.out _ _ O (fun _ => ?_)
            clear hK K
            try simp only [Act.put, List.setIfInBounds_toArray, List.set_cons_zero, List.set_cons_succ]
            refine wpAnyH_take (i := 6) (v := ?_) rfl (by kernel_rfl) (by kernel_rfl) (by kernel_rfl) (fun _ _ _ h => h) (Or.inl ⟨by rfl, ?_⟩) O ?_
            rotate_left
            · intro wq hSq
              (try dsimp only at hSq)

              go_simp
              try rfl
            change wpAnyH _ _ _ _ _ _ _ (Act.put _ (some 35) _) _
            simp only [Act.put, List.setIfInBounds_toArray, List.set_cons_succ, List.set_cons_zero]
            refine wpAnyH_take (i := 7) (v := ?_) rfl (by kernel_rfl) (by kernel_rfl) (by kernel_rfl) (fun _ _ _ h => h) (Or.inl ⟨by rfl, ?_⟩) O ?_
            rotate_left
            · intro wq hSq
              (try dsimp only at hSq)

              go_simp
              try rfl
            change wpAnyH _ _ _ _ _ _ _ (Act.put _ (some 42) _) _
            simp only [Act.put, List.setIfInBounds_toArray, List.set_cons_succ, List.set_cons_zero]
            refine wpAnyH_take (i := 8) (v := ?_) rfl (by kernel_rfl) (by kernel_rfl) (by kernel_rfl) (fun _ _ _ h => h) (Or.inl ⟨by rfl, ?_⟩) O ?_
            rotate_left
            · intro wq hSq
              (try dsimp only at hSq)

              go_simp
              try rfl
            change wpAnyH _ _ _ _ _ _ _ (Act.put _ (some 43) _) _
            simp only [Act.put, List.setIfInBounds_toArray, List.set_cons_succ, List.set_cons_zero]
            have r0 := bN.c 0 rfl
            have rf0 := bN.f 0 (x := _) rfl
            have r1 := bN.c 1 rfl
            have rf1 := bN.f 1 (x := _) rfl
            have r2 := bN.c 2 rfl
            have rf2 := bN.f 2 (x := _) rfl
            have r3 := bN.c 3 rfl
            have rf3 := bN.f 3 (x := _) rfl
            have r4 := bN.c 4 rfl
            have rf4 := bN.f 4 (x := _) rfl
            refine wpAnyH_ready (rs := [10]) (by kernel_rfl) (by simp) ?_
            refine (AllReadyH.cons rfl (fun K hK => ?_) AllReadyH.nil)
            go_simp
            have O2 := below_set5 O (B := B) hBV (.int .i64 R.a) (.int .i64 R.b) (.int .i64 R.c) (.int .i64 R.d) (.int .i64 R.e)
            refine hK.out _ _ O2 (fun _ => ?_)
            clear hK K
            try simp only [Act.put, List.setIfInBounds_toArray, List.set_cons_zero, List.set_cons_succ]
            refine wpAnyH_ready (rs := [11]) (by kernel_rfl) (by simp) ?_
            refine (AllReadyH.cons rfl (fun K hK => ?_) AllReadyH.nil)
            go_simp
            refine hK.out _ _ O2 (fun _ => ?_)
            clear hK K
            try simp only [Act.put, List.setIfInBounds_toArray, List.set_cons_zero, List.set_cons_succ]
            clear r0 rf0 r1 rf1 r2 rf2 r3 rf3 r4 rf4
            refine wpAnyH_done (by kernel_rfl) ?_ _
            have b5 := bN.set5 (.int .i64 R.a) (.int .i64 R.b) (.int .i64 R.c) (.int .i64 R.d) (.int .i64 R.e)
            have m5 := mid_set5 u0ccac B (.int .i64 R.a) (.int .i64 R.b) (.int .i64 R.c) (.int .i64 R.d) (.int .i64 R.e)
            have hD : hiq ≤ B ∨ B + 1 ≤ loq := by first | exact .inl hBq | exact .inr hqB
            have g5 := hGM.mid m5 hD
            have z5 := m5.size
            go_wp2_with fail
            go_meet
            case rel => exact ⟨B, loq, hiq, rfl, O2, b5, g5, hBV, hqV, Nat.le_trans hqs z5, hD⟩
        · go_simp
          have hOs := O.size
          obtain ⟨bN, hb, z⟩ := one u0c [.int .i64 0, .int .i64 0, .int .i64 0, .int .i64 0, .int .i64 0] 26
          have O := over_step O hb
          clear z hb
          refine hK.out _ _ O (fun _ => ?_)
          clear hK K
          try simp only [Act.put, List.setIfInBounds_toArray, List.set_cons_zero, List.set_cons_succ]
          obtain ⟨B, eB⟩ : ∃ B, B = u0c.heap.size := ⟨_, rfl⟩
          have hBV : V7.heap.size ≤ B := by rw [eB]; exact hOs
          obtain ⟨u0ca, eW⟩ : ∃ u, u = u0c.alloc (.cells #[.int .i64 0, .int .i64 0, .int .i64 0, .int .i64 0, .int .i64 0] 26) := ⟨_, rfl⟩
          rw [← eW] at bN O   ⊢
          rw [← eB] at bN ⊢
          clear eW eB hOs
          refine wpAnyH_ready (rs := [3]) (by kernel_rfl) (by simp) ?_
          refine (AllReadyH.cons rfl (fun K hK => ?_) AllReadyH.nil)
          go_simp
          refine (toS_any s0 s1 s2 s3 s4 _).mono ?_
          rintro e u0cac ⟨rfl, hb⟩
          replace bN := bN.keep hb
          have O := over_step O hb
          clear hb
          refine hK.out _ _ O (fun _ => ?_)
          clear hK K
          try simp only [Act.put, List.setIfInBounds_toArray, List.set_cons_zero, List.set_cons_succ]
          refine wpAnyH_ready (rs := [5]) (by kernel_rfl) (by simp) ?_
          refine (AllReadyH.cons rfl (fun K hK => ?_) AllReadyH.nil)
          go_simp
          refine ((iSS_any xa xi xh xp s0 s1 s2 s3 s4 _ _ _ _ _ _ _ _ gs cs ps ms ek ee kn sa ho ix pr bw er u _ (hG4.rd.keep O) (hC4.rd.keep O) ((hP4.rd HP.out.1).keep O) ((hM4.rd HM.out.1).keep O) (over_cell (over_step OA O) HU.out.2 HU.out.1) (over_cell (over_step OA O) HT.out.2 HT.out.1))).mono ?_
          rw [← HR.out]
          rintro e u0cacc ⟨uq, rfl, ho_, hb⟩
          have hOS := O.size
          have hqBl := bN.lt
          replace bN := bN.keep hb
          have O := over_step O hb
          obtain ⟨loq, eL⟩ : ∃ q, q = u0cac.heap.size := ⟨_, rfl⟩
          obtain ⟨hiq, eH⟩ : ∃ q, q = u0cacc.heap.size := ⟨_, rfl⟩
          rw [← eL] at ho_
          have hGM := GM.of ho_ HL1.out
          rw [← eH] at hGM
          have hqV : V7.heap.size ≤ loq := by rw [eL]; exact hOS
          have hqs : hiq ≤ u0cacc.heap.size := Nat.le_of_eq eH
          have hqB : B + 1 ≤ loq := by rw [eL]; exact hqBl
          clear ho_ eH eL hOS
          clear hb
          refine hK.out _ _ O (fun _ => ?_)
          clear hK K
          try simp only [Act.put, List.setIfInBounds_toArray, List.set_cons_zero, List.set_cons_succ]
          refine wpAnyH_take (i := 6) (v := ?_) rfl (by kernel_rfl) (by kernel_rfl) (by kernel_rfl) (fun _ _ _ h => h) (Or.inl ⟨by rfl, ?_⟩) O ?_
          rotate_left
          · intro wq hSq
            (try dsimp only at hSq)

            go_simp
            try rfl
          change wpAnyH _ _ _ _ _ _ _ (Act.put _ (some 35) _) _
          simp only [Act.put, List.setIfInBounds_toArray, List.set_cons_succ, List.set_cons_zero]
          refine wpAnyH_take (i := 7) (v := ?_) rfl (by kernel_rfl) (by kernel_rfl) (by kernel_rfl) (fun _ _ _ h => h) (Or.inl ⟨by rfl, ?_⟩) O ?_
          rotate_left
          · intro wq hSq
            (try dsimp only at hSq)

            go_simp
            try rfl
          change wpAnyH _ _ _ _ _ _ _ (Act.put _ (some 42) _) _
          simp only [Act.put, List.setIfInBounds_toArray, List.set_cons_succ, List.set_cons_zero]
          refine wpAnyH_take (i := 8) (v := ?_) rfl (by kernel_rfl) (by kernel_rfl) (by kernel_rfl) (fun _ _ _ h => h) (Or.inl ⟨by rfl, ?_⟩) O ?_
          rotate_left
          · intro wq hSq
            (try dsimp only at hSq)

            go_simp
            try rfl
          change wpAnyH _ _ _ _ _ _ _ (Act.put _ (some 43) _) _
          simp only [Act.put, List.setIfInBounds_toArray, List.set_cons_succ, List.set_cons_zero]
          have r0 := bN.c 0 rfl
          have rf0 := bN.f 0 (x := _) rfl
          have r1 := bN.c 1 rfl
          have rf1 := bN.f 1 (x := _) rfl
          have r2 := bN.c 2 rfl
          have rf2 := bN.f 2 (x := _) rfl
          have r3 := bN.c 3 rfl
          have rf3 := bN.f 3 (x := _) rfl
          have r4 := bN.c 4 rfl
          have rf4 := bN.f 4 (x := _) rfl
          refine wpAnyH_ready (rs := [10]) (by kernel_rfl) (by simp) ?_
          refine (AllReadyH.cons rfl (fun K hK => ?_) AllReadyH.nil)
          go_simp
          have O2 := below_set5 O (B := B) hBV (.int .i64 R.a) (.int .i64 R.b) (.int .i64 R.c) (.int .i64 R.d) (.int .i64 R.e)
          refine hK.out _ _ O2 (fun _ => ?_)
          clear hK K
          try simp only [Act.put, List.setIfInBounds_toArray, List.set_cons_zero, List.set_cons_succ]
          refine wpAnyH_ready (rs := [11]) (by kernel_rfl) (by simp) ?_
          refine (AllReadyH.cons rfl (fun K hK => ?_) AllReadyH.nil)
          go_simp
          refine hK.out _ _ O2 (fun _ => ?_)
          clear hK K
          try simp only [Act.put, List.setIfInBounds_toArray, List.set_cons_zero, List.set_cons_succ]
          clear r0 rf0 r1 rf1 r2 rf2 r3 rf3 r4 rf4
          refine wpAnyH_done (by kernel_rfl) ?_ _
          have b5 := bN.set5 (.int .i64 R.a) (.int .i64 R.b) (.int .i64 R.c) (.int .i64 R.d) (.int .i64 R.e)
          have m5 := mid_set5 u0cacc B (.int .i64 R.a) (.int .i64 R.b) (.int .i64 R.c) (.int .i64 R.d) (.int .i64 R.e)
          have hD : hiq ≤ B ∨ B + 1 ≤ loq := by first | exact .inl hBq | exact .inr hqB
          have g5 := hGM.mid m5 hD
          have z5 := m5.size
          go_wp2_with fail
          go_meet
          case rel => exact ⟨B, loq, hiq, rfl, O2, b5, g5, hBV, hqV, Nat.le_trans hqs z5, hD⟩
      · go_simp
        have hOs := O.size
        obtain ⟨bN, hb, z⟩ := one u0 [.int .i64 0, .int .i64 0, .int .i64 0, .int .i64 0, .int .i64 0] 26
        have O := over_step O hb
        clear z hb
        refine hK.out _ _ O (fun _ => ?_)
        clear hK K
        try simp only [Act.put, List.setIfInBounds_toArray, List.set_cons_zero, List.set_cons_succ]
        obtain ⟨B, eB⟩ : ∃ B, B = u0.heap.size := ⟨_, rfl⟩
        have hBV : V7.heap.size ≤ B := by rw [eB]; exact hOs
        obtain ⟨u0a, eW⟩ : ∃ u, u = u0.alloc (.cells #[.int .i64 0, .int .i64 0, .int .i64 0, .int .i64 0, .int .i64 0] 26) := ⟨_, rfl⟩
        rw [← eW] at bN O   ⊢
        rw [← eB] at bN ⊢
        clear eW eB hOs
        refine wpAnyH_ready (rs := [1]) (by kernel_rfl) (by simp) ?_
        refine (AllReadyH.cons rfl (fun K hK => ?_) AllReadyH.nil)
        go_simp
        refine (toCf_any xa xi xh xp _).mono ?_
        rintro e u0ac ⟨rfl, hb⟩
        replace bN := bN.keep hb
        have O := over_step O hb
        clear hb
        refine hK.out _ _ O (fun _ => ?_)
        clear hK K
        try simp only [Act.put, List.setIfInBounds_toArray, List.set_cons_zero, List.set_cons_succ]
        refine wpAnyH_ready (rs := [3]) (by kernel_rfl) (by simp) ?_
        refine (AllReadyH.cons rfl (fun K hK => ?_) AllReadyH.nil)
        go_simp
        refine (toS_any s0 s1 s2 s3 s4 _).mono ?_
        rintro e u0acc ⟨rfl, hb⟩
        replace bN := bN.keep hb
        have O := over_step O hb
        clear hb
        refine hK.out _ _ O (fun _ => ?_)
        clear hK K
        try simp only [Act.put, List.setIfInBounds_toArray, List.set_cons_zero, List.set_cons_succ]
        refine wpAnyH_ready (rs := [5]) (by kernel_rfl) (by simp) ?_
        refine (AllReadyH.cons rfl (fun K hK => ?_) AllReadyH.nil)
        go_simp
        refine ((iSS_any xa xi xh xp s0 s1 s2 s3 s4 _ _ _ _ _ _ _ _ gs cs ps ms ek ee kn sa ho ix pr bw er u _ (hG4.rd.keep O) (hC4.rd.keep O) ((hP4.rd HP.out.1).keep O) ((hM4.rd HM.out.1).keep O) (over_cell (over_step OA O) HU.out.2 HU.out.1) (over_cell (over_step OA O) HT.out.2 HT.out.1))).mono ?_
        rw [← HR.out]
        rintro e u0accc ⟨uq, rfl, ho_, hb⟩
        have hOS := O.size
        have hqBl := bN.lt
        replace bN := bN.keep hb
        have O := over_step O hb
        obtain ⟨loq, eL⟩ : ∃ q, q = u0acc.heap.size := ⟨_, rfl⟩
        obtain ⟨hiq, eH⟩ : ∃ q, q = u0accc.heap.size := ⟨_, rfl⟩
        rw [← eL] at ho_
        have hGM := GM.of ho_ HL1.out
        rw [← eH] at hGM
        have hqV : V7.heap.size ≤ loq := by rw [eL]; exact hOS
        have hqs : hiq ≤ u0accc.heap.size := Nat.le_of_eq eH
        have hqB : B + 1 ≤ loq := by rw [eL]; exact hqBl
        clear ho_ eH eL hOS
        clear hb
        refine hK.out _ _ O (fun _ => ?_)
        clear hK K
        try simp only [Act.put, List.setIfInBounds_toArray, List.set_cons_zero, List.set_cons_succ]
        refine wpAnyH_take (i := 6) (v := ?_) rfl (by kernel_rfl) (by kernel_rfl) (by kernel_rfl) (fun _ _ _ h => h) (Or.inl ⟨by rfl, ?_⟩) O ?_
        rotate_left
        · intro wq hSq
          (try dsimp only at hSq)

          go_simp
          try rfl
        change wpAnyH _ _ _ _ _ _ _ (Act.put _ (some 35) _) _
        simp only [Act.put, List.setIfInBounds_toArray, List.set_cons_succ, List.set_cons_zero]
        refine wpAnyH_take (i := 7) (v := ?_) rfl (by kernel_rfl) (by kernel_rfl) (by kernel_rfl) (fun _ _ _ h => h) (Or.inl ⟨by rfl, ?_⟩) O ?_
        rotate_left
        · intro wq hSq
          (try dsimp only at hSq)

          go_simp
          try rfl
        change wpAnyH _ _ _ _ _ _ _ (Act.put _ (some 42) _) _
        simp only [Act.put, List.setIfInBounds_toArray, List.set_cons_succ, List.set_cons_zero]
        refine wpAnyH_take (i := 8) (v := ?_) rfl (by kernel_rfl) (by kernel_rfl) (by kernel_rfl) (fun _ _ _ h => h) (Or.inl ⟨by rfl, ?_⟩) O ?_
        rotate_left
        · intro wq hSq
          (try dsimp only at hSq)

          go_simp
          try rfl
        change wpAnyH _ _ _ _ _ _ _ (Act.put _ (some 43) _) _
        simp only [Act.put, List.setIfInBounds_toArray, List.set_cons_succ, List.set_cons_zero]
        have r0 := bN.c 0 rfl
        have rf0 := bN.f 0 (x := _) rfl
        have r1 := bN.c 1 rfl
        have rf1 := bN.f 1 (x := _) rfl
        have r2 := bN.c 2 rfl
        have rf2 := bN.f 2 (x := _) rfl
        have r3 := bN.c 3 rfl
        have rf3 := bN.f 3 (x := _) rfl
        have r4 := bN.c 4 rfl
        have rf4 := bN.f 4 (x := _) rfl
        refine wpAnyH_ready (rs := [10]) (by kernel_rfl) (by simp) ?_
        refine (AllReadyH.cons rfl (fun K hK => ?_) AllReadyH.nil)
        go_simp
        have O2 := below_set5 O (B := B) hBV (.int .i64 R.a) (.int .i64 R.b) (.int .i64 R.c) (.int .i64 R.d) (.int .i64 R.e)
        refine hK.out _ _ O2 (fun _ => ?_)
        clear hK K
        try simp only [Act.put, List.setIfInBounds_toArray, List.set_cons_zero, List.set_cons_succ]
        refine wpAnyH_ready (rs := [11]) (by kernel_rfl) (by simp) ?_
        refine (AllReadyH.cons rfl (fun K hK => ?_) AllReadyH.nil)
        go_simp
        refine hK.out _ _ O2 (fun _ => ?_)
        clear hK K
        try simp only [Act.put, List.setIfInBounds_toArray, List.set_cons_zero, List.set_cons_succ]
        clear r0 rf0 r1 rf1 r2 rf2 r3 rf3 r4 rf4
        refine wpAnyH_done (by kernel_rfl) ?_ _
        have b5 := bN.set5 (.int .i64 R.a) (.int .i64 R.b) (.int .i64 R.c) (.int .i64 R.d) (.int .i64 R.e)
        have m5 := mid_set5 u0accc B (.int .i64 R.a) (.int .i64 R.b) (.int .i64 R.c) (.int .i64 R.d) (.int .i64 R.e)
        have hD : hiq ≤ B ∨ B + 1 ≤ loq := by first | exact .inl hBq | exact .inr hqB
        have g5 := hGM.mid m5 hD
        have z5 := m5.size
        go_wp2_with fail
        go_meet
        case rel => exact ⟨B, loq, hiq, rfl, O2, b5, g5, hBV, hqV, Nat.le_trans hqs z5, hD⟩
    case rest =>
      obtain ⟨wB, rfl⟩ : ∃ x : World, x = wc := ⟨_, rfl⟩
      obtain ⟨B11, lo11, hi11, rfl, O7, b11, G11, h11a, h11b, h11c, h11d⟩ := hcut
      replace b8 := b8.keep O7
      replace G8 := G8.keep O7
      replace hG4 := hG4.keep O7
      replace hC4 := hC4.keep O7
      replace hP4 := hP4.keep O7
      replace hM4 := hM4.keep O7
      replace bX := bX.keep O7
      replace OA := over_step OA O7
      have z7 := O7.size
      clear O7
      have fp0 := b11.c 0 rfl
      have fp1 := b11.c 1 rfl
      have fp2 := b11.c 2 rfl
      have fp3 := b11.c 3 rfl
      have fp4 := b11.c 4 rfl
      have fq0 := b8.c 0 rfl
      have fq1 := b8.c 1 rfl
      have fq2 := b8.c 2 rfl
      have fq3 := b8.c 3 rfl
      have fq4 := b8.c 4 rfl
      go_wp2_with fail
      clear fp0 fp1 fp2 fp3 fp4
      clear fq0 fq1 fq2 fq3 fq4
      refine (eqSn_same R.a R.b R.c R.d R.e _).mono ?_
      rintro e x1 ⟨rfl, hb⟩
      replace b8 := b8.keep hb
      replace G8 := G8.keep hb
      replace hG4 := hG4.keep hb
      replace hC4 := hC4.keep hb
      replace hP4 := hP4.keep hb
      replace hM4 := hM4.keep hb
      replace bX := bX.keep hb
      replace b11 := b11.keep hb
      replace G11 := G11.keep hb
      replace OA := over_step OA hb
      clear hb
      go_wp2_with fail
      refine (eqGS_same _ _ R.l lo11 hi11 lo8 hi8 _ G11 G8).mono ?_
      rintro e x2 ⟨rfl, hb⟩
      replace b8 := b8.keep hb
      replace G8 := G8.keep hb
      replace hG4 := hG4.keep hb
      replace hC4 := hC4.keep hb
      replace hP4 := hP4.keep hb
      replace hM4 := hM4.keep hb
      replace bX := bX.keep hb
      replace b11 := b11.keep hb
      replace G11 := G11.keep hb
      replace OA := over_step OA hb
      clear hb
      have bE10 := bE.keep OA
      go_wp2_with fail
      refine wp_region_held_drew (S := fun w' => Over x2 w') (by kernel_rfl) (over_drew x2) (fun hHeld => ?_)
      obtain ⟨u0, e0⟩ : ∃ u, u = x2.drew := ⟨_, rfl⟩
      have O : Over x2 u0 := by rw [e0]; exact over_drew x2
      rw [← e0]
      clear e0 hHeld
      refine wpAnyH_take (i := 0) (v := ?_) rfl (by kernel_rfl) (by kernel_rfl) (by kernel_rfl) (fun _ _ _ h => h) (Or.inl ⟨by rfl, ?_⟩) O ?_
      rotate_left
      · intro wq hSq
        (try dsimp only at hSq)
        have q0 := bX.o hSq 0 rfl
        have q1 := bX.o hSq 1 rfl
        have q2 := bX.o hSq 2 rfl
        have q3 := bX.o hSq 3 rfl
        have q4 := bX.o hSq 4 rfl
        have q5 := bX.o hSq 5 rfl
        have q6 := bX.o hSq 6 rfl
        have q7 := bX.o hSq 7 rfl
        have q8 := bX.o hSq 8 rfl
        have q9 := bX.o hSq 9 rfl
        have q10 := bX.o hSq 10 rfl
        have q11 := bX.o hSq 11 rfl
        have q12 := bX.o hSq 12 rfl
        go_simp
        try rfl
      change wpAnyH _ _ _ _ _ _ _ (Act.put _ (some 54) _) _
      simp only [Act.put, List.setIfInBounds_toArray, List.set_cons_succ, List.set_cons_zero]
      refine wpAnyH_take (i := 1) (v := ?_) rfl (by kernel_rfl) (by kernel_rfl) (by kernel_rfl) (fun _ _ _ h => h) (Or.inl ⟨by rfl, ?_⟩) O ?_
      rotate_left
      · intro wq hSq
        (try dsimp only at hSq)
        have q0 := bE10.o hSq 0 rfl
        have q1 := bE10.o hSq 1 rfl
        have q2 := bE10.o hSq 2 rfl
        have q3 := bE10.o hSq 3 rfl
        have q4 := bE10.o hSq 4 rfl
        have q5 := bE10.o hSq 5 rfl
        have q6 := bE10.o hSq 6 rfl
        have q7 := bE10.o hSq 7 rfl
        have q8 := bE10.o hSq 8 rfl
        have q9 := bE10.o hSq 9 rfl
        have q10 := bE10.o hSq 10 rfl
        have q11 := bE10.o hSq 11 rfl
        have q12 := bE10.o hSq 12 rfl
        go_simp
        try rfl
      change wpAnyH _ _ _ _ _ _ _ (Act.put _ (some 55) _) _
      simp only [Act.put, List.setIfInBounds_toArray, List.set_cons_succ, List.set_cons_zero]
      refine wpAnyH_ready (rs := [2]) (by kernel_rfl) (by simp) ?_
      refine (AllReadyH.cons rfl (fun K hK => ?_) AllReadyH.nil)
      go_simp
      refine (toE_any _ _ _ _ gs cs ps ms ek ee kn sa ho ix pr bw er _ ((HG.out.keep OA).keep O) ((HC.out.keep OA).keep O) ((HP.out.keep OA).keep O) ((HM.out.keep OA).keep O) L0.out L1.out L2.out L3.out).mono ?_
      rintro e u1 ⟨g6, gx6, c6, cx6, p6, px6, m6, mx6, rfl, hG6, hC6, hP6, hM6, -, -, -, -, -, -, hb⟩
      have O := over_step O hb
      clear hb
      refine hK.out _ _ O (fun _ => ?_)
      clear hK K
      try simp only [Act.put, List.setIfInBounds_toArray, List.set_cons_zero, List.set_cons_succ]
      refine wpAnyH_ready (rs := [3]) (by kernel_rfl) (by simp) ?_
      refine (AllReadyH.cons rfl (fun K hK => ?_) AllReadyH.nil)
      go_simp
      refine (eqE_same _ _ _ _ gs cs ps ms ek ee kn sa ho ix pr bw er _ _ _ _ _ (hG4.rd.keep O) (hC4.rd.keep O) ((hP4.rd HP.out.1).keep O) ((hM4.rd HM.out.1).keep O) hG6.rd hC6.rd (hP6.rd HP.out.1) (hM6.rd HM.out.1)).mono ?_
      rintro e u2 ⟨rfl, hb⟩
      have O := over_step O hb
      clear hb hG6 hC6 hP6 hM6
      refine hK.out _ _ O (fun _ => ?_)
      clear hK K
      try simp only [Act.put, List.setIfInBounds_toArray, List.set_cons_zero, List.set_cons_succ]
      refine wpAnyH_take (i := 4) (v := ?_) rfl (by kernel_rfl) (by kernel_rfl) (by kernel_rfl) (fun _ _ _ h => h) (Or.inl ⟨by rfl, ?_⟩) O ?_
      rotate_left
      · intro wq hSq
        (try dsimp only at hSq)

        go_simp
        try rfl
      change wpAnyH _ _ _ _ _ _ _ (Act.put _ (some 58) _) _
      simp only [Act.put, List.setIfInBounds_toArray, List.set_cons_succ, List.set_cons_zero]
      refine wpAnyH_done (by kernel_rfl) ?_ _
      have hb : Below x2.heap.size x2 u2 := O
      replace b8 := b8.keep hb
      replace G8 := G8.keep hb
      replace hG4 := hG4.keep hb
      replace hC4 := hC4.keep hb
      replace hP4 := hP4.keep hb
      replace hM4 := hM4.keep hb
      replace bX := bX.keep hb
      replace b11 := b11.keep hb
      replace G11 := G11.keep hb
      replace OA := over_step OA hb
      clear hb O bE10
      have fx0 := bX.c 0 rfl
      have fx1 := bX.c 1 rfl
      have fx2 := bX.c 2 rfl
      have fx3 := bX.c 3 rfl
      have fx4 := bX.c 4 rfl
      have fx5 := bX.c 5 rfl
      have fx6 := bX.c 6 rfl
      have fx7 := bX.c 7 rfl
      have fx8 := bX.c 8 rfl
      have fx9 := bX.c 9 rfl
      have fx10 := bX.c 10 rfl
      have fx11 := bX.c 11 rfl
      have fx12 := bX.c 12 rfl
      go_wp2_with fail
      clear fx0 fx1 fx2 fx3 fx4 fx5 fx6 fx7 fx8 fx9 fx10 fx11 fx12
      have sX := bX.lt
      refine (markEv_any _ _ _ _ gs cs ps ms ek ee kn sa ho ix pr bw er loE hiE _ hG4 hC4 hP4 hM4 HAP.out.1.1 HAP.out.1.2.1 HAP.out.1.2.2 HAP.out.2.1 HAP.out.2.2.1 HAP.out.2.2.2 (by omega) (by omega) nG.out nC.out nP.out nM.out L0.out L1.out L2.out L3.out).mono ?_
      rintro e y0 ⟨k, rfl, hk0, hm⟩
      have hk : ¬ k < 0 := by omega
      replace b8 := Mid.bl b8 hm (.inl (by omega))
      replace b11 := Mid.bl b11 hm (.inr (by omega))
      replace G8 := G8.mid hm (.inl (by omega))
      replace G11 := G11.mid hm (.inr (by omega))
      replace OA := Mid.over OA hm (by omega)
      have HZ := Lib.hid (And.intro (And.intro zA (And.intro z4 lB8)) (And.intro zV z7))
      have H11 := Lib.hid (And.intro (And.intro h11a h11b) (And.intro h11c h11d))
      have H8 := Lib.hid (And.intro (And.intro h8a h8b) (And.intro h8c h8d))
      clear hm hk0 hG4 hC4 hP4 hM4 bX sX nG nC nP nM zA z4 lB8 zV z7 h11a h11b h11c h11d h8a h8b h8c h8d HAP
      have fp0 := b11.c 0 rfl
      have fp1 := b11.c 1 rfl
      have fp2 := b11.c 2 rfl
      have fp3 := b11.c 3 rfl
      have fp4 := b11.c 4 rfl
      have fq0 := b8.c 0 rfl
      have fq1 := b8.c 1 rfl
      have fq2 := b8.c 2 rfl
      have fq3 := b8.c 3 rfl
      have fq4 := b8.c 4 rfl
      go_wp2_with fail
      clear fp0 fp1 fp2 fp3 fp4
      clear fq0 fq1 fq2 fq3 fq4
      refine (eqSn_same R.a R.b R.c R.d R.e _).mono ?_
      rintro e y1 ⟨rfl, hb⟩
      replace b8 := b8.keep hb
      replace G8 := G8.keep hb
      replace b11 := b11.keep hb
      replace G11 := G11.keep hb
      replace OA := over_step OA hb
      clear hb
      go_wp2_with fail
      refine (eqGS_same _ _ R.l lo11 hi11 lo8 hi8 _ G11 G8).mono ?_
      rintro e y2 ⟨rfl, hb⟩
      replace b8 := b8.keep hb
      replace G8 := G8.keep hb
      replace b11 := b11.keep hb
      replace G11 := G11.keep hb
      replace OA := over_step OA hb
      clear hb
      clear b11
      go_wp2_with fail
      clear hk
      refine (markGS _ R.l lo11 hi11 _ G11).mono ?_
      rintro e z0 ⟨j, rfl, hj, hm, hMk⟩
      have HJ := Lib.hid hj
      replace b8 := Mid.bl b8 hm (.inl (by have := HZ.out; have := H11.out; have := H8.out; have := b8.lt; omega))
      replace G8 := G8.mid hm (.inl (by have := HZ.out; have := H11.out; have := H8.out; omega))
      replace OA := Mid.over OA hm (by have := HZ.out; have := H11.out; have := H8.out; omega)
      clear hm hj G11
      go_wp2_with fail
      refine (heldGS _ j lo11 hi11 _ hMk).mono ?_
      rintro e z1 ⟨rfl, rfl⟩
      have hj0 : ¬ j < 0 := by have := HJ.out; omega
      have hjj : (j != j) = false := by simp
      go_wp2_with fail
      obtain ⟨V9, eV⟩ : ∃ x, x = z0 := ⟨_, rfl⟩
      rw [← eV] at OA b8 G8 hMk ⊢
      clear eV
      have bA9 := bA.keep OA
      have bS9 := bS.keep OA
      have bE9 := bE.keep OA
      have HG9 := HG.out.keep OA
      have HC9 := HC.out.keep OA
      have HP9 := HP.out.keep OA
      have HM9 := HM.out.keep OA
      go_cut [16, 17] from 87 to 96 (fun s16 s17 wx => Kept V9 wx R s16 s17)
      case first =>
        refine wp_region_held_drew (S := fun w' => Over V9 w') (by kernel_rfl) (over_drew V9) (fun hHeld => ?_)
        obtain ⟨u0, e0⟩ : ∃ u, u = V9.drew := ⟨_, rfl⟩
        have O : Over V9 u0 := by rw [e0]; exact over_drew V9
        rw [← e0]
        clear e0 hHeld
        refine wpAnyH_take (i := 0) (v := ?_) rfl (by kernel_rfl) (by kernel_rfl) (by kernel_rfl) (fun _ _ _ h => h) (Or.inl ⟨by rfl, ?_⟩) O ?_
        rotate_left
        · intro wq hSq
          (try dsimp only at hSq)
          have q0 := bA9.o hSq 0 rfl
          have q1 := bA9.o hSq 1 rfl
          have q2 := bA9.o hSq 2 rfl
          have q3 := bA9.o hSq 3 rfl
          go_simp
          try rfl
        change wpAnyH _ _ _ _ _ _ _ (Act.put _ (some 88) _) _
        simp only [Act.put, List.setIfInBounds_toArray, List.set_cons_succ, List.set_cons_zero]
        refine wpAnyH_take (i := 2) (v := ?_) rfl (by kernel_rfl) (by kernel_rfl) (by kernel_rfl) (fun _ _ _ h => h) (Or.inl ⟨by rfl, ?_⟩) O ?_
        rotate_left
        · intro wq hSq
          (try dsimp only at hSq)
          have q0 := bS9.o hSq 0 rfl
          have q1 := bS9.o hSq 1 rfl
          have q2 := bS9.o hSq 2 rfl
          have q3 := bS9.o hSq 3 rfl
          have q4 := bS9.o hSq 4 rfl
          go_simp
          try rfl
        change wpAnyH _ _ _ _ _ _ _ (Act.put _ (some 90) _) _
        simp only [Act.put, List.setIfInBounds_toArray, List.set_cons_succ, List.set_cons_zero]
        refine wpAnyH_take (i := 4) (v := ?_) rfl (by kernel_rfl) (by kernel_rfl) (by kernel_rfl) (fun _ _ _ h => h) (Or.inl ⟨by rfl, ?_⟩) O ?_
        rotate_left
        · intro wq hSq
          (try dsimp only at hSq)
          have q0 := bE9.o hSq 0 rfl
          have q1 := bE9.o hSq 1 rfl
          have q2 := bE9.o hSq 2 rfl
          have q3 := bE9.o hSq 3 rfl
          have q4 := bE9.o hSq 4 rfl
          have q5 := bE9.o hSq 5 rfl
          have q6 := bE9.o hSq 6 rfl
          have q7 := bE9.o hSq 7 rfl
          have q8 := bE9.o hSq 8 rfl
          have q9 := bE9.o hSq 9 rfl
          have q10 := bE9.o hSq 10 rfl
          have q11 := bE9.o hSq 11 rfl
          have q12 := bE9.o hSq 12 rfl
          go_simp
          try rfl
        change wpAnyH _ _ _ _ _ _ _ (Act.put _ (some 92) _) _
        simp only [Act.put, List.setIfInBounds_toArray, List.set_cons_succ, List.set_cons_zero]
        refine wpAnyH_ready (rs := [1, 10]) (by kernel_rfl) (by simp) ?_
        refine (AllReadyH.cons rfl (fun K hK => ?_) (AllReadyH.cons rfl (fun K hK => ?_) AllReadyH.nil))
        · go_simp
          refine (toCf_any xa xi xh xp _).mono ?_
          rintro e u0c ⟨rfl, hb⟩
          have O := over_step O hb
          clear hb
          refine hK.out _ _ O (fun _ => ?_)
          clear hK K
          try simp only [Act.put, List.setIfInBounds_toArray, List.set_cons_zero, List.set_cons_succ]
          refine wpAnyH_ready (rs := [3, 10]) (by kernel_rfl) (by simp) ?_
          refine (AllReadyH.cons rfl (fun K hK => ?_) (AllReadyH.cons rfl (fun K hK => ?_) AllReadyH.nil))
          · go_simp
            refine (toS_any s0 s1 s2 s3 s4 _).mono ?_
            rintro e u0cc ⟨rfl, hb⟩
            have O := over_step O hb
            clear hb
            refine hK.out _ _ O (fun _ => ?_)
            clear hK K
            try simp only [Act.put, List.setIfInBounds_toArray, List.set_cons_zero, List.set_cons_succ]
            refine wpAnyH_ready (rs := [5, 10]) (by kernel_rfl) (by simp) ?_
            refine (AllReadyH.cons rfl (fun K hK => ?_) (AllReadyH.cons rfl (fun K hK => ?_) AllReadyH.nil))
            · go_simp
              refine (toE_any _ _ _ _ gs cs ps ms ek ee kn sa ho ix pr bw er _ (HG9.keep O) (HC9.keep O) (HP9.keep O) (HM9.keep O) L0.out L1.out L2.out L3.out).mono ?_
              rintro e u0ccc ⟨g2, gx2, c2, cx2, p2, px2, m2, mx2, rfl, hG2, hC2, hP2, hM2, -, -, -, -, -, -, hb⟩
              have O := over_step O hb
              clear hb
              refine hK.out _ _ O (fun _ => ?_)
              clear hK K
              try simp only [Act.put, List.setIfInBounds_toArray, List.set_cons_zero, List.set_cons_succ]
              refine wpAnyH_ready (rs := [6, 10]) (by kernel_rfl) (by simp) ?_
              refine (AllReadyH.cons rfl (fun K hK => ?_) (AllReadyH.cons rfl (fun K hK => ?_) AllReadyH.nil))
              · go_simp
                refine ((iSS_any xa xi xh xp s0 s1 s2 s3 s4 _ _ _ _ _ _ _ _ gs cs ps ms ek ee kn sa ho ix pr bw er u _ hG2.rd hC2.rd (hP2.rd HP.out.1) (hM2.rd HM.out.1) (over_cell (over_step OA O) HU.out.2 HU.out.1) (over_cell (over_step OA O) HT.out.2 HT.out.1))).mono ?_
                rw [← HR.out]
                rintro e u0cccc ⟨uq, rfl, ho_, hb⟩
                have hOS := O.size
                replace hG2 := hG2.keep hb
                replace hC2 := hC2.keep hb
                replace hP2 := hP2.keep hb
                replace hM2 := hM2.keep hb
                have O := over_step O hb
                obtain ⟨loq, eL⟩ : ∃ q, q = u0ccc.heap.size := ⟨_, rfl⟩
                obtain ⟨hiq, eH⟩ : ∃ q, q = u0cccc.heap.size := ⟨_, rfl⟩
                rw [← eL] at ho_
                have hGM := GM.of ho_ HL1.out
                rw [← eH] at hGM
                have hqV : V9.heap.size ≤ loq := by rw [eL]; exact hOS
                have hqs : hiq ≤ u0cccc.heap.size := Nat.le_of_eq eH

                clear ho_ eH eL hOS
                clear hb
                refine hK.out _ _ O (fun _ => ?_)
                clear hK K
                try simp only [Act.put, List.setIfInBounds_toArray, List.set_cons_zero, List.set_cons_succ]
                refine wpAnyH_take (i := 7) (v := ?_) rfl (by kernel_rfl) (by kernel_rfl) (by kernel_rfl) (fun _ _ _ h => h) (Or.inl ⟨by rfl, ?_⟩) O ?_
                rotate_left
                · intro wq hSq
                  (try dsimp only at hSq)

                  go_simp
                  try rfl
                change wpAnyH _ _ _ _ _ _ _ (Act.put _ (some 87) _) _
                simp only [Act.put, List.setIfInBounds_toArray, List.set_cons_succ, List.set_cons_zero]
                refine wpAnyH_take (i := 8) (v := ?_) rfl (by kernel_rfl) (by kernel_rfl) (by kernel_rfl) (fun _ _ _ h => h) (Or.inl ⟨by rfl, ?_⟩) O ?_
                rotate_left
                · intro wq hSq
                  (try dsimp only at hSq)

                  go_simp
                  try rfl
                change wpAnyH _ _ _ _ _ _ _ (Act.put _ (some 95) _) _
                simp only [Act.put, List.setIfInBounds_toArray, List.set_cons_succ, List.set_cons_zero]
                refine wpAnyH_take (i := 9) (v := ?_) rfl (by kernel_rfl) (by kernel_rfl) (by kernel_rfl) (fun _ _ _ h => h) (Or.inl ⟨by rfl, ?_⟩) O ?_
                rotate_left
                · intro wq hSq
                  (try dsimp only at hSq)

                  go_simp
                  try rfl
                change wpAnyH _ _ _ _ _ _ _ (Act.put _ (some 96) _) _
                simp only [Act.put, List.setIfInBounds_toArray, List.set_cons_succ, List.set_cons_zero]
                refine wpAnyH_ready (rs := [10]) (by kernel_rfl) (by simp) ?_
                refine (AllReadyH.cons rfl (fun K hK => ?_) AllReadyH.nil)
                go_simp
                have hOs := O.size
                obtain ⟨bN, hb, z⟩ := one u0cccc [.int .i64 0, .int .i64 0, .int .i64 0, .int .i64 0, .int .i64 0] 26
                have O := over_step O hb
                replace hGM := hGM.keep hb
                have hqt := Nat.le_trans hqs hb.size
                clear z hb
                refine hK.out _ _ O (fun _ => ?_)
                clear hK K
                try simp only [Act.put, List.setIfInBounds_toArray, List.set_cons_zero, List.set_cons_succ]
                obtain ⟨B, eB⟩ : ∃ B, B = u0cccc.heap.size := ⟨_, rfl⟩
                have hBV : V9.heap.size ≤ B := by rw [eB]; exact hOs
                have hBq : hiq ≤ B := by rw [eB]; exact hqs
                obtain ⟨u0cccca, eW⟩ : ∃ u, u = u0cccc.alloc (.cells #[.int .i64 0, .int .i64 0, .int .i64 0, .int .i64 0, .int .i64 0] 26) := ⟨_, rfl⟩
                rw [← eW] at bN O hGM hqt ⊢
                rw [← eB] at bN ⊢
                replace hqs := hqt
                clear hqt
                clear eW eB hOs
                have r0 := bN.c 0 rfl
                have rf0 := bN.f 0 (x := _) rfl
                have r1 := bN.c 1 rfl
                have rf1 := bN.f 1 (x := _) rfl
                have r2 := bN.c 2 rfl
                have rf2 := bN.f 2 (x := _) rfl
                have r3 := bN.c 3 rfl
                have rf3 := bN.f 3 (x := _) rfl
                have r4 := bN.c 4 rfl
                have rf4 := bN.f 4 (x := _) rfl
                refine wpAnyH_ready (rs := [11]) (by kernel_rfl) (by simp) ?_
                refine (AllReadyH.cons rfl (fun K hK => ?_) AllReadyH.nil)
                go_simp
                have O2 := below_set5 O (B := B) hBV (.int .i64 R.a) (.int .i64 R.b) (.int .i64 R.c) (.int .i64 R.d) (.int .i64 R.e)
                refine hK.out _ _ O2 (fun _ => ?_)
                clear hK K
                try simp only [Act.put, List.setIfInBounds_toArray, List.set_cons_zero, List.set_cons_succ]
                refine wpAnyH_ready (rs := [12]) (by kernel_rfl) (by simp) ?_
                refine (AllReadyH.cons rfl (fun K hK => ?_) AllReadyH.nil)
                go_simp
                refine hK.out _ _ O2 (fun _ => ?_)
                clear hK K
                try simp only [Act.put, List.setIfInBounds_toArray, List.set_cons_zero, List.set_cons_succ]
                clear r0 rf0 r1 rf1 r2 rf2 r3 rf3 r4 rf4
                refine wpAnyH_done (by kernel_rfl) ?_ _
                have b5 := bN.set5 (.int .i64 R.a) (.int .i64 R.b) (.int .i64 R.c) (.int .i64 R.d) (.int .i64 R.e)
                have m5 := mid_set5 u0cccca B (.int .i64 R.a) (.int .i64 R.b) (.int .i64 R.c) (.int .i64 R.d) (.int .i64 R.e)
                have hD : hiq ≤ B ∨ B + 1 ≤ loq := by first | exact .inl hBq | exact .inr hqB
                have g5 := hGM.mid m5 hD
                have z5 := m5.size
                go_wp2_with fail
                go_meet
                case rel => exact ⟨B, loq, hiq, rfl, O2, b5, g5, hBV, hqV, Nat.le_trans hqs z5, hD⟩
              · go_simp
                have hOs := O.size
                obtain ⟨bN, hb, z⟩ := one u0ccc [.int .i64 0, .int .i64 0, .int .i64 0, .int .i64 0, .int .i64 0] 26
                have O := over_step O hb
                replace hG2 := hG2.keep hb
                replace hC2 := hC2.keep hb
                replace hP2 := hP2.keep hb
                replace hM2 := hM2.keep hb
                clear z hb
                refine hK.out _ _ O (fun _ => ?_)
                clear hK K
                try simp only [Act.put, List.setIfInBounds_toArray, List.set_cons_zero, List.set_cons_succ]
                obtain ⟨B, eB⟩ : ∃ B, B = u0ccc.heap.size := ⟨_, rfl⟩
                have hBV : V9.heap.size ≤ B := by rw [eB]; exact hOs
                obtain ⟨u0ccca, eW⟩ : ∃ u, u = u0ccc.alloc (.cells #[.int .i64 0, .int .i64 0, .int .i64 0, .int .i64 0, .int .i64 0] 26) := ⟨_, rfl⟩
                rw [← eW] at bN O hG2 hC2 hP2 hM2  ⊢
                rw [← eB] at bN ⊢
                clear eW eB hOs
                refine wpAnyH_ready (rs := [6]) (by kernel_rfl) (by simp) ?_
                refine (AllReadyH.cons rfl (fun K hK => ?_) AllReadyH.nil)
                go_simp
                refine ((iSS_any xa xi xh xp s0 s1 s2 s3 s4 _ _ _ _ _ _ _ _ gs cs ps ms ek ee kn sa ho ix pr bw er u _ hG2.rd hC2.rd (hP2.rd HP.out.1) (hM2.rd HM.out.1) (over_cell (over_step OA O) HU.out.2 HU.out.1) (over_cell (over_step OA O) HT.out.2 HT.out.1))).mono ?_
                rw [← HR.out]
                rintro e u0cccac ⟨uq, rfl, ho_, hb⟩
                have hOS := O.size
                have hqBl := bN.lt
                replace hG2 := hG2.keep hb
                replace hC2 := hC2.keep hb
                replace hP2 := hP2.keep hb
                replace hM2 := hM2.keep hb
                replace bN := bN.keep hb
                have O := over_step O hb
                obtain ⟨loq, eL⟩ : ∃ q, q = u0ccca.heap.size := ⟨_, rfl⟩
                obtain ⟨hiq, eH⟩ : ∃ q, q = u0cccac.heap.size := ⟨_, rfl⟩
                rw [← eL] at ho_
                have hGM := GM.of ho_ HL1.out
                rw [← eH] at hGM
                have hqV : V9.heap.size ≤ loq := by rw [eL]; exact hOS
                have hqs : hiq ≤ u0cccac.heap.size := Nat.le_of_eq eH
                have hqB : B + 1 ≤ loq := by rw [eL]; exact hqBl
                clear ho_ eH eL hOS
                clear hb
                refine hK.out _ _ O (fun _ => ?_)
                clear hK K
                try simp only [Act.put, List.setIfInBounds_toArray, List.set_cons_zero, List.set_cons_succ]
                refine wpAnyH_take (i := 7) (v := ?_) rfl (by kernel_rfl) (by kernel_rfl) (by kernel_rfl) (fun _ _ _ h => h) (Or.inl ⟨by rfl, ?_⟩) O ?_
                rotate_left
                · intro wq hSq
                  (try dsimp only at hSq)

                  go_simp
                  try rfl
                change wpAnyH _ _ _ _ _ _ _ (Act.put _ (some 87) _) _
                simp only [Act.put, List.setIfInBounds_toArray, List.set_cons_succ, List.set_cons_zero]
                refine wpAnyH_take (i := 8) (v := ?_) rfl (by kernel_rfl) (by kernel_rfl) (by kernel_rfl) (fun _ _ _ h => h) (Or.inl ⟨by rfl, ?_⟩) O ?_
                rotate_left
                · intro wq hSq
                  (try dsimp only at hSq)

                  go_simp
                  try rfl
                change wpAnyH _ _ _ _ _ _ _ (Act.put _ (some 95) _) _
                simp only [Act.put, List.setIfInBounds_toArray, List.set_cons_succ, List.set_cons_zero]
                refine wpAnyH_take (i := 9) (v := ?_) rfl (by kernel_rfl) (by kernel_rfl) (by kernel_rfl) (fun _ _ _ h => h) (Or.inl ⟨by rfl, ?_⟩) O ?_
                rotate_left
                · intro wq hSq
                  (try dsimp only at hSq)

                  go_simp
                  try rfl
                change wpAnyH _ _ _ _ _ _ _ (Act.put _ (some 96) _) _
                simp only [Act.put, List.setIfInBounds_toArray, List.set_cons_succ, List.set_cons_zero]
                have r0 := bN.c 0 rfl
                have rf0 := bN.f 0 (x := _) rfl
                have r1 := bN.c 1 rfl
                have rf1 := bN.f 1 (x := _) rfl
                have r2 := bN.c 2 rfl
                have rf2 := bN.f 2 (x := _) rfl
                have r3 := bN.c 3 rfl
                have rf3 := bN.f 3 (x := _) rfl
                have r4 := bN.c 4 rfl
                have rf4 := bN.f 4 (x := _) rfl
                refine wpAnyH_ready (rs := [11]) (by kernel_rfl) (by simp) ?_
                refine (AllReadyH.cons rfl (fun K hK => ?_) AllReadyH.nil)
                go_simp
                have O2 := below_set5 O (B := B) hBV (.int .i64 R.a) (.int .i64 R.b) (.int .i64 R.c) (.int .i64 R.d) (.int .i64 R.e)
                refine hK.out _ _ O2 (fun _ => ?_)
                clear hK K
                try simp only [Act.put, List.setIfInBounds_toArray, List.set_cons_zero, List.set_cons_succ]
                refine wpAnyH_ready (rs := [12]) (by kernel_rfl) (by simp) ?_
                refine (AllReadyH.cons rfl (fun K hK => ?_) AllReadyH.nil)
                go_simp
                refine hK.out _ _ O2 (fun _ => ?_)
                clear hK K
                try simp only [Act.put, List.setIfInBounds_toArray, List.set_cons_zero, List.set_cons_succ]
                clear r0 rf0 r1 rf1 r2 rf2 r3 rf3 r4 rf4
                refine wpAnyH_done (by kernel_rfl) ?_ _
                have b5 := bN.set5 (.int .i64 R.a) (.int .i64 R.b) (.int .i64 R.c) (.int .i64 R.d) (.int .i64 R.e)
                have m5 := mid_set5 u0cccac B (.int .i64 R.a) (.int .i64 R.b) (.int .i64 R.c) (.int .i64 R.d) (.int .i64 R.e)
                have hD : hiq ≤ B ∨ B + 1 ≤ loq := by first | exact .inl hBq | exact .inr hqB
                have g5 := hGM.mid m5 hD
                have z5 := m5.size
                go_wp2_with fail
                go_meet
                case rel => exact ⟨B, loq, hiq, rfl, O2, b5, g5, hBV, hqV, Nat.le_trans hqs z5, hD⟩
            · go_simp
              have hOs := O.size
              obtain ⟨bN, hb, z⟩ := one u0cc [.int .i64 0, .int .i64 0, .int .i64 0, .int .i64 0, .int .i64 0] 26
              have O := over_step O hb
              clear z hb
              refine hK.out _ _ O (fun _ => ?_)
              clear hK K
              try simp only [Act.put, List.setIfInBounds_toArray, List.set_cons_zero, List.set_cons_succ]
              obtain ⟨B, eB⟩ : ∃ B, B = u0cc.heap.size := ⟨_, rfl⟩
              have hBV : V9.heap.size ≤ B := by rw [eB]; exact hOs
              obtain ⟨u0cca, eW⟩ : ∃ u, u = u0cc.alloc (.cells #[.int .i64 0, .int .i64 0, .int .i64 0, .int .i64 0, .int .i64 0] 26) := ⟨_, rfl⟩
              rw [← eW] at bN O   ⊢
              rw [← eB] at bN ⊢
              clear eW eB hOs
              refine wpAnyH_ready (rs := [5]) (by kernel_rfl) (by simp) ?_
              refine (AllReadyH.cons rfl (fun K hK => ?_) AllReadyH.nil)
              go_simp
              refine (toE_any _ _ _ _ gs cs ps ms ek ee kn sa ho ix pr bw er _ (HG9.keep O) (HC9.keep O) (HP9.keep O) (HM9.keep O) L0.out L1.out L2.out L3.out).mono ?_
              rintro e u0ccac ⟨g2, gx2, c2, cx2, p2, px2, m2, mx2, rfl, hG2, hC2, hP2, hM2, -, -, -, -, -, -, hb⟩
              replace bN := bN.keep hb
              have O := over_step O hb
              clear hb
              refine hK.out _ _ O (fun _ => ?_)
              clear hK K
              try simp only [Act.put, List.setIfInBounds_toArray, List.set_cons_zero, List.set_cons_succ]
              refine wpAnyH_ready (rs := [6]) (by kernel_rfl) (by simp) ?_
              refine (AllReadyH.cons rfl (fun K hK => ?_) AllReadyH.nil)
              go_simp
              refine ((iSS_any xa xi xh xp s0 s1 s2 s3 s4 _ _ _ _ _ _ _ _ gs cs ps ms ek ee kn sa ho ix pr bw er u _ hG2.rd hC2.rd (hP2.rd HP.out.1) (hM2.rd HM.out.1) (over_cell (over_step OA O) HU.out.2 HU.out.1) (over_cell (over_step OA O) HT.out.2 HT.out.1))).mono ?_
              rw [← HR.out]
              rintro e u0ccacc ⟨uq, rfl, ho_, hb⟩
              have hOS := O.size
              have hqBl := bN.lt
              replace bN := bN.keep hb
              replace hG2 := hG2.keep hb
              replace hC2 := hC2.keep hb
              replace hP2 := hP2.keep hb
              replace hM2 := hM2.keep hb
              have O := over_step O hb
              obtain ⟨loq, eL⟩ : ∃ q, q = u0ccac.heap.size := ⟨_, rfl⟩
              obtain ⟨hiq, eH⟩ : ∃ q, q = u0ccacc.heap.size := ⟨_, rfl⟩
              rw [← eL] at ho_
              have hGM := GM.of ho_ HL1.out
              rw [← eH] at hGM
              have hqV : V9.heap.size ≤ loq := by rw [eL]; exact hOS
              have hqs : hiq ≤ u0ccacc.heap.size := Nat.le_of_eq eH
              have hqB : B + 1 ≤ loq := by rw [eL]; exact hqBl
              clear ho_ eH eL hOS
              clear hb
              refine hK.out _ _ O (fun _ => ?_)
              clear hK K
              try simp only [Act.put, List.setIfInBounds_toArray, List.set_cons_zero, List.set_cons_succ]
              refine wpAnyH_take (i := 7) (v := ?_) rfl (by kernel_rfl) (by kernel_rfl) (by kernel_rfl) (fun _ _ _ h => h) (Or.inl ⟨by rfl, ?_⟩) O ?_
              rotate_left
              · intro wq hSq
                (try dsimp only at hSq)

                go_simp
                try rfl
              change wpAnyH _ _ _ _ _ _ _ (Act.put _ (some 87) _) _
              simp only [Act.put, List.setIfInBounds_toArray, List.set_cons_succ, List.set_cons_zero]
              refine wpAnyH_take (i := 8) (v := ?_) rfl (by kernel_rfl) (by kernel_rfl) (by kernel_rfl) (fun _ _ _ h => h) (Or.inl ⟨by rfl, ?_⟩) O ?_
              rotate_left
              · intro wq hSq
                (try dsimp only at hSq)

                go_simp
                try rfl
              change wpAnyH _ _ _ _ _ _ _ (Act.put _ (some 95) _) _
              simp only [Act.put, List.setIfInBounds_toArray, List.set_cons_succ, List.set_cons_zero]
              refine wpAnyH_take (i := 9) (v := ?_) rfl (by kernel_rfl) (by kernel_rfl) (by kernel_rfl) (fun _ _ _ h => h) (Or.inl ⟨by rfl, ?_⟩) O ?_
              rotate_left
              · intro wq hSq
                (try dsimp only at hSq)

                go_simp
                try rfl
              change wpAnyH _ _ _ _ _ _ _ (Act.put _ (some 96) _) _
              simp only [Act.put, List.setIfInBounds_toArray, List.set_cons_succ, List.set_cons_zero]
              have r0 := bN.c 0 rfl
              have rf0 := bN.f 0 (x := _) rfl
              have r1 := bN.c 1 rfl
              have rf1 := bN.f 1 (x := _) rfl
              have r2 := bN.c 2 rfl
              have rf2 := bN.f 2 (x := _) rfl
              have r3 := bN.c 3 rfl
              have rf3 := bN.f 3 (x := _) rfl
              have r4 := bN.c 4 rfl
              have rf4 := bN.f 4 (x := _) rfl
              refine wpAnyH_ready (rs := [11]) (by kernel_rfl) (by simp) ?_
              refine (AllReadyH.cons rfl (fun K hK => ?_) AllReadyH.nil)
              go_simp
              have O2 := below_set5 O (B := B) hBV (.int .i64 R.a) (.int .i64 R.b) (.int .i64 R.c) (.int .i64 R.d) (.int .i64 R.e)
              refine hK.out _ _ O2 (fun _ => ?_)
              clear hK K
              try simp only [Act.put, List.setIfInBounds_toArray, List.set_cons_zero, List.set_cons_succ]
              refine wpAnyH_ready (rs := [12]) (by kernel_rfl) (by simp) ?_
              refine (AllReadyH.cons rfl (fun K hK => ?_) AllReadyH.nil)
              go_simp
              refine hK.out _ _ O2 (fun _ => ?_)
              clear hK K
              try simp only [Act.put, List.setIfInBounds_toArray, List.set_cons_zero, List.set_cons_succ]
              clear r0 rf0 r1 rf1 r2 rf2 r3 rf3 r4 rf4
              refine wpAnyH_done (by kernel_rfl) ?_ _
              have b5 := bN.set5 (.int .i64 R.a) (.int .i64 R.b) (.int .i64 R.c) (.int .i64 R.d) (.int .i64 R.e)
              have m5 := mid_set5 u0ccacc B (.int .i64 R.a) (.int .i64 R.b) (.int .i64 R.c) (.int .i64 R.d) (.int .i64 R.e)
              have hD : hiq ≤ B ∨ B + 1 ≤ loq := by first | exact .inl hBq | exact .inr hqB
              have g5 := hGM.mid m5 hD
              have z5 := m5.size
              go_wp2_with fail
              go_meet
              case rel => exact ⟨B, loq, hiq, rfl, O2, b5, g5, hBV, hqV, Nat.le_trans hqs z5, hD⟩
          · go_simp
            have hOs := O.size
            obtain ⟨bN, hb, z⟩ := one u0c [.int .i64 0, .int .i64 0, .int .i64 0, .int .i64 0, .int .i64 0] 26
            have O := over_step O hb
            clear z hb
            refine hK.out _ _ O (fun _ => ?_)
            clear hK K
            try simp only [Act.put, List.setIfInBounds_toArray, List.set_cons_zero, List.set_cons_succ]
            obtain ⟨B, eB⟩ : ∃ B, B = u0c.heap.size := ⟨_, rfl⟩
            have hBV : V9.heap.size ≤ B := by rw [eB]; exact hOs
            obtain ⟨u0ca, eW⟩ : ∃ u, u = u0c.alloc (.cells #[.int .i64 0, .int .i64 0, .int .i64 0, .int .i64 0, .int .i64 0] 26) := ⟨_, rfl⟩
            rw [← eW] at bN O   ⊢
            rw [← eB] at bN ⊢
            clear eW eB hOs
            refine wpAnyH_ready (rs := [3]) (by kernel_rfl) (by simp) ?_
            refine (AllReadyH.cons rfl (fun K hK => ?_) AllReadyH.nil)
            go_simp
            refine (toS_any s0 s1 s2 s3 s4 _).mono ?_
            rintro e u0cac ⟨rfl, hb⟩
            replace bN := bN.keep hb
            have O := over_step O hb
            clear hb
            refine hK.out _ _ O (fun _ => ?_)
            clear hK K
            try simp only [Act.put, List.setIfInBounds_toArray, List.set_cons_zero, List.set_cons_succ]
            refine wpAnyH_ready (rs := [5]) (by kernel_rfl) (by simp) ?_
            refine (AllReadyH.cons rfl (fun K hK => ?_) AllReadyH.nil)
            go_simp
            refine (toE_any _ _ _ _ gs cs ps ms ek ee kn sa ho ix pr bw er _ (HG9.keep O) (HC9.keep O) (HP9.keep O) (HM9.keep O) L0.out L1.out L2.out L3.out).mono ?_
            rintro e u0cacc ⟨g2, gx2, c2, cx2, p2, px2, m2, mx2, rfl, hG2, hC2, hP2, hM2, -, -, -, -, -, -, hb⟩
            replace bN := bN.keep hb
            have O := over_step O hb
            clear hb
            refine hK.out _ _ O (fun _ => ?_)
            clear hK K
            try simp only [Act.put, List.setIfInBounds_toArray, List.set_cons_zero, List.set_cons_succ]
            refine wpAnyH_ready (rs := [6]) (by kernel_rfl) (by simp) ?_
            refine (AllReadyH.cons rfl (fun K hK => ?_) AllReadyH.nil)
            go_simp
            refine ((iSS_any xa xi xh xp s0 s1 s2 s3 s4 _ _ _ _ _ _ _ _ gs cs ps ms ek ee kn sa ho ix pr bw er u _ hG2.rd hC2.rd (hP2.rd HP.out.1) (hM2.rd HM.out.1) (over_cell (over_step OA O) HU.out.2 HU.out.1) (over_cell (over_step OA O) HT.out.2 HT.out.1))).mono ?_
            rw [← HR.out]
            rintro e u0caccc ⟨uq, rfl, ho_, hb⟩
            have hOS := O.size
            have hqBl := bN.lt
            replace bN := bN.keep hb
            replace hG2 := hG2.keep hb
            replace hC2 := hC2.keep hb
            replace hP2 := hP2.keep hb
            replace hM2 := hM2.keep hb
            have O := over_step O hb
            obtain ⟨loq, eL⟩ : ∃ q, q = u0cacc.heap.size := ⟨_, rfl⟩
            obtain ⟨hiq, eH⟩ : ∃ q, q = u0caccc.heap.size := ⟨_, rfl⟩
            rw [← eL] at ho_
            have hGM := GM.of ho_ HL1.out
            rw [← eH] at hGM
            have hqV : V9.heap.size ≤ loq := by rw [eL]; exact hOS
            have hqs : hiq ≤ u0caccc.heap.size := Nat.le_of_eq eH
            have hqB : B + 1 ≤ loq := by rw [eL]; exact hqBl
            clear ho_ eH eL hOS
            clear hb
            refine hK.out _ _ O (fun _ => ?_)
            clear hK K
            try simp only [Act.put, List.setIfInBounds_toArray, List.set_cons_zero, List.set_cons_succ]
            refine wpAnyH_take (i := 7) (v := ?_) rfl (by kernel_rfl) (by kernel_rfl) (by kernel_rfl) (fun _ _ _ h => h) (Or.inl ⟨by rfl, ?_⟩) O ?_
            rotate_left
            · intro wq hSq
              (try dsimp only at hSq)

              go_simp
              try rfl
            change wpAnyH _ _ _ _ _ _ _ (Act.put _ (some 87) _) _
            simp only [Act.put, List.setIfInBounds_toArray, List.set_cons_succ, List.set_cons_zero]
            refine wpAnyH_take (i := 8) (v := ?_) rfl (by kernel_rfl) (by kernel_rfl) (by kernel_rfl) (fun _ _ _ h => h) (Or.inl ⟨by rfl, ?_⟩) O ?_
            rotate_left
            · intro wq hSq
              (try dsimp only at hSq)

              go_simp
              try rfl
            change wpAnyH _ _ _ _ _ _ _ (Act.put _ (some 95) _) _
            simp only [Act.put, List.setIfInBounds_toArray, List.set_cons_succ, List.set_cons_zero]
            refine wpAnyH_take (i := 9) (v := ?_) rfl (by kernel_rfl) (by kernel_rfl) (by kernel_rfl) (fun _ _ _ h => h) (Or.inl ⟨by rfl, ?_⟩) O ?_
            rotate_left
            · intro wq hSq
              (try dsimp only at hSq)

              go_simp
              try rfl
            change wpAnyH _ _ _ _ _ _ _ (Act.put _ (some 96) _) _
            simp only [Act.put, List.setIfInBounds_toArray, List.set_cons_succ, List.set_cons_zero]
            have r0 := bN.c 0 rfl
            have rf0 := bN.f 0 (x := _) rfl
            have r1 := bN.c 1 rfl
            have rf1 := bN.f 1 (x := _) rfl
            have r2 := bN.c 2 rfl
            have rf2 := bN.f 2 (x := _) rfl
            have r3 := bN.c 3 rfl
            have rf3 := bN.f 3 (x := _) rfl
            have r4 := bN.c 4 rfl
            have rf4 := bN.f 4 (x := _) rfl
            refine wpAnyH_ready (rs := [11]) (by kernel_rfl) (by simp) ?_
            refine (AllReadyH.cons rfl (fun K hK => ?_) AllReadyH.nil)
            go_simp
            have O2 := below_set5 O (B := B) hBV (.int .i64 R.a) (.int .i64 R.b) (.int .i64 R.c) (.int .i64 R.d) (.int .i64 R.e)
            refine hK.out _ _ O2 (fun _ => ?_)
            clear hK K
            try simp only [Act.put, List.setIfInBounds_toArray, List.set_cons_zero, List.set_cons_succ]
            refine wpAnyH_ready (rs := [12]) (by kernel_rfl) (by simp) ?_
            refine (AllReadyH.cons rfl (fun K hK => ?_) AllReadyH.nil)
            go_simp
            refine hK.out _ _ O2 (fun _ => ?_)
            clear hK K
            try simp only [Act.put, List.setIfInBounds_toArray, List.set_cons_zero, List.set_cons_succ]
            clear r0 rf0 r1 rf1 r2 rf2 r3 rf3 r4 rf4
            refine wpAnyH_done (by kernel_rfl) ?_ _
            have b5 := bN.set5 (.int .i64 R.a) (.int .i64 R.b) (.int .i64 R.c) (.int .i64 R.d) (.int .i64 R.e)
            have m5 := mid_set5 u0caccc B (.int .i64 R.a) (.int .i64 R.b) (.int .i64 R.c) (.int .i64 R.d) (.int .i64 R.e)
            have hD : hiq ≤ B ∨ B + 1 ≤ loq := by first | exact .inl hBq | exact .inr hqB
            have g5 := hGM.mid m5 hD
            have z5 := m5.size
            go_wp2_with fail
            go_meet
            case rel => exact ⟨B, loq, hiq, rfl, O2, b5, g5, hBV, hqV, Nat.le_trans hqs z5, hD⟩
        · go_simp
          have hOs := O.size
          obtain ⟨bN, hb, z⟩ := one u0 [.int .i64 0, .int .i64 0, .int .i64 0, .int .i64 0, .int .i64 0] 26
          have O := over_step O hb
          clear z hb
          refine hK.out _ _ O (fun _ => ?_)
          clear hK K
          try simp only [Act.put, List.setIfInBounds_toArray, List.set_cons_zero, List.set_cons_succ]
          obtain ⟨B, eB⟩ : ∃ B, B = u0.heap.size := ⟨_, rfl⟩
          have hBV : V9.heap.size ≤ B := by rw [eB]; exact hOs
          obtain ⟨u0a, eW⟩ : ∃ u, u = u0.alloc (.cells #[.int .i64 0, .int .i64 0, .int .i64 0, .int .i64 0, .int .i64 0] 26) := ⟨_, rfl⟩
          rw [← eW] at bN O   ⊢
          rw [← eB] at bN ⊢
          clear eW eB hOs
          refine wpAnyH_ready (rs := [1]) (by kernel_rfl) (by simp) ?_
          refine (AllReadyH.cons rfl (fun K hK => ?_) AllReadyH.nil)
          go_simp
          refine (toCf_any xa xi xh xp _).mono ?_
          rintro e u0ac ⟨rfl, hb⟩
          replace bN := bN.keep hb
          have O := over_step O hb
          clear hb
          refine hK.out _ _ O (fun _ => ?_)
          clear hK K
          try simp only [Act.put, List.setIfInBounds_toArray, List.set_cons_zero, List.set_cons_succ]
          refine wpAnyH_ready (rs := [3]) (by kernel_rfl) (by simp) ?_
          refine (AllReadyH.cons rfl (fun K hK => ?_) AllReadyH.nil)
          go_simp
          refine (toS_any s0 s1 s2 s3 s4 _).mono ?_
          rintro e u0acc ⟨rfl, hb⟩
          replace bN := bN.keep hb
          have O := over_step O hb
          clear hb
          refine hK.out _ _ O (fun _ => ?_)
          clear hK K
          try simp only [Act.put, List.setIfInBounds_toArray, List.set_cons_zero, List.set_cons_succ]
          refine wpAnyH_ready (rs := [5]) (by kernel_rfl) (by simp) ?_
          refine (AllReadyH.cons rfl (fun K hK => ?_) AllReadyH.nil)
          go_simp
          refine (toE_any _ _ _ _ gs cs ps ms ek ee kn sa ho ix pr bw er _ (HG9.keep O) (HC9.keep O) (HP9.keep O) (HM9.keep O) L0.out L1.out L2.out L3.out).mono ?_
          rintro e u0accc ⟨g2, gx2, c2, cx2, p2, px2, m2, mx2, rfl, hG2, hC2, hP2, hM2, -, -, -, -, -, -, hb⟩
          replace bN := bN.keep hb
          have O := over_step O hb
          clear hb
          refine hK.out _ _ O (fun _ => ?_)
          clear hK K
          try simp only [Act.put, List.setIfInBounds_toArray, List.set_cons_zero, List.set_cons_succ]
          refine wpAnyH_ready (rs := [6]) (by kernel_rfl) (by simp) ?_
          refine (AllReadyH.cons rfl (fun K hK => ?_) AllReadyH.nil)
          go_simp
          refine ((iSS_any xa xi xh xp s0 s1 s2 s3 s4 _ _ _ _ _ _ _ _ gs cs ps ms ek ee kn sa ho ix pr bw er u _ hG2.rd hC2.rd (hP2.rd HP.out.1) (hM2.rd HM.out.1) (over_cell (over_step OA O) HU.out.2 HU.out.1) (over_cell (over_step OA O) HT.out.2 HT.out.1))).mono ?_
          rw [← HR.out]
          rintro e u0acccc ⟨uq, rfl, ho_, hb⟩
          have hOS := O.size
          have hqBl := bN.lt
          replace bN := bN.keep hb
          replace hG2 := hG2.keep hb
          replace hC2 := hC2.keep hb
          replace hP2 := hP2.keep hb
          replace hM2 := hM2.keep hb
          have O := over_step O hb
          obtain ⟨loq, eL⟩ : ∃ q, q = u0accc.heap.size := ⟨_, rfl⟩
          obtain ⟨hiq, eH⟩ : ∃ q, q = u0acccc.heap.size := ⟨_, rfl⟩
          rw [← eL] at ho_
          have hGM := GM.of ho_ HL1.out
          rw [← eH] at hGM
          have hqV : V9.heap.size ≤ loq := by rw [eL]; exact hOS
          have hqs : hiq ≤ u0acccc.heap.size := Nat.le_of_eq eH
          have hqB : B + 1 ≤ loq := by rw [eL]; exact hqBl
          clear ho_ eH eL hOS
          clear hb
          refine hK.out _ _ O (fun _ => ?_)
          clear hK K
          try simp only [Act.put, List.setIfInBounds_toArray, List.set_cons_zero, List.set_cons_succ]
          refine wpAnyH_take (i := 7) (v := ?_) rfl (by kernel_rfl) (by kernel_rfl) (by kernel_rfl) (fun _ _ _ h => h) (Or.inl ⟨by rfl, ?_⟩) O ?_
          rotate_left
          · intro wq hSq
            (try dsimp only at hSq)

            go_simp
            try rfl
          change wpAnyH _ _ _ _ _ _ _ (Act.put _ (some 87) _) _
          simp only [Act.put, List.setIfInBounds_toArray, List.set_cons_succ, List.set_cons_zero]
          refine wpAnyH_take (i := 8) (v := ?_) rfl (by kernel_rfl) (by kernel_rfl) (by kernel_rfl) (fun _ _ _ h => h) (Or.inl ⟨by rfl, ?_⟩) O ?_
          rotate_left
          · intro wq hSq
            (try dsimp only at hSq)

            go_simp
            try rfl
          change wpAnyH _ _ _ _ _ _ _ (Act.put _ (some 95) _) _
          simp only [Act.put, List.setIfInBounds_toArray, List.set_cons_succ, List.set_cons_zero]
          refine wpAnyH_take (i := 9) (v := ?_) rfl (by kernel_rfl) (by kernel_rfl) (by kernel_rfl) (fun _ _ _ h => h) (Or.inl ⟨by rfl, ?_⟩) O ?_
          rotate_left
          · intro wq hSq
            (try dsimp only at hSq)

            go_simp
            try rfl
          change wpAnyH _ _ _ _ _ _ _ (Act.put _ (some 96) _) _
          simp only [Act.put, List.setIfInBounds_toArray, List.set_cons_succ, List.set_cons_zero]
          have r0 := bN.c 0 rfl
          have rf0 := bN.f 0 (x := _) rfl
          have r1 := bN.c 1 rfl
          have rf1 := bN.f 1 (x := _) rfl
          have r2 := bN.c 2 rfl
          have rf2 := bN.f 2 (x := _) rfl
          have r3 := bN.c 3 rfl
          have rf3 := bN.f 3 (x := _) rfl
          have r4 := bN.c 4 rfl
          have rf4 := bN.f 4 (x := _) rfl
          refine wpAnyH_ready (rs := [11]) (by kernel_rfl) (by simp) ?_
          refine (AllReadyH.cons rfl (fun K hK => ?_) AllReadyH.nil)
          go_simp
          have O2 := below_set5 O (B := B) hBV (.int .i64 R.a) (.int .i64 R.b) (.int .i64 R.c) (.int .i64 R.d) (.int .i64 R.e)
          refine hK.out _ _ O2 (fun _ => ?_)
          clear hK K
          try simp only [Act.put, List.setIfInBounds_toArray, List.set_cons_zero, List.set_cons_succ]
          refine wpAnyH_ready (rs := [12]) (by kernel_rfl) (by simp) ?_
          refine (AllReadyH.cons rfl (fun K hK => ?_) AllReadyH.nil)
          go_simp
          refine hK.out _ _ O2 (fun _ => ?_)
          clear hK K
          try simp only [Act.put, List.setIfInBounds_toArray, List.set_cons_zero, List.set_cons_succ]
          clear r0 rf0 r1 rf1 r2 rf2 r3 rf3 r4 rf4
          refine wpAnyH_done (by kernel_rfl) ?_ _
          have b5 := bN.set5 (.int .i64 R.a) (.int .i64 R.b) (.int .i64 R.c) (.int .i64 R.d) (.int .i64 R.e)
          have m5 := mid_set5 u0acccc B (.int .i64 R.a) (.int .i64 R.b) (.int .i64 R.c) (.int .i64 R.d) (.int .i64 R.e)
          have hD : hiq ≤ B ∨ B + 1 ≤ loq := by first | exact .inl hBq | exact .inr hqB
          have g5 := hGM.mid m5 hD
          have z5 := m5.size
          go_wp2_with fail
          go_meet
          case rel => exact ⟨B, loq, hiq, rfl, O2, b5, g5, hBV, hqV, Nat.le_trans hqs z5, hD⟩
      case rest =>
        obtain ⟨wD, rfl⟩ : ∃ x : World, x = wc := ⟨_, rfl⟩
        obtain ⟨B16, lo16, hi16, rfl, O9, b16, G16, -, -, -, -⟩ := hcut
        replace b8 := b8.keep O9
        replace G8 := G8.keep O9
        replace hMk := hMk.keep O9
        replace OA := over_step OA O9
        clear O9 bA9 bS9 bE9 HG9 HC9 HP9 HM9
        have fp0 := b16.c 0 rfl
        have fp1 := b16.c 1 rfl
        have fp2 := b16.c 2 rfl
        have fp3 := b16.c 3 rfl
        have fp4 := b16.c 4 rfl
        have fq0 := b8.c 0 rfl
        have fq1 := b8.c 1 rfl
        have fq2 := b8.c 2 rfl
        have fq3 := b8.c 3 rfl
        have fq4 := b8.c 4 rfl
        go_wp2_with fail
        clear fp0 fp1 fp2 fp3 fp4
        clear fq0 fq1 fq2 fq3 fq4
        refine (eqSn_same R.a R.b R.c R.d R.e _).mono ?_
        rintro e t1 ⟨rfl, hb⟩
        replace b8 := b8.keep hb
        replace G8 := G8.keep hb
        replace b16 := b16.keep hb
        replace G16 := G16.keep hb
        replace hMk := hMk.keep hb
        replace OA := over_step OA hb
        clear hb
        go_wp2_with fail
        refine (eqGS_same _ _ R.l lo16 hi16 lo8 hi8 _ G16 G8).mono ?_
        rintro e t2 ⟨rfl, hb⟩
        replace b8 := b8.keep hb
        replace G8 := G8.keep hb
        replace b16 := b16.keep hb
        replace G16 := G16.keep hb
        replace hMk := hMk.keep hb
        replace OA := over_step OA hb
        clear hb
        go_wp2_with fail
        refine (heldGS _ j lo11 hi11 _ hMk).mono ?_
        rintro e t3 ⟨rfl, rfl⟩
        go_wp2
        go_ret
        exact ⟨rfl, below_step B0 OA⟩
end Go.Proofs.YtaffcicgljoajaaGreatDoor
