/-
  The model's answer to a message that opens, and its step. Conditions: those in each contract.
-/
import Derived.Test.YtnklnibjlhnicaaRRRRDoorS18
namespace Go.Proofs.YtnklnibjlhnicaaRRRRDoor
open Go.ChangeShapes Go.WideShapes Go.ChangeAt Go.RowKit Go.BigFrame Go.Joins
set_option linter.unusedVariables false
set_option maxRecDepth 100000
set_option linter.unusedSimpArgs false

set_option maxHeartbeats 1000000 in
theorem smes_2_mine (xa xi xh xp s1 s2 s3 s4 : Int) (ga ca pa ma : Option Addr) (gx cx px mx : Nat) (gs cs : List (Int × Int)) (ps ms : List Int) (sa ho ix pr bw er : Int) (w : World) (HA : ∀ w, Calls Tryd.prog 37 #[.agg #[.int .i64 xa, .int .i64 xi, .int .i64 xh, .int .i64 xp], .agg #[.int .i64 1, .int .i64 sa, .int .i64 ho, .int .i64 ix, .slice ga gs.length gx, .slice ca cs.length cx, .slice pa ps.length px, .int .i64 pr, .slice ma ms.length mx, .int .i64 bw, .int .i64 er]] w fun e w' => e = .returned (.bool true) ∧ Below w.heap.size w w') (hm3 : xh ≤ ho) (hx : 3 ≤ xh ∧ xh ≤ 255) : Calls Tryd.prog 22 #[.agg #[.int .i64 xa, .int .i64 xi, .int .i64 xh, .int .i64 xp], .agg #[.int .i64 2, .int .i64 s1, .int .i64 s2, .int .i64 s3, .int .i64 s4], .agg #[.int .i64 1, .int .i64 sa, .int .i64 ho, .int .i64 ix, .slice ga gs.length gx, .slice ca cs.length cx, .slice pa ps.length px, .int .i64 pr, .slice ma ms.length mx, .int .i64 bw, .int .i64 er]] w (StR ⟨3, xh, 0, xh / 3, sa, [⟨4, 0, 0, 0, 0⟩]⟩ w) := by
  have hlt : ¬ ho < xh := by omega
  have hq3 : Int.tdiv xh 3 = xh / 3 := by rw [Int.tdiv_eq_ediv_of_nonneg (by omega)]
  have hqw : IntKind.i64.wrap (xh / 3) = xh / 3 := wrap64_in _ (by omega) (by omega)
  clear hm3 hx
  have HAA := Lib.hid HA
  clear HA
  have bR : Bl ((((w.alloc (.cells #[.int .i64 xa, .int .i64 xi, .int .i64 xh, .int .i64 xp] 28)).alloc (.cells #[.int .i64 2, .int .i64 s1, .int .i64 s2, .int .i64 s3, .int .i64 s4] 25)).alloc (.cells #[.int .i64 1, .int .i64 sa, .int .i64 ho, .int .i64 ix, .slice ga gs.length gx, .slice ca cs.length cx, .slice pa ps.length px, .int .i64 pr, .slice ma ms.length mx, .int .i64 bw, .int .i64 er] 46)).alloc (.cells #[.int .i64 0, .int .i64 0, .int .i64 0, .int .i64 0, .int .i64 0] 25)) (w.heap.size + 1 + 1 + 1) [.int .i64 0, .int .i64 0, .int .i64 0, .int .i64 0, .int .i64 0] := Bl.new (((w.alloc (.cells #[.int .i64 xa, .int .i64 xi, .int .i64 xh, .int .i64 xp] 28)).alloc (.cells #[.int .i64 2, .int .i64 s1, .int .i64 s2, .int .i64 s3, .int .i64 s4] 25)).alloc (.cells #[.int .i64 1, .int .i64 sa, .int .i64 ho, .int .i64 ix, .slice ga gs.length gx, .slice ca cs.length cx, .slice pa ps.length px, .int .i64 pr, .slice ma ms.length mx, .int .i64 bw, .int .i64 er] 46)) [.int .i64 0, .int .i64 0, .int .i64 0, .int .i64 0, .int .i64 0] 25 (w.heap.size + 1 + 1 + 1) (by simp)
  have B0 : Below w.heap.size w ((((w.alloc (.cells #[.int .i64 xa, .int .i64 xi, .int .i64 xh, .int .i64 xp] 28)).alloc (.cells #[.int .i64 2, .int .i64 s1, .int .i64 s2, .int .i64 s3, .int .i64 s4] 25)).alloc (.cells #[.int .i64 1, .int .i64 sa, .int .i64 ho, .int .i64 ix, .slice ga gs.length gx, .slice ca cs.length cx, .slice pa ps.length px, .int .i64 pr, .slice ma ms.length mx, .int .i64 bw, .int .i64 er] 46)).alloc (.cells #[.int .i64 0, .int .i64 0, .int .i64 0, .int .i64 0, .int .i64 0] 25)) := (by repeat' (first | exact Below.refl _ _ | (refine Below.setCell ?_ (by simp <;> omega) _) | (refine Below.alloc ?_ (by simp <;> omega) _) | (refine Below.drew ?_)))
  have hz : ((((w.alloc (.cells #[.int .i64 xa, .int .i64 xi, .int .i64 xh, .int .i64 xp] 28)).alloc (.cells #[.int .i64 2, .int .i64 s1, .int .i64 s2, .int .i64 s3, .int .i64 s4] 25)).alloc (.cells #[.int .i64 1, .int .i64 sa, .int .i64 ho, .int .i64 ix, .slice ga gs.length gx, .slice ca cs.length cx, .slice pa ps.length px, .int .i64 pr, .slice ma ms.length mx, .int .i64 bw, .int .i64 er] 46)).alloc (.cells #[.int .i64 0, .int .i64 0, .int .i64 0, .int .i64 0, .int .i64 0] 25)).heap.size = w.heap.size + 1 + 1 + 1 + 1 := by simp
  have bC : Bl ((((w.alloc (.cells #[.int .i64 xa, .int .i64 xi, .int .i64 xh, .int .i64 xp] 28)).alloc (.cells #[.int .i64 2, .int .i64 s1, .int .i64 s2, .int .i64 s3, .int .i64 s4] 25)).alloc (.cells #[.int .i64 1, .int .i64 sa, .int .i64 ho, .int .i64 ix, .slice ga gs.length gx, .slice ca cs.length cx, .slice pa ps.length px, .int .i64 pr, .slice ma ms.length mx, .int .i64 bw, .int .i64 er] 46)).alloc (.cells #[.int .i64 0, .int .i64 0, .int .i64 0, .int .i64 0, .int .i64 0] 25)) (w.heap.size) [.int .i64 xa, .int .i64 xi, .int .i64 xh, .int .i64 xp] := (((Bl.new w [.int .i64 xa, .int .i64 xi, .int .i64 xh, .int .i64 xp] 28 (w.heap.size) (by simp)).alloc _).alloc _).alloc _
  have bS : Bl ((((w.alloc (.cells #[.int .i64 xa, .int .i64 xi, .int .i64 xh, .int .i64 xp] 28)).alloc (.cells #[.int .i64 2, .int .i64 s1, .int .i64 s2, .int .i64 s3, .int .i64 s4] 25)).alloc (.cells #[.int .i64 1, .int .i64 sa, .int .i64 ho, .int .i64 ix, .slice ga gs.length gx, .slice ca cs.length cx, .slice pa ps.length px, .int .i64 pr, .slice ma ms.length mx, .int .i64 bw, .int .i64 er] 46)).alloc (.cells #[.int .i64 0, .int .i64 0, .int .i64 0, .int .i64 0, .int .i64 0] 25)) (w.heap.size + 1) [.int .i64 2, .int .i64 s1, .int .i64 s2, .int .i64 s3, .int .i64 s4] := ((Bl.new (w.alloc (.cells #[.int .i64 xa, .int .i64 xi, .int .i64 xh, .int .i64 xp] 28)) [.int .i64 2, .int .i64 s1, .int .i64 s2, .int .i64 s3, .int .i64 s4] 25 (w.heap.size + 1) (by simp)).alloc _).alloc _
  have bM : Bl ((((w.alloc (.cells #[.int .i64 xa, .int .i64 xi, .int .i64 xh, .int .i64 xp] 28)).alloc (.cells #[.int .i64 2, .int .i64 s1, .int .i64 s2, .int .i64 s3, .int .i64 s4] 25)).alloc (.cells #[.int .i64 1, .int .i64 sa, .int .i64 ho, .int .i64 ix, .slice ga gs.length gx, .slice ca cs.length cx, .slice pa ps.length px, .int .i64 pr, .slice ma ms.length mx, .int .i64 bw, .int .i64 er] 46)).alloc (.cells #[.int .i64 0, .int .i64 0, .int .i64 0, .int .i64 0, .int .i64 0] 25)) (w.heap.size + 1 + 1) [.int .i64 1, .int .i64 sa, .int .i64 ho, .int .i64 ix, .slice ga gs.length gx, .slice ca cs.length cx, .slice pa ps.length px, .int .i64 pr, .slice ma ms.length mx, .int .i64 bw, .int .i64 er] := (Bl.new ((w.alloc (.cells #[.int .i64 xa, .int .i64 xi, .int .i64 xh, .int .i64 xp] 28)).alloc (.cells #[.int .i64 2, .int .i64 s1, .int .i64 s2, .int .i64 s3, .int .i64 s4] 25)) [.int .i64 1, .int .i64 sa, .int .i64 ho, .int .i64 ix, .slice ga gs.length gx, .slice ca cs.length cx, .slice pa ps.length px, .int .i64 pr, .slice ma ms.length mx, .int .i64 bw, .int .i64 er] 46 (w.heap.size + 1 + 1) (by simp)).alloc _
  go_enter Tryd.func22, Tryd.ntmps22
  go_wp2_with fail
  refine (HAA.out _).mono ?_
  rintro e w1 ⟨rfl, hb⟩
  have hz1 := hb.size
  rw [hz] at hz1
  replace bC := bC.keep hb
  replace bS := bS.keep hb
  replace bM := bM.keep hb
  replace bR := bR.keep hb
  replace B0 := below_step B0 hb
  clear hb hz HAA
  have g2 := bC.c 2 rfl
  have n2 := bM.c 2 rfl
  go_wp2_with fail
  clear g2 n2
  replace bS := bM
  clear bM bC
  have hz := Lib.hid hz1
  clear hz1
  refine wp_region_held_drew (S := fun w' => Bl w' (w.heap.size + 1 + 1) [.int .i64 1, .int .i64 sa, .int .i64 ho, .int .i64 ix, .slice ga gs.length gx, .slice ca cs.length cx, .slice pa ps.length px, .int .i64 pr, .slice ma ms.length mx, .int .i64 bw, .int .i64 er]) (by kernel_rfl) (bS.keep (over_drew w1)) (fun hHeld => ?_)
  refine wpAnyH_take (i := 0) (v := ?_) rfl (by kernel_rfl) (by kernel_rfl) (by kernel_rfl) (fun _ _ _ h => h) (Or.inl ⟨by rfl, ?_⟩) (by assumption) ?_
  rotate_left
  · intro wq hSq
    (try dsimp only at hSq)

    go_simp
    try rfl
  change wpAnyH _ _ _ _ _ _ _ (Act.put _ (some 44) _) _
  simp only [Act.put, List.setIfInBounds_toArray, List.set_cons_succ, List.set_cons_zero]
  refine wpAnyH_take (i := 1) (v := ?_) rfl (by kernel_rfl) (by kernel_rfl) (by kernel_rfl) (fun _ _ _ h => h) (Or.inl ⟨by rfl, ?_⟩) (by assumption) ?_
  rotate_left
  · intro wq hSq
    (try dsimp only at hSq)

    go_simp
    try rfl
  change wpAnyH _ _ _ _ _ _ _ (Act.put _ (some 45) _) _
  simp only [Act.put, List.setIfInBounds_toArray, List.set_cons_succ, List.set_cons_zero]
  refine wpAnyH_take (i := 2) (v := ?_) rfl (by kernel_rfl) (by kernel_rfl) (by kernel_rfl) (fun _ _ _ h => h) (Or.inl ⟨by rfl, ?_⟩) (by assumption) ?_
  rotate_left
  · intro wq hSq
    (try dsimp only at hSq)

    go_simp
    try rfl
  change wpAnyH _ _ _ _ _ _ _ (Act.put _ (some 46) _) _
  simp only [Act.put, List.setIfInBounds_toArray, List.set_cons_succ, List.set_cons_zero]
  refine wpAnyH_take (i := 3) (v := ?_) rfl (by kernel_rfl) (by kernel_rfl) (by kernel_rfl) (fun _ _ _ h => h) (Or.inl ⟨by rfl, ?_⟩) (by assumption) ?_
  rotate_left
  · intro wq hSq
    (try dsimp only at hSq)

    go_simp
    try rfl
  change wpAnyH _ _ _ _ _ _ _ (Act.put _ (some 47) _) _
  simp only [Act.put, List.setIfInBounds_toArray, List.set_cons_succ, List.set_cons_zero]
  refine wpAnyH_take (i := 4) (v := ?_) rfl (by kernel_rfl) (by kernel_rfl) (by kernel_rfl) (fun _ _ _ h => h) (Or.inl ⟨by rfl, ?_⟩) (by assumption) ?_
  rotate_left
  · intro wq hSq
    (try dsimp only at hSq)
    have q1 := hSq.c 1 rfl
    go_simp
    try rfl
  change wpAnyH _ _ _ _ _ _ _ (Act.put _ (some 48) _) _
  simp only [Act.put, List.setIfInBounds_toArray, List.set_cons_succ, List.set_cons_zero]
  refine wpAnyH_take (i := 5) (v := ?_) rfl (by kernel_rfl) (by kernel_rfl) (by kernel_rfl) (fun _ _ _ h => h) (Or.inl ⟨by rfl, ?_⟩) (by assumption) ?_
  rotate_left
  · intro wq hSq
    (try dsimp only at hSq)

    go_simp
    try rfl
  change wpAnyH _ _ _ _ _ _ _ (Act.put _ (some 49) _) _
  simp only [Act.put, List.setIfInBounds_toArray, List.set_cons_succ, List.set_cons_zero]
  refine wpAnyH_ready (rs := [6]) (by kernel_rfl) (by simp) ?_
  refine (AllReadyH.cons rfl (fun K hK => ?_) AllReadyH.nil)
  go_simp
  refine (skeep_any _).mono ?_
  rintro e wz ⟨rfl, hb⟩
  have O1 : Over w1 wz := over_step (over_drew _) hb
  have hs := O1.size
  have bS1 := bS.keep O1
  have bR1 := bR.keep O1
  have bR2 := bR1.alloc (.cells #[.int .i64 4, .int .i64 0, .int .i64 0, .int .i64 0, .slice none 0 0, .slice none 0 0, .slice none 0 0, .int .i64 0, .slice none 0 0, .int .i64 0, .int .i64 0] 46)
  have B1 := below_step B0 O1
  have r0 := bR1.c 0 rfl
  have r0f := bR1.f 0 (x := _) rfl
  have t0 := bR2.c 0 rfl
  have t0f := bR2.f 0 (x := _) rfl
  have r1 := bR1.c 1 rfl
  have r1f := bR1.f 1 (x := _) rfl
  have t1 := bR2.c 1 rfl
  have t1f := bR2.f 1 (x := _) rfl
  have r2 := bR1.c 2 rfl
  have r2f := bR1.f 2 (x := _) rfl
  have t2 := bR2.c 2 rfl
  have t2f := bR2.f 2 (x := _) rfl
  have r3 := bR1.c 3 rfl
  have r3f := bR1.f 3 (x := _) rfl
  have t3 := bR2.c 3 rfl
  have t3f := bR2.f 3 (x := _) rfl
  have r4 := bR1.c 4 rfl
  have r4f := bR1.f 4 (x := _) rfl
  have t4 := bR2.c 4 rfl
  have t4f := bR2.f 4 (x := _) rfl
  clear hb
  refine hK.out _ _ bS1 (fun hHeld => ?_)
  clear hK K
  try simp only [Act.put, List.setIfInBounds_toArray, List.set_cons_zero, List.set_cons_succ]
  refine wpAnyH_ready (rs := [7, 8]) (by kernel_rfl) (by simp) ?_
  refine (AllReadyH.cons rfl (fun K hK => ?_) (AllReadyH.cons rfl (fun K hK => ?_) AllReadyH.nil))
  · go_simp
    refine hK.out _ _ (bS1.alloc _) (fun hHeld => ?_)
    clear hK K
    try simp only [Act.put, List.setIfInBounds_toArray, List.set_cons_zero, List.set_cons_succ]
    refine wpAnyH_ready (rs := [8]) (by kernel_rfl) (by simp) ?_
    refine (AllReadyH.cons rfl (fun K hK => ?_) AllReadyH.nil)
    go_simp
    refine hK.out _ _ ((((((bS1.alloc _).far (o := 0) (u := .int .i64 3) (by omega)).far (o := 1) (u := .int .i64 xh) (by omega)).far (o := 2) (u := .int .i64 0) (by omega)).far (o := 3) (u := .int .i64 (xh / 3)) (by omega)).far (o := 4) (u := .int .i64 sa) (by omega)) (fun hHeld => ?_)
    clear hK K
    try simp only [Act.put, List.setIfInBounds_toArray, List.set_cons_zero, List.set_cons_succ]
    refine wpAnyH_ready (rs := [9]) (by kernel_rfl) (by simp) ?_
    refine (AllReadyH.cons rfl (fun K hK => ?_) AllReadyH.nil)
    go_simp
    refine hK.out _ _ ((((((bS1.alloc _).far (o := 0) (u := .int .i64 3) (by omega)).far (o := 1) (u := .int .i64 xh) (by omega)).far (o := 2) (u := .int .i64 0) (by omega)).far (o := 3) (u := .int .i64 (xh / 3)) (by omega)).far (o := 4) (u := .int .i64 sa) (by omega)) (fun hHeld => ?_)
    clear hK K
    try simp only [Act.put, List.setIfInBounds_toArray, List.set_cons_zero, List.set_cons_succ]
    refine wpAnyH_done (by kernel_rfl) ?_ _
    have hbl := bR2.set5 (.int .i64 3) (.int .i64 xh) (.int .i64 0) (.int .i64 (xh / 3)) (.int .i64 sa)
    have how := (OwnG.lit wz ⟨4, 0, 0, 0, 0⟩ w1.heap.size hs).far5 (B := w.heap.size + 1 + 1 + 1) (by have := hz.out; omega) (.int .i64 3) (.int .i64 xh) (.int .i64 0) (.int .i64 (xh / 3)) (.int .i64 sa)
    have hbe := below_set5 (B1.alloc B1.size (.cells #[.int .i64 4, .int .i64 0, .int .i64 0, .int .i64 0, .slice none 0 0, .slice none 0 0, .slice none 0 0, .int .i64 0, .slice none 0 0, .int .i64 0, .int .i64 0] 46)) (B := w.heap.size + 1 + 1 + 1) (by omega) (.int .i64 3) (.int .i64 xh) (.int .i64 0) (.int .i64 (xh / 3)) (.int .i64 sa)
    replace how := how.mono (base' := w.heap.size) (by have := hz.out; omega)
    simp only [Bm.cells] at how hbl hbe
    clear r0 r0f t0 t0f r1 r1f t1 t1f r2 r2f t2 t2f r3 r3f t3 t3f r4 r4f t4 t4f
    go_wp2
    obtain ⟨W2, hW2⟩ : ∃ W2, W2 = ((((((wz.alloc (.cells #[.int .i64 4, .int .i64 0, .int .i64 0, .int .i64 0, .slice none 0 0, .slice none 0 0, .slice none 0 0, .int .i64 0, .slice none 0 0, .int .i64 0, .int .i64 0] 46)).setCell ⟨w.heap.size + 1 + 1 + 1, 0, none⟩ (.int .i64 3)).setCell ⟨w.heap.size + 1 + 1 + 1, 1, none⟩ (.int .i64 xh)).setCell ⟨w.heap.size + 1 + 1 + 1, 2, none⟩ (.int .i64 0)).setCell ⟨w.heap.size + 1 + 1 + 1, 3, none⟩ (.int .i64 (xh / 3))).setCell ⟨w.heap.size + 1 + 1 + 1, 4, none⟩ (.int .i64 sa)) := ⟨_, rfl⟩
    rw [← hW2] at hbl how hbe ⊢
    clear hW2
    have r0 := hbl.c 0 rfl
    have r1 := hbl.c 1 rfl
    have r2 := hbl.c 2 rfl
    have r3 := hbl.c 3 rfl
    have r4 := hbl.c 4 rfl
    exact bodyPost_ret (v := .tuple #[.agg #[.int .i64 3, .int .i64 xh, .int .i64 0, .int .i64 (xh / 3), .int .i64 sa], .slice (some ⟨wz.heap.size, 0, none⟩) 1 1]) (by simp [results, Tryd.results22, go_sem, r0, r1, r2, r3, r4]) rfl ⟨_, rfl, how, hbe⟩
  · go_simp
    refine hK.out _ _ (((((bS1.far (o := 0) (u := .int .i64 3) (by omega)).far (o := 1) (u := .int .i64 xh) (by omega)).far (o := 2) (u := .int .i64 0) (by omega)).far (o := 3) (u := .int .i64 (xh / 3)) (by omega)).far (o := 4) (u := .int .i64 sa) (by omega)) (fun hHeld => ?_)
    clear hK K
    try simp only [Act.put, List.setIfInBounds_toArray, List.set_cons_zero, List.set_cons_succ]
    refine wpAnyH_ready (rs := [7]) (by kernel_rfl) (by simp) ?_
    refine (AllReadyH.cons rfl (fun K hK => ?_) AllReadyH.nil)
    go_simp
    refine hK.out _ _ ((((((bS1.far (o := 0) (u := .int .i64 3) (by omega)).far (o := 1) (u := .int .i64 xh) (by omega)).far (o := 2) (u := .int .i64 0) (by omega)).far (o := 3) (u := .int .i64 (xh / 3)) (by omega)).far (o := 4) (u := .int .i64 sa) (by omega)).alloc _) (fun hHeld => ?_)
    clear hK K
    try simp only [Act.put, List.setIfInBounds_toArray, List.set_cons_zero, List.set_cons_succ]
    refine wpAnyH_ready (rs := [9]) (by kernel_rfl) (by simp) ?_
    refine (AllReadyH.cons rfl (fun K hK => ?_) AllReadyH.nil)
    go_simp
    refine hK.out _ _ ((((((bS1.far (o := 0) (u := .int .i64 3) (by omega)).far (o := 1) (u := .int .i64 xh) (by omega)).far (o := 2) (u := .int .i64 0) (by omega)).far (o := 3) (u := .int .i64 (xh / 3)) (by omega)).far (o := 4) (u := .int .i64 sa) (by omega)).alloc _) (fun hHeld => ?_)
    clear hK K
    try simp only [Act.put, List.setIfInBounds_toArray, List.set_cons_zero, List.set_cons_succ]
    refine wpAnyH_done (by kernel_rfl) ?_ _
    have hbl := (bR1.set5 (.int .i64 3) (.int .i64 xh) (.int .i64 0) (.int .i64 (xh / 3)) (.int .i64 sa)).alloc (.cells #[.int .i64 4, .int .i64 0, .int .i64 0, .int .i64 0, .slice none 0 0, .slice none 0 0, .slice none 0 0, .int .i64 0, .slice none 0 0, .int .i64 0, .int .i64 0] 46)
    have how := OwnG.lit (((((wz.setCell ⟨w.heap.size + 1 + 1 + 1, 0, none⟩ (.int .i64 3)).setCell ⟨w.heap.size + 1 + 1 + 1, 1, none⟩ (.int .i64 xh)).setCell ⟨w.heap.size + 1 + 1 + 1, 2, none⟩ (.int .i64 0)).setCell ⟨w.heap.size + 1 + 1 + 1, 3, none⟩ (.int .i64 (xh / 3))).setCell ⟨w.heap.size + 1 + 1 + 1, 4, none⟩ (.int .i64 sa)) ⟨4, 0, 0, 0, 0⟩ w1.heap.size (by simpa using hs)
    have hbe := (below_set5 B1 (B := w.heap.size + 1 + 1 + 1) (by omega) (.int .i64 3) (.int .i64 xh) (.int .i64 0) (.int .i64 (xh / 3)) (.int .i64 sa)).alloc (by have := B1.size; simpa using this) (.cells #[.int .i64 4, .int .i64 0, .int .i64 0, .int .i64 0, .slice none 0 0, .slice none 0 0, .slice none 0 0, .int .i64 0, .slice none 0 0, .int .i64 0, .int .i64 0] 46)
    replace how := how.mono (base' := w.heap.size) (by have := hz.out; omega)
    rw [show ((((((wz.setCell ⟨w.heap.size + 1 + 1 + 1, 0, none⟩ (.int .i64 3)).setCell ⟨w.heap.size + 1 + 1 + 1, 1, none⟩ (.int .i64 xh)).setCell ⟨w.heap.size + 1 + 1 + 1, 2, none⟩ (.int .i64 0)).setCell ⟨w.heap.size + 1 + 1 + 1, 3, none⟩ (.int .i64 (xh / 3))).setCell ⟨w.heap.size + 1 + 1 + 1, 4, none⟩ (.int .i64 sa))).heap.size = wz.heap.size by simp] at how
    simp only [Bm.cells] at how hbl hbe
    clear r0 r0f t0 t0f r1 r1f t1 t1f r2 r2f t2 t2f r3 r3f t3 t3f r4 r4f t4 t4f
    go_wp2
    obtain ⟨W2, hW2⟩ : ∃ W2, W2 = ((((((wz.setCell ⟨w.heap.size + 1 + 1 + 1, 0, none⟩ (.int .i64 3)).setCell ⟨w.heap.size + 1 + 1 + 1, 1, none⟩ (.int .i64 xh)).setCell ⟨w.heap.size + 1 + 1 + 1, 2, none⟩ (.int .i64 0)).setCell ⟨w.heap.size + 1 + 1 + 1, 3, none⟩ (.int .i64 (xh / 3))).setCell ⟨w.heap.size + 1 + 1 + 1, 4, none⟩ (.int .i64 sa)).alloc (.cells #[.int .i64 4, .int .i64 0, .int .i64 0, .int .i64 0, .slice none 0 0, .slice none 0 0, .slice none 0 0, .int .i64 0, .slice none 0 0, .int .i64 0, .int .i64 0] 46)) := ⟨_, rfl⟩
    rw [← hW2] at hbl how hbe ⊢
    clear hW2
    have r0 := hbl.c 0 rfl
    have r1 := hbl.c 1 rfl
    have r2 := hbl.c 2 rfl
    have r3 := hbl.c 3 rfl
    have r4 := hbl.c 4 rfl
    exact bodyPost_ret (v := .tuple #[.agg #[.int .i64 3, .int .i64 xh, .int .i64 0, .int .i64 (xh / 3), .int .i64 sa], .slice (some ⟨wz.heap.size, 0, none⟩) 1 1]) (by simp [results, Tryd.results22, go_sem, r0, r1, r2, r3, r4]) rfl ⟨_, rfl, how, hbe⟩
set_option maxHeartbeats 1000000 in
theorem smes_2_yours (xa xi xh xp s1 s2 s3 s4 : Int) (ga ca pa ma : Option Addr) (gx cx px mx : Nat) (gs cs : List (Int × Int)) (ps ms : List Int) (sa ho ix pr bw er : Int) (w : World) (HA : ∀ w, Calls Tryd.prog 37 #[.agg #[.int .i64 xa, .int .i64 xi, .int .i64 xh, .int .i64 xp], .agg #[.int .i64 1, .int .i64 sa, .int .i64 ho, .int .i64 ix, .slice ga gs.length gx, .slice ca cs.length cx, .slice pa ps.length px, .int .i64 pr, .slice ma ms.length mx, .int .i64 bw, .int .i64 er]] w fun e w' => e = .returned (.bool true) ∧ Below w.heap.size w w') (hm3 : ¬ xh ≤ ho) (hx : 3 ≤ ho ∧ ho ≤ 255) : Calls Tryd.prog 22 #[.agg #[.int .i64 xa, .int .i64 xi, .int .i64 xh, .int .i64 xp], .agg #[.int .i64 2, .int .i64 s1, .int .i64 s2, .int .i64 s3, .int .i64 s4], .agg #[.int .i64 1, .int .i64 sa, .int .i64 ho, .int .i64 ix, .slice ga gs.length gx, .slice ca cs.length cx, .slice pa ps.length px, .int .i64 pr, .slice ma ms.length mx, .int .i64 bw, .int .i64 er]] w (StR ⟨3, ho, 0, ho / 3, sa, [⟨4, 0, 0, 0, 0⟩]⟩ w) := by
  have hlt : ho < xh := by omega
  have hq3 : Int.tdiv ho 3 = ho / 3 := by rw [Int.tdiv_eq_ediv_of_nonneg (by omega)]
  have hqw : IntKind.i64.wrap (ho / 3) = ho / 3 := wrap64_in _ (by omega) (by omega)
  clear hm3 hx
  have HAA := Lib.hid HA
  clear HA
  have bR : Bl ((((w.alloc (.cells #[.int .i64 xa, .int .i64 xi, .int .i64 xh, .int .i64 xp] 28)).alloc (.cells #[.int .i64 2, .int .i64 s1, .int .i64 s2, .int .i64 s3, .int .i64 s4] 25)).alloc (.cells #[.int .i64 1, .int .i64 sa, .int .i64 ho, .int .i64 ix, .slice ga gs.length gx, .slice ca cs.length cx, .slice pa ps.length px, .int .i64 pr, .slice ma ms.length mx, .int .i64 bw, .int .i64 er] 46)).alloc (.cells #[.int .i64 0, .int .i64 0, .int .i64 0, .int .i64 0, .int .i64 0] 25)) (w.heap.size + 1 + 1 + 1) [.int .i64 0, .int .i64 0, .int .i64 0, .int .i64 0, .int .i64 0] := Bl.new (((w.alloc (.cells #[.int .i64 xa, .int .i64 xi, .int .i64 xh, .int .i64 xp] 28)).alloc (.cells #[.int .i64 2, .int .i64 s1, .int .i64 s2, .int .i64 s3, .int .i64 s4] 25)).alloc (.cells #[.int .i64 1, .int .i64 sa, .int .i64 ho, .int .i64 ix, .slice ga gs.length gx, .slice ca cs.length cx, .slice pa ps.length px, .int .i64 pr, .slice ma ms.length mx, .int .i64 bw, .int .i64 er] 46)) [.int .i64 0, .int .i64 0, .int .i64 0, .int .i64 0, .int .i64 0] 25 (w.heap.size + 1 + 1 + 1) (by simp)
  have B0 : Below w.heap.size w ((((w.alloc (.cells #[.int .i64 xa, .int .i64 xi, .int .i64 xh, .int .i64 xp] 28)).alloc (.cells #[.int .i64 2, .int .i64 s1, .int .i64 s2, .int .i64 s3, .int .i64 s4] 25)).alloc (.cells #[.int .i64 1, .int .i64 sa, .int .i64 ho, .int .i64 ix, .slice ga gs.length gx, .slice ca cs.length cx, .slice pa ps.length px, .int .i64 pr, .slice ma ms.length mx, .int .i64 bw, .int .i64 er] 46)).alloc (.cells #[.int .i64 0, .int .i64 0, .int .i64 0, .int .i64 0, .int .i64 0] 25)) := (by repeat' (first | exact Below.refl _ _ | (refine Below.setCell ?_ (by simp <;> omega) _) | (refine Below.alloc ?_ (by simp <;> omega) _) | (refine Below.drew ?_)))
  have hz : ((((w.alloc (.cells #[.int .i64 xa, .int .i64 xi, .int .i64 xh, .int .i64 xp] 28)).alloc (.cells #[.int .i64 2, .int .i64 s1, .int .i64 s2, .int .i64 s3, .int .i64 s4] 25)).alloc (.cells #[.int .i64 1, .int .i64 sa, .int .i64 ho, .int .i64 ix, .slice ga gs.length gx, .slice ca cs.length cx, .slice pa ps.length px, .int .i64 pr, .slice ma ms.length mx, .int .i64 bw, .int .i64 er] 46)).alloc (.cells #[.int .i64 0, .int .i64 0, .int .i64 0, .int .i64 0, .int .i64 0] 25)).heap.size = w.heap.size + 1 + 1 + 1 + 1 := by simp
  have bC : Bl ((((w.alloc (.cells #[.int .i64 xa, .int .i64 xi, .int .i64 xh, .int .i64 xp] 28)).alloc (.cells #[.int .i64 2, .int .i64 s1, .int .i64 s2, .int .i64 s3, .int .i64 s4] 25)).alloc (.cells #[.int .i64 1, .int .i64 sa, .int .i64 ho, .int .i64 ix, .slice ga gs.length gx, .slice ca cs.length cx, .slice pa ps.length px, .int .i64 pr, .slice ma ms.length mx, .int .i64 bw, .int .i64 er] 46)).alloc (.cells #[.int .i64 0, .int .i64 0, .int .i64 0, .int .i64 0, .int .i64 0] 25)) (w.heap.size) [.int .i64 xa, .int .i64 xi, .int .i64 xh, .int .i64 xp] := (((Bl.new w [.int .i64 xa, .int .i64 xi, .int .i64 xh, .int .i64 xp] 28 (w.heap.size) (by simp)).alloc _).alloc _).alloc _
  have bS : Bl ((((w.alloc (.cells #[.int .i64 xa, .int .i64 xi, .int .i64 xh, .int .i64 xp] 28)).alloc (.cells #[.int .i64 2, .int .i64 s1, .int .i64 s2, .int .i64 s3, .int .i64 s4] 25)).alloc (.cells #[.int .i64 1, .int .i64 sa, .int .i64 ho, .int .i64 ix, .slice ga gs.length gx, .slice ca cs.length cx, .slice pa ps.length px, .int .i64 pr, .slice ma ms.length mx, .int .i64 bw, .int .i64 er] 46)).alloc (.cells #[.int .i64 0, .int .i64 0, .int .i64 0, .int .i64 0, .int .i64 0] 25)) (w.heap.size + 1) [.int .i64 2, .int .i64 s1, .int .i64 s2, .int .i64 s3, .int .i64 s4] := ((Bl.new (w.alloc (.cells #[.int .i64 xa, .int .i64 xi, .int .i64 xh, .int .i64 xp] 28)) [.int .i64 2, .int .i64 s1, .int .i64 s2, .int .i64 s3, .int .i64 s4] 25 (w.heap.size + 1) (by simp)).alloc _).alloc _
  have bM : Bl ((((w.alloc (.cells #[.int .i64 xa, .int .i64 xi, .int .i64 xh, .int .i64 xp] 28)).alloc (.cells #[.int .i64 2, .int .i64 s1, .int .i64 s2, .int .i64 s3, .int .i64 s4] 25)).alloc (.cells #[.int .i64 1, .int .i64 sa, .int .i64 ho, .int .i64 ix, .slice ga gs.length gx, .slice ca cs.length cx, .slice pa ps.length px, .int .i64 pr, .slice ma ms.length mx, .int .i64 bw, .int .i64 er] 46)).alloc (.cells #[.int .i64 0, .int .i64 0, .int .i64 0, .int .i64 0, .int .i64 0] 25)) (w.heap.size + 1 + 1) [.int .i64 1, .int .i64 sa, .int .i64 ho, .int .i64 ix, .slice ga gs.length gx, .slice ca cs.length cx, .slice pa ps.length px, .int .i64 pr, .slice ma ms.length mx, .int .i64 bw, .int .i64 er] := (Bl.new ((w.alloc (.cells #[.int .i64 xa, .int .i64 xi, .int .i64 xh, .int .i64 xp] 28)).alloc (.cells #[.int .i64 2, .int .i64 s1, .int .i64 s2, .int .i64 s3, .int .i64 s4] 25)) [.int .i64 1, .int .i64 sa, .int .i64 ho, .int .i64 ix, .slice ga gs.length gx, .slice ca cs.length cx, .slice pa ps.length px, .int .i64 pr, .slice ma ms.length mx, .int .i64 bw, .int .i64 er] 46 (w.heap.size + 1 + 1) (by simp)).alloc _
  go_enter Tryd.func22, Tryd.ntmps22
  go_wp2_with fail
  refine (HAA.out _).mono ?_
  rintro e w1 ⟨rfl, hb⟩
  have hz1 := hb.size
  rw [hz] at hz1
  replace bC := bC.keep hb
  replace bS := bS.keep hb
  replace bM := bM.keep hb
  replace bR := bR.keep hb
  replace B0 := below_step B0 hb
  clear hb hz HAA
  have g2 := bC.c 2 rfl
  have n2 := bM.c 2 rfl
  go_wp2_with fail
  clear g2 n2
  replace bS := bM
  clear bM bC
  have hz := Lib.hid hz1
  clear hz1
  refine wp_region_held_drew (S := fun w' => Bl w' (w.heap.size + 1 + 1) [.int .i64 1, .int .i64 sa, .int .i64 ho, .int .i64 ix, .slice ga gs.length gx, .slice ca cs.length cx, .slice pa ps.length px, .int .i64 pr, .slice ma ms.length mx, .int .i64 bw, .int .i64 er]) (by kernel_rfl) (bS.keep (over_drew w1)) (fun hHeld => ?_)
  refine wpAnyH_take (i := 0) (v := ?_) rfl (by kernel_rfl) (by kernel_rfl) (by kernel_rfl) (fun _ _ _ h => h) (Or.inl ⟨by rfl, ?_⟩) (by assumption) ?_
  rotate_left
  · intro wq hSq
    (try dsimp only at hSq)

    go_simp
    try rfl
  change wpAnyH _ _ _ _ _ _ _ (Act.put _ (some 44) _) _
  simp only [Act.put, List.setIfInBounds_toArray, List.set_cons_succ, List.set_cons_zero]
  refine wpAnyH_take (i := 1) (v := ?_) rfl (by kernel_rfl) (by kernel_rfl) (by kernel_rfl) (fun _ _ _ h => h) (Or.inl ⟨by rfl, ?_⟩) (by assumption) ?_
  rotate_left
  · intro wq hSq
    (try dsimp only at hSq)

    go_simp
    try rfl
  change wpAnyH _ _ _ _ _ _ _ (Act.put _ (some 45) _) _
  simp only [Act.put, List.setIfInBounds_toArray, List.set_cons_succ, List.set_cons_zero]
  refine wpAnyH_take (i := 2) (v := ?_) rfl (by kernel_rfl) (by kernel_rfl) (by kernel_rfl) (fun _ _ _ h => h) (Or.inl ⟨by rfl, ?_⟩) (by assumption) ?_
  rotate_left
  · intro wq hSq
    (try dsimp only at hSq)

    go_simp
    try rfl
  change wpAnyH _ _ _ _ _ _ _ (Act.put _ (some 46) _) _
  simp only [Act.put, List.setIfInBounds_toArray, List.set_cons_succ, List.set_cons_zero]
  refine wpAnyH_take (i := 3) (v := ?_) rfl (by kernel_rfl) (by kernel_rfl) (by kernel_rfl) (fun _ _ _ h => h) (Or.inl ⟨by rfl, ?_⟩) (by assumption) ?_
  rotate_left
  · intro wq hSq
    (try dsimp only at hSq)

    go_simp
    try rfl
  change wpAnyH _ _ _ _ _ _ _ (Act.put _ (some 47) _) _
  simp only [Act.put, List.setIfInBounds_toArray, List.set_cons_succ, List.set_cons_zero]
  refine wpAnyH_take (i := 4) (v := ?_) rfl (by kernel_rfl) (by kernel_rfl) (by kernel_rfl) (fun _ _ _ h => h) (Or.inl ⟨by rfl, ?_⟩) (by assumption) ?_
  rotate_left
  · intro wq hSq
    (try dsimp only at hSq)
    have q1 := hSq.c 1 rfl
    go_simp
    try rfl
  change wpAnyH _ _ _ _ _ _ _ (Act.put _ (some 48) _) _
  simp only [Act.put, List.setIfInBounds_toArray, List.set_cons_succ, List.set_cons_zero]
  refine wpAnyH_take (i := 5) (v := ?_) rfl (by kernel_rfl) (by kernel_rfl) (by kernel_rfl) (fun _ _ _ h => h) (Or.inl ⟨by rfl, ?_⟩) (by assumption) ?_
  rotate_left
  · intro wq hSq
    (try dsimp only at hSq)

    go_simp
    try rfl
  change wpAnyH _ _ _ _ _ _ _ (Act.put _ (some 49) _) _
  simp only [Act.put, List.setIfInBounds_toArray, List.set_cons_succ, List.set_cons_zero]
  refine wpAnyH_ready (rs := [6]) (by kernel_rfl) (by simp) ?_
  refine (AllReadyH.cons rfl (fun K hK => ?_) AllReadyH.nil)
  go_simp
  refine (skeep_any _).mono ?_
  rintro e wz ⟨rfl, hb⟩
  have O1 : Over w1 wz := over_step (over_drew _) hb
  have hs := O1.size
  have bS1 := bS.keep O1
  have bR1 := bR.keep O1
  have bR2 := bR1.alloc (.cells #[.int .i64 4, .int .i64 0, .int .i64 0, .int .i64 0, .slice none 0 0, .slice none 0 0, .slice none 0 0, .int .i64 0, .slice none 0 0, .int .i64 0, .int .i64 0] 46)
  have B1 := below_step B0 O1
  have r0 := bR1.c 0 rfl
  have r0f := bR1.f 0 (x := _) rfl
  have t0 := bR2.c 0 rfl
  have t0f := bR2.f 0 (x := _) rfl
  have r1 := bR1.c 1 rfl
  have r1f := bR1.f 1 (x := _) rfl
  have t1 := bR2.c 1 rfl
  have t1f := bR2.f 1 (x := _) rfl
  have r2 := bR1.c 2 rfl
  have r2f := bR1.f 2 (x := _) rfl
  have t2 := bR2.c 2 rfl
  have t2f := bR2.f 2 (x := _) rfl
  have r3 := bR1.c 3 rfl
  have r3f := bR1.f 3 (x := _) rfl
  have t3 := bR2.c 3 rfl
  have t3f := bR2.f 3 (x := _) rfl
  have r4 := bR1.c 4 rfl
  have r4f := bR1.f 4 (x := _) rfl
  have t4 := bR2.c 4 rfl
  have t4f := bR2.f 4 (x := _) rfl
  clear hb
  refine hK.out _ _ bS1 (fun hHeld => ?_)
  clear hK K
  try simp only [Act.put, List.setIfInBounds_toArray, List.set_cons_zero, List.set_cons_succ]
  refine wpAnyH_ready (rs := [7, 8]) (by kernel_rfl) (by simp) ?_
  refine (AllReadyH.cons rfl (fun K hK => ?_) (AllReadyH.cons rfl (fun K hK => ?_) AllReadyH.nil))
  · go_simp
    refine hK.out _ _ (bS1.alloc _) (fun hHeld => ?_)
    clear hK K
    try simp only [Act.put, List.setIfInBounds_toArray, List.set_cons_zero, List.set_cons_succ]
    refine wpAnyH_ready (rs := [8]) (by kernel_rfl) (by simp) ?_
    refine (AllReadyH.cons rfl (fun K hK => ?_) AllReadyH.nil)
    go_simp
    refine hK.out _ _ ((((((bS1.alloc _).far (o := 0) (u := .int .i64 3) (by omega)).far (o := 1) (u := .int .i64 ho) (by omega)).far (o := 2) (u := .int .i64 0) (by omega)).far (o := 3) (u := .int .i64 (ho / 3)) (by omega)).far (o := 4) (u := .int .i64 sa) (by omega)) (fun hHeld => ?_)
    clear hK K
    try simp only [Act.put, List.setIfInBounds_toArray, List.set_cons_zero, List.set_cons_succ]
    refine wpAnyH_ready (rs := [9]) (by kernel_rfl) (by simp) ?_
    refine (AllReadyH.cons rfl (fun K hK => ?_) AllReadyH.nil)
    go_simp
    refine hK.out _ _ ((((((bS1.alloc _).far (o := 0) (u := .int .i64 3) (by omega)).far (o := 1) (u := .int .i64 ho) (by omega)).far (o := 2) (u := .int .i64 0) (by omega)).far (o := 3) (u := .int .i64 (ho / 3)) (by omega)).far (o := 4) (u := .int .i64 sa) (by omega)) (fun hHeld => ?_)
    clear hK K
    try simp only [Act.put, List.setIfInBounds_toArray, List.set_cons_zero, List.set_cons_succ]
    refine wpAnyH_done (by kernel_rfl) ?_ _
    have hbl := bR2.set5 (.int .i64 3) (.int .i64 ho) (.int .i64 0) (.int .i64 (ho / 3)) (.int .i64 sa)
    have how := (OwnG.lit wz ⟨4, 0, 0, 0, 0⟩ w1.heap.size hs).far5 (B := w.heap.size + 1 + 1 + 1) (by have := hz.out; omega) (.int .i64 3) (.int .i64 ho) (.int .i64 0) (.int .i64 (ho / 3)) (.int .i64 sa)
    have hbe := below_set5 (B1.alloc B1.size (.cells #[.int .i64 4, .int .i64 0, .int .i64 0, .int .i64 0, .slice none 0 0, .slice none 0 0, .slice none 0 0, .int .i64 0, .slice none 0 0, .int .i64 0, .int .i64 0] 46)) (B := w.heap.size + 1 + 1 + 1) (by omega) (.int .i64 3) (.int .i64 ho) (.int .i64 0) (.int .i64 (ho / 3)) (.int .i64 sa)
    replace how := how.mono (base' := w.heap.size) (by have := hz.out; omega)
    simp only [Bm.cells] at how hbl hbe
    clear r0 r0f t0 t0f r1 r1f t1 t1f r2 r2f t2 t2f r3 r3f t3 t3f r4 r4f t4 t4f
    go_wp2
    obtain ⟨W2, hW2⟩ : ∃ W2, W2 = ((((((wz.alloc (.cells #[.int .i64 4, .int .i64 0, .int .i64 0, .int .i64 0, .slice none 0 0, .slice none 0 0, .slice none 0 0, .int .i64 0, .slice none 0 0, .int .i64 0, .int .i64 0] 46)).setCell ⟨w.heap.size + 1 + 1 + 1, 0, none⟩ (.int .i64 3)).setCell ⟨w.heap.size + 1 + 1 + 1, 1, none⟩ (.int .i64 ho)).setCell ⟨w.heap.size + 1 + 1 + 1, 2, none⟩ (.int .i64 0)).setCell ⟨w.heap.size + 1 + 1 + 1, 3, none⟩ (.int .i64 (ho / 3))).setCell ⟨w.heap.size + 1 + 1 + 1, 4, none⟩ (.int .i64 sa)) := ⟨_, rfl⟩
    rw [← hW2] at hbl how hbe ⊢
    clear hW2
    have r0 := hbl.c 0 rfl
    have r1 := hbl.c 1 rfl
    have r2 := hbl.c 2 rfl
    have r3 := hbl.c 3 rfl
    have r4 := hbl.c 4 rfl
    exact bodyPost_ret (v := .tuple #[.agg #[.int .i64 3, .int .i64 ho, .int .i64 0, .int .i64 (ho / 3), .int .i64 sa], .slice (some ⟨wz.heap.size, 0, none⟩) 1 1]) (by simp [results, Tryd.results22, go_sem, r0, r1, r2, r3, r4]) rfl ⟨_, rfl, how, hbe⟩
  · go_simp
    refine hK.out _ _ (((((bS1.far (o := 0) (u := .int .i64 3) (by omega)).far (o := 1) (u := .int .i64 ho) (by omega)).far (o := 2) (u := .int .i64 0) (by omega)).far (o := 3) (u := .int .i64 (ho / 3)) (by omega)).far (o := 4) (u := .int .i64 sa) (by omega)) (fun hHeld => ?_)
    clear hK K
    try simp only [Act.put, List.setIfInBounds_toArray, List.set_cons_zero, List.set_cons_succ]
    refine wpAnyH_ready (rs := [7]) (by kernel_rfl) (by simp) ?_
    refine (AllReadyH.cons rfl (fun K hK => ?_) AllReadyH.nil)
    go_simp
    refine hK.out _ _ ((((((bS1.far (o := 0) (u := .int .i64 3) (by omega)).far (o := 1) (u := .int .i64 ho) (by omega)).far (o := 2) (u := .int .i64 0) (by omega)).far (o := 3) (u := .int .i64 (ho / 3)) (by omega)).far (o := 4) (u := .int .i64 sa) (by omega)).alloc _) (fun hHeld => ?_)
    clear hK K
    try simp only [Act.put, List.setIfInBounds_toArray, List.set_cons_zero, List.set_cons_succ]
    refine wpAnyH_ready (rs := [9]) (by kernel_rfl) (by simp) ?_
    refine (AllReadyH.cons rfl (fun K hK => ?_) AllReadyH.nil)
    go_simp
    refine hK.out _ _ ((((((bS1.far (o := 0) (u := .int .i64 3) (by omega)).far (o := 1) (u := .int .i64 ho) (by omega)).far (o := 2) (u := .int .i64 0) (by omega)).far (o := 3) (u := .int .i64 (ho / 3)) (by omega)).far (o := 4) (u := .int .i64 sa) (by omega)).alloc _) (fun hHeld => ?_)
    clear hK K
    try simp only [Act.put, List.setIfInBounds_toArray, List.set_cons_zero, List.set_cons_succ]
    refine wpAnyH_done (by kernel_rfl) ?_ _
    have hbl := (bR1.set5 (.int .i64 3) (.int .i64 ho) (.int .i64 0) (.int .i64 (ho / 3)) (.int .i64 sa)).alloc (.cells #[.int .i64 4, .int .i64 0, .int .i64 0, .int .i64 0, .slice none 0 0, .slice none 0 0, .slice none 0 0, .int .i64 0, .slice none 0 0, .int .i64 0, .int .i64 0] 46)
    have how := OwnG.lit (((((wz.setCell ⟨w.heap.size + 1 + 1 + 1, 0, none⟩ (.int .i64 3)).setCell ⟨w.heap.size + 1 + 1 + 1, 1, none⟩ (.int .i64 ho)).setCell ⟨w.heap.size + 1 + 1 + 1, 2, none⟩ (.int .i64 0)).setCell ⟨w.heap.size + 1 + 1 + 1, 3, none⟩ (.int .i64 (ho / 3))).setCell ⟨w.heap.size + 1 + 1 + 1, 4, none⟩ (.int .i64 sa)) ⟨4, 0, 0, 0, 0⟩ w1.heap.size (by simpa using hs)
    have hbe := (below_set5 B1 (B := w.heap.size + 1 + 1 + 1) (by omega) (.int .i64 3) (.int .i64 ho) (.int .i64 0) (.int .i64 (ho / 3)) (.int .i64 sa)).alloc (by have := B1.size; simpa using this) (.cells #[.int .i64 4, .int .i64 0, .int .i64 0, .int .i64 0, .slice none 0 0, .slice none 0 0, .slice none 0 0, .int .i64 0, .slice none 0 0, .int .i64 0, .int .i64 0] 46)
    replace how := how.mono (base' := w.heap.size) (by have := hz.out; omega)
    rw [show ((((((wz.setCell ⟨w.heap.size + 1 + 1 + 1, 0, none⟩ (.int .i64 3)).setCell ⟨w.heap.size + 1 + 1 + 1, 1, none⟩ (.int .i64 ho)).setCell ⟨w.heap.size + 1 + 1 + 1, 2, none⟩ (.int .i64 0)).setCell ⟨w.heap.size + 1 + 1 + 1, 3, none⟩ (.int .i64 (ho / 3))).setCell ⟨w.heap.size + 1 + 1 + 1, 4, none⟩ (.int .i64 sa))).heap.size = wz.heap.size by simp] at how
    simp only [Bm.cells] at how hbl hbe
    clear r0 r0f t0 t0f r1 r1f t1 t1f r2 r2f t2 t2f r3 r3f t3 t3f r4 r4f t4 t4f
    go_wp2
    obtain ⟨W2, hW2⟩ : ∃ W2, W2 = ((((((wz.setCell ⟨w.heap.size + 1 + 1 + 1, 0, none⟩ (.int .i64 3)).setCell ⟨w.heap.size + 1 + 1 + 1, 1, none⟩ (.int .i64 ho)).setCell ⟨w.heap.size + 1 + 1 + 1, 2, none⟩ (.int .i64 0)).setCell ⟨w.heap.size + 1 + 1 + 1, 3, none⟩ (.int .i64 (ho / 3))).setCell ⟨w.heap.size + 1 + 1 + 1, 4, none⟩ (.int .i64 sa)).alloc (.cells #[.int .i64 4, .int .i64 0, .int .i64 0, .int .i64 0, .slice none 0 0, .slice none 0 0, .slice none 0 0, .int .i64 0, .slice none 0 0, .int .i64 0, .int .i64 0] 46)) := ⟨_, rfl⟩
    rw [← hW2] at hbl how hbe ⊢
    clear hW2
    have r0 := hbl.c 0 rfl
    have r1 := hbl.c 1 rfl
    have r2 := hbl.c 2 rfl
    have r3 := hbl.c 3 rfl
    have r4 := hbl.c 4 rfl
    exact bodyPost_ret (v := .tuple #[.agg #[.int .i64 3, .int .i64 ho, .int .i64 0, .int .i64 (ho / 3), .int .i64 sa], .slice (some ⟨wz.heap.size, 0, none⟩) 1 1]) (by simp [results, Tryd.results22, go_sem, r0, r1, r2, r3, r4]) rfl ⟨_, rfl, how, hbe⟩
end Go.Proofs.YtnklnibjlhnicaaRRRRDoor
