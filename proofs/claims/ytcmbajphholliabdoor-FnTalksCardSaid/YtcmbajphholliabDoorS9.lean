/-
  The program's machine: its block, what it sends. Conditions: those in each contract.
-/
import Derived.Test.YtcmbajphholliabDoorS4
import Derived.Test.YtcmbajphholliabDoorS8
import Derived.Test.YtcmbajphholliabDoorV1
namespace Go.Proofs.YtcmbajphholliabDoor
open Go.ChangeShapes Go.WideShapes Go.ChangeAt Go.RowKit Go.BigFrame Go.Joins
set_option linter.unusedVariables false
set_option maxRecDepth 100000
set_option linter.unusedSimpArgs false

theorem send_any (X : Nat) (xa xi xh xp st hd he ke pr : Int) (m : Bm) (mv : Value) (w : World) (hp : ∀ w, Calls Tryd.prog 35 #[mv] w fun e w' => e = .returned (.agg #[.int .i64 m.k, .int .i64 m.a, .int .i64 m.h, .int .i64 m.i, .slice none 0 0, .slice none 0 0, .slice none 0 0, .int .i64 0, .slice none 0 0, .int .i64 0, .int .i64 m.er]) ∧ Below w.heap.size w w')
    (hX : Bl w X [.int .i64 xa, .int .i64 xi, .int .i64 xh, .int .i64 xp, .int .i64 st, .int .i64 hd, .int .i64 he, .int .i64 ke, .int .i64 pr, .slice none 0 0]) : Calls Tryd.prog 97 #[.pointer (some ⟨X, 0, none⟩), mv] w fun e w' => e = .returned (.tuple #[]) ∧ ∃ v, Bl w' X [.int .i64 xa, .int .i64 xi, .int .i64 xh, .int .i64 xp, .int .i64 st, .int .i64 hd, .int .i64 he, .int .i64 ke, .int .i64 pr, v] ∧ OwnG w' w.heap.size v [m] ∧ w.grownBy w' (some X) := by
  have x9 := hX.c 9 rfl
  have y9 := hX.f 9 rfl
  go_enter Tryd.func97, Tryd.ntmps97
  go_wp2_with fail
  have HP := Lib.hid hp
  have HP := Lib.hid hp
  clear hp y9
  refine wp_region_held_drew (S := fun _ => True) (by kernel_rfl) trivial (fun hHeld => ?_)
  refine wpAnyH_take (i := 0) (v := ?_) rfl (by kernel_rfl) (by kernel_rfl) (by kernel_rfl) (fun _ _ _ h => h) (Or.inl ⟨by rfl, ?_⟩) (by assumption) ?_
  rotate_left
  · intro w hSw
    (try dsimp only at hSw)
    go_simp
    try rfl
  change wpAnyH _ _ _ _ _ _ _ (Act.put _ (some 4) _) _
  simp only [Act.put, List.setIfInBounds_toArray, List.set_cons_succ, List.set_cons_zero]
  refine wpAnyH_take (i := 1) (v := ?_) rfl (by kernel_rfl) (by kernel_rfl) (by kernel_rfl) (fun _ _ _ h => h) (Or.inl ⟨by rfl, ?_⟩) (by assumption) ?_
  rotate_left
  · intro w hSw
    (try dsimp only at hSw)
    go_simp
    try rfl
  change wpAnyH _ _ _ _ _ _ _ (Act.put _ (some 5) _) _
  simp only [Act.put, List.setIfInBounds_toArray, List.set_cons_succ, List.set_cons_zero]
  refine wpAnyH_take (i := 2) (v := ?_) rfl (by kernel_rfl) (by kernel_rfl) (by kernel_rfl) (fun _ _ _ h => h) (Or.inl ⟨by rfl, ?_⟩) (by assumption) ?_
  rotate_left
  · intro w hSw
    (try dsimp only at hSw)
    go_simp
    try rfl
  change wpAnyH _ _ _ _ _ _ _ (Act.put _ (some 6) _) _
  simp only [Act.put, List.setIfInBounds_toArray, List.set_cons_succ, List.set_cons_zero]
  refine wpAnyH_take (i := 3) (v := ?_) rfl (by kernel_rfl) (by kernel_rfl) (by kernel_rfl) (fun _ _ _ h => h) (Or.inl ⟨by rfl, ?_⟩) (by assumption) ?_
  rotate_left
  · intro w hSw
    (try dsimp only at hSw)
    go_simp
    try rfl
  change wpAnyH _ _ _ _ _ _ _ (Act.put _ (some 7) _) _
  simp only [Act.put, List.setIfInBounds_toArray, List.set_cons_succ, List.set_cons_zero]
  refine wpAnyH_take (i := 5) (v := ?_) rfl (by kernel_rfl) (by kernel_rfl) (by kernel_rfl) (fun _ _ _ h => h) (Or.inl ⟨by rfl, ?_⟩) (by assumption) ?_
  rotate_left
  · intro w hSw
    (try dsimp only at hSw)
    go_simp
    try rfl
  change wpAnyH _ _ _ _ _ _ _ (Act.put _ (some 9) _) _
  simp only [Act.put, List.setIfInBounds_toArray, List.set_cons_succ, List.set_cons_zero]
  refine wpAnyH_ready (rs := [4, 6]) (by kernel_rfl) (by simp) ?_
  refine AllReadyH.cons rfl (fun K hK => ?_) (AllReadyH.cons rfl (fun K hK => ?_) AllReadyH.nil)
  · go_simp
    refine hK.out _ _ trivial (fun hHeld => ?_)
    clear hK K
    try simp only [Act.put, List.setIfInBounds_toArray, List.set_cons_zero, List.set_cons_succ]
    refine wpAnyH_ready (rs := [6]) (by kernel_rfl) (by simp) ?_
    refine AllReadyH.cons rfl (fun K hK => ?_) AllReadyH.nil
    go_simp
    refine (HP.out _).mono ?_
    rintro e w3 ⟨rfl, hb3⟩
    have O3 : Over w w3 := over_step (over_drew _) hb3
    have bX := hX.keep O3
    have x93 := bX.c 9 rfl
    refine hK.out _ _ trivial (fun hHeld => ?_)
    clear hK K
    try simp only [Act.put, List.setIfInBounds_toArray, List.set_cons_zero, List.set_cons_succ]
    refine wpAnyH_ready (rs := [7]) (by kernel_rfl) (by simp) ?_
    refine AllReadyH.cons rfl (fun K hK => ?_) AllReadyH.nil
    go_simp
    refine hK.out _ _ trivial (fun hHeld => ?_)
    clear hK K
    try simp only [Act.put, List.setIfInBounds_toArray, List.set_cons_zero, List.set_cons_succ]
    have x94 : (w3.alloc (.cells #[.int .i64 m.k, .int .i64 m.a, .int .i64 m.h, .int .i64 m.i, .slice none 0 0, .slice none 0 0, .slice none 0 0, .int .i64 0, .slice none 0 0, .int .i64 0, .int .i64 m.er] 38)).cell? ⟨X, 9, none⟩ = some (.slice none 0 0) := (bX.alloc _).c 9 rfl
    refine wpAnyH_ready (rs := [8]) (by kernel_rfl) (by simp) ?_
    refine AllReadyH.cons rfl (fun K hK => ?_) AllReadyH.nil
    refine step_appG rfl (.tmp 8) (.tmp 11) rfl w.heap.size w3.heap.size 1 (.slice none 0 0) [] m rfl rfl (OwnG.nil _ _) (Bl.new w3 m.cells 38 _ rfl) (by simp) (Nat.le_trans O3.size (by simp)) ?_
    intro v5 w5 o5 g5 r5
    obtain ⟨a5, c5, rfl, -⟩ := OwnG.cap o5
    have bZ := (bX.alloc (.cells m.cells.toArray 38)).grown g5 (by simp [Value.ownBlock])
    have z9 := bZ.c 9 rfl
    have zf := bZ.f 9 (x := .slice none 0 0) rfl
    refine hK.out _ _ trivial (fun hHeld => ?_)
    clear hK K
    try simp only [Act.put, List.setIfInBounds_toArray, List.set_cons_zero, List.set_cons_succ]
    refine wpAnyH_take (i := 9) (v := ?_) rfl (by kernel_rfl) (by kernel_rfl) (by kernel_rfl) (fun _ _ _ h => h) (Or.inl ⟨by rfl, ?_⟩) (by assumption) ?_
    rotate_left
    · intro w hSw
      (try dsimp only at hSw)
      go_simp
      try rfl
    change wpAnyH _ _ _ _ _ _ _ (Act.put _ (some 13) _) _
    simp only [Act.put, List.setIfInBounds_toArray, List.set_cons_succ, List.set_cons_zero]
    refine wpAnyH_take (i := 10) (v := ?_) rfl (by kernel_rfl) (by kernel_rfl) (by kernel_rfl) (fun _ _ _ h => h) (Or.inl ⟨by rfl, ?_⟩) (by assumption) ?_
    rotate_left
    · intro w hSw
      (try dsimp only at hSw)
      go_simp
      try rfl
    change wpAnyH _ _ _ _ _ _ _ (Act.put _ (some 14) _) _
    simp only [Act.put, List.setIfInBounds_toArray, List.set_cons_succ, List.set_cons_zero]
    refine wpAnyH_ready (rs := [11]) (by kernel_rfl) (by simp) ?_
    refine AllReadyH.cons rfl (fun K hK => ?_) AllReadyH.nil
    go_simp
    refine hK.out _ _ trivial (fun hHeld => ?_)
    clear hK K
    try simp only [Act.put, List.setIfInBounds_toArray, List.set_cons_zero, List.set_cons_succ]
    refine wpAnyH_done (by kernel_rfl) ?_ _
    clear x93 x94 z9 zf
    go_end0
    exact ⟨rfl, .slice a5 1 c5, (by simpa only [List.set_cons_zero, List.set_cons_succ] using bZ.set 9 (.slice a5 1 c5)), OwnG.far o5 hX.lt, grown_trans (grow_row (grow_row (grown_below O3 (some X)) (grown_alloc (World.grownBy.refl w3 none) _) (fun k hk => by cases hk)) g5 (fun k hk => by cases hk)) (grown_set w5 X 9 _)⟩
  · go_simp
    refine (HP.out _).mono ?_
    rintro e w3 ⟨rfl, hb3⟩
    have O3 : Over w w3 := over_step (over_drew _) hb3
    have bX := hX.keep O3
    have x93 := bX.c 9 rfl
    refine hK.out _ _ trivial (fun hHeld => ?_)
    clear hK K
    try simp only [Act.put, List.setIfInBounds_toArray, List.set_cons_zero, List.set_cons_succ]
    refine wpAnyH_ready (rs := [4, 7]) (by kernel_rfl) (by simp) ?_
    refine AllReadyH.cons rfl (fun K hK => ?_) (AllReadyH.cons rfl (fun K hK => ?_) AllReadyH.nil)
    · go_simp
      refine hK.out _ _ trivial (fun hHeld => ?_)
      clear hK K
      try simp only [Act.put, List.setIfInBounds_toArray, List.set_cons_zero, List.set_cons_succ]
      refine wpAnyH_ready (rs := [7]) (by kernel_rfl) (by simp) ?_
      refine AllReadyH.cons rfl (fun K hK => ?_) AllReadyH.nil
      go_simp
      refine hK.out _ _ trivial (fun hHeld => ?_)
      clear hK K
      try simp only [Act.put, List.setIfInBounds_toArray, List.set_cons_zero, List.set_cons_succ]
      have x94 : (w3.alloc (.cells #[.int .i64 m.k, .int .i64 m.a, .int .i64 m.h, .int .i64 m.i, .slice none 0 0, .slice none 0 0, .slice none 0 0, .int .i64 0, .slice none 0 0, .int .i64 0, .int .i64 m.er] 38)).cell? ⟨X, 9, none⟩ = some (.slice none 0 0) := (bX.alloc _).c 9 rfl
      refine wpAnyH_ready (rs := [8]) (by kernel_rfl) (by simp) ?_
      refine AllReadyH.cons rfl (fun K hK => ?_) AllReadyH.nil
      refine step_appG rfl (.tmp 8) (.tmp 11) rfl w.heap.size w3.heap.size 1 (.slice none 0 0) [] m rfl rfl (OwnG.nil _ _) (Bl.new w3 m.cells 38 _ rfl) (by simp) (Nat.le_trans O3.size (by simp)) ?_
      intro v5 w5 o5 g5 r5
      obtain ⟨a5, c5, rfl, -⟩ := OwnG.cap o5
      have bZ := (bX.alloc (.cells m.cells.toArray 38)).grown g5 (by simp [Value.ownBlock])
      have z9 := bZ.c 9 rfl
      have zf := bZ.f 9 (x := .slice none 0 0) rfl
      refine hK.out _ _ trivial (fun hHeld => ?_)
      clear hK K
      try simp only [Act.put, List.setIfInBounds_toArray, List.set_cons_zero, List.set_cons_succ]
      refine wpAnyH_take (i := 9) (v := ?_) rfl (by kernel_rfl) (by kernel_rfl) (by kernel_rfl) (fun _ _ _ h => h) (Or.inl ⟨by rfl, ?_⟩) (by assumption) ?_
      rotate_left
      · intro w hSw
        (try dsimp only at hSw)
        go_simp
        try rfl
      change wpAnyH _ _ _ _ _ _ _ (Act.put _ (some 13) _) _
      simp only [Act.put, List.setIfInBounds_toArray, List.set_cons_succ, List.set_cons_zero]
      refine wpAnyH_take (i := 10) (v := ?_) rfl (by kernel_rfl) (by kernel_rfl) (by kernel_rfl) (fun _ _ _ h => h) (Or.inl ⟨by rfl, ?_⟩) (by assumption) ?_
      rotate_left
      · intro w hSw
        (try dsimp only at hSw)
        go_simp
        try rfl
      change wpAnyH _ _ _ _ _ _ _ (Act.put _ (some 14) _) _
      simp only [Act.put, List.setIfInBounds_toArray, List.set_cons_succ, List.set_cons_zero]
      refine wpAnyH_ready (rs := [11]) (by kernel_rfl) (by simp) ?_
      refine AllReadyH.cons rfl (fun K hK => ?_) AllReadyH.nil
      go_simp
      refine hK.out _ _ trivial (fun hHeld => ?_)
      clear hK K
      try simp only [Act.put, List.setIfInBounds_toArray, List.set_cons_zero, List.set_cons_succ]
      refine wpAnyH_done (by kernel_rfl) ?_ _
      clear x93 x94 z9 zf
      go_end0
      exact ⟨rfl, .slice a5 1 c5, (by simpa only [List.set_cons_zero, List.set_cons_succ] using bZ.set 9 (.slice a5 1 c5)), OwnG.far o5 hX.lt, grown_trans (grow_row (grow_row (grown_below O3 (some X)) (grown_alloc (World.grownBy.refl w3 none) _) (fun k hk => by cases hk)) g5 (fun k hk => by cases hk)) (grown_set w5 X 9 _)⟩
    · go_simp
      refine hK.out _ _ trivial (fun hHeld => ?_)
      clear hK K
      try simp only [Act.put, List.setIfInBounds_toArray, List.set_cons_zero, List.set_cons_succ]
      have x94 : (w3.alloc (.cells #[.int .i64 m.k, .int .i64 m.a, .int .i64 m.h, .int .i64 m.i, .slice none 0 0, .slice none 0 0, .slice none 0 0, .int .i64 0, .slice none 0 0, .int .i64 0, .int .i64 m.er] 38)).cell? ⟨X, 9, none⟩ = some (.slice none 0 0) := (bX.alloc _).c 9 rfl
      refine wpAnyH_ready (rs := [4]) (by kernel_rfl) (by simp) ?_
      refine AllReadyH.cons rfl (fun K hK => ?_) AllReadyH.nil
      go_simp
      refine hK.out _ _ trivial (fun hHeld => ?_)
      clear hK K
      try simp only [Act.put, List.setIfInBounds_toArray, List.set_cons_zero, List.set_cons_succ]
      refine wpAnyH_ready (rs := [8]) (by kernel_rfl) (by simp) ?_
      refine AllReadyH.cons rfl (fun K hK => ?_) AllReadyH.nil
      refine step_appG rfl (.tmp 8) (.tmp 11) rfl w.heap.size w3.heap.size 1 (.slice none 0 0) [] m rfl rfl (OwnG.nil _ _) (Bl.new w3 m.cells 38 _ rfl) (by simp) (Nat.le_trans O3.size (by simp)) ?_
      intro v5 w5 o5 g5 r5
      obtain ⟨a5, c5, rfl, -⟩ := OwnG.cap o5
      have bZ := (bX.alloc (.cells m.cells.toArray 38)).grown g5 (by simp [Value.ownBlock])
      have z9 := bZ.c 9 rfl
      have zf := bZ.f 9 (x := .slice none 0 0) rfl
      refine hK.out _ _ trivial (fun hHeld => ?_)
      clear hK K
      try simp only [Act.put, List.setIfInBounds_toArray, List.set_cons_zero, List.set_cons_succ]
      refine wpAnyH_take (i := 9) (v := ?_) rfl (by kernel_rfl) (by kernel_rfl) (by kernel_rfl) (fun _ _ _ h => h) (Or.inl ⟨by rfl, ?_⟩) (by assumption) ?_
      rotate_left
      · intro w hSw
        (try dsimp only at hSw)
        go_simp
        try rfl
      change wpAnyH _ _ _ _ _ _ _ (Act.put _ (some 13) _) _
      simp only [Act.put, List.setIfInBounds_toArray, List.set_cons_succ, List.set_cons_zero]
      refine wpAnyH_take (i := 10) (v := ?_) rfl (by kernel_rfl) (by kernel_rfl) (by kernel_rfl) (fun _ _ _ h => h) (Or.inl ⟨by rfl, ?_⟩) (by assumption) ?_
      rotate_left
      · intro w hSw
        (try dsimp only at hSw)
        go_simp
        try rfl
      change wpAnyH _ _ _ _ _ _ _ (Act.put _ (some 14) _) _
      simp only [Act.put, List.setIfInBounds_toArray, List.set_cons_succ, List.set_cons_zero]
      refine wpAnyH_ready (rs := [11]) (by kernel_rfl) (by simp) ?_
      refine AllReadyH.cons rfl (fun K hK => ?_) AllReadyH.nil
      go_simp
      refine hK.out _ _ trivial (fun hHeld => ?_)
      clear hK K
      try simp only [Act.put, List.setIfInBounds_toArray, List.set_cons_zero, List.set_cons_succ]
      refine wpAnyH_done (by kernel_rfl) ?_ _
      clear x93 x94 z9 zf
      go_end0
      exact ⟨rfl, .slice a5 1 c5, (by simpa only [List.set_cons_zero, List.set_cons_succ] using bZ.set 9 (.slice a5 1 c5)), OwnG.far o5 hX.lt, grown_trans (grow_row (grow_row (grown_below O3 (some X)) (grown_alloc (World.grownBy.refl w3 none) _) (fun k hk => by cases hk)) g5 (fun k hk => by cases hk)) (grown_set w5 X 9 _)⟩
end Go.Proofs.YtcmbajphholliabDoor
