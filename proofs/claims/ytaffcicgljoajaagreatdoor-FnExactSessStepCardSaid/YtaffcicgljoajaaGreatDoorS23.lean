/-
  The laws' words on sessions and on the messages that a step sends. Conditions: those in each contract.
-/
import Derived.Test.YtaffcicgljoajaaGreatDoorS4
import Derived.Test.YtaffcicgljoajaaGreatDoorV2
import Derived.Test.YtaffcicgljoajaaGreatDoorQ8
namespace Go.Proofs.YtaffcicgljoajaaGreatDoor
open Go.ChangeShapes Go.WideShapes Go.ChangeAt Go.RowKit Go.BigFrame Go.Joins
set_option linter.unusedVariables false
set_option maxRecDepth 100000
set_option linter.unusedSimpArgs false

theorem Mid.bl {base N : Nat} {w w' : World} {B : Nat} {xs : List Value} (h : Bl w B xs) (m : Mid base N w w') (hv : B < base ∨ N ≤ B) : Bl w' B xs := by
  have e := m.block B h.lt hv
  refine ⟨Nat.lt_of_lt_of_le h.lt m.size, fun i x hx => ?_, fun i hi => ?_⟩
  · rw [← h.cs i x hx]
    simp only [World.cell?, e]
  · rw [← h.fz i hi]
    simp only [World.frozen?, e]
theorem Mid.set {w : World} {B o : Nat} (u : Value) : Mid B (B + 1) w (w.setCell ⟨B, o, none⟩ u) := Mid.of_grown (grown_set w B o u) (fun k h => by cases h; omega)
theorem Mid.below {base N : Nat} {w w' : World} (h : Below w.heap.size w w') : Mid base N w w' := Mid.of_grown (row := none) (grown_below h none) (fun k h => by cases h)
/-- v reads as the messages l (none or one), whose row lies from lo on and ahead of hi -/
def GM (w : World) (lo hi : Nat) (v : Value) (l : List Bm) : Prop :=
  (l = [] ∧ ∃ a c, v = .slice a 0 c) ∨ ∃ m g c, l = [m] ∧ v = .slice (some ⟨g, 0, none⟩) 1 c ∧ lo ≤ g ∧ g < hi ∧ Bl w g m.cells
theorem GM.of {w : World} {base : Nat} {v : Value} {l : List Bm} (h : OwnG w base v l) (hl : l = [] ∨ ∃ m, l = [m]) : GM w base w.heap.size v l := by
  rcases hl with rfl | ⟨m, rfl⟩
  · obtain ⟨a, c, e, -⟩ := h.cap
    exact .inl ⟨rfl, a, c, e⟩
  · have h0 := h
    unfold OwnG at h0
    rcases h.2 with ⟨_, hn⟩ | ⟨g, cap, cur, rfl, hb, hg, hnc, hcm, hcs, htake⟩
    · simp at hn
    · have hlt := (World.ownsRow.lt h0 g rfl).2
      refine .inr ⟨m, g, cap, rfl, rfl, hb, hlt, ⟨hlt, fun i x e => ?_, fun i hi => ?_⟩⟩
      · have hi : i < 11 := by
          have := (List.getElem?_eq_some_iff.mp e).1
          simpa [Bm.cells] using this
        rw [World.ownsRow.cellAt h0 i (by simpa using hi)]
        simpa [flatM] using e
      · exact World.ownsRow.frozenAt h0 i
theorem GM.mid {w w' : World} {lo hi base N : Nat} {v : Value} {l : List Bm} (h : GM w lo hi v l) (m : Mid base N w w') (hd : hi ≤ base ∨ N ≤ lo) : GM w' lo hi v l := by
  rcases h with h | ⟨x, g, c, e, ev, h1, h2, hb⟩
  · exact .inl h
  · exact .inr ⟨x, g, c, e, ev, h1, h2, Mid.bl hb m (by omega)⟩
theorem GM.keep {w w' : World} {lo hi : Nat} {v : Value} {l : List Bm} (h : GM w lo hi v l) (hb : Below w.heap.size w w') : GM w' lo hi v l := by
  rcases h with h | ⟨x, g, c, e, ev, h1, h2, hB⟩
  · exact .inl h
  · exact .inr ⟨x, g, c, e, ev, h1, h2, hB.keep hb⟩
/-- v bears the marks -/
def Mk (w : World) (lo hi : Nat) (v : Value) (k : Int) : Prop :=
  (k = 1 ∧ ∃ a c, v = .slice a 0 c) ∨ ∃ g c, k = 8 ∧ v = .slice (some ⟨g, 0, none⟩) 1 c ∧ lo ≤ g ∧ g < hi ∧ Bl w g [.int .i64 1, .int .i64 2, .int .i64 3, .int .i64 4, .slice none 0 0, .slice none 0 0, .slice none 0 0, .int .i64 5, .slice none 0 0, .int .i64 6, .int .i64 7]
theorem Mk.keep {w w' : World} {lo hi : Nat} {v : Value} {k : Int} (h : Mk w lo hi v k) (hb : Below w.heap.size w w') : Mk w' lo hi v k := by
  rcases h with h | ⟨g, c, e, ev, h1, h2, hB⟩
  · exact .inl h
  · exact .inr ⟨g, c, e, ev, h1, h2, hB.keep hb⟩
theorem toS_any (s0 s1 s2 s3 s4 : Int) (w : World) : Calls Tryz.prog 18 #[.agg #[.int .i64 s0, .int .i64 s1, .int .i64 s2, .int .i64 s3, .int .i64 s4]] w fun e w' => e = .returned (.agg #[.int .i64 s0, .int .i64 s1, .int .i64 s2, .int .i64 s3, .int .i64 s4]) ∧ Below w.heap.size w w' := by
  go_enter Tryz.func18, Tryz.ntmps18
  go_wp2
  exact bodyPost_ret (v := .agg #[.int .i64 s0, .int .i64 s1, .int .i64 s2, .int .i64 s3, .int .i64 s4]) (by simp [results, Tryz.results18, go_sem]) rfl ⟨rfl, (by repeat' (first | exact Below.refl _ _ | (refine Below.setCell ?_ (by simp <;> omega) _) | (refine Below.alloc ?_ (by simp <;> omega) _) | (refine Below.drew ?_)))⟩
theorem eqSn_same (s0 s1 s2 s3 s4 : Int) (w : World) : Calls Tryz.prog 20 #[.agg #[.int .i64 s0, .int .i64 s1, .int .i64 s2, .int .i64 s3, .int .i64 s4], .agg #[.int .i64 s0, .int .i64 s1, .int .i64 s2, .int .i64 s3, .int .i64 s4]] w fun e w' => e = .returned (.bool true) ∧ Below w.heap.size w w' := by
  have q0 : (s0 != s0) = false := by simp
  have q1 : (s1 != s1) = false := by simp
  have q2 : (s2 != s2) = false := by simp
  have q3 : (s3 != s3) = false := by simp
  have q4 : (s4 != s4) = false := by simp
  go_enter Tryz.func20, Tryz.ntmps20
  go_wp2
  go_ret
  exact ⟨rfl, (by repeat' (first | exact Below.refl _ _ | (refine Below.setCell ?_ (by simp <;> omega) _) | (refine Below.alloc ?_ (by simp <;> omega) _) | (refine Below.drew ?_)))⟩
set_option maxHeartbeats 1000000 in
theorem eqGS_same (v u : Value) (l : List Bm) (lo hi lo2 hi2 : Nat) (w : World) (hv : GM w lo hi v l) (hu : GM w lo2 hi2 u l) : Calls Tryz.prog 21 #[v, u] w fun e w' => e = .returned (.bool true) ∧ Below w.heap.size w w' := by
  rcases hv with ⟨rfl, a, c, rfl⟩ | ⟨m, g, c, rfl, rfl, -, -, hB⟩
  · rcases hu with ⟨-, a2, c2, rfl⟩ | ⟨m2, g2, c2, h, -⟩
    · go_enter Tryz.func21, Tryz.ntmps21
      go_wp2
      refine wp_loop_rounds 1 ?_
      rw [rounds_succ]
      go_wp2
      go_ret
      exact ⟨rfl, Below.refl _ _⟩
    · cases h
  · rcases hu with ⟨h, -⟩ | ⟨m2, g2, c2, h, rfl, -, -, hC⟩
    · cases h
    · cases h
      have x0 := hB.c 0 rfl
      have y0 := hC.c 0 rfl
      have x1 := hB.c 1 rfl
      have y1 := hC.c 1 rfl
      have x2 := hB.c 2 rfl
      have y2 := hC.c 2 rfl
      have x3 := hB.c 3 rfl
      have y3 := hC.c 3 rfl
      have x4 := hB.c 4 rfl
      have y4 := hC.c 4 rfl
      have x5 := hB.c 5 rfl
      have y5 := hC.c 5 rfl
      have x6 := hB.c 6 rfl
      have y6 := hC.c 6 rfl
      have x7 := hB.c 7 rfl
      have y7 := hC.c 7 rfl
      have x8 := hB.c 8 rfl
      have y8 := hC.c 8 rfl
      have x9 := hB.c 9 rfl
      have y9 := hC.c 9 rfl
      have x10 := hB.c 10 rfl
      have y10 := hC.c 10 rfl
      go_enter Tryz.func21, Tryz.ntmps21
      go_wp2
      refine wp_loop_rounds 2 ?_
      rw [rounds_succ]
      go_wp2_with fail
      refine wp_region_held_drew (S := fun w' => Over w w' ∧ Bl w' g m.cells ∧ Bl w' g2 m.cells) (by kernel_rfl) ⟨over_drew w, hB.keep (over_drew w), hC.keep (over_drew w)⟩ (fun hHeld => ?_)
      refine wpAnyH_take (i := 0) (v := ?_) rfl (by kernel_rfl) (by kernel_rfl) (by kernel_rfl) (fun _ _ _ h => h) (Or.inl ⟨by rfl, ?_⟩) (by assumption) ?_
      rotate_left
      · intro wq hSq
        (try dsimp only at hSq)

        go_simp
        try rfl
      change wpAnyH _ _ _ _ _ _ _ (Act.put _ (some 17) _) _
      simp only [Act.put, List.setIfInBounds_toArray, List.set_cons_succ, List.set_cons_zero]
      refine wpAnyH_take (i := 1) (v := ?_) rfl (by kernel_rfl) (by kernel_rfl) (by kernel_rfl) (fun _ _ _ h => h) (Or.inl ⟨by rfl, ?_⟩) (by assumption) ?_
      rotate_left
      · intro wq hSq
        (try dsimp only at hSq)

        go_simp
        try rfl
      change wpAnyH _ _ _ _ _ _ _ (Act.put _ (some 18) _) _
      simp only [Act.put, List.setIfInBounds_toArray, List.set_cons_succ, List.set_cons_zero]
      refine wpAnyH_take (i := 2) (v := ?_) rfl (by kernel_rfl) (by kernel_rfl) (by kernel_rfl) (fun _ _ _ h => h) (Or.inl ⟨by rfl, ?_⟩) (by assumption) ?_
      rotate_left
      · intro wq hSq
        (try dsimp only at hSq)

        go_simp
        try rfl
      change wpAnyH _ _ _ _ _ _ _ (Act.put _ (some 19) _) _
      simp only [Act.put, List.setIfInBounds_toArray, List.set_cons_succ, List.set_cons_zero]
      refine wpAnyH_take (i := 3) (v := ?_) rfl (by kernel_rfl) (by kernel_rfl) (by kernel_rfl) (fun _ _ _ h => h) (Or.inl ⟨by rfl, ?_⟩) (by assumption) ?_
      rotate_left
      · intro wq hSq
        (try dsimp only at hSq)
        have q0 := hSq.2.1.c 0 rfl
        have q1 := hSq.2.1.c 1 rfl
        have q2 := hSq.2.1.c 2 rfl
        have q3 := hSq.2.1.c 3 rfl
        have q4 := hSq.2.1.c 4 rfl
        have q5 := hSq.2.1.c 5 rfl
        have q6 := hSq.2.1.c 6 rfl
        have q7 := hSq.2.1.c 7 rfl
        have q8 := hSq.2.1.c 8 rfl
        have q9 := hSq.2.1.c 9 rfl
        have q10 := hSq.2.1.c 10 rfl
        go_simp
        try rfl
      change wpAnyH _ _ _ _ _ _ _ (Act.put _ (some 20) _) _
      simp only [Act.put, List.setIfInBounds_toArray, List.set_cons_succ, List.set_cons_zero]
      refine wpAnyH_take (i := 4) (v := ?_) rfl (by kernel_rfl) (by kernel_rfl) (by kernel_rfl) (fun _ _ _ h => h) (Or.inl ⟨by rfl, ?_⟩) (by assumption) ?_
      rotate_left
      · intro wq hSq
        (try dsimp only at hSq)

        go_simp
        try rfl
      change wpAnyH _ _ _ _ _ _ _ (Act.put _ (some 21) _) _
      simp only [Act.put, List.setIfInBounds_toArray, List.set_cons_succ, List.set_cons_zero]
      refine wpAnyH_take (i := 5) (v := ?_) rfl (by kernel_rfl) (by kernel_rfl) (by kernel_rfl) (fun _ _ _ h => h) (Or.inl ⟨by rfl, ?_⟩) (by assumption) ?_
      rotate_left
      · intro wq hSq
        (try dsimp only at hSq)

        go_simp
        try rfl
      change wpAnyH _ _ _ _ _ _ _ (Act.put _ (some 22) _) _
      simp only [Act.put, List.setIfInBounds_toArray, List.set_cons_succ, List.set_cons_zero]
      refine wpAnyH_take (i := 6) (v := ?_) rfl (by kernel_rfl) (by kernel_rfl) (by kernel_rfl) (fun _ _ _ h => h) (Or.inl ⟨by rfl, ?_⟩) (by assumption) ?_
      rotate_left
      · intro wq hSq
        (try dsimp only at hSq)

        go_simp
        try rfl
      change wpAnyH _ _ _ _ _ _ _ (Act.put _ (some 23) _) _
      simp only [Act.put, List.setIfInBounds_toArray, List.set_cons_succ, List.set_cons_zero]
      refine wpAnyH_take (i := 7) (v := ?_) rfl (by kernel_rfl) (by kernel_rfl) (by kernel_rfl) (fun _ _ _ h => h) (Or.inl ⟨by rfl, ?_⟩) (by assumption) ?_
      rotate_left
      · intro wq hSq
        (try dsimp only at hSq)
        have q0 := hSq.2.2.c 0 rfl
        have q1 := hSq.2.2.c 1 rfl
        have q2 := hSq.2.2.c 2 rfl
        have q3 := hSq.2.2.c 3 rfl
        have q4 := hSq.2.2.c 4 rfl
        have q5 := hSq.2.2.c 5 rfl
        have q6 := hSq.2.2.c 6 rfl
        have q7 := hSq.2.2.c 7 rfl
        have q8 := hSq.2.2.c 8 rfl
        have q9 := hSq.2.2.c 9 rfl
        have q10 := hSq.2.2.c 10 rfl
        go_simp
        try rfl
      change wpAnyH _ _ _ _ _ _ _ (Act.put _ (some 24) _) _
      simp only [Act.put, List.setIfInBounds_toArray, List.set_cons_succ, List.set_cons_zero]
      refine wpAnyH_ready (rs := [8]) (by kernel_rfl) (by simp) ?_
      refine (AllReadyH.cons rfl (fun K hK => ?_) AllReadyH.nil)
      go_simp
      refine (eqM_0 m.k m.a m.h m.i m.er _).mono ?_
      rintro e w1 ⟨rfl, hb⟩
      have O1 : Over w w1 := over_step (over_drew _) hb
      refine hK.out _ _ ⟨O1, hB.keep O1, hC.keep O1⟩ (fun hHeld => ?_)
      clear hK K
      try simp only [Act.put, List.setIfInBounds_toArray, List.set_cons_zero, List.set_cons_succ]
      refine wpAnyH_take (i := 9) (v := ?_) rfl (by kernel_rfl) (by kernel_rfl) (by kernel_rfl) (fun _ _ _ h => h) (Or.inl ⟨by rfl, ?_⟩) (by assumption) ?_
      rotate_left
      · intro wq hSq
        (try dsimp only at hSq)

        go_simp
        try rfl
      change wpAnyH _ _ _ _ _ _ _ (Act.put _ (some 26) _) _
      simp only [Act.put, List.setIfInBounds_toArray, List.set_cons_succ, List.set_cons_zero]
      refine wpAnyH_done (by kernel_rfl) ?_ _
      clear x0 y0 x1 y1 x2 y2 x3 y3 x4 y4 x5 y5 x6 y6 x7 y7 x8 y8 x9 y9 x10 y10
      go_wp2
      rw [rounds_succ]
      go_wp2
      go_ret
      exact ⟨rfl, over_below O1⟩
end Go.Proofs.YtaffcicgljoajaaGreatDoor
