/-
  The end of a session in the program's machine. Conditions: those in each contract.
-/
import Derived.Test.YtcmbajphholliabDoorS12
namespace Go.Proofs.YtcmbajphholliabDoor
open Go.ChangeShapes Go.WideShapes Go.ChangeAt Go.RowKit Go.BigFrame Go.Joins
set_option linter.unusedVariables false
set_option maxRecDepth 100000
set_option linter.unusedSimpArgs false

theorem as_code (n : Int) (t : Nat) (w : World) (hg : w.cell? ⟨1, 0, none⟩ = some (.iface 172 (.agg #[.pointer (some ⟨6, 103, none⟩)]))) (hB : Bl w t [.int .i64 0]) :
    Calls Tryd.prog 96 #[.iface 138 (.int .i64 n), .iface 140 (.pointer (some ⟨t, 0, none⟩))] w fun ev w' => ev = .returned (.bool true) ∧ Bl w' t [.int .i64 n] ∧ w.grownBy w' (some t) := by
  refine (as_hit n ⟨t, 0, none⟩ (.int .i64 0) w hg (hB.c 0 rfl) (hB.f 0 (x := .int .i64 0) rfl)).mono ?_
  rintro e w1 ⟨rfl, rfl⟩
  exact ⟨rfl, by simpa only [List.set_cons_zero, List.set_cons_succ] using ((((hB.alloc _).alloc _).alloc _).alloc _).set 0 (.int .i64 n), grown_trans (grow_row (grow_row (grow_row (grow_row (World.grownBy.refl w (some t)) (grown_alloc (World.grownBy.refl _ none) _) (fun k hk => by cases hk)) (grown_alloc (World.grownBy.refl _ none) _) (fun k hk => by cases hk)) (grown_alloc (World.grownBy.refl _ none) _) (fun k hk => by cases hk)) (grown_alloc (World.grownBy.refl _ none) _) (fun k hk => by cases hk)) (grown_set _ t 0 _)⟩
set_option maxHeartbeats 2000000 in
theorem end_gone (X : Nat) (xa xi xh xp s0 s1 s2 s3 s4 : Int) (w : World) (hX : Bl w X [.int .i64 xa, .int .i64 xi, .int .i64 xh, .int .i64 xp, .int .i64 s0, .int .i64 s1, .int .i64 s2, .int .i64 s3, .int .i64 s4, .slice none 0 0]) (hg1 : w.cell? ⟨1, 0, none⟩ = some (.iface 172 (.agg #[.pointer (some ⟨6, 103, none⟩)]))) (u : Value) :
    Calls Tryd.prog 63 #[.pointer (some ⟨X, 0, none⟩), .iface 194 u] w fun e w' => e = .returned (.tuple #[]) ∧ Bl w' X [.int .i64 xa, .int .i64 xi, .int .i64 xh, .int .i64 xp, .int .i64 0, .int .i64 0, .int .i64 0, .int .i64 0, .int .i64 0, .slice none 0 0] ∧ w.grownBy w' (some X) := by
  obtain ⟨bC, B0, z⟩ := one w [.int .i64 0] 138
  have lX := Lib.hid hX.lt
  have hne : X ≠ w.heap.size := Nat.ne_of_lt hX.lt
  have hne' : w.heap.size ≠ X := Nat.ne_of_gt hX.lt
  replace hX := hX.keep B0
  have hG := cell_keep B0 (World.block_lt_of_cell? w _ hg1) hg1
  have c0 := bC.c 0 rfl
  have f0 := bC.f 0 (x := _) rfl
  have g0 := grown_below B0 (some X)
  clear z
  go_enter Tryd.func63, Tryd.ntmps63
  go_wp2_with fail
  clear c0 f0
  refine (as_miss u _ _ hG).mono ?_
  rintro e w1 ⟨rfl, hb⟩
  have hX1 := hX.keep hb
  have g1 := grow_row g0 (grown_below hb none) (fun k hk => by cases hk)
  clear hb hG hX g0 bC B0
  have x4 := hX1.c 4 rfl
  have xf4 := hX1.f 4 (x := _) rfl
  have x5 := hX1.c 5 rfl
  have xf5 := hX1.f 5 (x := _) rfl
  have x6 := hX1.c 6 rfl
  have xf6 := hX1.f 6 (x := _) rfl
  have x7 := hX1.c 7 rfl
  have xf7 := hX1.f 7 (x := _) rfl
  have x8 := hX1.c 8 rfl
  have xf8 := hX1.f 8 (x := _) rfl
  go_wp2
  have hX8 := (((((hX1.set 4 (.int .i64 0)).set 5 (.int .i64 0)).set 6 (.int .i64 0)).set 7 (.int .i64 0)).set 8 (.int .i64 0))
  have g8 := (grown_trans (grown_trans (grown_trans (grown_trans (grown_trans g1 (grown_set _ X 4 (.int .i64 0))) (grown_set _ X 5 (.int .i64 0))) (grown_set _ X 6 (.int .i64 0))) (grown_set _ X 7 (.int .i64 0))) (grown_set _ X 8 (.int .i64 0)))
  simp only [List.set_cons_zero, List.set_cons_succ] at hX8
  go_end0
  exact ⟨rfl, hX8, g8⟩
set_option maxHeartbeats 2000000 in
theorem end_low (X : Nat) (xa xi xh xp s0 s1 s2 s3 s4 : Int) (w : World) (hX : Bl w X [.int .i64 xa, .int .i64 xi, .int .i64 xh, .int .i64 xp, .int .i64 s0, .int .i64 s1, .int .i64 s2, .int .i64 s3, .int .i64 s4, .slice none 0 0]) (hg1 : w.cell? ⟨1, 0, none⟩ = some (.iface 172 (.agg #[.pointer (some ⟨6, 103, none⟩)]))) (n : Int) (h : ¬ 2 ≤ s0) :
    Calls Tryd.prog 63 #[.pointer (some ⟨X, 0, none⟩), .iface 138 (.int .i64 n)] w fun e w' => e = .returned (.tuple #[]) ∧ Bl w' X [.int .i64 xa, .int .i64 xi, .int .i64 xh, .int .i64 xp, .int .i64 0, .int .i64 0, .int .i64 0, .int .i64 0, .int .i64 0, .slice none 0 0] ∧ w.grownBy w' (some X) := by
  obtain ⟨bC, B0, z⟩ := one w [.int .i64 0] 138
  have lX := Lib.hid hX.lt
  have hne : X ≠ w.heap.size := Nat.ne_of_lt hX.lt
  have hne' : w.heap.size ≠ X := Nat.ne_of_gt hX.lt
  replace hX := hX.keep B0
  have hG := cell_keep B0 (World.block_lt_of_cell? w _ hg1) hg1
  have c0 := bC.c 0 rfl
  have f0 := bC.f 0 (x := _) rfl
  have g0 := grown_below B0 (some X)
  clear z
  go_enter Tryd.func63, Tryd.ntmps63
  go_wp2_with fail
  clear c0 f0
  refine (as_code n w.heap.size _ hG bC).mono ?_
  rintro e w1 ⟨rfl, bC1, gt⟩
  have hX1 := hX.grown gt (by simp [hne])
  have g1 := grow_row g0 gt (fun k hk => by cases hk; exact Nat.le_refl _)
  clear gt hG hX g0 bC B0
  have b0 := bC1.c 0 rfl
  have x4 := hX1.c 4 rfl
  have xf4 := hX1.f 4 (x := _) rfl
  have x5 := hX1.c 5 rfl
  have xf5 := hX1.f 5 (x := _) rfl
  have x6 := hX1.c 6 rfl
  have xf6 := hX1.f 6 (x := _) rfl
  have x7 := hX1.c 7 rfl
  have xf7 := hX1.f 7 (x := _) rfl
  have x8 := hX1.c 8 rfl
  have xf8 := hX1.f 8 (x := _) rfl
  go_wp2
  have hX8 := (((((hX1.set 4 (.int .i64 0)).set 5 (.int .i64 0)).set 6 (.int .i64 0)).set 7 (.int .i64 0)).set 8 (.int .i64 0))
  have g8 := (grown_trans (grown_trans (grown_trans (grown_trans (grown_trans g1 (grown_set _ X 4 (.int .i64 0))) (grown_set _ X 5 (.int .i64 0))) (grown_set _ X 6 (.int .i64 0))) (grown_set _ X 7 (.int .i64 0))) (grown_set _ X 8 (.int .i64 0)))
  simp only [List.set_cons_zero, List.set_cons_succ] at hX8
  go_end0
  exact ⟨rfl, hX8, g8⟩
set_option maxHeartbeats 2000000 in
theorem end_high (X : Nat) (xa xi xh xp s0 s1 s2 s3 s4 : Int) (w : World) (hX : Bl w X [.int .i64 xa, .int .i64 xi, .int .i64 xh, .int .i64 xp, .int .i64 s0, .int .i64 s1, .int .i64 s2, .int .i64 s3, .int .i64 s4, .slice none 0 0]) (hg1 : w.cell? ⟨1, 0, none⟩ = some (.iface 172 (.agg #[.pointer (some ⟨6, 103, none⟩)]))) (n : Int) (h : 2 ≤ s0) :
    Calls Tryd.prog 63 #[.pointer (some ⟨X, 0, none⟩), .iface 138 (.int .i64 n)] w fun e w' => e = .returned (.tuple #[]) ∧ ∃ v, Bl w' X [.int .i64 xa, .int .i64 xi, .int .i64 xh, .int .i64 xp, .int .i64 0, .int .i64 0, .int .i64 0, .int .i64 0, .int .i64 0, v] ∧ OwnG w' w.heap.size v [⟨3, 0, 0, 0, n⟩] ∧ w.grownBy w' (some X) := by
  obtain ⟨bC, B0, z⟩ := one w [.int .i64 0] 138
  have lX := Lib.hid hX.lt
  have hne : X ≠ w.heap.size := Nat.ne_of_lt hX.lt
  have hne' : w.heap.size ≠ X := Nat.ne_of_gt hX.lt
  replace hX := hX.keep B0
  have hG := cell_keep B0 (World.block_lt_of_cell? w _ hg1) hg1
  have c0 := bC.c 0 rfl
  have f0 := bC.f 0 (x := _) rfl
  have g0 := grown_below B0 (some X)
  clear z
  go_enter Tryd.func63, Tryd.ntmps63
  go_wp2_with fail
  clear c0 f0
  refine (as_code n w.heap.size _ hG bC).mono ?_
  rintro e w1 ⟨rfl, bC1, gt⟩
  have hX1 := hX.grown gt (by simp [hne])
  have g1 := grow_row g0 gt (fun k hk => by cases hk; exact Nat.le_refl _)
  clear gt hG hX g0 bC B0
  have b0 := bC1.c 0 rfl
  have x4 := hX1.c 4 rfl
  have xf4 := hX1.f 4 (x := _) rfl
  have x5 := hX1.c 5 rfl
  have xf5 := hX1.f 5 (x := _) rfl
  have x6 := hX1.c 6 rfl
  have xf6 := hX1.f 6 (x := _) rfl
  have x7 := hX1.c 7 rfl
  have xf7 := hX1.f 7 (x := _) rfl
  have x8 := hX1.c 8 rfl
  have xf8 := hX1.f 8 (x := _) rfl
  go_wp2_with fail
  clear b0 x4 xf4 x5 xf5 x6 xf6 x7 xf7 x8 xf8
  refine (send_any X xa xi xh xp (s0) (s1) (s2) (s3) (s4) ⟨3, 0, 0, 0, n⟩ _ _ (fun w => pack_N n w) hX1).mono ?_
  rintro e w9 ⟨rfl, v9, hX9, o9, g9⟩
  have G9 := grown_trans g1 g9
  have O9 := o9.mono (base' := w.heap.size) g1.size
  clear o9 g9 hX1
  have x4 := hX9.c 4 rfl
  have xf4 := hX9.f 4 (x := _) rfl
  have x5 := hX9.c 5 rfl
  have xf5 := hX9.f 5 (x := _) rfl
  have x6 := hX9.c 6 rfl
  have xf6 := hX9.f 6 (x := _) rfl
  have x7 := hX9.c 7 rfl
  have xf7 := hX9.f 7 (x := _) rfl
  have x8 := hX9.c 8 rfl
  have xf8 := hX9.f 8 (x := _) rfl
  go_wp2
  have hX8 := (((((hX9.set 4 (.int .i64 0)).set 5 (.int .i64 0)).set 6 (.int .i64 0)).set 7 (.int .i64 0)).set 8 (.int .i64 0))
  have g8 := (grown_trans (grown_trans (grown_trans (grown_trans (grown_trans G9 (grown_set _ X 4 (.int .i64 0))) (grown_set _ X 5 (.int .i64 0))) (grown_set _ X 6 (.int .i64 0))) (grown_set _ X 7 (.int .i64 0))) (grown_set _ X 8 (.int .i64 0)))
  simp only [List.set_cons_zero, List.set_cons_succ] at hX8
  go_end0
  exact ⟨rfl, v9, hX8, (((((O9.far (o := 4) (u := .int .i64 0) lX.out).far (o := 5) (u := .int .i64 0) lX.out).far (o := 6) (u := .int .i64 0) lX.out).far (o := 7) (u := .int .i64 0) lX.out).far (o := 8) (u := .int .i64 0) lX.out), g8⟩
end Go.Proofs.YtcmbajphholliabDoor
