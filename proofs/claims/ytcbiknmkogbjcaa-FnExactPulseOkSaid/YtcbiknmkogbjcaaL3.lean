/-
  PulseNew, BeatOf, PulseTick, Admin: contracts of the program and of the model, whole. Conditions: those in each contract.
-/
import Derived.Test.YtcbiknmkogbjcaaL2
namespace Go.Proofs.Ytcbiknmkogbjcaa
open Go.ChangeShapes Go.WideShapes Go.ChangeAt Go.RowKit Go.BigFrame Go.Joins
set_option linter.unusedVariables false
set_option maxRecDepth 100000
set_option linter.unusedSimpArgs false

set_option maxHeartbeats 1000000 in
theorem spn_yes (mi mu : Int) (w : World) (HP : Hid (pulB 1 mi 0 0 mu = true)) : Calls Try.prog 16 #[.int .i64 mi, .int .i64 mu] w fun e w' => e = .returned (.tuple #[.agg #[.int .i64 1, .int .i64 mi, .int .i64 0, .int .i64 0, .int .i64 mu], .bool true]) ∧ Below w.heap.size w w' := by
  obtain ⟨bR, bA, B0, z⟩ := two w [.int .i64 0, .int .i64 0, .int .i64 0, .int .i64 0, .int .i64 0] [.int .i64 1, .int .i64 mi, .int .i64 0, .int .i64 0, .int .i64 mu] 25 25
  clear z
  have f0 := bA.c 0 rfl
  have f1 := bA.c 1 rfl
  have f2 := bA.c 2 rfl
  have f3 := bA.c 3 rfl
  have f4 := bA.c 4 rfl
  go_enter Try.func16, Try.ntmps16
  go_wp2_with fail
  clear f0 f1 f2 f3 f4
  refine (sPu_t _ HP).mono ?_
  rintro e w1 ⟨rfl, hb⟩
  replace bA := bA.keep hb
  replace bR := bR.keep hb
  replace B0 := below_step B0 hb
  clear hb
  have f0 := bA.c 0 rfl
  have f1 := bA.c 1 rfl
  have f2 := bA.c 2 rfl
  have f3 := bA.c 3 rfl
  have f4 := bA.c 4 rfl
  have r0 := bR.c 0 rfl
  have s0f := bR.f 0 (x := _) rfl
  have r1 := bR.c 1 rfl
  have s1f := bR.f 1 (x := _) rfl
  have r2 := bR.c 2 rfl
  have s2f := bR.f 2 (x := _) rfl
  have r3 := bR.c 3 rfl
  have s3f := bR.f 3 (x := _) rfl
  have r4 := bR.c 4 rfl
  have s4f := bR.f 4 (x := _) rfl
  go_wp2
  have bR2 := bR.set5L (.int .i64 1) (.int .i64 mi) (.int .i64 0) (.int .i64 0) (.int .i64 mu)
  have B2 := below_set5L B0 (B := w.heap.size) (by omega) (.int .i64 1) (.int .i64 mi) (.int .i64 0) (.int .i64 0) (.int .i64 mu)
  clear r0 s0f r1 s1f r2 s2f r3 s3f r4 s4f
  clear bR B0
  obtain ⟨W2, hW2⟩ : ∃ W2, W2 = (((((w1.setCell ⟨w.heap.size, 0, none⟩ (.int .i64 1)).setCell ⟨w.heap.size, 1, none⟩ (.int .i64 mi)).setCell ⟨w.heap.size, 2, none⟩ (.int .i64 0)).setCell ⟨w.heap.size, 3, none⟩ (.int .i64 0)).setCell ⟨w.heap.size, 4, none⟩ (.int .i64 mu)) := ⟨_, rfl⟩
  rw [← hW2] at bR2 B2 ⊢
  clear hW2
  have r0 := bR2.c 0 rfl
  have r1 := bR2.c 1 rfl
  have r2 := bR2.c 2 rfl
  have r3 := bR2.c 3 rfl
  have r4 := bR2.c 4 rfl
  exact bodyPost_ret (v := .tuple #[.agg #[.int .i64 1, .int .i64 mi, .int .i64 0, .int .i64 0, .int .i64 mu], .bool true]) (by simp [results, Try.results16, go_sem, r0, r1, r2, r3, r4]) rfl ⟨rfl, B2⟩
set_option maxHeartbeats 1000000 in
theorem spn_no (mi mu : Int) (w : World) (HP : Hid (pulB 1 mi 0 0 mu = false)) : Calls Try.prog 16 #[.int .i64 mi, .int .i64 mu] w fun e w' => e = .returned (.tuple #[.agg #[.int .i64 0, .int .i64 0, .int .i64 0, .int .i64 0, .int .i64 0], .bool false]) ∧ Below w.heap.size w w' := by
  obtain ⟨bR, bA, B0, z⟩ := two w [.int .i64 0, .int .i64 0, .int .i64 0, .int .i64 0, .int .i64 0] [.int .i64 1, .int .i64 mi, .int .i64 0, .int .i64 0, .int .i64 mu] 25 25
  clear z
  have f0 := bA.c 0 rfl
  have f1 := bA.c 1 rfl
  have f2 := bA.c 2 rfl
  have f3 := bA.c 3 rfl
  have f4 := bA.c 4 rfl
  go_enter Try.func16, Try.ntmps16
  go_wp2_with fail
  clear f0 f1 f2 f3 f4
  refine (sPu_t _ HP).mono ?_
  rintro e w1 ⟨rfl, hb⟩
  replace bA := bA.keep hb
  replace bR := bR.keep hb
  replace B0 := below_step B0 hb
  clear hb
  have f0 := bA.c 0 rfl
  have f1 := bA.c 1 rfl
  have f2 := bA.c 2 rfl
  have f3 := bA.c 3 rfl
  have f4 := bA.c 4 rfl
  have r0 := bR.c 0 rfl
  have s0f := bR.f 0 (x := _) rfl
  have r1 := bR.c 1 rfl
  have s1f := bR.f 1 (x := _) rfl
  have r2 := bR.c 2 rfl
  have s2f := bR.f 2 (x := _) rfl
  have r3 := bR.c 3 rfl
  have s3f := bR.f 3 (x := _) rfl
  have r4 := bR.c 4 rfl
  have s4f := bR.f 4 (x := _) rfl
  go_wp2
  have bR2 := bR.set5L (.int .i64 0) (.int .i64 0) (.int .i64 0) (.int .i64 0) (.int .i64 0)
  have B2 := below_set5L B0 (B := w.heap.size) (by omega) (.int .i64 0) (.int .i64 0) (.int .i64 0) (.int .i64 0) (.int .i64 0)
  clear r0 s0f r1 s1f r2 s2f r3 s3f r4 s4f
  clear bR B0
  obtain ⟨W2, hW2⟩ : ∃ W2, W2 = (((((w1.setCell ⟨w.heap.size, 0, none⟩ (.int .i64 0)).setCell ⟨w.heap.size, 1, none⟩ (.int .i64 0)).setCell ⟨w.heap.size, 2, none⟩ (.int .i64 0)).setCell ⟨w.heap.size, 3, none⟩ (.int .i64 0)).setCell ⟨w.heap.size, 4, none⟩ (.int .i64 0)) := ⟨_, rfl⟩
  rw [← hW2] at bR2 B2 ⊢
  clear hW2
  have r0 := bR2.c 0 rfl
  have r1 := bR2.c 1 rfl
  have r2 := bR2.c 2 rfl
  have r3 := bR2.c 3 rfl
  have r4 := bR2.c 4 rfl
  exact bodyPost_ret (v := .tuple #[.agg #[.int .i64 0, .int .i64 0, .int .i64 0, .int .i64 0, .int .i64 0], .bool false]) (by simp [results, Try.results16, go_sem, r0, r1, r2, r3, r4]) rfl ⟨rfl, B2⟩
set_option maxHeartbeats 1000000 in
theorem sbo_yes (st mi yo he mu : Int) (w : World) (HP : Hid (pulB st mi yo he mu = true)) : Calls Try.prog 19 #[.agg #[.int .i64 st, .int .i64 mi, .int .i64 yo, .int .i64 he, .int .i64 mu]] w fun e w' => e = .returned (.tuple #[.agg #[.int .i64 st, .int .i64 mi, .int .i64 yo], .bool true]) ∧ Below w.heap.size w w' := by
  obtain ⟨bA, bR, B0, z⟩ := two w [.int .i64 st, .int .i64 mi, .int .i64 yo, .int .i64 he, .int .i64 mu] [.int .i64 0, .int .i64 0, .int .i64 0] 25 31
  clear z
  have f0 := bA.c 0 rfl
  have f1 := bA.c 1 rfl
  have f2 := bA.c 2 rfl
  have f3 := bA.c 3 rfl
  have f4 := bA.c 4 rfl
  go_enter Try.func19, Try.ntmps19
  go_wp2_with fail
  clear f0 f1 f2 f3 f4
  refine (sPu_t _ HP).mono ?_
  rintro e w1 ⟨rfl, hb⟩
  replace bA := bA.keep hb
  replace bR := bR.keep hb
  replace B0 := below_step B0 hb
  clear hb
  have f0 := bA.c 0 rfl
  have f1 := bA.c 1 rfl
  have f2 := bA.c 2 rfl
  have f3 := bA.c 3 rfl
  have f4 := bA.c 4 rfl
  go_wp2_with fail
  clear f0 f1 f2 f3 f4
  refine (sbeat_any _ _ _ _ _ _).mono ?_
  rintro e w2 ⟨rfl, hb⟩
  replace bR := bR.keep hb
  replace B0 := below_step B0 hb
  clear hb
  have r0 := bR.c 0 rfl
  have s0f := bR.f 0 (x := _) rfl
  have r1 := bR.c 1 rfl
  have s1f := bR.f 1 (x := _) rfl
  have r2 := bR.c 2 rfl
  have s2f := bR.f 2 (x := _) rfl
  go_wp2
  have bR2 := bR.set3L (.int .i64 st) (.int .i64 mi) (.int .i64 yo)
  have B2 := below_set3L B0 (B := w.heap.size + 1) (by omega) (.int .i64 st) (.int .i64 mi) (.int .i64 yo)
  clear r0 s0f r1 s1f r2 s2f
  clear bR B0
  obtain ⟨W2, hW2⟩ : ∃ W2, W2 = (((w2.setCell ⟨w.heap.size + 1, 0, none⟩ (.int .i64 st)).setCell ⟨w.heap.size + 1, 1, none⟩ (.int .i64 mi)).setCell ⟨w.heap.size + 1, 2, none⟩ (.int .i64 yo)) := ⟨_, rfl⟩
  rw [← hW2] at bR2 B2 ⊢
  clear hW2
  have r0 := bR2.c 0 rfl
  have r1 := bR2.c 1 rfl
  have r2 := bR2.c 2 rfl
  exact bodyPost_ret (v := .tuple #[.agg #[.int .i64 st, .int .i64 mi, .int .i64 yo], .bool true]) (by simp [results, Try.results19, go_sem, r0, r1, r2]) rfl ⟨rfl, B2⟩
set_option maxHeartbeats 1000000 in
theorem sbo_no (st mi yo he mu : Int) (w : World) (HP : Hid (pulB st mi yo he mu = false)) : Calls Try.prog 19 #[.agg #[.int .i64 st, .int .i64 mi, .int .i64 yo, .int .i64 he, .int .i64 mu]] w fun e w' => e = .returned (.tuple #[.agg #[.int .i64 0, .int .i64 0, .int .i64 0], .bool false]) ∧ Below w.heap.size w w' := by
  obtain ⟨bA, bR, B0, z⟩ := two w [.int .i64 st, .int .i64 mi, .int .i64 yo, .int .i64 he, .int .i64 mu] [.int .i64 0, .int .i64 0, .int .i64 0] 25 31
  clear z
  have f0 := bA.c 0 rfl
  have f1 := bA.c 1 rfl
  have f2 := bA.c 2 rfl
  have f3 := bA.c 3 rfl
  have f4 := bA.c 4 rfl
  go_enter Try.func19, Try.ntmps19
  go_wp2_with fail
  clear f0 f1 f2 f3 f4
  refine (sPu_t _ HP).mono ?_
  rintro e w1 ⟨rfl, hb⟩
  replace bA := bA.keep hb
  replace bR := bR.keep hb
  replace B0 := below_step B0 hb
  clear hb
  have r0 := bR.c 0 rfl
  have s0f := bR.f 0 (x := _) rfl
  have r1 := bR.c 1 rfl
  have s1f := bR.f 1 (x := _) rfl
  have r2 := bR.c 2 rfl
  have s2f := bR.f 2 (x := _) rfl
  go_wp2
  have bR2 := bR.set3L (.int .i64 0) (.int .i64 0) (.int .i64 0)
  have B2 := below_set3L B0 (B := w.heap.size + 1) (by omega) (.int .i64 0) (.int .i64 0) (.int .i64 0)
  clear r0 s0f r1 s1f r2 s2f
  clear bR B0
  obtain ⟨W2, hW2⟩ : ∃ W2, W2 = (((w1.setCell ⟨w.heap.size + 1, 0, none⟩ (.int .i64 0)).setCell ⟨w.heap.size + 1, 1, none⟩ (.int .i64 0)).setCell ⟨w.heap.size + 1, 2, none⟩ (.int .i64 0)) := ⟨_, rfl⟩
  rw [← hW2] at bR2 B2 ⊢
  clear hW2
  have r0 := bR2.c 0 rfl
  have r1 := bR2.c 1 rfl
  have r2 := bR2.c 2 rfl
  exact bodyPost_ret (v := .tuple #[.agg #[.int .i64 0, .int .i64 0, .int .i64 0], .bool false]) (by simp [results, Try.results19, go_sem, r0, r1, r2]) rfl ⟨rfl, B2⟩
set_option maxHeartbeats 1000000 in
theorem stk_no (st mi yo he mu : Int) (w : World) (HP : Hid (pulB st mi yo he mu = false)) : Calls Try.prog 22 #[.agg #[.int .i64 st, .int .i64 mi, .int .i64 yo, .int .i64 he, .int .i64 mu]] w fun e w' => e = .returned (.tuple #[.agg #[.int .i64 0, .int .i64 0, .int .i64 0, .int .i64 0, .int .i64 0], .bool false]) ∧ Below w.heap.size w w' := by
  obtain ⟨bA, bR, B0, z⟩ := two w [.int .i64 st, .int .i64 mi, .int .i64 yo, .int .i64 he, .int .i64 mu] [.int .i64 0, .int .i64 0, .int .i64 0, .int .i64 0, .int .i64 0] 25 25
  clear z
  have f0 := bA.c 0 rfl
  have f1 := bA.c 1 rfl
  have f2 := bA.c 2 rfl
  have f3 := bA.c 3 rfl
  have f4 := bA.c 4 rfl
  go_enter Try.func22, Try.ntmps22
  go_wp2_with fail
  clear f0 f1 f2 f3 f4
  refine (sPu_t _ HP).mono ?_
  rintro e w1 ⟨rfl, hb⟩
  replace bA := bA.keep hb
  replace bR := bR.keep hb
  replace B0 := below_step B0 hb
  clear hb
  have r0 := bR.c 0 rfl
  have s0f := bR.f 0 (x := _) rfl
  have r1 := bR.c 1 rfl
  have s1f := bR.f 1 (x := _) rfl
  have r2 := bR.c 2 rfl
  have s2f := bR.f 2 (x := _) rfl
  have r3 := bR.c 3 rfl
  have s3f := bR.f 3 (x := _) rfl
  have r4 := bR.c 4 rfl
  have s4f := bR.f 4 (x := _) rfl
  go_wp2
  have bR2 := bR.set5L (.int .i64 0) (.int .i64 0) (.int .i64 0) (.int .i64 0) (.int .i64 0)
  have B2 := below_set5L B0 (B := w.heap.size + 1) (by omega) (.int .i64 0) (.int .i64 0) (.int .i64 0) (.int .i64 0) (.int .i64 0)
  clear r0 s0f r1 s1f r2 s2f r3 s3f r4 s4f
  clear bR B0
  obtain ⟨W2, hW2⟩ : ∃ W2, W2 = (((((w1.setCell ⟨w.heap.size + 1, 0, none⟩ (.int .i64 0)).setCell ⟨w.heap.size + 1, 1, none⟩ (.int .i64 0)).setCell ⟨w.heap.size + 1, 2, none⟩ (.int .i64 0)).setCell ⟨w.heap.size + 1, 3, none⟩ (.int .i64 0)).setCell ⟨w.heap.size + 1, 4, none⟩ (.int .i64 0)) := ⟨_, rfl⟩
  rw [← hW2] at bR2 B2 ⊢
  clear hW2
  have r0 := bR2.c 0 rfl
  have r1 := bR2.c 1 rfl
  have r2 := bR2.c 2 rfl
  have r3 := bR2.c 3 rfl
  have r4 := bR2.c 4 rfl
  exact bodyPost_ret (v := .tuple #[.agg #[.int .i64 0, .int .i64 0, .int .i64 0, .int .i64 0, .int .i64 0], .bool false]) (by simp [results, Try.results22, go_sem, r0, r1, r2, r3, r4]) rfl ⟨rfl, B2⟩
set_option maxHeartbeats 2000000 in
theorem stk_low (st mi yo he mu : Int) (w : World) (HP : Hid (pulB st mi yo he mu = true)) (h : st ≤ 1) : Calls Try.prog 22 #[.agg #[.int .i64 st, .int .i64 mi, .int .i64 yo, .int .i64 he, .int .i64 mu]] w fun e w' => e = .returned (.tuple #[.agg #[.int .i64 st, .int .i64 mi, .int .i64 yo, .int .i64 he, .int .i64 mu], .bool false]) ∧ Below w.heap.size w w' := by
  obtain ⟨bA, bR, B0, z⟩ := two w [.int .i64 st, .int .i64 mi, .int .i64 yo, .int .i64 he, .int .i64 mu] [.int .i64 0, .int .i64 0, .int .i64 0, .int .i64 0, .int .i64 0] 25 25
  clear z
  have Hh := Lib.hid h
  clear h
  have f0 := bA.c 0 rfl
  have f1 := bA.c 1 rfl
  have f2 := bA.c 2 rfl
  have f3 := bA.c 3 rfl
  have f4 := bA.c 4 rfl
  go_enter Try.func22, Try.ntmps22
  go_wp2_with fail
  clear f0 f1 f2 f3 f4
  refine (sPu_t _ HP).mono ?_
  rintro e w1 ⟨rfl, hb⟩
  replace bA := bA.keep hb
  replace bR := bR.keep hb
  replace B0 := below_step B0 hb
  clear hb
  have f0 := bA.c 0 rfl
  have f1 := bA.c 1 rfl
  have f2 := bA.c 2 rfl
  have f3 := bA.c 3 rfl
  have f4 := bA.c 4 rfl
  go_wp2_with fail
  clear f0 f1 f2 f3 f4
  refine (l5t_low _ _ _ _ _ _ (by have q := Hh.out; omega)).mono ?_
  rintro e w2 ⟨rfl, hb⟩
  replace bR := bR.keep hb
  replace B0 := below_step B0 hb
  clear hb
  have r0 := bR.c 0 rfl
  have s0f := bR.f 0 (x := _) rfl
  have r1 := bR.c 1 rfl
  have s1f := bR.f 1 (x := _) rfl
  have r2 := bR.c 2 rfl
  have s2f := bR.f 2 (x := _) rfl
  have r3 := bR.c 3 rfl
  have s3f := bR.f 3 (x := _) rfl
  have r4 := bR.c 4 rfl
  have s4f := bR.f 4 (x := _) rfl
  go_wp2
  have bR2 := bR.set5L (.int .i64 st) (.int .i64 mi) (.int .i64 yo) (.int .i64 he) (.int .i64 mu)
  have B2 := below_set5L B0 (B := w.heap.size + 1) (by omega) (.int .i64 st) (.int .i64 mi) (.int .i64 yo) (.int .i64 he) (.int .i64 mu)
  clear r0 s0f r1 s1f r2 s2f r3 s3f r4 s4f
  clear bR B0
  obtain ⟨W2, hW2⟩ : ∃ W2, W2 = (((((w2.setCell ⟨w.heap.size + 1, 0, none⟩ (.int .i64 st)).setCell ⟨w.heap.size + 1, 1, none⟩ (.int .i64 mi)).setCell ⟨w.heap.size + 1, 2, none⟩ (.int .i64 yo)).setCell ⟨w.heap.size + 1, 3, none⟩ (.int .i64 he)).setCell ⟨w.heap.size + 1, 4, none⟩ (.int .i64 mu)) := ⟨_, rfl⟩
  rw [← hW2] at bR2 B2 ⊢
  clear hW2
  have r0 := bR2.c 0 rfl
  have r1 := bR2.c 1 rfl
  have r2 := bR2.c 2 rfl
  have r3 := bR2.c 3 rfl
  have r4 := bR2.c 4 rfl
  exact bodyPost_ret (v := .tuple #[.agg #[.int .i64 st, .int .i64 mi, .int .i64 yo, .int .i64 he, .int .i64 mu], .bool false]) (by simp [results, Try.results22, go_sem, r0, r1, r2, r3, r4]) rfl ⟨rfl, B2⟩
set_option maxHeartbeats 2000000 in
theorem stk_on (st mi yo he mu : Int) (w : World) (HP : Hid (pulB st mi yo he mu = true)) (h : ¬ st ≤ 1) (h0 : 0 ≤ he ∧ he < 256) (h1 : he + 1 < mu) : Calls Try.prog 22 #[.agg #[.int .i64 st, .int .i64 mi, .int .i64 yo, .int .i64 he, .int .i64 mu]] w fun e w' => e = .returned (.tuple #[.agg #[.int .i64 st, .int .i64 mi, .int .i64 yo, .int .i64 (he + 1), .int .i64 mu], .bool false]) ∧ Below w.heap.size w w' := by
  obtain ⟨bA, bR, B0, z⟩ := two w [.int .i64 st, .int .i64 mi, .int .i64 yo, .int .i64 he, .int .i64 mu] [.int .i64 0, .int .i64 0, .int .i64 0, .int .i64 0, .int .i64 0] 25 25
  clear z
  have Hh := Lib.hid h
  clear h
  have Hh0 := Lib.hid h0
  clear h0
  have Hh1 := Lib.hid h1
  clear h1
  have f0 := bA.c 0 rfl
  have f1 := bA.c 1 rfl
  have f2 := bA.c 2 rfl
  have f3 := bA.c 3 rfl
  have f4 := bA.c 4 rfl
  go_enter Try.func22, Try.ntmps22
  go_wp2_with fail
  clear f0 f1 f2 f3 f4
  refine (sPu_t _ HP).mono ?_
  rintro e w1 ⟨rfl, hb⟩
  replace bA := bA.keep hb
  replace bR := bR.keep hb
  replace B0 := below_step B0 hb
  clear hb
  have f0 := bA.c 0 rfl
  have f1 := bA.c 1 rfl
  have f2 := bA.c 2 rfl
  have f3 := bA.c 3 rfl
  have f4 := bA.c 4 rfl
  go_wp2_with fail
  clear f0 f1 f2 f3 f4
  refine (l5t_on _ _ _ _ _ _ (by have q := Hh.out; omega) (by have q := Hh0.out; omega) (by have q := Hh1.out; omega)).mono ?_
  rintro e w2 ⟨rfl, hb⟩
  replace bR := bR.keep hb
  replace B0 := below_step B0 hb
  clear hb
  have r0 := bR.c 0 rfl
  have s0f := bR.f 0 (x := _) rfl
  have r1 := bR.c 1 rfl
  have s1f := bR.f 1 (x := _) rfl
  have r2 := bR.c 2 rfl
  have s2f := bR.f 2 (x := _) rfl
  have r3 := bR.c 3 rfl
  have s3f := bR.f 3 (x := _) rfl
  have r4 := bR.c 4 rfl
  have s4f := bR.f 4 (x := _) rfl
  go_wp2
  have bR2 := bR.set5L (.int .i64 st) (.int .i64 mi) (.int .i64 yo) (.int .i64 (he + 1)) (.int .i64 mu)
  have B2 := below_set5L B0 (B := w.heap.size + 1) (by omega) (.int .i64 st) (.int .i64 mi) (.int .i64 yo) (.int .i64 (he + 1)) (.int .i64 mu)
  clear r0 s0f r1 s1f r2 s2f r3 s3f r4 s4f
  clear bR B0
  obtain ⟨W2, hW2⟩ : ∃ W2, W2 = (((((w2.setCell ⟨w.heap.size + 1, 0, none⟩ (.int .i64 st)).setCell ⟨w.heap.size + 1, 1, none⟩ (.int .i64 mi)).setCell ⟨w.heap.size + 1, 2, none⟩ (.int .i64 yo)).setCell ⟨w.heap.size + 1, 3, none⟩ (.int .i64 (he + 1))).setCell ⟨w.heap.size + 1, 4, none⟩ (.int .i64 mu)) := ⟨_, rfl⟩
  rw [← hW2] at bR2 B2 ⊢
  clear hW2
  have r0 := bR2.c 0 rfl
  have r1 := bR2.c 1 rfl
  have r2 := bR2.c 2 rfl
  have r3 := bR2.c 3 rfl
  have r4 := bR2.c 4 rfl
  exact bodyPost_ret (v := .tuple #[.agg #[.int .i64 st, .int .i64 mi, .int .i64 yo, .int .i64 (he + 1), .int .i64 mu], .bool false]) (by simp [results, Try.results22, go_sem, r0, r1, r2, r3, r4]) rfl ⟨rfl, B2⟩
set_option maxHeartbeats 2000000 in
theorem stk_up (st mi yo he mu : Int) (w : World) (HP : Hid (pulB st mi yo he mu = true)) (h : ¬ st ≤ 1) (h0 : 0 ≤ he ∧ he < 256) (h1 : ¬ he + 1 < mu) (h3 : st = 3) : Calls Try.prog 22 #[.agg #[.int .i64 st, .int .i64 mi, .int .i64 yo, .int .i64 he, .int .i64 mu]] w fun e w' => e = .returned (.tuple #[.agg #[.int .i64 1, .int .i64 mi, .int .i64 0, .int .i64 0, .int .i64 mu], .bool true]) ∧ Below w.heap.size w w' := by
  obtain ⟨bA, bR, B0, z⟩ := two w [.int .i64 st, .int .i64 mi, .int .i64 yo, .int .i64 he, .int .i64 mu] [.int .i64 0, .int .i64 0, .int .i64 0, .int .i64 0, .int .i64 0] 25 25
  clear z
  have Hh := Lib.hid h
  clear h
  have Hh0 := Lib.hid h0
  clear h0
  have Hh1 := Lib.hid h1
  clear h1
  have Hh3 := Lib.hid h3
  clear h3
  have f0 := bA.c 0 rfl
  have f1 := bA.c 1 rfl
  have f2 := bA.c 2 rfl
  have f3 := bA.c 3 rfl
  have f4 := bA.c 4 rfl
  go_enter Try.func22, Try.ntmps22
  go_wp2_with fail
  clear f0 f1 f2 f3 f4
  refine (sPu_t _ HP).mono ?_
  rintro e w1 ⟨rfl, hb⟩
  replace bA := bA.keep hb
  replace bR := bR.keep hb
  replace B0 := below_step B0 hb
  clear hb
  have f0 := bA.c 0 rfl
  have f1 := bA.c 1 rfl
  have f2 := bA.c 2 rfl
  have f3 := bA.c 3 rfl
  have f4 := bA.c 4 rfl
  go_wp2_with fail
  clear f0 f1 f2 f3 f4
  refine (l5t_up _ _ _ _ _ _ (by have q := Hh.out; omega) (by have q := Hh0.out; omega) (by have q := Hh1.out; omega) (by have q := Hh3.out; omega)).mono ?_
  rintro e w2 ⟨rfl, hb⟩
  replace bR := bR.keep hb
  replace B0 := below_step B0 hb
  clear hb
  have r0 := bR.c 0 rfl
  have s0f := bR.f 0 (x := _) rfl
  have r1 := bR.c 1 rfl
  have s1f := bR.f 1 (x := _) rfl
  have r2 := bR.c 2 rfl
  have s2f := bR.f 2 (x := _) rfl
  have r3 := bR.c 3 rfl
  have s3f := bR.f 3 (x := _) rfl
  have r4 := bR.c 4 rfl
  have s4f := bR.f 4 (x := _) rfl
  go_wp2
  have bR2 := bR.set5L (.int .i64 1) (.int .i64 mi) (.int .i64 0) (.int .i64 0) (.int .i64 mu)
  have B2 := below_set5L B0 (B := w.heap.size + 1) (by omega) (.int .i64 1) (.int .i64 mi) (.int .i64 0) (.int .i64 0) (.int .i64 mu)
  clear r0 s0f r1 s1f r2 s2f r3 s3f r4 s4f
  clear bR B0
  obtain ⟨W2, hW2⟩ : ∃ W2, W2 = (((((w2.setCell ⟨w.heap.size + 1, 0, none⟩ (.int .i64 1)).setCell ⟨w.heap.size + 1, 1, none⟩ (.int .i64 mi)).setCell ⟨w.heap.size + 1, 2, none⟩ (.int .i64 0)).setCell ⟨w.heap.size + 1, 3, none⟩ (.int .i64 0)).setCell ⟨w.heap.size + 1, 4, none⟩ (.int .i64 mu)) := ⟨_, rfl⟩
  rw [← hW2] at bR2 B2 ⊢
  clear hW2
  have r0 := bR2.c 0 rfl
  have r1 := bR2.c 1 rfl
  have r2 := bR2.c 2 rfl
  have r3 := bR2.c 3 rfl
  have r4 := bR2.c 4 rfl
  exact bodyPost_ret (v := .tuple #[.agg #[.int .i64 1, .int .i64 mi, .int .i64 0, .int .i64 0, .int .i64 mu], .bool true]) (by simp [results, Try.results22, go_sem, r0, r1, r2, r3, r4]) rfl ⟨rfl, B2⟩
set_option maxHeartbeats 2000000 in
theorem stk_fall (st mi yo he mu : Int) (w : World) (HP : Hid (pulB st mi yo he mu = true)) (h : ¬ st ≤ 1) (h0 : 0 ≤ he ∧ he < 256) (h1 : ¬ he + 1 < mu) (h3 : ¬ st = 3) : Calls Try.prog 22 #[.agg #[.int .i64 st, .int .i64 mi, .int .i64 yo, .int .i64 he, .int .i64 mu]] w fun e w' => e = .returned (.tuple #[.agg #[.int .i64 1, .int .i64 mi, .int .i64 0, .int .i64 0, .int .i64 mu], .bool false]) ∧ Below w.heap.size w w' := by
  obtain ⟨bA, bR, B0, z⟩ := two w [.int .i64 st, .int .i64 mi, .int .i64 yo, .int .i64 he, .int .i64 mu] [.int .i64 0, .int .i64 0, .int .i64 0, .int .i64 0, .int .i64 0] 25 25
  clear z
  have Hh := Lib.hid h
  clear h
  have Hh0 := Lib.hid h0
  clear h0
  have Hh1 := Lib.hid h1
  clear h1
  have Hh3 := Lib.hid h3
  clear h3
  have f0 := bA.c 0 rfl
  have f1 := bA.c 1 rfl
  have f2 := bA.c 2 rfl
  have f3 := bA.c 3 rfl
  have f4 := bA.c 4 rfl
  go_enter Try.func22, Try.ntmps22
  go_wp2_with fail
  clear f0 f1 f2 f3 f4
  refine (sPu_t _ HP).mono ?_
  rintro e w1 ⟨rfl, hb⟩
  replace bA := bA.keep hb
  replace bR := bR.keep hb
  replace B0 := below_step B0 hb
  clear hb
  have f0 := bA.c 0 rfl
  have f1 := bA.c 1 rfl
  have f2 := bA.c 2 rfl
  have f3 := bA.c 3 rfl
  have f4 := bA.c 4 rfl
  go_wp2_with fail
  clear f0 f1 f2 f3 f4
  refine (l5t_fall _ _ _ _ _ _ (by have q := Hh.out; omega) (by have q := Hh0.out; omega) (by have q := Hh1.out; omega) (by have q := Hh3.out; omega)).mono ?_
  rintro e w2 ⟨rfl, hb⟩
  replace bR := bR.keep hb
  replace B0 := below_step B0 hb
  clear hb
  have r0 := bR.c 0 rfl
  have s0f := bR.f 0 (x := _) rfl
  have r1 := bR.c 1 rfl
  have s1f := bR.f 1 (x := _) rfl
  have r2 := bR.c 2 rfl
  have s2f := bR.f 2 (x := _) rfl
  have r3 := bR.c 3 rfl
  have s3f := bR.f 3 (x := _) rfl
  have r4 := bR.c 4 rfl
  have s4f := bR.f 4 (x := _) rfl
  go_wp2
  have bR2 := bR.set5L (.int .i64 1) (.int .i64 mi) (.int .i64 0) (.int .i64 0) (.int .i64 mu)
  have B2 := below_set5L B0 (B := w.heap.size + 1) (by omega) (.int .i64 1) (.int .i64 mi) (.int .i64 0) (.int .i64 0) (.int .i64 mu)
  clear r0 s0f r1 s1f r2 s2f r3 s3f r4 s4f
  clear bR B0
  obtain ⟨W2, hW2⟩ : ∃ W2, W2 = (((((w2.setCell ⟨w.heap.size + 1, 0, none⟩ (.int .i64 1)).setCell ⟨w.heap.size + 1, 1, none⟩ (.int .i64 mi)).setCell ⟨w.heap.size + 1, 2, none⟩ (.int .i64 0)).setCell ⟨w.heap.size + 1, 3, none⟩ (.int .i64 0)).setCell ⟨w.heap.size + 1, 4, none⟩ (.int .i64 mu)) := ⟨_, rfl⟩
  rw [← hW2] at bR2 B2 ⊢
  clear hW2
  have r0 := bR2.c 0 rfl
  have r1 := bR2.c 1 rfl
  have r2 := bR2.c 2 rfl
  have r3 := bR2.c 3 rfl
  have r4 := bR2.c 4 rfl
  exact bodyPost_ret (v := .tuple #[.agg #[.int .i64 1, .int .i64 mi, .int .i64 0, .int .i64 0, .int .i64 mu], .bool false]) (by simp [results, Try.results22, go_sem, r0, r1, r2, r3, r4]) rfl ⟨rfl, B2⟩
set_option maxHeartbeats 1000000 in
theorem sad_no (st mi yo he mu : Int) (dn : Bool) (w : World) (HP : Hid (pulB st mi yo he mu = false))  : Calls Try.prog 24 #[.agg #[.int .i64 st, .int .i64 mi, .int .i64 yo, .int .i64 he, .int .i64 mu], .bool dn] w fun e w' => e = .returned (.agg #[.int .i64 0, .int .i64 0, .int .i64 0, .int .i64 0, .int .i64 0]) ∧ Below w.heap.size w w' := by
  obtain ⟨bA, bR, B0, z⟩ := two w [.int .i64 st, .int .i64 mi, .int .i64 yo, .int .i64 he, .int .i64 mu] [.int .i64 0, .int .i64 0, .int .i64 0, .int .i64 0, .int .i64 0] 25 25
  clear z
  have f0 := bA.c 0 rfl
  have f1 := bA.c 1 rfl
  have f2 := bA.c 2 rfl
  have f3 := bA.c 3 rfl
  have f4 := bA.c 4 rfl
  go_enter Try.func24, Try.ntmps24
  go_wp2_with fail
  clear f0 f1 f2 f3 f4
  refine (sPu_t _ HP).mono ?_
  rintro e w1 ⟨rfl, hb⟩
  replace bA := bA.keep hb
  replace bR := bR.keep hb
  replace B0 := below_step B0 hb
  clear hb
  have r0 := bR.c 0 rfl
  have s0f := bR.f 0 (x := _) rfl
  have r1 := bR.c 1 rfl
  have s1f := bR.f 1 (x := _) rfl
  have r2 := bR.c 2 rfl
  have s2f := bR.f 2 (x := _) rfl
  have r3 := bR.c 3 rfl
  have s3f := bR.f 3 (x := _) rfl
  have r4 := bR.c 4 rfl
  have s4f := bR.f 4 (x := _) rfl
  go_wp2
  have bR2 := bR.set5L (.int .i64 0) (.int .i64 0) (.int .i64 0) (.int .i64 0) (.int .i64 0)
  have B2 := below_set5L B0 (B := w.heap.size + 1) (by omega) (.int .i64 0) (.int .i64 0) (.int .i64 0) (.int .i64 0) (.int .i64 0)
  clear r0 s0f r1 s1f r2 s2f r3 s3f r4 s4f
  clear bR B0
  obtain ⟨W2, hW2⟩ : ∃ W2, W2 = (((((w1.setCell ⟨w.heap.size + 1, 0, none⟩ (.int .i64 0)).setCell ⟨w.heap.size + 1, 1, none⟩ (.int .i64 0)).setCell ⟨w.heap.size + 1, 2, none⟩ (.int .i64 0)).setCell ⟨w.heap.size + 1, 3, none⟩ (.int .i64 0)).setCell ⟨w.heap.size + 1, 4, none⟩ (.int .i64 0)) := ⟨_, rfl⟩
  rw [← hW2] at bR2 B2 ⊢
  clear hW2
  have r0 := bR2.c 0 rfl
  have r1 := bR2.c 1 rfl
  have r2 := bR2.c 2 rfl
  have r3 := bR2.c 3 rfl
  have r4 := bR2.c 4 rfl
  exact bodyPost_ret (v := .agg #[.int .i64 0, .int .i64 0, .int .i64 0, .int .i64 0, .int .i64 0]) (by simp [results, Try.results24, go_sem, r0, r1, r2, r3, r4]) rfl ⟨rfl, B2⟩
set_option maxHeartbeats 1000000 in
theorem sad_down (st mi yo he mu : Int) (w : World) (HP : Hid (pulB st mi yo he mu = true))  : Calls Try.prog 24 #[.agg #[.int .i64 st, .int .i64 mi, .int .i64 yo, .int .i64 he, .int .i64 mu], .bool true] w fun e w' => e = .returned (.agg #[.int .i64 0, .int .i64 mi, .int .i64 0, .int .i64 0, .int .i64 mu]) ∧ Below w.heap.size w w' := by
  obtain ⟨bA, bR, B0, z⟩ := two w [.int .i64 st, .int .i64 mi, .int .i64 yo, .int .i64 he, .int .i64 mu] [.int .i64 0, .int .i64 0, .int .i64 0, .int .i64 0, .int .i64 0] 25 25
  clear z
  have f0 := bA.c 0 rfl
  have f1 := bA.c 1 rfl
  have f2 := bA.c 2 rfl
  have f3 := bA.c 3 rfl
  have f4 := bA.c 4 rfl
  go_enter Try.func24, Try.ntmps24
  go_wp2_with fail
  clear f0 f1 f2 f3 f4
  refine (sPu_t _ HP).mono ?_
  rintro e w1 ⟨rfl, hb⟩
  replace bA := bA.keep hb
  replace bR := bR.keep hb
  replace B0 := below_step B0 hb
  clear hb
  have f0 := bA.c 0 rfl
  have f1 := bA.c 1 rfl
  have f2 := bA.c 2 rfl
  have f3 := bA.c 3 rfl
  have f4 := bA.c 4 rfl
  have r0 := bR.c 0 rfl
  have s0f := bR.f 0 (x := _) rfl
  have r1 := bR.c 1 rfl
  have s1f := bR.f 1 (x := _) rfl
  have r2 := bR.c 2 rfl
  have s2f := bR.f 2 (x := _) rfl
  have r3 := bR.c 3 rfl
  have s3f := bR.f 3 (x := _) rfl
  have r4 := bR.c 4 rfl
  have s4f := bR.f 4 (x := _) rfl
  go_wp2
  clear f0 f1 f2 f3 f4
  have bR2 := bR.set5L (.int .i64 0) (.int .i64 mi) (.int .i64 0) (.int .i64 0) (.int .i64 mu)
  have B2 := below_set5L B0 (B := w.heap.size + 1) (by omega) (.int .i64 0) (.int .i64 mi) (.int .i64 0) (.int .i64 0) (.int .i64 mu)
  clear r0 s0f r1 s1f r2 s2f r3 s3f r4 s4f
  clear bR B0
  obtain ⟨W2, hW2⟩ : ∃ W2, W2 = (((((w1.setCell ⟨w.heap.size + 1, 0, none⟩ (.int .i64 0)).setCell ⟨w.heap.size + 1, 1, none⟩ (.int .i64 mi)).setCell ⟨w.heap.size + 1, 2, none⟩ (.int .i64 0)).setCell ⟨w.heap.size + 1, 3, none⟩ (.int .i64 0)).setCell ⟨w.heap.size + 1, 4, none⟩ (.int .i64 mu)) := ⟨_, rfl⟩
  rw [← hW2] at bR2 B2 ⊢
  clear hW2
  have r0 := bR2.c 0 rfl
  have r1 := bR2.c 1 rfl
  have r2 := bR2.c 2 rfl
  have r3 := bR2.c 3 rfl
  have r4 := bR2.c 4 rfl
  exact bodyPost_ret (v := .agg #[.int .i64 0, .int .i64 mi, .int .i64 0, .int .i64 0, .int .i64 mu]) (by simp [results, Try.results24, go_sem, r0, r1, r2, r3, r4]) rfl ⟨rfl, B2⟩
set_option maxHeartbeats 1000000 in
theorem sad_back (st mi yo he mu : Int) (w : World) (HP : Hid (pulB st mi yo he mu = true)) (h : st = 0) : Calls Try.prog 24 #[.agg #[.int .i64 st, .int .i64 mi, .int .i64 yo, .int .i64 he, .int .i64 mu], .bool false] w fun e w' => e = .returned (.agg #[.int .i64 1, .int .i64 mi, .int .i64 0, .int .i64 0, .int .i64 mu]) ∧ Below w.heap.size w w' := by
  obtain ⟨bA, bR, B0, z⟩ := two w [.int .i64 st, .int .i64 mi, .int .i64 yo, .int .i64 he, .int .i64 mu] [.int .i64 0, .int .i64 0, .int .i64 0, .int .i64 0, .int .i64 0] 25 25
  clear z
  have hb0 : (st == 0) = true := by simp [h]
  clear h
  have f0 := bA.c 0 rfl
  have f1 := bA.c 1 rfl
  have f2 := bA.c 2 rfl
  have f3 := bA.c 3 rfl
  have f4 := bA.c 4 rfl
  go_enter Try.func24, Try.ntmps24
  go_wp2_with fail
  clear f0 f1 f2 f3 f4
  refine (sPu_t _ HP).mono ?_
  rintro e w1 ⟨rfl, hb⟩
  replace bA := bA.keep hb
  replace bR := bR.keep hb
  replace B0 := below_step B0 hb
  clear hb
  have f0 := bA.c 0 rfl
  have f1 := bA.c 1 rfl
  have f2 := bA.c 2 rfl
  have f3 := bA.c 3 rfl
  have f4 := bA.c 4 rfl
  go_wp2_with fail
  clear f0 f1 f2 f3 f4
  refine (sdown_any _ _ _ _ _ _).mono ?_
  rintro e w2 ⟨rfl, hb⟩
  replace bR := bR.keep hb
  replace B0 := below_step B0 hb
  clear hb
  have r0 := bR.c 0 rfl
  have s0f := bR.f 0 (x := _) rfl
  have r1 := bR.c 1 rfl
  have s1f := bR.f 1 (x := _) rfl
  have r2 := bR.c 2 rfl
  have s2f := bR.f 2 (x := _) rfl
  have r3 := bR.c 3 rfl
  have s3f := bR.f 3 (x := _) rfl
  have r4 := bR.c 4 rfl
  have s4f := bR.f 4 (x := _) rfl
  go_wp2
  have bR2 := bR.set5L (.int .i64 1) (.int .i64 mi) (.int .i64 0) (.int .i64 0) (.int .i64 mu)
  have B2 := below_set5L B0 (B := w.heap.size + 1) (by omega) (.int .i64 1) (.int .i64 mi) (.int .i64 0) (.int .i64 0) (.int .i64 mu)
  clear r0 s0f r1 s1f r2 s2f r3 s3f r4 s4f
  clear bR B0
  obtain ⟨W2, hW2⟩ : ∃ W2, W2 = (((((w2.setCell ⟨w.heap.size + 1, 0, none⟩ (.int .i64 1)).setCell ⟨w.heap.size + 1, 1, none⟩ (.int .i64 mi)).setCell ⟨w.heap.size + 1, 2, none⟩ (.int .i64 0)).setCell ⟨w.heap.size + 1, 3, none⟩ (.int .i64 0)).setCell ⟨w.heap.size + 1, 4, none⟩ (.int .i64 mu)) := ⟨_, rfl⟩
  rw [← hW2] at bR2 B2 ⊢
  clear hW2
  have r0 := bR2.c 0 rfl
  have r1 := bR2.c 1 rfl
  have r2 := bR2.c 2 rfl
  have r3 := bR2.c 3 rfl
  have r4 := bR2.c 4 rfl
  exact bodyPost_ret (v := .agg #[.int .i64 1, .int .i64 mi, .int .i64 0, .int .i64 0, .int .i64 mu]) (by simp [results, Try.results24, go_sem, r0, r1, r2, r3, r4]) rfl ⟨rfl, B2⟩
set_option maxHeartbeats 1000000 in
theorem sad_stay (st mi yo he mu : Int) (w : World) (HP : Hid (pulB st mi yo he mu = true)) (h : ¬ st = 0) : Calls Try.prog 24 #[.agg #[.int .i64 st, .int .i64 mi, .int .i64 yo, .int .i64 he, .int .i64 mu], .bool false] w fun e w' => e = .returned (.agg #[.int .i64 st, .int .i64 mi, .int .i64 yo, .int .i64 he, .int .i64 mu]) ∧ Below w.heap.size w w' := by
  obtain ⟨bA, bR, B0, z⟩ := two w [.int .i64 st, .int .i64 mi, .int .i64 yo, .int .i64 he, .int .i64 mu] [.int .i64 0, .int .i64 0, .int .i64 0, .int .i64 0, .int .i64 0] 25 25
  clear z
  have hb0 : (st == 0) = false := by simp [h]
  clear h
  have f0 := bA.c 0 rfl
  have f1 := bA.c 1 rfl
  have f2 := bA.c 2 rfl
  have f3 := bA.c 3 rfl
  have f4 := bA.c 4 rfl
  go_enter Try.func24, Try.ntmps24
  go_wp2_with fail
  clear f0 f1 f2 f3 f4
  refine (sPu_t _ HP).mono ?_
  rintro e w1 ⟨rfl, hb⟩
  replace bA := bA.keep hb
  replace bR := bR.keep hb
  replace B0 := below_step B0 hb
  clear hb
  have f0 := bA.c 0 rfl
  have f1 := bA.c 1 rfl
  have f2 := bA.c 2 rfl
  have f3 := bA.c 3 rfl
  have f4 := bA.c 4 rfl
  have r0 := bR.c 0 rfl
  have s0f := bR.f 0 (x := _) rfl
  have r1 := bR.c 1 rfl
  have s1f := bR.f 1 (x := _) rfl
  have r2 := bR.c 2 rfl
  have s2f := bR.f 2 (x := _) rfl
  have r3 := bR.c 3 rfl
  have s3f := bR.f 3 (x := _) rfl
  have r4 := bR.c 4 rfl
  have s4f := bR.f 4 (x := _) rfl
  go_wp2
  clear f0 f1 f2 f3 f4
  have bR2 := bR.set5L (.int .i64 st) (.int .i64 mi) (.int .i64 yo) (.int .i64 he) (.int .i64 mu)
  have B2 := below_set5L B0 (B := w.heap.size + 1) (by omega) (.int .i64 st) (.int .i64 mi) (.int .i64 yo) (.int .i64 he) (.int .i64 mu)
  clear r0 s0f r1 s1f r2 s2f r3 s3f r4 s4f
  clear bR B0
  obtain ⟨W2, hW2⟩ : ∃ W2, W2 = (((((w1.setCell ⟨w.heap.size + 1, 0, none⟩ (.int .i64 st)).setCell ⟨w.heap.size + 1, 1, none⟩ (.int .i64 mi)).setCell ⟨w.heap.size + 1, 2, none⟩ (.int .i64 yo)).setCell ⟨w.heap.size + 1, 3, none⟩ (.int .i64 he)).setCell ⟨w.heap.size + 1, 4, none⟩ (.int .i64 mu)) := ⟨_, rfl⟩
  rw [← hW2] at bR2 B2 ⊢
  clear hW2
  have r0 := bR2.c 0 rfl
  have r1 := bR2.c 1 rfl
  have r2 := bR2.c 2 rfl
  have r3 := bR2.c 3 rfl
  have r4 := bR2.c 4 rfl
  exact bodyPost_ret (v := .agg #[.int .i64 st, .int .i64 mi, .int .i64 yo, .int .i64 he, .int .i64 mu]) (by simp [results, Try.results24, go_sem, r0, r1, r2, r3, r4]) rfl ⟨rfl, B2⟩
set_option maxHeartbeats 1000000 in
theorem ipn_yes (mi mu : Int) (w : World) (HP : Hid (pulB 1 mi 0 0 mu = true)) : Calls Try.prog 17 #[.int .i64 mi, .int .i64 mu] w fun e w' => e = .returned (.tuple #[.agg #[.int .i64 1, .int .i64 mi, .int .i64 0, .int .i64 0, .int .i64 mu], .bool true]) ∧ Below w.heap.size w w' := by
  obtain ⟨bR, bA, B0, z⟩ := two w [.int .i64 0, .int .i64 0, .int .i64 0, .int .i64 0, .int .i64 0] [.int .i64 1, .int .i64 mi, .int .i64 0, .int .i64 0, .int .i64 mu] 25 25
  clear z
  have f0 := bA.c 0 rfl
  have f1 := bA.c 1 rfl
  have f2 := bA.c 2 rfl
  have f3 := bA.c 3 rfl
  have f4 := bA.c 4 rfl
  go_enter Try.func17, Try.ntmps17
  go_wp2_with fail
  clear f0 f1 f2 f3 f4
  refine (iPu_t _ HP).mono ?_
  rintro e w1 ⟨rfl, hb⟩
  replace bA := bA.keep hb
  replace bR := bR.keep hb
  replace B0 := below_step B0 hb
  clear hb
  have f0 := bA.c 0 rfl
  have f1 := bA.c 1 rfl
  have f2 := bA.c 2 rfl
  have f3 := bA.c 3 rfl
  have f4 := bA.c 4 rfl
  have r0 := bR.c 0 rfl
  have s0f := bR.f 0 (x := _) rfl
  have r1 := bR.c 1 rfl
  have s1f := bR.f 1 (x := _) rfl
  have r2 := bR.c 2 rfl
  have s2f := bR.f 2 (x := _) rfl
  have r3 := bR.c 3 rfl
  have s3f := bR.f 3 (x := _) rfl
  have r4 := bR.c 4 rfl
  have s4f := bR.f 4 (x := _) rfl
  go_wp2
  have bR2 := bR.set5L (.int .i64 1) (.int .i64 mi) (.int .i64 0) (.int .i64 0) (.int .i64 mu)
  have B2 := below_set5L B0 (B := w.heap.size) (by omega) (.int .i64 1) (.int .i64 mi) (.int .i64 0) (.int .i64 0) (.int .i64 mu)
  clear r0 s0f r1 s1f r2 s2f r3 s3f r4 s4f
  clear bR B0
  obtain ⟨W2, hW2⟩ : ∃ W2, W2 = (((((w1.setCell ⟨w.heap.size, 0, none⟩ (.int .i64 1)).setCell ⟨w.heap.size, 1, none⟩ (.int .i64 mi)).setCell ⟨w.heap.size, 2, none⟩ (.int .i64 0)).setCell ⟨w.heap.size, 3, none⟩ (.int .i64 0)).setCell ⟨w.heap.size, 4, none⟩ (.int .i64 mu)) := ⟨_, rfl⟩
  rw [← hW2] at bR2 B2 ⊢
  clear hW2
  have r0 := bR2.c 0 rfl
  have r1 := bR2.c 1 rfl
  have r2 := bR2.c 2 rfl
  have r3 := bR2.c 3 rfl
  have r4 := bR2.c 4 rfl
  exact bodyPost_ret (v := .tuple #[.agg #[.int .i64 1, .int .i64 mi, .int .i64 0, .int .i64 0, .int .i64 mu], .bool true]) (by simp [results, Try.results17, go_sem, r0, r1, r2, r3, r4]) rfl ⟨rfl, B2⟩
set_option maxHeartbeats 1000000 in
theorem ipn_no (mi mu : Int) (w : World) (HP : Hid (pulB 1 mi 0 0 mu = false)) : Calls Try.prog 17 #[.int .i64 mi, .int .i64 mu] w fun e w' => e = .returned (.tuple #[.agg #[.int .i64 0, .int .i64 0, .int .i64 0, .int .i64 0, .int .i64 0], .bool false]) ∧ Below w.heap.size w w' := by
  obtain ⟨bR, bA, B0, z⟩ := two w [.int .i64 0, .int .i64 0, .int .i64 0, .int .i64 0, .int .i64 0] [.int .i64 1, .int .i64 mi, .int .i64 0, .int .i64 0, .int .i64 mu] 25 25
  clear z
  have f0 := bA.c 0 rfl
  have f1 := bA.c 1 rfl
  have f2 := bA.c 2 rfl
  have f3 := bA.c 3 rfl
  have f4 := bA.c 4 rfl
  go_enter Try.func17, Try.ntmps17
  go_wp2_with fail
  clear f0 f1 f2 f3 f4
  refine (iPu_t _ HP).mono ?_
  rintro e w1 ⟨rfl, hb⟩
  replace bA := bA.keep hb
  replace bR := bR.keep hb
  replace B0 := below_step B0 hb
  clear hb
  have f0 := bA.c 0 rfl
  have f1 := bA.c 1 rfl
  have f2 := bA.c 2 rfl
  have f3 := bA.c 3 rfl
  have f4 := bA.c 4 rfl
  have r0 := bR.c 0 rfl
  have s0f := bR.f 0 (x := _) rfl
  have r1 := bR.c 1 rfl
  have s1f := bR.f 1 (x := _) rfl
  have r2 := bR.c 2 rfl
  have s2f := bR.f 2 (x := _) rfl
  have r3 := bR.c 3 rfl
  have s3f := bR.f 3 (x := _) rfl
  have r4 := bR.c 4 rfl
  have s4f := bR.f 4 (x := _) rfl
  go_wp2
  have bR2 := bR.set5L (.int .i64 0) (.int .i64 0) (.int .i64 0) (.int .i64 0) (.int .i64 0)
  have B2 := below_set5L B0 (B := w.heap.size) (by omega) (.int .i64 0) (.int .i64 0) (.int .i64 0) (.int .i64 0) (.int .i64 0)
  clear r0 s0f r1 s1f r2 s2f r3 s3f r4 s4f
  clear bR B0
  obtain ⟨W2, hW2⟩ : ∃ W2, W2 = (((((w1.setCell ⟨w.heap.size, 0, none⟩ (.int .i64 0)).setCell ⟨w.heap.size, 1, none⟩ (.int .i64 0)).setCell ⟨w.heap.size, 2, none⟩ (.int .i64 0)).setCell ⟨w.heap.size, 3, none⟩ (.int .i64 0)).setCell ⟨w.heap.size, 4, none⟩ (.int .i64 0)) := ⟨_, rfl⟩
  rw [← hW2] at bR2 B2 ⊢
  clear hW2
  have r0 := bR2.c 0 rfl
  have r1 := bR2.c 1 rfl
  have r2 := bR2.c 2 rfl
  have r3 := bR2.c 3 rfl
  have r4 := bR2.c 4 rfl
  exact bodyPost_ret (v := .tuple #[.agg #[.int .i64 0, .int .i64 0, .int .i64 0, .int .i64 0, .int .i64 0], .bool false]) (by simp [results, Try.results17, go_sem, r0, r1, r2, r3, r4]) rfl ⟨rfl, B2⟩
set_option maxHeartbeats 1000000 in
theorem ibo_yes (st mi yo he mu : Int) (w : World) (HP : Hid (pulB st mi yo he mu = true)) : Calls Try.prog 20 #[.agg #[.int .i64 st, .int .i64 mi, .int .i64 yo, .int .i64 he, .int .i64 mu]] w fun e w' => e = .returned (.tuple #[.agg #[.int .i64 st, .int .i64 mi, .int .i64 yo], .bool true]) ∧ Below w.heap.size w w' := by
  obtain ⟨bA, bR, B0, z⟩ := two w [.int .i64 st, .int .i64 mi, .int .i64 yo, .int .i64 he, .int .i64 mu] [.int .i64 0, .int .i64 0, .int .i64 0] 25 31
  clear z
  have f0 := bA.c 0 rfl
  have f1 := bA.c 1 rfl
  have f2 := bA.c 2 rfl
  have f3 := bA.c 3 rfl
  have f4 := bA.c 4 rfl
  go_enter Try.func20, Try.ntmps20
  go_wp2_with fail
  clear f0 f1 f2 f3 f4
  refine (iPu_t _ HP).mono ?_
  rintro e w1 ⟨rfl, hb⟩
  replace bA := bA.keep hb
  replace bR := bR.keep hb
  replace B0 := below_step B0 hb
  clear hb
  have f0 := bA.c 0 rfl
  have f1 := bA.c 1 rfl
  have f2 := bA.c 2 rfl
  have f3 := bA.c 3 rfl
  have f4 := bA.c 4 rfl
  go_wp2_with fail
  clear f0 f1 f2 f3 f4
  refine (ibeat_any _ _ _ _ _ _).mono ?_
  rintro e w2 ⟨rfl, hb⟩
  replace bR := bR.keep hb
  replace B0 := below_step B0 hb
  clear hb
  have r0 := bR.c 0 rfl
  have s0f := bR.f 0 (x := _) rfl
  have r1 := bR.c 1 rfl
  have s1f := bR.f 1 (x := _) rfl
  have r2 := bR.c 2 rfl
  have s2f := bR.f 2 (x := _) rfl
  go_wp2
  have bR2 := bR.set3L (.int .i64 st) (.int .i64 mi) (.int .i64 yo)
  have B2 := below_set3L B0 (B := w.heap.size + 1) (by omega) (.int .i64 st) (.int .i64 mi) (.int .i64 yo)
  clear r0 s0f r1 s1f r2 s2f
  clear bR B0
  obtain ⟨W2, hW2⟩ : ∃ W2, W2 = (((w2.setCell ⟨w.heap.size + 1, 0, none⟩ (.int .i64 st)).setCell ⟨w.heap.size + 1, 1, none⟩ (.int .i64 mi)).setCell ⟨w.heap.size + 1, 2, none⟩ (.int .i64 yo)) := ⟨_, rfl⟩
  rw [← hW2] at bR2 B2 ⊢
  clear hW2
  have r0 := bR2.c 0 rfl
  have r1 := bR2.c 1 rfl
  have r2 := bR2.c 2 rfl
  exact bodyPost_ret (v := .tuple #[.agg #[.int .i64 st, .int .i64 mi, .int .i64 yo], .bool true]) (by simp [results, Try.results20, go_sem, r0, r1, r2]) rfl ⟨rfl, B2⟩
set_option maxHeartbeats 1000000 in
theorem ibo_no (st mi yo he mu : Int) (w : World) (HP : Hid (pulB st mi yo he mu = false)) : Calls Try.prog 20 #[.agg #[.int .i64 st, .int .i64 mi, .int .i64 yo, .int .i64 he, .int .i64 mu]] w fun e w' => e = .returned (.tuple #[.agg #[.int .i64 0, .int .i64 0, .int .i64 0], .bool false]) ∧ Below w.heap.size w w' := by
  obtain ⟨bA, bR, B0, z⟩ := two w [.int .i64 st, .int .i64 mi, .int .i64 yo, .int .i64 he, .int .i64 mu] [.int .i64 0, .int .i64 0, .int .i64 0] 25 31
  clear z
  have f0 := bA.c 0 rfl
  have f1 := bA.c 1 rfl
  have f2 := bA.c 2 rfl
  have f3 := bA.c 3 rfl
  have f4 := bA.c 4 rfl
  go_enter Try.func20, Try.ntmps20
  go_wp2_with fail
  clear f0 f1 f2 f3 f4
  refine (iPu_t _ HP).mono ?_
  rintro e w1 ⟨rfl, hb⟩
  replace bA := bA.keep hb
  replace bR := bR.keep hb
  replace B0 := below_step B0 hb
  clear hb
  have r0 := bR.c 0 rfl
  have s0f := bR.f 0 (x := _) rfl
  have r1 := bR.c 1 rfl
  have s1f := bR.f 1 (x := _) rfl
  have r2 := bR.c 2 rfl
  have s2f := bR.f 2 (x := _) rfl
  go_wp2
  have bR2 := bR.set3L (.int .i64 0) (.int .i64 0) (.int .i64 0)
  have B2 := below_set3L B0 (B := w.heap.size + 1) (by omega) (.int .i64 0) (.int .i64 0) (.int .i64 0)
  clear r0 s0f r1 s1f r2 s2f
  clear bR B0
  obtain ⟨W2, hW2⟩ : ∃ W2, W2 = (((w1.setCell ⟨w.heap.size + 1, 0, none⟩ (.int .i64 0)).setCell ⟨w.heap.size + 1, 1, none⟩ (.int .i64 0)).setCell ⟨w.heap.size + 1, 2, none⟩ (.int .i64 0)) := ⟨_, rfl⟩
  rw [← hW2] at bR2 B2 ⊢
  clear hW2
  have r0 := bR2.c 0 rfl
  have r1 := bR2.c 1 rfl
  have r2 := bR2.c 2 rfl
  exact bodyPost_ret (v := .tuple #[.agg #[.int .i64 0, .int .i64 0, .int .i64 0], .bool false]) (by simp [results, Try.results20, go_sem, r0, r1, r2]) rfl ⟨rfl, B2⟩
set_option maxHeartbeats 1000000 in
theorem itk_no (st mi yo he mu : Int) (w : World) (HP : Hid (pulB st mi yo he mu = false)) : Calls Try.prog 23 #[.agg #[.int .i64 st, .int .i64 mi, .int .i64 yo, .int .i64 he, .int .i64 mu]] w fun e w' => e = .returned (.tuple #[.agg #[.int .i64 0, .int .i64 0, .int .i64 0, .int .i64 0, .int .i64 0], .bool false]) ∧ Below w.heap.size w w' := by
  obtain ⟨bA, bR, B0, z⟩ := two w [.int .i64 st, .int .i64 mi, .int .i64 yo, .int .i64 he, .int .i64 mu] [.int .i64 0, .int .i64 0, .int .i64 0, .int .i64 0, .int .i64 0] 25 25
  clear z
  have f0 := bA.c 0 rfl
  have f1 := bA.c 1 rfl
  have f2 := bA.c 2 rfl
  have f3 := bA.c 3 rfl
  have f4 := bA.c 4 rfl
  go_enter Try.func23, Try.ntmps23
  go_wp2_with fail
  clear f0 f1 f2 f3 f4
  refine (iPu_t _ HP).mono ?_
  rintro e w1 ⟨rfl, hb⟩
  replace bA := bA.keep hb
  replace bR := bR.keep hb
  replace B0 := below_step B0 hb
  clear hb
  have r0 := bR.c 0 rfl
  have s0f := bR.f 0 (x := _) rfl
  have r1 := bR.c 1 rfl
  have s1f := bR.f 1 (x := _) rfl
  have r2 := bR.c 2 rfl
  have s2f := bR.f 2 (x := _) rfl
  have r3 := bR.c 3 rfl
  have s3f := bR.f 3 (x := _) rfl
  have r4 := bR.c 4 rfl
  have s4f := bR.f 4 (x := _) rfl
  go_wp2
  have bR2 := bR.set5L (.int .i64 0) (.int .i64 0) (.int .i64 0) (.int .i64 0) (.int .i64 0)
  have B2 := below_set5L B0 (B := w.heap.size + 1) (by omega) (.int .i64 0) (.int .i64 0) (.int .i64 0) (.int .i64 0) (.int .i64 0)
  clear r0 s0f r1 s1f r2 s2f r3 s3f r4 s4f
  clear bR B0
  obtain ⟨W2, hW2⟩ : ∃ W2, W2 = (((((w1.setCell ⟨w.heap.size + 1, 0, none⟩ (.int .i64 0)).setCell ⟨w.heap.size + 1, 1, none⟩ (.int .i64 0)).setCell ⟨w.heap.size + 1, 2, none⟩ (.int .i64 0)).setCell ⟨w.heap.size + 1, 3, none⟩ (.int .i64 0)).setCell ⟨w.heap.size + 1, 4, none⟩ (.int .i64 0)) := ⟨_, rfl⟩
  rw [← hW2] at bR2 B2 ⊢
  clear hW2
  have r0 := bR2.c 0 rfl
  have r1 := bR2.c 1 rfl
  have r2 := bR2.c 2 rfl
  have r3 := bR2.c 3 rfl
  have r4 := bR2.c 4 rfl
  exact bodyPost_ret (v := .tuple #[.agg #[.int .i64 0, .int .i64 0, .int .i64 0, .int .i64 0, .int .i64 0], .bool false]) (by simp [results, Try.results23, go_sem, r0, r1, r2, r3, r4]) rfl ⟨rfl, B2⟩
set_option maxHeartbeats 2000000 in
theorem itk_low (st mi yo he mu : Int) (w : World) (HP : Hid (pulB st mi yo he mu = true)) (h : st ≤ 1) : Calls Try.prog 23 #[.agg #[.int .i64 st, .int .i64 mi, .int .i64 yo, .int .i64 he, .int .i64 mu]] w fun e w' => e = .returned (.tuple #[.agg #[.int .i64 st, .int .i64 mi, .int .i64 yo, .int .i64 he, .int .i64 mu], .bool false]) ∧ Below w.heap.size w w' := by
  obtain ⟨bA, bR, B0, z⟩ := two w [.int .i64 st, .int .i64 mi, .int .i64 yo, .int .i64 he, .int .i64 mu] [.int .i64 0, .int .i64 0, .int .i64 0, .int .i64 0, .int .i64 0] 25 25
  clear z
  have HC : Hid (decide (2 ≤ st) = false) := Lib.hid (by simp; omega)
  clear h
  have f0 := bA.c 0 rfl
  have f1 := bA.c 1 rfl
  have f2 := bA.c 2 rfl
  have f3 := bA.c 3 rfl
  have f4 := bA.c 4 rfl
  go_enter Try.func23, Try.ntmps23
  go_wp2_with fail
  clear f0 f1 f2 f3 f4
  refine (iPu_t _ HP).mono ?_
  rintro e w1 ⟨rfl, hb⟩
  replace bA := bA.keep hb
  replace bR := bR.keep hb
  replace B0 := below_step B0 hb
  clear hb
  have f0 := bA.c 0 rfl
  have f1 := bA.c 1 rfl
  have f2 := bA.c 2 rfl
  have f3 := bA.c 3 rfl
  have f4 := bA.c 4 rfl
  go_wp2_with fail
  clear f0 f1 f2 f3 f4
  refine (iconn_t _ HC).mono ?_
  rintro e w1 ⟨rfl, rfl⟩
  have f0 := bA.c 0 rfl
  have f1 := bA.c 1 rfl
  have f2 := bA.c 2 rfl
  have f3 := bA.c 3 rfl
  have f4 := bA.c 4 rfl
  have r0 := bR.c 0 rfl
  have s0f := bR.f 0 (x := _) rfl
  have r1 := bR.c 1 rfl
  have s1f := bR.f 1 (x := _) rfl
  have r2 := bR.c 2 rfl
  have s2f := bR.f 2 (x := _) rfl
  have r3 := bR.c 3 rfl
  have s3f := bR.f 3 (x := _) rfl
  have r4 := bR.c 4 rfl
  have s4f := bR.f 4 (x := _) rfl
  go_wp2
  have bR2 := bR.set5L (.int .i64 st) (.int .i64 mi) (.int .i64 yo) (.int .i64 he) (.int .i64 mu)
  have B2 := below_set5L B0 (B := w.heap.size + 1) (by omega) (.int .i64 st) (.int .i64 mi) (.int .i64 yo) (.int .i64 he) (.int .i64 mu)
  clear r0 s0f r1 s1f r2 s2f r3 s3f r4 s4f
  clear bR B0
  obtain ⟨W2, hW2⟩ : ∃ W2, W2 = (((((w1.setCell ⟨w.heap.size + 1, 0, none⟩ (.int .i64 st)).setCell ⟨w.heap.size + 1, 1, none⟩ (.int .i64 mi)).setCell ⟨w.heap.size + 1, 2, none⟩ (.int .i64 yo)).setCell ⟨w.heap.size + 1, 3, none⟩ (.int .i64 he)).setCell ⟨w.heap.size + 1, 4, none⟩ (.int .i64 mu)) := ⟨_, rfl⟩
  rw [← hW2] at bR2 B2 ⊢
  clear hW2
  have r0 := bR2.c 0 rfl
  have r1 := bR2.c 1 rfl
  have r2 := bR2.c 2 rfl
  have r3 := bR2.c 3 rfl
  have r4 := bR2.c 4 rfl
  exact bodyPost_ret (v := .tuple #[.agg #[.int .i64 st, .int .i64 mi, .int .i64 yo, .int .i64 he, .int .i64 mu], .bool false]) (by simp [results, Try.results23, go_sem, r0, r1, r2, r3, r4]) rfl ⟨rfl, B2⟩
set_option maxHeartbeats 2000000 in
theorem itk_on (st mi yo he mu : Int) (w : World) (HP : Hid (pulB st mi yo he mu = true)) (h : ¬ st ≤ 1) (h0 : 0 ≤ he ∧ he < 256) (h1 : he + 1 < mu) : Calls Try.prog 23 #[.agg #[.int .i64 st, .int .i64 mi, .int .i64 yo, .int .i64 he, .int .i64 mu]] w fun e w' => e = .returned (.tuple #[.agg #[.int .i64 st, .int .i64 mi, .int .i64 yo, .int .i64 (he + 1), .int .i64 mu], .bool false]) ∧ Below w.heap.size w w' := by
  obtain ⟨bA, bR, B0, z⟩ := two w [.int .i64 st, .int .i64 mi, .int .i64 yo, .int .i64 he, .int .i64 mu] [.int .i64 0, .int .i64 0, .int .i64 0, .int .i64 0, .int .i64 0] 25 25
  clear z
  have HC : Hid (decide (2 ≤ st) = true) := Lib.hid (by simp; omega)
  have hw : IntKind.i64.wrap (he + 1) = he + 1 := wrap64_in _ (by omega) (by omega)
  clear h h0
  have f0 := bA.c 0 rfl
  have f1 := bA.c 1 rfl
  have f2 := bA.c 2 rfl
  have f3 := bA.c 3 rfl
  have f4 := bA.c 4 rfl
  go_enter Try.func23, Try.ntmps23
  go_wp2_with fail
  clear f0 f1 f2 f3 f4
  refine (iPu_t _ HP).mono ?_
  rintro e w1 ⟨rfl, hb⟩
  replace bA := bA.keep hb
  replace bR := bR.keep hb
  replace B0 := below_step B0 hb
  clear hb
  have f0 := bA.c 0 rfl
  have f1 := bA.c 1 rfl
  have f2 := bA.c 2 rfl
  have f3 := bA.c 3 rfl
  have f4 := bA.c 4 rfl
  go_wp2_with fail
  clear f0 f1 f2 f3 f4
  refine (iconn_t _ HC).mono ?_
  rintro e w1 ⟨rfl, rfl⟩
  have f0 := bA.c 0 rfl
  have f1 := bA.c 1 rfl
  have f2 := bA.c 2 rfl
  have f3 := bA.c 3 rfl
  have f4 := bA.c 4 rfl
  have f3f := bA.f 3 (x := _) rfl
  have r0 := bR.c 0 rfl
  have s0f := bR.f 0 (x := _) rfl
  have r1 := bR.c 1 rfl
  have s1f := bR.f 1 (x := _) rfl
  have r2 := bR.c 2 rfl
  have s2f := bR.f 2 (x := _) rfl
  have r3 := bR.c 3 rfl
  have s3f := bR.f 3 (x := _) rfl
  have r4 := bR.c 4 rfl
  have s4f := bR.f 4 (x := _) rfl
  go_wp2
  clear f3f f0 f1 f2 f3 f4
  replace bR := bR.far (C := w.heap.size) (o := 3) (u := .int .i64 (he + 1)) (by omega)
  replace B0 := B0.setCell (p := ⟨w.heap.size, 3, none⟩) (Nat.le_refl _) (.int .i64 (he + 1))
  have bR2 := bR.set5L (.int .i64 st) (.int .i64 mi) (.int .i64 yo) (.int .i64 (he + 1)) (.int .i64 mu)
  have B2 := below_set5L B0 (B := w.heap.size + 1) (by omega) (.int .i64 st) (.int .i64 mi) (.int .i64 yo) (.int .i64 (he + 1)) (.int .i64 mu)
  clear r0 s0f r1 s1f r2 s2f r3 s3f r4 s4f
  clear bR B0
  obtain ⟨W2, hW2⟩ : ∃ W2, W2 = ((((((w1.setCell ⟨w.heap.size, 3, none⟩ (.int .i64 (he + 1))).setCell ⟨w.heap.size + 1, 0, none⟩ (.int .i64 st)).setCell ⟨w.heap.size + 1, 1, none⟩ (.int .i64 mi)).setCell ⟨w.heap.size + 1, 2, none⟩ (.int .i64 yo)).setCell ⟨w.heap.size + 1, 3, none⟩ (.int .i64 (he + 1))).setCell ⟨w.heap.size + 1, 4, none⟩ (.int .i64 mu)) := ⟨_, rfl⟩
  rw [← hW2] at bR2 B2 ⊢
  clear hW2
  have r0 := bR2.c 0 rfl
  have r1 := bR2.c 1 rfl
  have r2 := bR2.c 2 rfl
  have r3 := bR2.c 3 rfl
  have r4 := bR2.c 4 rfl
  exact bodyPost_ret (v := .tuple #[.agg #[.int .i64 st, .int .i64 mi, .int .i64 yo, .int .i64 (he + 1), .int .i64 mu], .bool false]) (by simp [results, Try.results23, go_sem, r0, r1, r2, r3, r4]) rfl ⟨rfl, B2⟩
set_option maxHeartbeats 2000000 in
theorem itk_up (st mi yo he mu : Int) (w : World) (HP : Hid (pulB st mi yo he mu = true)) (h : ¬ st ≤ 1) (h0 : 0 ≤ he ∧ he < 256) (h1 : ¬ he + 1 < mu) (h3 : st = 3) : Calls Try.prog 23 #[.agg #[.int .i64 st, .int .i64 mi, .int .i64 yo, .int .i64 he, .int .i64 mu]] w fun e w' => e = .returned (.tuple #[.agg #[.int .i64 1, .int .i64 mi, .int .i64 0, .int .i64 0, .int .i64 mu], .bool true]) ∧ Below w.heap.size w w' := by
  obtain ⟨bA, bR, B0, z⟩ := two w [.int .i64 st, .int .i64 mi, .int .i64 yo, .int .i64 he, .int .i64 mu] [.int .i64 0, .int .i64 0, .int .i64 0, .int .i64 0, .int .i64 0] 25 25
  clear z
  have HC : Hid (decide (2 ≤ st) = true) := Lib.hid (by simp; omega)
  have hw : IntKind.i64.wrap (he + 1) = he + 1 := wrap64_in _ (by omega) (by omega)
  have h3b : (st == 3) = true := by simp [h3]
  have h1b : mu ≤ he + 1 := by omega
  clear h3
  clear h h0
  have f0 := bA.c 0 rfl
  have f1 := bA.c 1 rfl
  have f2 := bA.c 2 rfl
  have f3 := bA.c 3 rfl
  have f4 := bA.c 4 rfl
  go_enter Try.func23, Try.ntmps23
  go_wp2_with fail
  clear f0 f1 f2 f3 f4
  refine (iPu_t _ HP).mono ?_
  rintro e w1 ⟨rfl, hb⟩
  replace bA := bA.keep hb
  replace bR := bR.keep hb
  replace B0 := below_step B0 hb
  clear hb
  have f0 := bA.c 0 rfl
  have f1 := bA.c 1 rfl
  have f2 := bA.c 2 rfl
  have f3 := bA.c 3 rfl
  have f4 := bA.c 4 rfl
  go_wp2_with fail
  clear f0 f1 f2 f3 f4
  refine (iconn_t _ HC).mono ?_
  rintro e w1 ⟨rfl, rfl⟩
  have f0 := bA.c 0 rfl
  have f1 := bA.c 1 rfl
  have f2 := bA.c 2 rfl
  have f3 := bA.c 3 rfl
  have f4 := bA.c 4 rfl
  have f3f := bA.f 3 (x := _) rfl
  go_wp2_with fail
  clear f3f f0 f1 f2 f3 f4
  replace bA := bA.set 3 (.int .i64 (he + 1))
  replace bR := bR.far (C := w.heap.size) (o := 3) (u := .int .i64 (he + 1)) (by omega)
  replace B0 := B0.setCell (p := ⟨w.heap.size, 3, none⟩) (Nat.le_refl _) (.int .i64 (he + 1))
  simp only [List.set_cons_zero, List.set_cons_succ] at bA
  obtain ⟨V, eV⟩ : ∃ V, V = w1.setCell ⟨w.heap.size, 3, none⟩ (.int .i64 (he + 1)) := ⟨_, rfl⟩
  rw [← eV] at bA bR B0 ⊢
  clear eV
  have hne : w.heap.size ≠ w.heap.size + 1 := by omega
  refine wp_region_held_drew (S := fun w' => Bl w' (w.heap.size) [.int .i64 st, .int .i64 mi, .int .i64 yo, .int .i64 (he + 1), .int .i64 mu]) (by kernel_rfl) (bA.keep (over_drew V)) (fun hHeld => ?_)
  refine wpAnyH_take (i := 0) (v := ?_) rfl (by kernel_rfl) (by kernel_rfl) (by kernel_rfl) (fun _ _ _ h => h) (Or.inl ⟨by rfl, ?_⟩) (by assumption) ?_
  rotate_left
  · intro wq hSq
    (try dsimp only at hSq)
    have q0 := hSq.c 0 rfl
    have q1 := hSq.c 1 rfl
    have q2 := hSq.c 2 rfl
    have q3 := hSq.c 3 rfl
    have q4 := hSq.c 4 rfl
    go_simp
    try rfl
  change wpAnyH _ _ _ _ _ _ _ (Act.put _ (some 23) _) _
  simp only [Act.put, List.setIfInBounds_toArray, List.set_cons_succ, List.set_cons_zero]
  refine wpAnyH_take (i := 2) (v := ?_) rfl (by kernel_rfl) (by kernel_rfl) (by kernel_rfl) (fun _ _ _ h => h) (Or.inl ⟨by rfl, ?_⟩) (by assumption) ?_
  rotate_left
  · intro wq hSq
    (try dsimp only at hSq)

    go_simp
    try rfl
  change wpAnyH _ _ _ _ _ _ _ (Act.put _ (some 25) _) _
  simp only [Act.put, List.setIfInBounds_toArray, List.set_cons_succ, List.set_cons_zero]
  refine wpAnyH_take (i := 3) (v := ?_) rfl (by kernel_rfl) (by kernel_rfl) (by kernel_rfl) (fun _ _ _ h => h) (Or.inl ⟨by rfl, ?_⟩) (by assumption) ?_
  rotate_left
  · intro wq hSq
    (try dsimp only at hSq)
    have q0 := hSq.c 0 rfl
    go_simp
    try rfl
  change wpAnyH _ _ _ _ _ _ _ (Act.put _ (some 26) _) _
  simp only [Act.put, List.setIfInBounds_toArray, List.set_cons_succ, List.set_cons_zero]
  refine wpAnyH_take (i := 4) (v := ?_) rfl (by kernel_rfl) (by kernel_rfl) (by kernel_rfl) (fun _ _ _ h => h) (Or.inl ⟨by rfl, ?_⟩) (by assumption) ?_
  rotate_left
  · intro wq hSq
    (try dsimp only at hSq)

    go_simp
    try rfl
  change wpAnyH _ _ _ _ _ _ _ (Act.put _ (some 27) _) _
  simp only [Act.put, List.setIfInBounds_toArray, List.set_cons_succ, List.set_cons_zero]
  refine wpAnyH_ready (rs := [1]) (by kernel_rfl) (by simp) ?_
  refine (AllReadyH.cons rfl (fun K hK => ?_) AllReadyH.nil)
  go_simp
  refine (ires_any _ _ _ _ _ _ _).mono ?_
  rintro e wz ⟨rfl, hb⟩
  have O1 : Over V wz := over_step (over_drew _) hb
  replace bA := bA.keep O1
  replace bR := bR.keep O1
  replace B0 := below_step B0 O1
  clear hb
  refine hK.out _ _ bA (fun _ => ?_)
  clear hK K
  try simp only [Act.put, List.setIfInBounds_toArray, List.set_cons_zero, List.set_cons_succ]
  have r0 := bR.c 0 rfl
  have s0f := bR.f 0 (x := _) rfl
  have r1 := bR.c 1 rfl
  have s1f := bR.f 1 (x := _) rfl
  have r2 := bR.c 2 rfl
  have s2f := bR.f 2 (x := _) rfl
  have r3 := bR.c 3 rfl
  have s3f := bR.f 3 (x := _) rfl
  have r4 := bR.c 4 rfl
  have s4f := bR.f 4 (x := _) rfl
  refine wpAnyH_ready (rs := [5]) (by kernel_rfl) (by simp) ?_
  refine (AllReadyH.cons rfl (fun K hK => ?_) AllReadyH.nil)
  go_simp
  refine hK.out _ _ (((((bA.far (o := 0) (u := .int .i64 1) hne).far (o := 1) (u := .int .i64 mi) hne).far (o := 2) (u := .int .i64 0) hne).far (o := 3) (u := .int .i64 0) hne).far (o := 4) (u := .int .i64 mu) hne) (fun _ => ?_)
  clear hK K
  try simp only [Act.put, List.setIfInBounds_toArray, List.set_cons_zero, List.set_cons_succ]
  refine wpAnyH_ready (rs := [6]) (by kernel_rfl) (by simp) ?_
  refine (AllReadyH.cons rfl (fun K hK => ?_) AllReadyH.nil)
  go_simp
  refine hK.out _ _ (((((bA.far (o := 0) (u := .int .i64 1) hne).far (o := 1) (u := .int .i64 mi) hne).far (o := 2) (u := .int .i64 0) hne).far (o := 3) (u := .int .i64 0) hne).far (o := 4) (u := .int .i64 mu) hne) (fun _ => ?_)
  clear hK K
  try simp only [Act.put, List.setIfInBounds_toArray, List.set_cons_zero, List.set_cons_succ]
  refine wpAnyH_done (by kernel_rfl) ?_ _
  have bR2 := bR.set5L (.int .i64 1) (.int .i64 mi) (.int .i64 0) (.int .i64 0) (.int .i64 mu)
  have B2 := below_set5L B0 (B := w.heap.size + 1) (by omega) (.int .i64 1) (.int .i64 mi) (.int .i64 0) (.int .i64 0) (.int .i64 mu)
  clear r0 s0f r1 s1f r2 s2f r3 s3f r4 s4f
  go_wp2
  obtain ⟨W2, hW2⟩ : ∃ W2, W2 = (((((wz.setCell ⟨w.heap.size + 1, 0, none⟩ (.int .i64 1)).setCell ⟨w.heap.size + 1, 1, none⟩ (.int .i64 mi)).setCell ⟨w.heap.size + 1, 2, none⟩ (.int .i64 0)).setCell ⟨w.heap.size + 1, 3, none⟩ (.int .i64 0)).setCell ⟨w.heap.size + 1, 4, none⟩ (.int .i64 mu)) := ⟨_, rfl⟩
  rw [← hW2] at bR2 B2 ⊢
  clear hW2
  have r0 := bR2.c 0 rfl
  have r1 := bR2.c 1 rfl
  have r2 := bR2.c 2 rfl
  have r3 := bR2.c 3 rfl
  have r4 := bR2.c 4 rfl
  exact bodyPost_ret (v := .tuple #[.agg #[.int .i64 1, .int .i64 mi, .int .i64 0, .int .i64 0, .int .i64 mu], .bool true]) (by simp [results, Try.results23, go_sem, r0, r1, r2, r3, r4]) rfl ⟨rfl, B2⟩
set_option maxHeartbeats 2000000 in
theorem itk_fall (st mi yo he mu : Int) (w : World) (HP : Hid (pulB st mi yo he mu = true)) (h : ¬ st ≤ 1) (h0 : 0 ≤ he ∧ he < 256) (h1 : ¬ he + 1 < mu) (h3 : ¬ st = 3) : Calls Try.prog 23 #[.agg #[.int .i64 st, .int .i64 mi, .int .i64 yo, .int .i64 he, .int .i64 mu]] w fun e w' => e = .returned (.tuple #[.agg #[.int .i64 1, .int .i64 mi, .int .i64 0, .int .i64 0, .int .i64 mu], .bool false]) ∧ Below w.heap.size w w' := by
  obtain ⟨bA, bR, B0, z⟩ := two w [.int .i64 st, .int .i64 mi, .int .i64 yo, .int .i64 he, .int .i64 mu] [.int .i64 0, .int .i64 0, .int .i64 0, .int .i64 0, .int .i64 0] 25 25
  clear z
  have HC : Hid (decide (2 ≤ st) = true) := Lib.hid (by simp; omega)
  have hw : IntKind.i64.wrap (he + 1) = he + 1 := wrap64_in _ (by omega) (by omega)
  have h3b : (st == 3) = false := by simp [h3]
  have h1b : mu ≤ he + 1 := by omega
  clear h3
  clear h h0
  have f0 := bA.c 0 rfl
  have f1 := bA.c 1 rfl
  have f2 := bA.c 2 rfl
  have f3 := bA.c 3 rfl
  have f4 := bA.c 4 rfl
  go_enter Try.func23, Try.ntmps23
  go_wp2_with fail
  clear f0 f1 f2 f3 f4
  refine (iPu_t _ HP).mono ?_
  rintro e w1 ⟨rfl, hb⟩
  replace bA := bA.keep hb
  replace bR := bR.keep hb
  replace B0 := below_step B0 hb
  clear hb
  have f0 := bA.c 0 rfl
  have f1 := bA.c 1 rfl
  have f2 := bA.c 2 rfl
  have f3 := bA.c 3 rfl
  have f4 := bA.c 4 rfl
  go_wp2_with fail
  clear f0 f1 f2 f3 f4
  refine (iconn_t _ HC).mono ?_
  rintro e w1 ⟨rfl, rfl⟩
  have f0 := bA.c 0 rfl
  have f1 := bA.c 1 rfl
  have f2 := bA.c 2 rfl
  have f3 := bA.c 3 rfl
  have f4 := bA.c 4 rfl
  have f3f := bA.f 3 (x := _) rfl
  go_wp2_with fail
  clear f3f f0 f1 f2 f3 f4
  replace bA := bA.set 3 (.int .i64 (he + 1))
  replace bR := bR.far (C := w.heap.size) (o := 3) (u := .int .i64 (he + 1)) (by omega)
  replace B0 := B0.setCell (p := ⟨w.heap.size, 3, none⟩) (Nat.le_refl _) (.int .i64 (he + 1))
  simp only [List.set_cons_zero, List.set_cons_succ] at bA
  obtain ⟨V, eV⟩ : ∃ V, V = w1.setCell ⟨w.heap.size, 3, none⟩ (.int .i64 (he + 1)) := ⟨_, rfl⟩
  rw [← eV] at bA bR B0 ⊢
  clear eV
  have hne : w.heap.size ≠ w.heap.size + 1 := by omega
  refine wp_region_held_drew (S := fun w' => Bl w' (w.heap.size) [.int .i64 st, .int .i64 mi, .int .i64 yo, .int .i64 (he + 1), .int .i64 mu]) (by kernel_rfl) (bA.keep (over_drew V)) (fun hHeld => ?_)
  refine wpAnyH_take (i := 0) (v := ?_) rfl (by kernel_rfl) (by kernel_rfl) (by kernel_rfl) (fun _ _ _ h => h) (Or.inl ⟨by rfl, ?_⟩) (by assumption) ?_
  rotate_left
  · intro wq hSq
    (try dsimp only at hSq)
    have q0 := hSq.c 0 rfl
    have q1 := hSq.c 1 rfl
    have q2 := hSq.c 2 rfl
    have q3 := hSq.c 3 rfl
    have q4 := hSq.c 4 rfl
    go_simp
    try rfl
  change wpAnyH _ _ _ _ _ _ _ (Act.put _ (some 23) _) _
  simp only [Act.put, List.setIfInBounds_toArray, List.set_cons_succ, List.set_cons_zero]
  refine wpAnyH_take (i := 2) (v := ?_) rfl (by kernel_rfl) (by kernel_rfl) (by kernel_rfl) (fun _ _ _ h => h) (Or.inl ⟨by rfl, ?_⟩) (by assumption) ?_
  rotate_left
  · intro wq hSq
    (try dsimp only at hSq)

    go_simp
    try rfl
  change wpAnyH _ _ _ _ _ _ _ (Act.put _ (some 25) _) _
  simp only [Act.put, List.setIfInBounds_toArray, List.set_cons_succ, List.set_cons_zero]
  refine wpAnyH_take (i := 3) (v := ?_) rfl (by kernel_rfl) (by kernel_rfl) (by kernel_rfl) (fun _ _ _ h => h) (Or.inl ⟨by rfl, ?_⟩) (by assumption) ?_
  rotate_left
  · intro wq hSq
    (try dsimp only at hSq)
    have q0 := hSq.c 0 rfl
    go_simp
    try rfl
  change wpAnyH _ _ _ _ _ _ _ (Act.put _ (some 26) _) _
  simp only [Act.put, List.setIfInBounds_toArray, List.set_cons_succ, List.set_cons_zero]
  refine wpAnyH_take (i := 4) (v := ?_) rfl (by kernel_rfl) (by kernel_rfl) (by kernel_rfl) (fun _ _ _ h => h) (Or.inl ⟨by rfl, ?_⟩) (by assumption) ?_
  rotate_left
  · intro wq hSq
    (try dsimp only at hSq)

    go_simp
    try rfl
  change wpAnyH _ _ _ _ _ _ _ (Act.put _ (some 27) _) _
  simp only [Act.put, List.setIfInBounds_toArray, List.set_cons_succ, List.set_cons_zero]
  refine wpAnyH_ready (rs := [1]) (by kernel_rfl) (by simp) ?_
  refine (AllReadyH.cons rfl (fun K hK => ?_) AllReadyH.nil)
  go_simp
  refine (ires_any _ _ _ _ _ _ _).mono ?_
  rintro e wz ⟨rfl, hb⟩
  have O1 : Over V wz := over_step (over_drew _) hb
  replace bA := bA.keep O1
  replace bR := bR.keep O1
  replace B0 := below_step B0 O1
  clear hb
  refine hK.out _ _ bA (fun _ => ?_)
  clear hK K
  try simp only [Act.put, List.setIfInBounds_toArray, List.set_cons_zero, List.set_cons_succ]
  have r0 := bR.c 0 rfl
  have s0f := bR.f 0 (x := _) rfl
  have r1 := bR.c 1 rfl
  have s1f := bR.f 1 (x := _) rfl
  have r2 := bR.c 2 rfl
  have s2f := bR.f 2 (x := _) rfl
  have r3 := bR.c 3 rfl
  have s3f := bR.f 3 (x := _) rfl
  have r4 := bR.c 4 rfl
  have s4f := bR.f 4 (x := _) rfl
  refine wpAnyH_ready (rs := [5]) (by kernel_rfl) (by simp) ?_
  refine (AllReadyH.cons rfl (fun K hK => ?_) AllReadyH.nil)
  go_simp
  refine hK.out _ _ (((((bA.far (o := 0) (u := .int .i64 1) hne).far (o := 1) (u := .int .i64 mi) hne).far (o := 2) (u := .int .i64 0) hne).far (o := 3) (u := .int .i64 0) hne).far (o := 4) (u := .int .i64 mu) hne) (fun _ => ?_)
  clear hK K
  try simp only [Act.put, List.setIfInBounds_toArray, List.set_cons_zero, List.set_cons_succ]
  refine wpAnyH_ready (rs := [6]) (by kernel_rfl) (by simp) ?_
  refine (AllReadyH.cons rfl (fun K hK => ?_) AllReadyH.nil)
  go_simp
  refine hK.out _ _ (((((bA.far (o := 0) (u := .int .i64 1) hne).far (o := 1) (u := .int .i64 mi) hne).far (o := 2) (u := .int .i64 0) hne).far (o := 3) (u := .int .i64 0) hne).far (o := 4) (u := .int .i64 mu) hne) (fun _ => ?_)
  clear hK K
  try simp only [Act.put, List.setIfInBounds_toArray, List.set_cons_zero, List.set_cons_succ]
  refine wpAnyH_done (by kernel_rfl) ?_ _
  have bR2 := bR.set5L (.int .i64 1) (.int .i64 mi) (.int .i64 0) (.int .i64 0) (.int .i64 mu)
  have B2 := below_set5L B0 (B := w.heap.size + 1) (by omega) (.int .i64 1) (.int .i64 mi) (.int .i64 0) (.int .i64 0) (.int .i64 mu)
  clear r0 s0f r1 s1f r2 s2f r3 s3f r4 s4f
  go_wp2
  obtain ⟨W2, hW2⟩ : ∃ W2, W2 = (((((wz.setCell ⟨w.heap.size + 1, 0, none⟩ (.int .i64 1)).setCell ⟨w.heap.size + 1, 1, none⟩ (.int .i64 mi)).setCell ⟨w.heap.size + 1, 2, none⟩ (.int .i64 0)).setCell ⟨w.heap.size + 1, 3, none⟩ (.int .i64 0)).setCell ⟨w.heap.size + 1, 4, none⟩ (.int .i64 mu)) := ⟨_, rfl⟩
  rw [← hW2] at bR2 B2 ⊢
  clear hW2
  have r0 := bR2.c 0 rfl
  have r1 := bR2.c 1 rfl
  have r2 := bR2.c 2 rfl
  have r3 := bR2.c 3 rfl
  have r4 := bR2.c 4 rfl
  exact bodyPost_ret (v := .tuple #[.agg #[.int .i64 1, .int .i64 mi, .int .i64 0, .int .i64 0, .int .i64 mu], .bool false]) (by simp [results, Try.results23, go_sem, r0, r1, r2, r3, r4]) rfl ⟨rfl, B2⟩
set_option maxHeartbeats 1000000 in
theorem iad_no (st mi yo he mu : Int) (dn : Bool) (w : World) (HP : Hid (pulB st mi yo he mu = false))  : Calls Try.prog 25 #[.agg #[.int .i64 st, .int .i64 mi, .int .i64 yo, .int .i64 he, .int .i64 mu], .bool dn] w fun e w' => e = .returned (.agg #[.int .i64 0, .int .i64 0, .int .i64 0, .int .i64 0, .int .i64 0]) ∧ Below w.heap.size w w' := by
  obtain ⟨bA, bR, B0, z⟩ := two w [.int .i64 st, .int .i64 mi, .int .i64 yo, .int .i64 he, .int .i64 mu] [.int .i64 0, .int .i64 0, .int .i64 0, .int .i64 0, .int .i64 0] 25 25
  clear z
  have f0 := bA.c 0 rfl
  have f1 := bA.c 1 rfl
  have f2 := bA.c 2 rfl
  have f3 := bA.c 3 rfl
  have f4 := bA.c 4 rfl
  go_enter Try.func25, Try.ntmps25
  go_wp2_with fail
  clear f0 f1 f2 f3 f4
  refine (iPu_t _ HP).mono ?_
  rintro e w1 ⟨rfl, hb⟩
  replace bA := bA.keep hb
  replace bR := bR.keep hb
  replace B0 := below_step B0 hb
  clear hb
  have r0 := bR.c 0 rfl
  have s0f := bR.f 0 (x := _) rfl
  have r1 := bR.c 1 rfl
  have s1f := bR.f 1 (x := _) rfl
  have r2 := bR.c 2 rfl
  have s2f := bR.f 2 (x := _) rfl
  have r3 := bR.c 3 rfl
  have s3f := bR.f 3 (x := _) rfl
  have r4 := bR.c 4 rfl
  have s4f := bR.f 4 (x := _) rfl
  go_wp2
  have bR2 := bR.set5L (.int .i64 0) (.int .i64 0) (.int .i64 0) (.int .i64 0) (.int .i64 0)
  have B2 := below_set5L B0 (B := w.heap.size + 1) (by omega) (.int .i64 0) (.int .i64 0) (.int .i64 0) (.int .i64 0) (.int .i64 0)
  clear r0 s0f r1 s1f r2 s2f r3 s3f r4 s4f
  clear bR B0
  obtain ⟨W2, hW2⟩ : ∃ W2, W2 = (((((w1.setCell ⟨w.heap.size + 1, 0, none⟩ (.int .i64 0)).setCell ⟨w.heap.size + 1, 1, none⟩ (.int .i64 0)).setCell ⟨w.heap.size + 1, 2, none⟩ (.int .i64 0)).setCell ⟨w.heap.size + 1, 3, none⟩ (.int .i64 0)).setCell ⟨w.heap.size + 1, 4, none⟩ (.int .i64 0)) := ⟨_, rfl⟩
  rw [← hW2] at bR2 B2 ⊢
  clear hW2
  have r0 := bR2.c 0 rfl
  have r1 := bR2.c 1 rfl
  have r2 := bR2.c 2 rfl
  have r3 := bR2.c 3 rfl
  have r4 := bR2.c 4 rfl
  exact bodyPost_ret (v := .agg #[.int .i64 0, .int .i64 0, .int .i64 0, .int .i64 0, .int .i64 0]) (by simp [results, Try.results25, go_sem, r0, r1, r2, r3, r4]) rfl ⟨rfl, B2⟩
set_option maxHeartbeats 1000000 in
theorem iad_down (st mi yo he mu : Int) (w : World) (HP : Hid (pulB st mi yo he mu = true))  : Calls Try.prog 25 #[.agg #[.int .i64 st, .int .i64 mi, .int .i64 yo, .int .i64 he, .int .i64 mu], .bool true] w fun e w' => e = .returned (.agg #[.int .i64 0, .int .i64 mi, .int .i64 0, .int .i64 0, .int .i64 mu]) ∧ Below w.heap.size w w' := by
  obtain ⟨bA, bR, B0, z⟩ := two w [.int .i64 st, .int .i64 mi, .int .i64 yo, .int .i64 he, .int .i64 mu] [.int .i64 0, .int .i64 0, .int .i64 0, .int .i64 0, .int .i64 0] 25 25
  clear z
  have f0 := bA.c 0 rfl
  have f1 := bA.c 1 rfl
  have f2 := bA.c 2 rfl
  have f3 := bA.c 3 rfl
  have f4 := bA.c 4 rfl
  go_enter Try.func25, Try.ntmps25
  go_wp2_with fail
  clear f0 f1 f2 f3 f4
  refine (iPu_t _ HP).mono ?_
  rintro e w1 ⟨rfl, hb⟩
  replace bA := bA.keep hb
  replace bR := bR.keep hb
  replace B0 := below_step B0 hb
  clear hb
  have f0 := bA.c 0 rfl
  have f1 := bA.c 1 rfl
  have f2 := bA.c 2 rfl
  have f3 := bA.c 3 rfl
  have f4 := bA.c 4 rfl
  go_wp2_with fail
  clear f0 f1 f2 f3 f4
  refine (ires_any _ _ _ _ _ _ _).mono ?_
  rintro e w2 ⟨rfl, hb⟩
  replace bR := bR.keep hb
  replace B0 := below_step B0 hb
  clear hb
  have r0 := bR.c 0 rfl
  have s0f := bR.f 0 (x := _) rfl
  have r1 := bR.c 1 rfl
  have s1f := bR.f 1 (x := _) rfl
  have r2 := bR.c 2 rfl
  have s2f := bR.f 2 (x := _) rfl
  have r3 := bR.c 3 rfl
  have s3f := bR.f 3 (x := _) rfl
  have r4 := bR.c 4 rfl
  have s4f := bR.f 4 (x := _) rfl
  go_wp2
  have bR2 := bR.set5L (.int .i64 0) (.int .i64 mi) (.int .i64 0) (.int .i64 0) (.int .i64 mu)
  have B2 := below_set5L B0 (B := w.heap.size + 1) (by omega) (.int .i64 0) (.int .i64 mi) (.int .i64 0) (.int .i64 0) (.int .i64 mu)
  clear r0 s0f r1 s1f r2 s2f r3 s3f r4 s4f
  clear bR B0
  obtain ⟨W2, hW2⟩ : ∃ W2, W2 = (((((w2.setCell ⟨w.heap.size + 1, 0, none⟩ (.int .i64 0)).setCell ⟨w.heap.size + 1, 1, none⟩ (.int .i64 mi)).setCell ⟨w.heap.size + 1, 2, none⟩ (.int .i64 0)).setCell ⟨w.heap.size + 1, 3, none⟩ (.int .i64 0)).setCell ⟨w.heap.size + 1, 4, none⟩ (.int .i64 mu)) := ⟨_, rfl⟩
  rw [← hW2] at bR2 B2 ⊢
  clear hW2
  have r0 := bR2.c 0 rfl
  have r1 := bR2.c 1 rfl
  have r2 := bR2.c 2 rfl
  have r3 := bR2.c 3 rfl
  have r4 := bR2.c 4 rfl
  exact bodyPost_ret (v := .agg #[.int .i64 0, .int .i64 mi, .int .i64 0, .int .i64 0, .int .i64 mu]) (by simp [results, Try.results25, go_sem, r0, r1, r2, r3, r4]) rfl ⟨rfl, B2⟩
set_option maxHeartbeats 1000000 in
theorem iad_back (st mi yo he mu : Int) (w : World) (HP : Hid (pulB st mi yo he mu = true)) (h : st = 0) : Calls Try.prog 25 #[.agg #[.int .i64 st, .int .i64 mi, .int .i64 yo, .int .i64 he, .int .i64 mu], .bool false] w fun e w' => e = .returned (.agg #[.int .i64 1, .int .i64 mi, .int .i64 0, .int .i64 0, .int .i64 mu]) ∧ Below w.heap.size w w' := by
  obtain ⟨bA, bR, B0, z⟩ := two w [.int .i64 st, .int .i64 mi, .int .i64 yo, .int .i64 he, .int .i64 mu] [.int .i64 0, .int .i64 0, .int .i64 0, .int .i64 0, .int .i64 0] 25 25
  clear z
  have hb0 : (st == 0) = true := by simp [h]
  clear h
  have f0 := bA.c 0 rfl
  have f1 := bA.c 1 rfl
  have f2 := bA.c 2 rfl
  have f3 := bA.c 3 rfl
  have f4 := bA.c 4 rfl
  go_enter Try.func25, Try.ntmps25
  go_wp2_with fail
  clear f0 f1 f2 f3 f4
  refine (iPu_t _ HP).mono ?_
  rintro e w1 ⟨rfl, hb⟩
  replace bA := bA.keep hb
  replace bR := bR.keep hb
  replace B0 := below_step B0 hb
  clear hb
  have f0 := bA.c 0 rfl
  have f1 := bA.c 1 rfl
  have f2 := bA.c 2 rfl
  have f3 := bA.c 3 rfl
  have f4 := bA.c 4 rfl
  go_wp2_with fail
  clear f0 f1 f2 f3 f4
  refine (ires_any _ _ _ _ _ _ _).mono ?_
  rintro e w2 ⟨rfl, hb⟩
  replace bR := bR.keep hb
  replace B0 := below_step B0 hb
  clear hb
  have r0 := bR.c 0 rfl
  have s0f := bR.f 0 (x := _) rfl
  have r1 := bR.c 1 rfl
  have s1f := bR.f 1 (x := _) rfl
  have r2 := bR.c 2 rfl
  have s2f := bR.f 2 (x := _) rfl
  have r3 := bR.c 3 rfl
  have s3f := bR.f 3 (x := _) rfl
  have r4 := bR.c 4 rfl
  have s4f := bR.f 4 (x := _) rfl
  go_wp2
  have bR2 := bR.set5L (.int .i64 1) (.int .i64 mi) (.int .i64 0) (.int .i64 0) (.int .i64 mu)
  have B2 := below_set5L B0 (B := w.heap.size + 1) (by omega) (.int .i64 1) (.int .i64 mi) (.int .i64 0) (.int .i64 0) (.int .i64 mu)
  clear r0 s0f r1 s1f r2 s2f r3 s3f r4 s4f
  clear bR B0
  obtain ⟨W2, hW2⟩ : ∃ W2, W2 = (((((w2.setCell ⟨w.heap.size + 1, 0, none⟩ (.int .i64 1)).setCell ⟨w.heap.size + 1, 1, none⟩ (.int .i64 mi)).setCell ⟨w.heap.size + 1, 2, none⟩ (.int .i64 0)).setCell ⟨w.heap.size + 1, 3, none⟩ (.int .i64 0)).setCell ⟨w.heap.size + 1, 4, none⟩ (.int .i64 mu)) := ⟨_, rfl⟩
  rw [← hW2] at bR2 B2 ⊢
  clear hW2
  have r0 := bR2.c 0 rfl
  have r1 := bR2.c 1 rfl
  have r2 := bR2.c 2 rfl
  have r3 := bR2.c 3 rfl
  have r4 := bR2.c 4 rfl
  exact bodyPost_ret (v := .agg #[.int .i64 1, .int .i64 mi, .int .i64 0, .int .i64 0, .int .i64 mu]) (by simp [results, Try.results25, go_sem, r0, r1, r2, r3, r4]) rfl ⟨rfl, B2⟩
set_option maxHeartbeats 1000000 in
theorem iad_stay (st mi yo he mu : Int) (w : World) (HP : Hid (pulB st mi yo he mu = true)) (h : ¬ st = 0) : Calls Try.prog 25 #[.agg #[.int .i64 st, .int .i64 mi, .int .i64 yo, .int .i64 he, .int .i64 mu], .bool false] w fun e w' => e = .returned (.agg #[.int .i64 st, .int .i64 mi, .int .i64 yo, .int .i64 he, .int .i64 mu]) ∧ Below w.heap.size w w' := by
  obtain ⟨bA, bR, B0, z⟩ := two w [.int .i64 st, .int .i64 mi, .int .i64 yo, .int .i64 he, .int .i64 mu] [.int .i64 0, .int .i64 0, .int .i64 0, .int .i64 0, .int .i64 0] 25 25
  clear z
  have hb0 : (st == 0) = false := by simp [h]
  clear h
  have f0 := bA.c 0 rfl
  have f1 := bA.c 1 rfl
  have f2 := bA.c 2 rfl
  have f3 := bA.c 3 rfl
  have f4 := bA.c 4 rfl
  go_enter Try.func25, Try.ntmps25
  go_wp2_with fail
  clear f0 f1 f2 f3 f4
  refine (iPu_t _ HP).mono ?_
  rintro e w1 ⟨rfl, hb⟩
  replace bA := bA.keep hb
  replace bR := bR.keep hb
  replace B0 := below_step B0 hb
  clear hb
  have f0 := bA.c 0 rfl
  have f1 := bA.c 1 rfl
  have f2 := bA.c 2 rfl
  have f3 := bA.c 3 rfl
  have f4 := bA.c 4 rfl
  have r0 := bR.c 0 rfl
  have s0f := bR.f 0 (x := _) rfl
  have r1 := bR.c 1 rfl
  have s1f := bR.f 1 (x := _) rfl
  have r2 := bR.c 2 rfl
  have s2f := bR.f 2 (x := _) rfl
  have r3 := bR.c 3 rfl
  have s3f := bR.f 3 (x := _) rfl
  have r4 := bR.c 4 rfl
  have s4f := bR.f 4 (x := _) rfl
  go_wp2
  clear f0 f1 f2 f3 f4
  have bR2 := bR.set5L (.int .i64 st) (.int .i64 mi) (.int .i64 yo) (.int .i64 he) (.int .i64 mu)
  have B2 := below_set5L B0 (B := w.heap.size + 1) (by omega) (.int .i64 st) (.int .i64 mi) (.int .i64 yo) (.int .i64 he) (.int .i64 mu)
  clear r0 s0f r1 s1f r2 s2f r3 s3f r4 s4f
  clear bR B0
  obtain ⟨W2, hW2⟩ : ∃ W2, W2 = (((((w1.setCell ⟨w.heap.size + 1, 0, none⟩ (.int .i64 st)).setCell ⟨w.heap.size + 1, 1, none⟩ (.int .i64 mi)).setCell ⟨w.heap.size + 1, 2, none⟩ (.int .i64 yo)).setCell ⟨w.heap.size + 1, 3, none⟩ (.int .i64 he)).setCell ⟨w.heap.size + 1, 4, none⟩ (.int .i64 mu)) := ⟨_, rfl⟩
  rw [← hW2] at bR2 B2 ⊢
  clear hW2
  have r0 := bR2.c 0 rfl
  have r1 := bR2.c 1 rfl
  have r2 := bR2.c 2 rfl
  have r3 := bR2.c 3 rfl
  have r4 := bR2.c 4 rfl
  exact bodyPost_ret (v := .agg #[.int .i64 st, .int .i64 mi, .int .i64 yo, .int .i64 he, .int .i64 mu]) (by simp [results, Try.results25, go_sem, r0, r1, r2, r3, r4]) rfl ⟨rfl, B2⟩
end Go.Proofs.Ytcbiknmkogbjcaa
