/-
  PulseNew, BeatOf, PulseTick, Admin: contracts of the program and of the model. Conditions: those in each contract.
-/
import Derived.Test.YtcbiknmkogbjcaaL1
namespace Go.Proofs.Ytcbiknmkogbjcaa
open Go.ChangeShapes Go.WideShapes Go.ChangeAt Go.RowKit Go.BigFrame Go.Joins
set_option linter.unusedVariables false
set_option maxRecDepth 100000
set_option linter.unusedSimpArgs false

structure Pu where
  a : Int
  b : Int
  c : Int
  d : Int
  e : Int
structure Bt where
  a : Int
  b : Int
  c : Int
def pnF (mi mu : Int) : Pu := if pulB 1 mi 0 0 mu = true then ⟨1, mi, 0, 0, mu⟩ else ⟨0, 0, 0, 0, 0⟩
def boF (st mi yo he mu : Int) : Bt := if pulB st mi yo he mu = true then ⟨st, mi, yo⟩ else ⟨0, 0, 0⟩
def tkF (st mi yo he mu : Int) : Pu := if pulB st mi yo he mu = true then (if st ≤ 1 then ⟨st, mi, yo, he, mu⟩ else if he + 1 < mu then ⟨st, mi, yo, he + 1, mu⟩ else ⟨1, mi, 0, 0, mu⟩) else ⟨0, 0, 0, 0, 0⟩
def tkB (st mi yo he mu : Int) : Bool := decide (pulB st mi yo he mu = true ∧ ¬ st ≤ 1 ∧ ¬ he + 1 < mu ∧ st = 3)
def adF (dn : Bool) (st mi yo he mu : Int) : Pu := if pulB st mi yo he mu = true then (if dn = true then ⟨0, mi, 0, 0, mu⟩ else if st = 0 then ⟨1, mi, 0, 0, mu⟩ else ⟨st, mi, yo, he, mu⟩) else ⟨0, 0, 0, 0, 0⟩
theorem ires_any (st mi yo he mu s : Int) (w : World) : Calls Try.prog 39 #[.agg #[.int .i64 st, .int .i64 mi, .int .i64 yo, .int .i64 he, .int .i64 mu], .int .i64 s] w fun e w' => e = .returned (.agg #[.int .i64 s, .int .i64 mi, .int .i64 0, .int .i64 0, .int .i64 mu]) ∧ Below w.heap.size w w' := by
  go_enter Try.func39, Try.ntmps39
  go_wp2
  exact bodyPost_ret (v := .agg #[.int .i64 s, .int .i64 mi, .int .i64 0, .int .i64 0, .int .i64 mu]) (by simp [results, Try.results39, go_sem]) rfl ⟨rfl, by first | exact (Below.refl _ _).alloc (Nat.le_refl _) _ | exact ((Below.refl _ _).alloc (Nat.le_refl _) _).alloc (by simp) _⟩
theorem Bl.set3L {w : World} {B : Nat} {x0 x1 x2 : Value} (h : Bl w B [x0, x1, x2]) (y0 y1 y2 : Value) : Bl (((w.setCell ⟨B, 0, none⟩ (y0)).setCell ⟨B, 1, none⟩ (y1)).setCell ⟨B, 2, none⟩ (y2)) B [y0, y1, y2] := by
  have h := (((h.set 0 y0).set 1 y1).set 2 y2)
  simpa only [List.set_cons_zero, List.set_cons_succ] using h
theorem below_set3L {w w1 : World} {b B : Nat} (h : Below b w w1) (hB : b ≤ B) (y0 y1 y2 : Value) : Below b w (((w1.setCell ⟨B, 0, none⟩ (y0)).setCell ⟨B, 1, none⟩ (y1)).setCell ⟨B, 2, none⟩ (y2)) :=
  (((h.setCell (p := ⟨B, 0, none⟩) hB y0).setCell (p := ⟨B, 1, none⟩) hB y1).setCell (p := ⟨B, 2, none⟩) hB y2)
theorem Bl.set5L {w : World} {B : Nat} {x0 x1 x2 x3 x4 : Value} (h : Bl w B [x0, x1, x2, x3, x4]) (y0 y1 y2 y3 y4 : Value) : Bl (((((w.setCell ⟨B, 0, none⟩ (y0)).setCell ⟨B, 1, none⟩ (y1)).setCell ⟨B, 2, none⟩ (y2)).setCell ⟨B, 3, none⟩ (y3)).setCell ⟨B, 4, none⟩ (y4)) B [y0, y1, y2, y3, y4] := by
  have h := (((((h.set 0 y0).set 1 y1).set 2 y2).set 3 y3).set 4 y4)
  simpa only [List.set_cons_zero, List.set_cons_succ] using h
theorem below_set5L {w w1 : World} {b B : Nat} (h : Below b w w1) (hB : b ≤ B) (y0 y1 y2 y3 y4 : Value) : Below b w (((((w1.setCell ⟨B, 0, none⟩ (y0)).setCell ⟨B, 1, none⟩ (y1)).setCell ⟨B, 2, none⟩ (y2)).setCell ⟨B, 3, none⟩ (y3)).setCell ⟨B, 4, none⟩ (y4)) :=
  (((((h.setCell (p := ⟨B, 0, none⟩) hB y0).setCell (p := ⟨B, 1, none⟩) hB y1).setCell (p := ⟨B, 2, none⟩) hB y2).setCell (p := ⟨B, 3, none⟩) hB y3).setCell (p := ⟨B, 4, none⟩) hB y4)
set_option maxHeartbeats 1000000 in
theorem sdown_any (st mi yo he mu : Int) (w : World)  : Calls Try.prog 40 #[.agg #[.int .i64 st, .int .i64 mi, .int .i64 yo, .int .i64 he, .int .i64 mu]] w fun e w' => e = .returned (.agg #[.int .i64 1, .int .i64 mi, .int .i64 0, .int .i64 0, .int .i64 mu]) ∧ Below w.heap.size w w' := by
  go_enter Try.func40, Try.ntmps40
  go_wp2
  exact bodyPost_ret (v := .agg #[.int .i64 1, .int .i64 mi, .int .i64 0, .int .i64 0, .int .i64 mu]) (by simp [results, Try.results40, go_sem]) rfl ⟨rfl, (by repeat' (first | exact Below.refl _ _ | (refine Below.setCell ?_ (by simp <;> omega) _) | (refine Below.alloc ?_ (by simp <;> omega) _) | (refine Below.drew ?_)))⟩
set_option maxHeartbeats 1000000 in
theorem sbeat_any (st mi yo he mu : Int) (w : World)  : Calls Try.prog 37 #[.agg #[.int .i64 st, .int .i64 mi, .int .i64 yo, .int .i64 he, .int .i64 mu]] w fun e w' => e = .returned (.agg #[.int .i64 st, .int .i64 mi, .int .i64 yo]) ∧ Below w.heap.size w w' := by
  go_enter Try.func37, Try.ntmps37
  go_wp2
  exact bodyPost_ret (v := .agg #[.int .i64 st, .int .i64 mi, .int .i64 yo]) (by simp [results, Try.results37, go_sem]) rfl ⟨rfl, (by repeat' (first | exact Below.refl _ _ | (refine Below.setCell ?_ (by simp <;> omega) _) | (refine Below.alloc ?_ (by simp <;> omega) _) | (refine Below.drew ?_)))⟩
def tk0F (st mi yo he mu : Int) : Pu := if st ≤ 1 then ⟨st, mi, yo, he, mu⟩ else if he + 1 < mu then ⟨st, mi, yo, he + 1, mu⟩ else ⟨1, mi, 0, 0, mu⟩
def tk0B (st mi yo he mu : Int) : Bool := decide (¬ st ≤ 1 ∧ ¬ he + 1 < mu ∧ st = 3)
set_option maxHeartbeats 1000000 in
theorem l5t_low (st mi yo he mu : Int) (w : World) (h : st ≤ 1) : Calls Try.prog 38 #[.agg #[.int .i64 st, .int .i64 mi, .int .i64 yo, .int .i64 he, .int .i64 mu]] w fun e w' => e = .returned (.tuple #[.agg #[.int .i64 st, .int .i64 mi, .int .i64 yo, .int .i64 he, .int .i64 mu], .bool false]) ∧ Below w.heap.size w w' := by
  go_enter Try.func38, Try.ntmps38
  go_wp2
  exact bodyPost_ret (v := .tuple #[.agg #[.int .i64 st, .int .i64 mi, .int .i64 yo, .int .i64 he, .int .i64 mu], .bool false]) (by simp [results, Try.results38, go_sem]) rfl ⟨rfl, (by repeat' (first | exact Below.refl _ _ | (refine Below.setCell ?_ (by simp <;> omega) _) | (refine Below.alloc ?_ (by simp <;> omega) _) | (refine Below.drew ?_)))⟩
set_option maxHeartbeats 1000000 in
theorem l5t_on (st mi yo he mu : Int) (w : World) (h : ¬ st ≤ 1) (h0 : 0 ≤ he ∧ he < 256) (h1 : he + 1 < mu) : Calls Try.prog 38 #[.agg #[.int .i64 st, .int .i64 mi, .int .i64 yo, .int .i64 he, .int .i64 mu]] w fun e w' => e = .returned (.tuple #[.agg #[.int .i64 st, .int .i64 mi, .int .i64 yo, .int .i64 (he + 1), .int .i64 mu], .bool false]) ∧ Below w.heap.size w w' := by
  have hw : IntKind.i64.wrap (he + 1) = he + 1 := wrap64_in _ (by omega) (by omega)
  go_enter Try.func38, Try.ntmps38
  go_wp2
  exact bodyPost_ret (v := .tuple #[.agg #[.int .i64 st, .int .i64 mi, .int .i64 yo, .int .i64 (he + 1), .int .i64 mu], .bool false]) (by simp [results, Try.results38, go_sem]) rfl ⟨rfl, (by repeat' (first | exact Below.refl _ _ | (refine Below.setCell ?_ (by simp <;> omega) _) | (refine Below.alloc ?_ (by simp <;> omega) _) | (refine Below.drew ?_)))⟩
set_option maxHeartbeats 1000000 in
theorem l5t_up (st mi yo he mu : Int) (w : World) (h : ¬ st ≤ 1) (h0 : 0 ≤ he ∧ he < 256) (h1 : ¬ he + 1 < mu) (h3 : st = 3) : Calls Try.prog 38 #[.agg #[.int .i64 st, .int .i64 mi, .int .i64 yo, .int .i64 he, .int .i64 mu]] w fun e w' => e = .returned (.tuple #[.agg #[.int .i64 1, .int .i64 mi, .int .i64 0, .int .i64 0, .int .i64 mu], .bool true]) ∧ Below w.heap.size w w' := by
  have hw : IntKind.i64.wrap (he + 1) = he + 1 := wrap64_in _ (by omega) (by omega)
  have h3b : (st == 3) = true := by simp [h3]
  have h1b : mu ≤ he + 1 := by omega
  clear h3 h0
  obtain ⟨bA, bR, B0, hz⟩ := two w [.int .i64 st, .int .i64 mi, .int .i64 yo, .int .i64 (he + 1), .int .i64 mu] [.int .i64 0, .int .i64 0, .int .i64 0, .int .i64 0, .int .i64 0] 25 25
  go_enter Try.func38, Try.ntmps38
  go_wp2_with fail
  obtain ⟨V, eV⟩ : ∃ V, V = (w.alloc (.cells #[.int .i64 st, .int .i64 mi, .int .i64 yo, .int .i64 (he + 1), .int .i64 mu] 25)).alloc (.cells #[.int .i64 0, .int .i64 0, .int .i64 0, .int .i64 0, .int .i64 0] 25) := ⟨_, rfl⟩
  rw [← eV] at bA bR B0 hz ⊢
  clear eV
  have hne : w.heap.size ≠ w.heap.size + 1 := by omega
  refine wp_region_held_drew (S := fun w' => Bl w' (w.heap.size) [.int .i64 st, .int .i64 mi, .int .i64 yo, .int .i64 (he + 1), .int .i64 mu]) (by kernel_rfl) (bA.keep (over_drew V)) (fun hHeld => ?_)
  refine wpAnyH_take (i := 0) (v := ?_) rfl (by kernel_rfl) (by kernel_rfl) (by kernel_rfl) (fun _ _ _ h => h) (Or.inl ⟨by rfl, ?_⟩) (by assumption) ?_
  rotate_left
  · intro wq hSq
    (try dsimp only at hSq)
    have q0 := hSq.c 0 rfl
    have q1 := hSq.c 1 rfl
    have q2 := hSq.c 2 rfl
    have q3 := hSq.c 3 rfl
    have q4 := hSq.c 4 rfl
    go_simp
    try rfl
  change wpAnyH _ _ _ _ _ _ _ (Act.put _ (some 17) _) _
  simp only [Act.put, List.setIfInBounds_toArray, List.set_cons_succ, List.set_cons_zero]
  refine wpAnyH_take (i := 2) (v := ?_) rfl (by kernel_rfl) (by kernel_rfl) (by kernel_rfl) (fun _ _ _ h => h) (Or.inl ⟨by rfl, ?_⟩) (by assumption) ?_
  rotate_left
  · intro wq hSq
    (try dsimp only at hSq)

    go_simp
    try rfl
  change wpAnyH _ _ _ _ _ _ _ (Act.put _ (some 19) _) _
  simp only [Act.put, List.setIfInBounds_toArray, List.set_cons_succ, List.set_cons_zero]
  refine wpAnyH_take (i := 3) (v := ?_) rfl (by kernel_rfl) (by kernel_rfl) (by kernel_rfl) (fun _ _ _ h => h) (Or.inl ⟨by rfl, ?_⟩) (by assumption) ?_
  rotate_left
  · intro wq hSq
    (try dsimp only at hSq)
    have q0 := hSq.c 0 rfl
    go_simp
    try rfl
  change wpAnyH _ _ _ _ _ _ _ (Act.put _ (some 20) _) _
  simp only [Act.put, List.setIfInBounds_toArray, List.set_cons_succ, List.set_cons_zero]
  refine wpAnyH_take (i := 4) (v := ?_) rfl (by kernel_rfl) (by kernel_rfl) (by kernel_rfl) (fun _ _ _ h => h) (Or.inl ⟨by rfl, ?_⟩) (by assumption) ?_
  rotate_left
  · intro wq hSq
    (try dsimp only at hSq)

    go_simp
    try rfl
  change wpAnyH _ _ _ _ _ _ _ (Act.put _ (some 21) _) _
  simp only [Act.put, List.setIfInBounds_toArray, List.set_cons_succ, List.set_cons_zero]
  refine wpAnyH_ready (rs := [1]) (by kernel_rfl) (by simp) ?_
  refine (AllReadyH.cons rfl (fun K hK => ?_) AllReadyH.nil)
  go_simp
  refine (sdown_any _ _ _ _ _ _).mono ?_
  rintro e wz ⟨rfl, hb⟩
  have O1 : Over V wz := over_step (over_drew _) hb
  replace bA := bA.keep O1
  replace bR := bR.keep O1
  replace B0 := below_step B0 O1
  clear hb
  refine hK.out _ _ bA (fun _ => ?_)
  clear hK K
  try simp only [Act.put, List.setIfInBounds_toArray, List.set_cons_zero, List.set_cons_succ]
  have r0 := bR.c 0 rfl
  have s0f := bR.f 0 (x := _) rfl
  have r1 := bR.c 1 rfl
  have s1f := bR.f 1 (x := _) rfl
  have r2 := bR.c 2 rfl
  have s2f := bR.f 2 (x := _) rfl
  have r3 := bR.c 3 rfl
  have s3f := bR.f 3 (x := _) rfl
  have r4 := bR.c 4 rfl
  have s4f := bR.f 4 (x := _) rfl
  refine wpAnyH_ready (rs := [5]) (by kernel_rfl) (by simp) ?_
  refine (AllReadyH.cons rfl (fun K hK => ?_) AllReadyH.nil)
  go_simp
  refine hK.out _ _ (((((bA.far (o := 0) (u := .int .i64 1) hne).far (o := 1) (u := .int .i64 mi) hne).far (o := 2) (u := .int .i64 0) hne).far (o := 3) (u := .int .i64 0) hne).far (o := 4) (u := .int .i64 mu) hne) (fun _ => ?_)
  clear hK K
  try simp only [Act.put, List.setIfInBounds_toArray, List.set_cons_zero, List.set_cons_succ]
  refine wpAnyH_ready (rs := [6]) (by kernel_rfl) (by simp) ?_
  refine (AllReadyH.cons rfl (fun K hK => ?_) AllReadyH.nil)
  go_simp
  refine hK.out _ _ (((((bA.far (o := 0) (u := .int .i64 1) hne).far (o := 1) (u := .int .i64 mi) hne).far (o := 2) (u := .int .i64 0) hne).far (o := 3) (u := .int .i64 0) hne).far (o := 4) (u := .int .i64 mu) hne) (fun _ => ?_)
  clear hK K
  try simp only [Act.put, List.setIfInBounds_toArray, List.set_cons_zero, List.set_cons_succ]
  refine wpAnyH_done (by kernel_rfl) ?_ _
  have bR2 := bR.set5L (.int .i64 1) (.int .i64 mi) (.int .i64 0) (.int .i64 0) (.int .i64 mu)
  have B2 := below_set5L B0 (B := w.heap.size + 1) (by omega) (.int .i64 1) (.int .i64 mi) (.int .i64 0) (.int .i64 0) (.int .i64 mu)
  clear r0 s0f r1 s1f r2 s2f r3 s3f r4 s4f
  go_wp2
  obtain ⟨W2, hW2⟩ : ∃ W2, W2 = (((((wz.setCell ⟨w.heap.size + 1, 0, none⟩ (.int .i64 1)).setCell ⟨w.heap.size + 1, 1, none⟩ (.int .i64 mi)).setCell ⟨w.heap.size + 1, 2, none⟩ (.int .i64 0)).setCell ⟨w.heap.size + 1, 3, none⟩ (.int .i64 0)).setCell ⟨w.heap.size + 1, 4, none⟩ (.int .i64 mu)) := ⟨_, rfl⟩
  rw [← hW2] at bR2 B2 ⊢
  clear hW2
  have r0 := bR2.c 0 rfl
  have r1 := bR2.c 1 rfl
  have r2 := bR2.c 2 rfl
  have r3 := bR2.c 3 rfl
  have r4 := bR2.c 4 rfl
  exact bodyPost_ret (v := .tuple #[.agg #[.int .i64 1, .int .i64 mi, .int .i64 0, .int .i64 0, .int .i64 mu], .bool true]) (by simp [results, Try.results38, go_sem, r0, r1, r2, r3, r4]) rfl ⟨rfl, B2⟩
set_option maxHeartbeats 1000000 in
theorem l5t_fall (st mi yo he mu : Int) (w : World) (h : ¬ st ≤ 1) (h0 : 0 ≤ he ∧ he < 256) (h1 : ¬ he + 1 < mu) (h3 : ¬ st = 3) : Calls Try.prog 38 #[.agg #[.int .i64 st, .int .i64 mi, .int .i64 yo, .int .i64 he, .int .i64 mu]] w fun e w' => e = .returned (.tuple #[.agg #[.int .i64 1, .int .i64 mi, .int .i64 0, .int .i64 0, .int .i64 mu], .bool false]) ∧ Below w.heap.size w w' := by
  have hw : IntKind.i64.wrap (he + 1) = he + 1 := wrap64_in _ (by omega) (by omega)
  have h3b : (st == 3) = false := by simp [h3]
  have h1b : mu ≤ he + 1 := by omega
  clear h3 h0
  obtain ⟨bA, bR, B0, hz⟩ := two w [.int .i64 st, .int .i64 mi, .int .i64 yo, .int .i64 (he + 1), .int .i64 mu] [.int .i64 0, .int .i64 0, .int .i64 0, .int .i64 0, .int .i64 0] 25 25
  go_enter Try.func38, Try.ntmps38
  go_wp2_with fail
  obtain ⟨V, eV⟩ : ∃ V, V = (w.alloc (.cells #[.int .i64 st, .int .i64 mi, .int .i64 yo, .int .i64 (he + 1), .int .i64 mu] 25)).alloc (.cells #[.int .i64 0, .int .i64 0, .int .i64 0, .int .i64 0, .int .i64 0] 25) := ⟨_, rfl⟩
  rw [← eV] at bA bR B0 hz ⊢
  clear eV
  have hne : w.heap.size ≠ w.heap.size + 1 := by omega
  refine wp_region_held_drew (S := fun w' => Bl w' (w.heap.size) [.int .i64 st, .int .i64 mi, .int .i64 yo, .int .i64 (he + 1), .int .i64 mu]) (by kernel_rfl) (bA.keep (over_drew V)) (fun hHeld => ?_)
  refine wpAnyH_take (i := 0) (v := ?_) rfl (by kernel_rfl) (by kernel_rfl) (by kernel_rfl) (fun _ _ _ h => h) (Or.inl ⟨by rfl, ?_⟩) (by assumption) ?_
  rotate_left
  · intro wq hSq
    (try dsimp only at hSq)
    have q0 := hSq.c 0 rfl
    have q1 := hSq.c 1 rfl
    have q2 := hSq.c 2 rfl
    have q3 := hSq.c 3 rfl
    have q4 := hSq.c 4 rfl
    go_simp
    try rfl
  change wpAnyH _ _ _ _ _ _ _ (Act.put _ (some 17) _) _
  simp only [Act.put, List.setIfInBounds_toArray, List.set_cons_succ, List.set_cons_zero]
  refine wpAnyH_take (i := 2) (v := ?_) rfl (by kernel_rfl) (by kernel_rfl) (by kernel_rfl) (fun _ _ _ h => h) (Or.inl ⟨by rfl, ?_⟩) (by assumption) ?_
  rotate_left
  · intro wq hSq
    (try dsimp only at hSq)

    go_simp
    try rfl
  change wpAnyH _ _ _ _ _ _ _ (Act.put _ (some 19) _) _
  simp only [Act.put, List.setIfInBounds_toArray, List.set_cons_succ, List.set_cons_zero]
  refine wpAnyH_take (i := 3) (v := ?_) rfl (by kernel_rfl) (by kernel_rfl) (by kernel_rfl) (fun _ _ _ h => h) (Or.inl ⟨by rfl, ?_⟩) (by assumption) ?_
  rotate_left
  · intro wq hSq
    (try dsimp only at hSq)
    have q0 := hSq.c 0 rfl
    go_simp
    try rfl
  change wpAnyH _ _ _ _ _ _ _ (Act.put _ (some 20) _) _
  simp only [Act.put, List.setIfInBounds_toArray, List.set_cons_succ, List.set_cons_zero]
  refine wpAnyH_take (i := 4) (v := ?_) rfl (by kernel_rfl) (by kernel_rfl) (by kernel_rfl) (fun _ _ _ h => h) (Or.inl ⟨by rfl, ?_⟩) (by assumption) ?_
  rotate_left
  · intro wq hSq
    (try dsimp only at hSq)

    go_simp
    try rfl
  change wpAnyH _ _ _ _ _ _ _ (Act.put _ (some 21) _) _
  simp only [Act.put, List.setIfInBounds_toArray, List.set_cons_succ, List.set_cons_zero]
  refine wpAnyH_ready (rs := [1]) (by kernel_rfl) (by simp) ?_
  refine (AllReadyH.cons rfl (fun K hK => ?_) AllReadyH.nil)
  go_simp
  refine (sdown_any _ _ _ _ _ _).mono ?_
  rintro e wz ⟨rfl, hb⟩
  have O1 : Over V wz := over_step (over_drew _) hb
  replace bA := bA.keep O1
  replace bR := bR.keep O1
  replace B0 := below_step B0 O1
  clear hb
  refine hK.out _ _ bA (fun _ => ?_)
  clear hK K
  try simp only [Act.put, List.setIfInBounds_toArray, List.set_cons_zero, List.set_cons_succ]
  have r0 := bR.c 0 rfl
  have s0f := bR.f 0 (x := _) rfl
  have r1 := bR.c 1 rfl
  have s1f := bR.f 1 (x := _) rfl
  have r2 := bR.c 2 rfl
  have s2f := bR.f 2 (x := _) rfl
  have r3 := bR.c 3 rfl
  have s3f := bR.f 3 (x := _) rfl
  have r4 := bR.c 4 rfl
  have s4f := bR.f 4 (x := _) rfl
  refine wpAnyH_ready (rs := [5]) (by kernel_rfl) (by simp) ?_
  refine (AllReadyH.cons rfl (fun K hK => ?_) AllReadyH.nil)
  go_simp
  refine hK.out _ _ (((((bA.far (o := 0) (u := .int .i64 1) hne).far (o := 1) (u := .int .i64 mi) hne).far (o := 2) (u := .int .i64 0) hne).far (o := 3) (u := .int .i64 0) hne).far (o := 4) (u := .int .i64 mu) hne) (fun _ => ?_)
  clear hK K
  try simp only [Act.put, List.setIfInBounds_toArray, List.set_cons_zero, List.set_cons_succ]
  refine wpAnyH_ready (rs := [6]) (by kernel_rfl) (by simp) ?_
  refine (AllReadyH.cons rfl (fun K hK => ?_) AllReadyH.nil)
  go_simp
  refine hK.out _ _ (((((bA.far (o := 0) (u := .int .i64 1) hne).far (o := 1) (u := .int .i64 mi) hne).far (o := 2) (u := .int .i64 0) hne).far (o := 3) (u := .int .i64 0) hne).far (o := 4) (u := .int .i64 mu) hne) (fun _ => ?_)
  clear hK K
  try simp only [Act.put, List.setIfInBounds_toArray, List.set_cons_zero, List.set_cons_succ]
  refine wpAnyH_done (by kernel_rfl) ?_ _
  have bR2 := bR.set5L (.int .i64 1) (.int .i64 mi) (.int .i64 0) (.int .i64 0) (.int .i64 mu)
  have B2 := below_set5L B0 (B := w.heap.size + 1) (by omega) (.int .i64 1) (.int .i64 mi) (.int .i64 0) (.int .i64 0) (.int .i64 mu)
  clear r0 s0f r1 s1f r2 s2f r3 s3f r4 s4f
  go_wp2
  obtain ⟨W2, hW2⟩ : ∃ W2, W2 = (((((wz.setCell ⟨w.heap.size + 1, 0, none⟩ (.int .i64 1)).setCell ⟨w.heap.size + 1, 1, none⟩ (.int .i64 mi)).setCell ⟨w.heap.size + 1, 2, none⟩ (.int .i64 0)).setCell ⟨w.heap.size + 1, 3, none⟩ (.int .i64 0)).setCell ⟨w.heap.size + 1, 4, none⟩ (.int .i64 mu)) := ⟨_, rfl⟩
  rw [← hW2] at bR2 B2 ⊢
  clear hW2
  have r0 := bR2.c 0 rfl
  have r1 := bR2.c 1 rfl
  have r2 := bR2.c 2 rfl
  have r3 := bR2.c 3 rfl
  have r4 := bR2.c 4 rfl
  exact bodyPost_ret (v := .tuple #[.agg #[.int .i64 1, .int .i64 mi, .int .i64 0, .int .i64 0, .int .i64 mu], .bool false]) (by simp [results, Try.results38, go_sem, r0, r1, r2, r3, r4]) rfl ⟨rfl, B2⟩
end Go.Proofs.Ytcbiknmkogbjcaa
