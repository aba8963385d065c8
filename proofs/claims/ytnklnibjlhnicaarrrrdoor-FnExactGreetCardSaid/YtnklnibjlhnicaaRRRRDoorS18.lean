/-
  The model's answer to a message. Conditions: those in each contract.
-/
import Derived.Test.YtnklnibjlhnicaaRRRRDoorS17
namespace Go.Proofs.YtnklnibjlhnicaaRRRRDoor
open Go.ChangeShapes Go.WideShapes Go.ChangeAt Go.RowKit Go.BigFrame Go.Joins
set_option linter.unusedVariables false
set_option maxRecDepth 100000
set_option linter.unusedSimpArgs false

set_option maxHeartbeats 1000000 in
theorem smes_low (xa xi xh xp s0 s1 s2 s3 s4 : Int) (ga ca pa ma : Option Addr) (gx cx px mx : Nat) (gs cs : List (Int × Int)) (ps ms : List Int) (kn sa ho ix pr bw er : Int) (w : World) (h : ¬ 2 ≤ s0) : Calls Tryd.prog 22 #[.agg #[.int .i64 xa, .int .i64 xi, .int .i64 xh, .int .i64 xp], .agg #[.int .i64 s0, .int .i64 s1, .int .i64 s2, .int .i64 s3, .int .i64 s4], .agg #[.int .i64 kn, .int .i64 sa, .int .i64 ho, .int .i64 ix, .slice ga gs.length gx, .slice ca cs.length cx, .slice pa ps.length px, .int .i64 pr, .slice ma ms.length mx, .int .i64 bw, .int .i64 er]] w (StR ⟨s0, s1, s2, s3, s4, []⟩ w) := by
  have h2 : s0 < 2 := by omega
  clear h
  go_enter Tryd.func22, Tryd.ntmps22
  go_wp2
  exact bodyPost_ret (v := .tuple #[.agg #[.int .i64 s0, .int .i64 s1, .int .i64 s2, .int .i64 s3, .int .i64 s4], .slice none 0 0]) (by simp [results, Tryd.results22, go_sem]) rfl ⟨_, rfl, OwnG.nil _ _, (by repeat' (first | exact Below.refl _ _ | (refine Below.setCell ?_ (by simp <;> omega) _) | (refine Below.alloc ?_ (by simp <;> omega) _) | (refine Below.drew ?_)))⟩
set_option maxHeartbeats 1000000 in
theorem smes_gone (xa xi xh xp s0 s1 s2 s3 s4 : Int) (ga ca pa ma : Option Addr) (gx cx px mx : Nat) (gs cs : List (Int × Int)) (ps ms : List Int) (kn sa ho ix pr bw er : Int) (w : World) (h : 2 ≤ s0) (h3 : kn = 3) : Calls Tryd.prog 22 #[.agg #[.int .i64 xa, .int .i64 xi, .int .i64 xh, .int .i64 xp], .agg #[.int .i64 s0, .int .i64 s1, .int .i64 s2, .int .i64 s3, .int .i64 s4], .agg #[.int .i64 kn, .int .i64 sa, .int .i64 ho, .int .i64 ix, .slice ga gs.length gx, .slice ca cs.length cx, .slice pa ps.length px, .int .i64 pr, .slice ma ms.length mx, .int .i64 bw, .int .i64 er]] w (StR ⟨0, 0, 0, 0, 0, []⟩ w) := by
  subst h3
  go_enter Tryd.func22, Tryd.ntmps22
  go_wp2
  exact bodyPost_ret (v := .tuple #[.agg #[.int .i64 0, .int .i64 0, .int .i64 0, .int .i64 0, .int .i64 0], .slice none 0 0]) (by simp [results, Tryd.results22, go_sem]) rfl ⟨_, rfl, OwnG.nil _ _, (by repeat' (first | exact Below.refl _ _ | (refine Below.setCell ?_ (by simp <;> omega) _) | (refine Below.alloc ?_ (by simp <;> omega) _) | (refine Below.drew ?_)))⟩
set_option maxHeartbeats 1000000 in
theorem smes_2_no (xa xi xh xp s1 s2 s3 s4 : Int) (ga ca pa ma : Option Addr) (gx cx px mx : Nat) (gs cs : List (Int × Int)) (ps ms : List Int) (kn sa ho ix pr bw er : Int) (w : World) (hn3 : ¬ kn = 3) (hn1 : ¬ kn = 1) : Calls Tryd.prog 22 #[.agg #[.int .i64 xa, .int .i64 xi, .int .i64 xh, .int .i64 xp], .agg #[.int .i64 2, .int .i64 s1, .int .i64 s2, .int .i64 s3, .int .i64 s4], .agg #[.int .i64 kn, .int .i64 sa, .int .i64 ho, .int .i64 ix, .slice ga gs.length gx, .slice ca cs.length cx, .slice pa ps.length px, .int .i64 pr, .slice ma ms.length mx, .int .i64 bw, .int .i64 er]] w (StR ⟨0, 0, 0, 0, 0, [⟨3, 0, 0, 0, 5⟩]⟩ w) := by
  have hk3 : (kn == 3) = false := by simp [hn3]
  have hk1 : (kn == 1) = false := by simp [hn1]
  clear hn3 hn1
  have bR : Bl ((((w.alloc (.cells #[.int .i64 xa, .int .i64 xi, .int .i64 xh, .int .i64 xp] 28)).alloc (.cells #[.int .i64 2, .int .i64 s1, .int .i64 s2, .int .i64 s3, .int .i64 s4] 25)).alloc (.cells #[.int .i64 kn, .int .i64 sa, .int .i64 ho, .int .i64 ix, .slice ga gs.length gx, .slice ca cs.length cx, .slice pa ps.length px, .int .i64 pr, .slice ma ms.length mx, .int .i64 bw, .int .i64 er] 46)).alloc (.cells #[.int .i64 0, .int .i64 0, .int .i64 0, .int .i64 0, .int .i64 0] 25)) (w.heap.size + 1 + 1 + 1) [.int .i64 0, .int .i64 0, .int .i64 0, .int .i64 0, .int .i64 0] := Bl.new (((w.alloc (.cells #[.int .i64 xa, .int .i64 xi, .int .i64 xh, .int .i64 xp] 28)).alloc (.cells #[.int .i64 2, .int .i64 s1, .int .i64 s2, .int .i64 s3, .int .i64 s4] 25)).alloc (.cells #[.int .i64 kn, .int .i64 sa, .int .i64 ho, .int .i64 ix, .slice ga gs.length gx, .slice ca cs.length cx, .slice pa ps.length px, .int .i64 pr, .slice ma ms.length mx, .int .i64 bw, .int .i64 er] 46)) [.int .i64 0, .int .i64 0, .int .i64 0, .int .i64 0, .int .i64 0] 25 (w.heap.size + 1 + 1 + 1) (by simp)
  have B0 : Below w.heap.size w ((((w.alloc (.cells #[.int .i64 xa, .int .i64 xi, .int .i64 xh, .int .i64 xp] 28)).alloc (.cells #[.int .i64 2, .int .i64 s1, .int .i64 s2, .int .i64 s3, .int .i64 s4] 25)).alloc (.cells #[.int .i64 kn, .int .i64 sa, .int .i64 ho, .int .i64 ix, .slice ga gs.length gx, .slice ca cs.length cx, .slice pa ps.length px, .int .i64 pr, .slice ma ms.length mx, .int .i64 bw, .int .i64 er] 46)).alloc (.cells #[.int .i64 0, .int .i64 0, .int .i64 0, .int .i64 0, .int .i64 0] 25)) := (by repeat' (first | exact Below.refl _ _ | (refine Below.setCell ?_ (by simp <;> omega) _) | (refine Below.alloc ?_ (by simp <;> omega) _) | (refine Below.drew ?_)))
  have hz : ((((w.alloc (.cells #[.int .i64 xa, .int .i64 xi, .int .i64 xh, .int .i64 xp] 28)).alloc (.cells #[.int .i64 2, .int .i64 s1, .int .i64 s2, .int .i64 s3, .int .i64 s4] 25)).alloc (.cells #[.int .i64 kn, .int .i64 sa, .int .i64 ho, .int .i64 ix, .slice ga gs.length gx, .slice ca cs.length cx, .slice pa ps.length px, .int .i64 pr, .slice ma ms.length mx, .int .i64 bw, .int .i64 er] 46)).alloc (.cells #[.int .i64 0, .int .i64 0, .int .i64 0, .int .i64 0, .int .i64 0] 25)).heap.size = w.heap.size + 1 + 1 + 1 + 1 := by simp
  go_enter Tryd.func22, Tryd.ntmps22
  go_wp2_with fail
  refine (sfall_high 2 s1 s2 s3 s4 5 _ (by decide) (by decide)).mono ?_
  rintro e w1 ⟨v, rfl, ho, hb⟩
  rw [hz] at ho
  replace bR := bR.keep hb
  replace B0 := below_step B0 hb
  clear hb hz
  have r0 := bR.c 0 rfl
  have s0f := bR.f 0 (x := _) rfl
  have r1 := bR.c 1 rfl
  have s1f := bR.f 1 (x := _) rfl
  have r2 := bR.c 2 rfl
  have s2f := bR.f 2 (x := _) rfl
  have r3 := bR.c 3 rfl
  have s3f := bR.f 3 (x := _) rfl
  have r4 := bR.c 4 rfl
  have s4f := bR.f 4 (x := _) rfl
  go_wp2
  have bR2 := bR.set5 (.int .i64 0) (.int .i64 0) (.int .i64 0) (.int .i64 0) (.int .i64 0)
  have B2 := below_set5 B0 (B := w.heap.size + 1 + 1 + 1) (by omega) (.int .i64 0) (.int .i64 0) (.int .i64 0) (.int .i64 0) (.int .i64 0)
  have ho2 := (ho.far5 (B := w.heap.size + 1 + 1 + 1) (by omega) (.int .i64 0) (.int .i64 0) (.int .i64 0) (.int .i64 0) (.int .i64 0)).mono (base' := w.heap.size) (by omega)
  clear r0 s0f r1 s1f r2 s2f r3 s3f r4 s4f bR B0 ho
  obtain ⟨W2, hW2⟩ : ∃ W2, W2 = (((((w1.setCell ⟨w.heap.size + 1 + 1 + 1, 0, none⟩ (.int .i64 0)).setCell ⟨w.heap.size + 1 + 1 + 1, 1, none⟩ (.int .i64 0)).setCell ⟨w.heap.size + 1 + 1 + 1, 2, none⟩ (.int .i64 0)).setCell ⟨w.heap.size + 1 + 1 + 1, 3, none⟩ (.int .i64 0)).setCell ⟨w.heap.size + 1 + 1 + 1, 4, none⟩ (.int .i64 0)) := ⟨_, rfl⟩
  rw [← hW2] at bR2 B2 ho2 ⊢
  clear hW2
  have r0 := bR2.c 0 rfl
  have r1 := bR2.c 1 rfl
  have r2 := bR2.c 2 rfl
  have r3 := bR2.c 3 rfl
  have r4 := bR2.c 4 rfl
  exact bodyPost_ret (v := .tuple #[.agg #[.int .i64 0, .int .i64 0, .int .i64 0, .int .i64 0, .int .i64 0], v]) (by simp [results, Tryd.results22, go_sem, r0, r1, r2, r3, r4]) rfl ⟨v, rfl, ho2, B2⟩
set_option maxHeartbeats 1000000 in
theorem smes_3_no (xa xi xh xp s1 s2 s3 s4 : Int) (ga ca pa ma : Option Addr) (gx cx px mx : Nat) (gs cs : List (Int × Int)) (ps ms : List Int) (kn sa ho ix pr bw er : Int) (w : World) (hn3 : ¬ kn = 3) (hn4 : ¬ kn = 4) : Calls Tryd.prog 22 #[.agg #[.int .i64 xa, .int .i64 xi, .int .i64 xh, .int .i64 xp], .agg #[.int .i64 3, .int .i64 s1, .int .i64 s2, .int .i64 s3, .int .i64 s4], .agg #[.int .i64 kn, .int .i64 sa, .int .i64 ho, .int .i64 ix, .slice ga gs.length gx, .slice ca cs.length cx, .slice pa ps.length px, .int .i64 pr, .slice ma ms.length mx, .int .i64 bw, .int .i64 er]] w (StR ⟨0, 0, 0, 0, 0, [⟨3, 0, 0, 0, 5⟩]⟩ w) := by
  have hk3 : (kn == 3) = false := by simp [hn3]
  have hk4 : (kn == 4) = false := by simp [hn4]
  clear hn3 hn4
  have bR : Bl ((((w.alloc (.cells #[.int .i64 xa, .int .i64 xi, .int .i64 xh, .int .i64 xp] 28)).alloc (.cells #[.int .i64 3, .int .i64 s1, .int .i64 s2, .int .i64 s3, .int .i64 s4] 25)).alloc (.cells #[.int .i64 kn, .int .i64 sa, .int .i64 ho, .int .i64 ix, .slice ga gs.length gx, .slice ca cs.length cx, .slice pa ps.length px, .int .i64 pr, .slice ma ms.length mx, .int .i64 bw, .int .i64 er] 46)).alloc (.cells #[.int .i64 0, .int .i64 0, .int .i64 0, .int .i64 0, .int .i64 0] 25)) (w.heap.size + 1 + 1 + 1) [.int .i64 0, .int .i64 0, .int .i64 0, .int .i64 0, .int .i64 0] := Bl.new (((w.alloc (.cells #[.int .i64 xa, .int .i64 xi, .int .i64 xh, .int .i64 xp] 28)).alloc (.cells #[.int .i64 3, .int .i64 s1, .int .i64 s2, .int .i64 s3, .int .i64 s4] 25)).alloc (.cells #[.int .i64 kn, .int .i64 sa, .int .i64 ho, .int .i64 ix, .slice ga gs.length gx, .slice ca cs.length cx, .slice pa ps.length px, .int .i64 pr, .slice ma ms.length mx, .int .i64 bw, .int .i64 er] 46)) [.int .i64 0, .int .i64 0, .int .i64 0, .int .i64 0, .int .i64 0] 25 (w.heap.size + 1 + 1 + 1) (by simp)
  have B0 : Below w.heap.size w ((((w.alloc (.cells #[.int .i64 xa, .int .i64 xi, .int .i64 xh, .int .i64 xp] 28)).alloc (.cells #[.int .i64 3, .int .i64 s1, .int .i64 s2, .int .i64 s3, .int .i64 s4] 25)).alloc (.cells #[.int .i64 kn, .int .i64 sa, .int .i64 ho, .int .i64 ix, .slice ga gs.length gx, .slice ca cs.length cx, .slice pa ps.length px, .int .i64 pr, .slice ma ms.length mx, .int .i64 bw, .int .i64 er] 46)).alloc (.cells #[.int .i64 0, .int .i64 0, .int .i64 0, .int .i64 0, .int .i64 0] 25)) := (by repeat' (first | exact Below.refl _ _ | (refine Below.setCell ?_ (by simp <;> omega) _) | (refine Below.alloc ?_ (by simp <;> omega) _) | (refine Below.drew ?_)))
  have hz : ((((w.alloc (.cells #[.int .i64 xa, .int .i64 xi, .int .i64 xh, .int .i64 xp] 28)).alloc (.cells #[.int .i64 3, .int .i64 s1, .int .i64 s2, .int .i64 s3, .int .i64 s4] 25)).alloc (.cells #[.int .i64 kn, .int .i64 sa, .int .i64 ho, .int .i64 ix, .slice ga gs.length gx, .slice ca cs.length cx, .slice pa ps.length px, .int .i64 pr, .slice ma ms.length mx, .int .i64 bw, .int .i64 er] 46)).alloc (.cells #[.int .i64 0, .int .i64 0, .int .i64 0, .int .i64 0, .int .i64 0] 25)).heap.size = w.heap.size + 1 + 1 + 1 + 1 := by simp
  go_enter Tryd.func22, Tryd.ntmps22
  go_wp2_with fail
  refine (sfall_high 3 s1 s2 s3 s4 5 _ (by decide) (by decide)).mono ?_
  rintro e w1 ⟨v, rfl, ho, hb⟩
  rw [hz] at ho
  replace bR := bR.keep hb
  replace B0 := below_step B0 hb
  clear hb hz
  have r0 := bR.c 0 rfl
  have s0f := bR.f 0 (x := _) rfl
  have r1 := bR.c 1 rfl
  have s1f := bR.f 1 (x := _) rfl
  have r2 := bR.c 2 rfl
  have s2f := bR.f 2 (x := _) rfl
  have r3 := bR.c 3 rfl
  have s3f := bR.f 3 (x := _) rfl
  have r4 := bR.c 4 rfl
  have s4f := bR.f 4 (x := _) rfl
  go_wp2
  have bR2 := bR.set5 (.int .i64 0) (.int .i64 0) (.int .i64 0) (.int .i64 0) (.int .i64 0)
  have B2 := below_set5 B0 (B := w.heap.size + 1 + 1 + 1) (by omega) (.int .i64 0) (.int .i64 0) (.int .i64 0) (.int .i64 0) (.int .i64 0)
  have ho2 := (ho.far5 (B := w.heap.size + 1 + 1 + 1) (by omega) (.int .i64 0) (.int .i64 0) (.int .i64 0) (.int .i64 0) (.int .i64 0)).mono (base' := w.heap.size) (by omega)
  clear r0 s0f r1 s1f r2 s2f r3 s3f r4 s4f bR B0 ho
  obtain ⟨W2, hW2⟩ : ∃ W2, W2 = (((((w1.setCell ⟨w.heap.size + 1 + 1 + 1, 0, none⟩ (.int .i64 0)).setCell ⟨w.heap.size + 1 + 1 + 1, 1, none⟩ (.int .i64 0)).setCell ⟨w.heap.size + 1 + 1 + 1, 2, none⟩ (.int .i64 0)).setCell ⟨w.heap.size + 1 + 1 + 1, 3, none⟩ (.int .i64 0)).setCell ⟨w.heap.size + 1 + 1 + 1, 4, none⟩ (.int .i64 0)) := ⟨_, rfl⟩
  rw [← hW2] at bR2 B2 ho2 ⊢
  clear hW2
  have r0 := bR2.c 0 rfl
  have r1 := bR2.c 1 rfl
  have r2 := bR2.c 2 rfl
  have r3 := bR2.c 3 rfl
  have r4 := bR2.c 4 rfl
  exact bodyPost_ret (v := .tuple #[.agg #[.int .i64 0, .int .i64 0, .int .i64 0, .int .i64 0, .int .i64 0], v]) (by simp [results, Tryd.results22, go_sem, r0, r1, r2, r3, r4]) rfl ⟨v, rfl, ho2, B2⟩
set_option maxHeartbeats 1000000 in
theorem smes_4_no (xa xi xh xp s1 s2 s3 s4 : Int) (ga ca pa ma : Option Addr) (gx cx px mx : Nat) (gs cs : List (Int × Int)) (ps ms : List Int) (sa ho ix pr bw er : Int) (w : World)  : Calls Tryd.prog 22 #[.agg #[.int .i64 xa, .int .i64 xi, .int .i64 xh, .int .i64 xp], .agg #[.int .i64 4, .int .i64 s1, .int .i64 s2, .int .i64 s3, .int .i64 s4], .agg #[.int .i64 1, .int .i64 sa, .int .i64 ho, .int .i64 ix, .slice ga gs.length gx, .slice ca cs.length cx, .slice pa ps.length px, .int .i64 pr, .slice ma ms.length mx, .int .i64 bw, .int .i64 er]] w (StR ⟨0, 0, 0, 0, 0, [⟨3, 0, 0, 0, 5⟩]⟩ w) := by
  have bR : Bl ((((w.alloc (.cells #[.int .i64 xa, .int .i64 xi, .int .i64 xh, .int .i64 xp] 28)).alloc (.cells #[.int .i64 4, .int .i64 s1, .int .i64 s2, .int .i64 s3, .int .i64 s4] 25)).alloc (.cells #[.int .i64 1, .int .i64 sa, .int .i64 ho, .int .i64 ix, .slice ga gs.length gx, .slice ca cs.length cx, .slice pa ps.length px, .int .i64 pr, .slice ma ms.length mx, .int .i64 bw, .int .i64 er] 46)).alloc (.cells #[.int .i64 0, .int .i64 0, .int .i64 0, .int .i64 0, .int .i64 0] 25)) (w.heap.size + 1 + 1 + 1) [.int .i64 0, .int .i64 0, .int .i64 0, .int .i64 0, .int .i64 0] := Bl.new (((w.alloc (.cells #[.int .i64 xa, .int .i64 xi, .int .i64 xh, .int .i64 xp] 28)).alloc (.cells #[.int .i64 4, .int .i64 s1, .int .i64 s2, .int .i64 s3, .int .i64 s4] 25)).alloc (.cells #[.int .i64 1, .int .i64 sa, .int .i64 ho, .int .i64 ix, .slice ga gs.length gx, .slice ca cs.length cx, .slice pa ps.length px, .int .i64 pr, .slice ma ms.length mx, .int .i64 bw, .int .i64 er] 46)) [.int .i64 0, .int .i64 0, .int .i64 0, .int .i64 0, .int .i64 0] 25 (w.heap.size + 1 + 1 + 1) (by simp)
  have B0 : Below w.heap.size w ((((w.alloc (.cells #[.int .i64 xa, .int .i64 xi, .int .i64 xh, .int .i64 xp] 28)).alloc (.cells #[.int .i64 4, .int .i64 s1, .int .i64 s2, .int .i64 s3, .int .i64 s4] 25)).alloc (.cells #[.int .i64 1, .int .i64 sa, .int .i64 ho, .int .i64 ix, .slice ga gs.length gx, .slice ca cs.length cx, .slice pa ps.length px, .int .i64 pr, .slice ma ms.length mx, .int .i64 bw, .int .i64 er] 46)).alloc (.cells #[.int .i64 0, .int .i64 0, .int .i64 0, .int .i64 0, .int .i64 0] 25)) := (by repeat' (first | exact Below.refl _ _ | (refine Below.setCell ?_ (by simp <;> omega) _) | (refine Below.alloc ?_ (by simp <;> omega) _) | (refine Below.drew ?_)))
  have hz : ((((w.alloc (.cells #[.int .i64 xa, .int .i64 xi, .int .i64 xh, .int .i64 xp] 28)).alloc (.cells #[.int .i64 4, .int .i64 s1, .int .i64 s2, .int .i64 s3, .int .i64 s4] 25)).alloc (.cells #[.int .i64 1, .int .i64 sa, .int .i64 ho, .int .i64 ix, .slice ga gs.length gx, .slice ca cs.length cx, .slice pa ps.length px, .int .i64 pr, .slice ma ms.length mx, .int .i64 bw, .int .i64 er] 46)).alloc (.cells #[.int .i64 0, .int .i64 0, .int .i64 0, .int .i64 0, .int .i64 0] 25)).heap.size = w.heap.size + 1 + 1 + 1 + 1 := by simp
  go_enter Tryd.func22, Tryd.ntmps22
  go_wp2_with fail
  refine (sfall_high 4 s1 s2 s3 s4 5 _ (by decide) (by decide)).mono ?_
  rintro e w1 ⟨v, rfl, ho, hb⟩
  rw [hz] at ho
  replace bR := bR.keep hb
  replace B0 := below_step B0 hb
  clear hb hz
  have r0 := bR.c 0 rfl
  have s0f := bR.f 0 (x := _) rfl
  have r1 := bR.c 1 rfl
  have s1f := bR.f 1 (x := _) rfl
  have r2 := bR.c 2 rfl
  have s2f := bR.f 2 (x := _) rfl
  have r3 := bR.c 3 rfl
  have s3f := bR.f 3 (x := _) rfl
  have r4 := bR.c 4 rfl
  have s4f := bR.f 4 (x := _) rfl
  go_wp2
  have bR2 := bR.set5 (.int .i64 0) (.int .i64 0) (.int .i64 0) (.int .i64 0) (.int .i64 0)
  have B2 := below_set5 B0 (B := w.heap.size + 1 + 1 + 1) (by omega) (.int .i64 0) (.int .i64 0) (.int .i64 0) (.int .i64 0) (.int .i64 0)
  have ho2 := (ho.far5 (B := w.heap.size + 1 + 1 + 1) (by omega) (.int .i64 0) (.int .i64 0) (.int .i64 0) (.int .i64 0) (.int .i64 0)).mono (base' := w.heap.size) (by omega)
  clear r0 s0f r1 s1f r2 s2f r3 s3f r4 s4f bR B0 ho
  obtain ⟨W2, hW2⟩ : ∃ W2, W2 = (((((w1.setCell ⟨w.heap.size + 1 + 1 + 1, 0, none⟩ (.int .i64 0)).setCell ⟨w.heap.size + 1 + 1 + 1, 1, none⟩ (.int .i64 0)).setCell ⟨w.heap.size + 1 + 1 + 1, 2, none⟩ (.int .i64 0)).setCell ⟨w.heap.size + 1 + 1 + 1, 3, none⟩ (.int .i64 0)).setCell ⟨w.heap.size + 1 + 1 + 1, 4, none⟩ (.int .i64 0)) := ⟨_, rfl⟩
  rw [← hW2] at bR2 B2 ho2 ⊢
  clear hW2
  have r0 := bR2.c 0 rfl
  have r1 := bR2.c 1 rfl
  have r2 := bR2.c 2 rfl
  have r3 := bR2.c 3 rfl
  have r4 := bR2.c 4 rfl
  exact bodyPost_ret (v := .tuple #[.agg #[.int .i64 0, .int .i64 0, .int .i64 0, .int .i64 0, .int .i64 0], v]) (by simp [results, Tryd.results22, go_sem, r0, r1, r2, r3, r4]) rfl ⟨v, rfl, ho2, B2⟩
set_option maxHeartbeats 1000000 in
theorem smes_3_yes (xa xi xh xp s1 s2 s3 s4 : Int) (ga ca pa ma : Option Addr) (gx cx px mx : Nat) (gs cs : List (Int × Int)) (ps ms : List Int) (kn sa ho ix pr bw er : Int) (w : World) (h4 : kn = 4) : Calls Tryd.prog 22 #[.agg #[.int .i64 xa, .int .i64 xi, .int .i64 xh, .int .i64 xp], .agg #[.int .i64 3, .int .i64 s1, .int .i64 s2, .int .i64 s3, .int .i64 s4], .agg #[.int .i64 kn, .int .i64 sa, .int .i64 ho, .int .i64 ix, .slice ga gs.length gx, .slice ca cs.length cx, .slice pa ps.length px, .int .i64 pr, .slice ma ms.length mx, .int .i64 bw, .int .i64 er]] w (StR ⟨4, s1, 0, s3, s4, []⟩ w) := by
  subst h4
  go_enter Tryd.func22, Tryd.ntmps22
  go_wp2
  exact bodyPost_ret (v := .tuple #[.agg #[.int .i64 4, .int .i64 s1, .int .i64 0, .int .i64 s3, .int .i64 s4], .slice none 0 0]) (by simp [results, Tryd.results22, go_sem]) rfl ⟨_, rfl, OwnG.nil _ _, (by repeat' (first | exact Below.refl _ _ | (refine Below.setCell ?_ (by simp <;> omega) _) | (refine Below.alloc ?_ (by simp <;> omega) _) | (refine Below.drew ?_)))⟩
set_option maxHeartbeats 1000000 in
theorem smes_4_yes (xa xi xh xp s1 s2 s3 s4 : Int) (ga ca pa ma : Option Addr) (gx cx px mx : Nat) (gs cs : List (Int × Int)) (ps ms : List Int) (kn sa ho ix pr bw er : Int) (w : World) (hn3 : ¬ kn = 3) (hn1 : ¬ kn = 1) : Calls Tryd.prog 22 #[.agg #[.int .i64 xa, .int .i64 xi, .int .i64 xh, .int .i64 xp], .agg #[.int .i64 4, .int .i64 s1, .int .i64 s2, .int .i64 s3, .int .i64 s4], .agg #[.int .i64 kn, .int .i64 sa, .int .i64 ho, .int .i64 ix, .slice ga gs.length gx, .slice ca cs.length cx, .slice pa ps.length px, .int .i64 pr, .slice ma ms.length mx, .int .i64 bw, .int .i64 er]] w (StR ⟨4, s1, 0, s3, s4, []⟩ w) := by
  have hk3 : (kn == 3) = false := by simp [hn3]
  have hk1 : (kn == 1) = false := by simp [hn1]
  clear hn3 hn1
  go_enter Tryd.func22, Tryd.ntmps22
  go_wp2
  exact bodyPost_ret (v := .tuple #[.agg #[.int .i64 4, .int .i64 s1, .int .i64 0, .int .i64 s3, .int .i64 s4], .slice none 0 0]) (by simp [results, Tryd.results22, go_sem]) rfl ⟨_, rfl, OwnG.nil _ _, (by repeat' (first | exact Below.refl _ _ | (refine Below.setCell ?_ (by simp <;> omega) _) | (refine Below.alloc ?_ (by simp <;> omega) _) | (refine Below.drew ?_)))⟩
set_option maxHeartbeats 1000000 in
theorem smes_2_bad (xa xi xh xp s1 s2 s3 s4 : Int) (ga ca pa ma : Option Addr) (gx cx px mx : Nat) (gs cs : List (Int × Int)) (ps ms : List Int) (sa ho ix pr bw er : Int) (w : World) (HA : ∀ w, Calls Tryd.prog 37 #[.agg #[.int .i64 xa, .int .i64 xi, .int .i64 xh, .int .i64 xp], .agg #[.int .i64 1, .int .i64 sa, .int .i64 ho, .int .i64 ix, .slice ga gs.length gx, .slice ca cs.length cx, .slice pa ps.length px, .int .i64 pr, .slice ma ms.length mx, .int .i64 bw, .int .i64 er]] w fun e w' => e = .returned (.bool false) ∧ Below w.heap.size w w') : Calls Tryd.prog 22 #[.agg #[.int .i64 xa, .int .i64 xi, .int .i64 xh, .int .i64 xp], .agg #[.int .i64 2, .int .i64 s1, .int .i64 s2, .int .i64 s3, .int .i64 s4], .agg #[.int .i64 1, .int .i64 sa, .int .i64 ho, .int .i64 ix, .slice ga gs.length gx, .slice ca cs.length cx, .slice pa ps.length px, .int .i64 pr, .slice ma ms.length mx, .int .i64 bw, .int .i64 er]] w (StR ⟨0, 0, 0, 0, 0, [⟨3, 0, 0, 0, 2⟩]⟩ w) := by
  have HAA := Lib.hid HA
  clear HA
  have bR : Bl ((((w.alloc (.cells #[.int .i64 xa, .int .i64 xi, .int .i64 xh, .int .i64 xp] 28)).alloc (.cells #[.int .i64 2, .int .i64 s1, .int .i64 s2, .int .i64 s3, .int .i64 s4] 25)).alloc (.cells #[.int .i64 1, .int .i64 sa, .int .i64 ho, .int .i64 ix, .slice ga gs.length gx, .slice ca cs.length cx, .slice pa ps.length px, .int .i64 pr, .slice ma ms.length mx, .int .i64 bw, .int .i64 er] 46)).alloc (.cells #[.int .i64 0, .int .i64 0, .int .i64 0, .int .i64 0, .int .i64 0] 25)) (w.heap.size + 1 + 1 + 1) [.int .i64 0, .int .i64 0, .int .i64 0, .int .i64 0, .int .i64 0] := Bl.new (((w.alloc (.cells #[.int .i64 xa, .int .i64 xi, .int .i64 xh, .int .i64 xp] 28)).alloc (.cells #[.int .i64 2, .int .i64 s1, .int .i64 s2, .int .i64 s3, .int .i64 s4] 25)).alloc (.cells #[.int .i64 1, .int .i64 sa, .int .i64 ho, .int .i64 ix, .slice ga gs.length gx, .slice ca cs.length cx, .slice pa ps.length px, .int .i64 pr, .slice ma ms.length mx, .int .i64 bw, .int .i64 er] 46)) [.int .i64 0, .int .i64 0, .int .i64 0, .int .i64 0, .int .i64 0] 25 (w.heap.size + 1 + 1 + 1) (by simp)
  have B0 : Below w.heap.size w ((((w.alloc (.cells #[.int .i64 xa, .int .i64 xi, .int .i64 xh, .int .i64 xp] 28)).alloc (.cells #[.int .i64 2, .int .i64 s1, .int .i64 s2, .int .i64 s3, .int .i64 s4] 25)).alloc (.cells #[.int .i64 1, .int .i64 sa, .int .i64 ho, .int .i64 ix, .slice ga gs.length gx, .slice ca cs.length cx, .slice pa ps.length px, .int .i64 pr, .slice ma ms.length mx, .int .i64 bw, .int .i64 er] 46)).alloc (.cells #[.int .i64 0, .int .i64 0, .int .i64 0, .int .i64 0, .int .i64 0] 25)) := (by repeat' (first | exact Below.refl _ _ | (refine Below.setCell ?_ (by simp <;> omega) _) | (refine Below.alloc ?_ (by simp <;> omega) _) | (refine Below.drew ?_)))
  have hz : ((((w.alloc (.cells #[.int .i64 xa, .int .i64 xi, .int .i64 xh, .int .i64 xp] 28)).alloc (.cells #[.int .i64 2, .int .i64 s1, .int .i64 s2, .int .i64 s3, .int .i64 s4] 25)).alloc (.cells #[.int .i64 1, .int .i64 sa, .int .i64 ho, .int .i64 ix, .slice ga gs.length gx, .slice ca cs.length cx, .slice pa ps.length px, .int .i64 pr, .slice ma ms.length mx, .int .i64 bw, .int .i64 er] 46)).alloc (.cells #[.int .i64 0, .int .i64 0, .int .i64 0, .int .i64 0, .int .i64 0] 25)).heap.size = w.heap.size + 1 + 1 + 1 + 1 := by simp
  have bC : Bl ((((w.alloc (.cells #[.int .i64 xa, .int .i64 xi, .int .i64 xh, .int .i64 xp] 28)).alloc (.cells #[.int .i64 2, .int .i64 s1, .int .i64 s2, .int .i64 s3, .int .i64 s4] 25)).alloc (.cells #[.int .i64 1, .int .i64 sa, .int .i64 ho, .int .i64 ix, .slice ga gs.length gx, .slice ca cs.length cx, .slice pa ps.length px, .int .i64 pr, .slice ma ms.length mx, .int .i64 bw, .int .i64 er] 46)).alloc (.cells #[.int .i64 0, .int .i64 0, .int .i64 0, .int .i64 0, .int .i64 0] 25)) (w.heap.size) [.int .i64 xa, .int .i64 xi, .int .i64 xh, .int .i64 xp] := (((Bl.new w [.int .i64 xa, .int .i64 xi, .int .i64 xh, .int .i64 xp] 28 (w.heap.size) (by simp)).alloc _).alloc _).alloc _
  have bS : Bl ((((w.alloc (.cells #[.int .i64 xa, .int .i64 xi, .int .i64 xh, .int .i64 xp] 28)).alloc (.cells #[.int .i64 2, .int .i64 s1, .int .i64 s2, .int .i64 s3, .int .i64 s4] 25)).alloc (.cells #[.int .i64 1, .int .i64 sa, .int .i64 ho, .int .i64 ix, .slice ga gs.length gx, .slice ca cs.length cx, .slice pa ps.length px, .int .i64 pr, .slice ma ms.length mx, .int .i64 bw, .int .i64 er] 46)).alloc (.cells #[.int .i64 0, .int .i64 0, .int .i64 0, .int .i64 0, .int .i64 0] 25)) (w.heap.size + 1) [.int .i64 2, .int .i64 s1, .int .i64 s2, .int .i64 s3, .int .i64 s4] := ((Bl.new (w.alloc (.cells #[.int .i64 xa, .int .i64 xi, .int .i64 xh, .int .i64 xp] 28)) [.int .i64 2, .int .i64 s1, .int .i64 s2, .int .i64 s3, .int .i64 s4] 25 (w.heap.size + 1) (by simp)).alloc _).alloc _
  have bM : Bl ((((w.alloc (.cells #[.int .i64 xa, .int .i64 xi, .int .i64 xh, .int .i64 xp] 28)).alloc (.cells #[.int .i64 2, .int .i64 s1, .int .i64 s2, .int .i64 s3, .int .i64 s4] 25)).alloc (.cells #[.int .i64 1, .int .i64 sa, .int .i64 ho, .int .i64 ix, .slice ga gs.length gx, .slice ca cs.length cx, .slice pa ps.length px, .int .i64 pr, .slice ma ms.length mx, .int .i64 bw, .int .i64 er] 46)).alloc (.cells #[.int .i64 0, .int .i64 0, .int .i64 0, .int .i64 0, .int .i64 0] 25)) (w.heap.size + 1 + 1) [.int .i64 1, .int .i64 sa, .int .i64 ho, .int .i64 ix, .slice ga gs.length gx, .slice ca cs.length cx, .slice pa ps.length px, .int .i64 pr, .slice ma ms.length mx, .int .i64 bw, .int .i64 er] := (Bl.new ((w.alloc (.cells #[.int .i64 xa, .int .i64 xi, .int .i64 xh, .int .i64 xp] 28)).alloc (.cells #[.int .i64 2, .int .i64 s1, .int .i64 s2, .int .i64 s3, .int .i64 s4] 25)) [.int .i64 1, .int .i64 sa, .int .i64 ho, .int .i64 ix, .slice ga gs.length gx, .slice ca cs.length cx, .slice pa ps.length px, .int .i64 pr, .slice ma ms.length mx, .int .i64 bw, .int .i64 er] 46 (w.heap.size + 1 + 1) (by simp)).alloc _
  go_enter Tryd.func22, Tryd.ntmps22
  go_wp2_with fail
  refine (HAA.out _).mono ?_
  rintro e w1 ⟨rfl, hb⟩
  have hz1 := hb.size
  rw [hz] at hz1
  replace bC := bC.keep hb
  replace bS := bS.keep hb
  replace bM := bM.keep hb
  replace bR := bR.keep hb
  replace B0 := below_step B0 hb
  clear hb hz HAA
  have g0 := bS.c 0 rfl
  have g1 := bS.c 1 rfl
  have g2 := bS.c 2 rfl
  have g3 := bS.c 3 rfl
  have g4 := bS.c 4 rfl
  go_wp2_with fail
  clear g0 g1 g2 g3 g4
  refine (sfall_high 2 s1 s2 s3 s4 2 _ (by decide) (by decide)).mono ?_
  rintro e w2 ⟨v, rfl, ho, hb⟩
  replace bR := bR.keep hb
  replace B0 := below_step B0 hb
  clear hb
  have r0 := bR.c 0 rfl
  have s0f := bR.f 0 (x := _) rfl
  have r1 := bR.c 1 rfl
  have s1f := bR.f 1 (x := _) rfl
  have r2 := bR.c 2 rfl
  have s2f := bR.f 2 (x := _) rfl
  have r3 := bR.c 3 rfl
  have s3f := bR.f 3 (x := _) rfl
  have r4 := bR.c 4 rfl
  have s4f := bR.f 4 (x := _) rfl
  have HZ := Lib.hid hz1
  clear hz1
  go_wp2
  have hz1 := HZ.out
  have bR2 := bR.set5 (.int .i64 0) (.int .i64 0) (.int .i64 0) (.int .i64 0) (.int .i64 0)
  have B2 := below_set5 B0 (B := w.heap.size + 1 + 1 + 1) (by omega) (.int .i64 0) (.int .i64 0) (.int .i64 0) (.int .i64 0) (.int .i64 0)
  have ho2 := (ho.far5 (B := w.heap.size + 1 + 1 + 1) (by omega) (.int .i64 0) (.int .i64 0) (.int .i64 0) (.int .i64 0) (.int .i64 0)).mono (base' := w.heap.size) (by omega)
  clear r0 s0f r1 s1f r2 s2f r3 s3f r4 s4f bR B0 ho
  obtain ⟨W2, hW2⟩ : ∃ W2, W2 = (((((w2.setCell ⟨w.heap.size + 1 + 1 + 1, 0, none⟩ (.int .i64 0)).setCell ⟨w.heap.size + 1 + 1 + 1, 1, none⟩ (.int .i64 0)).setCell ⟨w.heap.size + 1 + 1 + 1, 2, none⟩ (.int .i64 0)).setCell ⟨w.heap.size + 1 + 1 + 1, 3, none⟩ (.int .i64 0)).setCell ⟨w.heap.size + 1 + 1 + 1, 4, none⟩ (.int .i64 0)) := ⟨_, rfl⟩
  rw [← hW2] at bR2 B2 ho2 ⊢
  clear hW2
  have r0 := bR2.c 0 rfl
  have r1 := bR2.c 1 rfl
  have r2 := bR2.c 2 rfl
  have r3 := bR2.c 3 rfl
  have r4 := bR2.c 4 rfl
  exact bodyPost_ret (v := .tuple #[.agg #[.int .i64 0, .int .i64 0, .int .i64 0, .int .i64 0, .int .i64 0], v]) (by simp [results, Tryd.results22, go_sem, r0, r1, r2, r3, r4]) rfl ⟨v, rfl, ho2, B2⟩
end Go.Proofs.YtnklnibjlhnicaaRRRRDoor
