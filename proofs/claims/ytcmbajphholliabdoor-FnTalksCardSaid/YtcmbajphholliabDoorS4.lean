/-
  Messages without prefixes and attributes: the laws' own marks on them; contracts of OpenOf of the program and of the model. Conditions: those in each contract.
-/
import Derived.Test.YtcmbajphholliabDoorS2
namespace Go.Proofs.YtcmbajphholliabDoor
open Go.ChangeShapes Go.WideShapes Go.ChangeAt Go.RowKit Go.BigFrame Go.Joins
set_option linter.unusedVariables false
set_option maxRecDepth 100000
set_option linter.unusedSimpArgs false

/-- what OpenOf answers: the fields, and whether there is an answer -/
def OpIs (sa ix ho pe k a h i : Int) (b : Bool) : Prop := (cokB sa ix ho pe = true ∧ k = 1 ∧ a = sa ∧ h = ho ∧ i = ix ∧ b = true) ∨ (cokB sa ix ho pe = false ∧ k = 0 ∧ a = 0 ∧ h = 0 ∧ i = 0 ∧ b = false)
theorem opIs_ex (sa ix ho pe : Int) : ∃ k a h i b, OpIs sa ix ho pe k a h i b := by
  cases h : cokB sa ix ho pe
  · exact ⟨0, 0, 0, 0, false, .inr ⟨h, rfl, rfl, rfl, rfl, rfl⟩⟩
  · exact ⟨1, sa, ho, ix, true, .inl ⟨h, rfl, rfl, rfl, rfl, rfl⟩⟩
theorem Bl.set11 {w : World} {B : Nat} {x0 x1 x2 x3 x4 x5 x6 x7 x8 x9 x10 : Value} (h : Bl w B [x0, x1, x2, x3, x4, x5, x6, x7, x8, x9, x10]) (y0 y1 y2 y3 y4 y5 y6 y7 y8 y9 y10 : Value) : Bl (((((((((((w.setCell ⟨B, 0, none⟩ (y0)).setCell ⟨B, 1, none⟩ (y1)).setCell ⟨B, 2, none⟩ (y2)).setCell ⟨B, 3, none⟩ (y3)).setCell ⟨B, 4, none⟩ (y4)).setCell ⟨B, 5, none⟩ (y5)).setCell ⟨B, 6, none⟩ (y6)).setCell ⟨B, 7, none⟩ (y7)).setCell ⟨B, 8, none⟩ (y8)).setCell ⟨B, 9, none⟩ (y9)).setCell ⟨B, 10, none⟩ (y10)) B [y0, y1, y2, y3, y4, y5, y6, y7, y8, y9, y10] := by
  have h := (((((((((((h.set 0 y0).set 1 y1).set 2 y2).set 3 y3).set 4 y4).set 5 y5).set 6 y6).set 7 y7).set 8 y8).set 9 y9).set 10 y10)
  simpa only [List.set_cons_zero, List.set_cons_succ] using h
theorem below_set11 {w w1 : World} {b B : Nat} (h : Below b w w1) (hB : b ≤ B) (y0 y1 y2 y3 y4 y5 y6 y7 y8 y9 y10 : Value) : Below b w (((((((((((w1.setCell ⟨B, 0, none⟩ (y0)).setCell ⟨B, 1, none⟩ (y1)).setCell ⟨B, 2, none⟩ (y2)).setCell ⟨B, 3, none⟩ (y3)).setCell ⟨B, 4, none⟩ (y4)).setCell ⟨B, 5, none⟩ (y5)).setCell ⟨B, 6, none⟩ (y6)).setCell ⟨B, 7, none⟩ (y7)).setCell ⟨B, 8, none⟩ (y8)).setCell ⟨B, 9, none⟩ (y9)).setCell ⟨B, 10, none⟩ (y10)) :=
  (((((((((((h.setCell (p := ⟨B, 0, none⟩) hB y0).setCell (p := ⟨B, 1, none⟩) hB y1).setCell (p := ⟨B, 2, none⟩) hB y2).setCell (p := ⟨B, 3, none⟩) hB y3).setCell (p := ⟨B, 4, none⟩) hB y4).setCell (p := ⟨B, 5, none⟩) hB y5).setCell (p := ⟨B, 6, none⟩) hB y6).setCell (p := ⟨B, 7, none⟩) hB y7).setCell (p := ⟨B, 8, none⟩) hB y8).setCell (p := ⟨B, 9, none⟩) hB y9).setCell (p := ⟨B, 10, none⟩) hB y10)
set_option maxHeartbeats 2000000 in
theorem implOp_any {sa ix ho pe k a h i : Int} {b : Bool} (w : World) (H : Hid (OpIs sa ix ho pe k a h i b)) : Calls Tryd.prog 11 #[.agg #[.int .i64 sa, .int .i64 ix, .int .i64 ho, .int .i64 pe]] w fun e w' => e = .returned (.tuple #[.agg #[.int .i64 k, .int .i64 a, .int .i64 h, .int .i64 i, .slice none 0 0, .slice none 0 0, .slice none 0 0, .int .i64 0, .slice none 0 0, .int .i64 0, .int .i64 0], .bool b]) ∧ Below w.heap.size w w' := by
  obtain ⟨bA, bR, B0, z⟩ := two w [.int .i64 sa, .int .i64 ix, .int .i64 ho, .int .i64 pe] [.int .i64 0, .int .i64 0, .int .i64 0, .int .i64 0, .slice none 0 0, .slice none 0 0, .slice none 0 0, .int .i64 0, .slice none 0 0, .int .i64 0, .int .i64 0] 24 38
  clear z
  obtain ⟨hc, rfl, rfl, rfl, rfl, rfl⟩ | ⟨hc, rfl, rfl, rfl, rfl, rfl⟩ := H.out
  · have HC := Lib.hid hc
    clear hc H
    have fa0 := bA.c 0 rfl
    have fa1 := bA.c 1 rfl
    have fa2 := bA.c 2 rfl
    have fa3 := bA.c 3 rfl
    go_enter Tryd.func11, Tryd.ntmps11
    go_wp2_with fail
    clear fa0 fa1 fa2 fa3
    refine (iCf_t _ HC).mono ?_
    rintro e w1 ⟨rfl, hb⟩
    replace bA := bA.keep hb
    replace bR := bR.keep hb
    replace B0 := below_step B0 hb
    clear hb
    have fa0 := bA.c 0 rfl
    have fa1 := bA.c 1 rfl
    have fa2 := bA.c 2 rfl
    have fa3 := bA.c 3 rfl
    go_wp2_with fail
    clear fa0 fa1 fa2 fa3
    refine (iopen_any _ _ _ _ _).mono ?_
    clear bA
    rintro e w1 ⟨rfl, hb⟩
    replace bR := bR.keep hb
    replace B0 := below_step B0 hb
    clear hb
    go_wp2_with fail
    refine (pack_O _ _ _ _).mono ?_
    rintro e w1 ⟨rfl, hb⟩
    replace bR := bR.keep hb
    replace B0 := below_step B0 hb
    clear hb
    have r0 := bR.c 0 rfl
    have s0 := bR.f 0 rfl
    have r1 := bR.c 1 rfl
    have s1 := bR.f 1 rfl
    have r2 := bR.c 2 rfl
    have s2 := bR.f 2 rfl
    have r3 := bR.c 3 rfl
    have s3 := bR.f 3 rfl
    have r4 := bR.c 4 rfl
    have s4 := bR.f 4 rfl
    have r5 := bR.c 5 rfl
    have s5 := bR.f 5 rfl
    have r6 := bR.c 6 rfl
    have s6 := bR.f 6 rfl
    have r7 := bR.c 7 rfl
    have s7 := bR.f 7 rfl
    have r8 := bR.c 8 rfl
    have s8 := bR.f 8 rfl
    have r9 := bR.c 9 rfl
    have s9 := bR.f 9 rfl
    have r10 := bR.c 10 rfl
    have s10 := bR.f 10 rfl
    go_wp2
    have bR2 := bR.set11 (.int .i64 1) (.int .i64 a) (.int .i64 h) (.int .i64 i) (.slice none 0 0) (.slice none 0 0) (.slice none 0 0) (.int .i64 0) (.slice none 0 0) (.int .i64 0) (.int .i64 0)
    have B2 := below_set11 B0 (B := w.heap.size + 1) (Nat.le_succ _) (.int .i64 1) (.int .i64 a) (.int .i64 h) (.int .i64 i) (.slice none 0 0) (.slice none 0 0) (.slice none 0 0) (.int .i64 0) (.slice none 0 0) (.int .i64 0) (.int .i64 0)
    clear r0 s0 r1 s1 r2 s2 r3 s3 r4 s4 r5 s5 r6 s6 r7 s7 r8 s8 r9 s9 r10 s10 bR B0
    obtain ⟨W2, hW2⟩ : ∃ W2, W2 = (((((((((((w1.setCell ⟨w.heap.size + 1, 0, none⟩ (.int .i64 1)).setCell ⟨w.heap.size + 1, 1, none⟩ (.int .i64 a)).setCell ⟨w.heap.size + 1, 2, none⟩ (.int .i64 h)).setCell ⟨w.heap.size + 1, 3, none⟩ (.int .i64 i)).setCell ⟨w.heap.size + 1, 4, none⟩ (.slice none 0 0)).setCell ⟨w.heap.size + 1, 5, none⟩ (.slice none 0 0)).setCell ⟨w.heap.size + 1, 6, none⟩ (.slice none 0 0)).setCell ⟨w.heap.size + 1, 7, none⟩ (.int .i64 0)).setCell ⟨w.heap.size + 1, 8, none⟩ (.slice none 0 0)).setCell ⟨w.heap.size + 1, 9, none⟩ (.int .i64 0)).setCell ⟨w.heap.size + 1, 10, none⟩ (.int .i64 0)) := ⟨_, rfl⟩
    rw [← hW2] at bR2 B2 ⊢
    clear hW2
    have r0 := bR2.c 0 rfl
    have r1 := bR2.c 1 rfl
    have r2 := bR2.c 2 rfl
    have r3 := bR2.c 3 rfl
    have r4 := bR2.c 4 rfl
    have r5 := bR2.c 5 rfl
    have r6 := bR2.c 6 rfl
    have r7 := bR2.c 7 rfl
    have r8 := bR2.c 8 rfl
    have r9 := bR2.c 9 rfl
    have r10 := bR2.c 10 rfl
    exact bodyPost_ret (v := .tuple #[.agg #[.int .i64 1, .int .i64 a, .int .i64 h, .int .i64 i, .slice none 0 0, .slice none 0 0, .slice none 0 0, .int .i64 0, .slice none 0 0, .int .i64 0, .int .i64 0], .bool true]) (by simp [results, Tryd.results11, go_sem, r0, r1, r2, r3, r4, r5, r6, r7, r8, r9, r10]) rfl ⟨rfl, B2⟩
  · have HC := Lib.hid hc
    clear hc H
    have fa0 := bA.c 0 rfl
    have fa1 := bA.c 1 rfl
    have fa2 := bA.c 2 rfl
    have fa3 := bA.c 3 rfl
    go_enter Tryd.func11, Tryd.ntmps11
    go_wp2_with fail
    clear fa0 fa1 fa2 fa3
    refine (iCf_t _ HC).mono ?_
    rintro e w1 ⟨rfl, hb⟩
    replace bR := bR.keep hb
    replace B0 := below_step B0 hb
    clear hb bA
    have r0 := bR.c 0 rfl
    have s0 := bR.f 0 rfl
    have r1 := bR.c 1 rfl
    have s1 := bR.f 1 rfl
    have r2 := bR.c 2 rfl
    have s2 := bR.f 2 rfl
    have r3 := bR.c 3 rfl
    have s3 := bR.f 3 rfl
    have r4 := bR.c 4 rfl
    have s4 := bR.f 4 rfl
    have r5 := bR.c 5 rfl
    have s5 := bR.f 5 rfl
    have r6 := bR.c 6 rfl
    have s6 := bR.f 6 rfl
    have r7 := bR.c 7 rfl
    have s7 := bR.f 7 rfl
    have r8 := bR.c 8 rfl
    have s8 := bR.f 8 rfl
    have r9 := bR.c 9 rfl
    have s9 := bR.f 9 rfl
    have r10 := bR.c 10 rfl
    have s10 := bR.f 10 rfl
    go_wp2
    have bR2 := bR.set11 (.int .i64 0) (.int .i64 0) (.int .i64 0) (.int .i64 0) (.slice none 0 0) (.slice none 0 0) (.slice none 0 0) (.int .i64 0) (.slice none 0 0) (.int .i64 0) (.int .i64 0)
    have B2 := below_set11 B0 (B := w.heap.size + 1) (Nat.le_succ _) (.int .i64 0) (.int .i64 0) (.int .i64 0) (.int .i64 0) (.slice none 0 0) (.slice none 0 0) (.slice none 0 0) (.int .i64 0) (.slice none 0 0) (.int .i64 0) (.int .i64 0)
    clear r0 s0 r1 s1 r2 s2 r3 s3 r4 s4 r5 s5 r6 s6 r7 s7 r8 s8 r9 s9 r10 s10 bR B0
    obtain ⟨W2, hW2⟩ : ∃ W2, W2 = (((((((((((w1.setCell ⟨w.heap.size + 1, 0, none⟩ (.int .i64 0)).setCell ⟨w.heap.size + 1, 1, none⟩ (.int .i64 0)).setCell ⟨w.heap.size + 1, 2, none⟩ (.int .i64 0)).setCell ⟨w.heap.size + 1, 3, none⟩ (.int .i64 0)).setCell ⟨w.heap.size + 1, 4, none⟩ (.slice none 0 0)).setCell ⟨w.heap.size + 1, 5, none⟩ (.slice none 0 0)).setCell ⟨w.heap.size + 1, 6, none⟩ (.slice none 0 0)).setCell ⟨w.heap.size + 1, 7, none⟩ (.int .i64 0)).setCell ⟨w.heap.size + 1, 8, none⟩ (.slice none 0 0)).setCell ⟨w.heap.size + 1, 9, none⟩ (.int .i64 0)).setCell ⟨w.heap.size + 1, 10, none⟩ (.int .i64 0)) := ⟨_, rfl⟩
    rw [← hW2] at bR2 B2 ⊢
    clear hW2
    have r0 := bR2.c 0 rfl
    have r1 := bR2.c 1 rfl
    have r2 := bR2.c 2 rfl
    have r3 := bR2.c 3 rfl
    have r4 := bR2.c 4 rfl
    have r5 := bR2.c 5 rfl
    have r6 := bR2.c 6 rfl
    have r7 := bR2.c 7 rfl
    have r8 := bR2.c 8 rfl
    have r9 := bR2.c 9 rfl
    have r10 := bR2.c 10 rfl
    exact bodyPost_ret (v := .tuple #[.agg #[.int .i64 0, .int .i64 0, .int .i64 0, .int .i64 0, .slice none 0 0, .slice none 0 0, .slice none 0 0, .int .i64 0, .slice none 0 0, .int .i64 0, .int .i64 0], .bool false]) (by simp [results, Tryd.results11, go_sem, r0, r1, r2, r3, r4, r5, r6, r7, r8, r9, r10]) rfl ⟨rfl, B2⟩
end Go.Proofs.YtcmbajphholliabDoor
