/-
  The model's step of a session. Conditions: those in each contract.
-/
import Derived.Test.YtnklnibjlhnicaaRRRRDoorV2
import Derived.Deep.RegionHeld3
import Derived.BigQuiet
import Derived.WalkLawsBesides
import Derived.WalkSpells
import Derived.Outline
namespace Go.Proofs.YtnklnibjlhnicaaRRRRDoor
open Go.ChangeShapes Go.WideShapes Go.ChangeAt Go.RowKit Go.BigFrame Go.Joins
set_option linter.unusedVariables false
set_option maxRecDepth 100000
set_option linter.unusedSimpArgs false

theorem skeep_any (w : World) : Calls Tryd.prog 38 #[] w fun e w' => e = .returned (.agg #[.int .i64 4, .int .i64 0, .int .i64 0, .int .i64 0, .slice none 0 0, .slice none 0 0, .slice none 0 0, .int .i64 0, .slice none 0 0, .int .i64 0, .int .i64 0]) ∧ Below w.heap.size w w' := by
  go_enter Tryd.func38, Tryd.ntmps38
  go_wp2
  exact bodyPost_ret (v := .agg #[.int .i64 4, .int .i64 0, .int .i64 0, .int .i64 0, .slice none 0 0, .slice none 0 0, .slice none 0 0, .int .i64 0, .slice none 0 0, .int .i64 0, .int .i64 0]) (by simp [results, Tryd.results38, go_sem]) rfl ⟨rfl, by repeat' (first | exact Below.refl _ _ | (refine Below.setCell ?_ (by simp) _) | (refine Below.alloc ?_ (by simp) _) | (refine Below.drew ?_))⟩
theorem sfall_low (s0 s1 s2 s3 s4 c : Int) (w : World) (h : ¬ 2 ≤ s0) : Calls Tryd.prog 20 #[.agg #[.int .i64 s0, .int .i64 s1, .int .i64 s2, .int .i64 s3, .int .i64 s4], .int .i64 c] w (StR ⟨0, 0, 0, 0, 0, []⟩ w) := by
  have h2 : s0 < 2 := by omega
  clear h
  go_enter Tryd.func20, Tryd.ntmps20
  go_wp2
  exact bodyPost_ret (v := .tuple #[.agg #[.int .i64 0, .int .i64 0, .int .i64 0, .int .i64 0, .int .i64 0], .slice none 0 0]) (by simp [results, Tryd.results20, go_sem]) rfl ⟨_, rfl, OwnG.nil _ _, (by repeat' (first | exact Below.refl _ _ | (refine Below.setCell ?_ (by simp <;> omega) _) | (refine Below.alloc ?_ (by simp <;> omega) _) | (refine Below.drew ?_)))⟩
theorem sfall_high (s0 s1 s2 s3 s4 c : Int) (w : World) (h : 2 ≤ s0) (hc : c ≠ 0) : Calls Tryd.prog 20 #[.agg #[.int .i64 s0, .int .i64 s1, .int .i64 s2, .int .i64 s3, .int .i64 s4], .int .i64 c] w (StR ⟨0, 0, 0, 0, 0, [⟨3, 0, 0, 0, c⟩]⟩ w) := by
  have hb : (c == 0) = false := by simp [hc]
  clear hc
  go_enter Tryd.func20, Tryd.ntmps20
  go_wp2
  exact bodyPost_ret (v := .tuple #[.agg #[.int .i64 0, .int .i64 0, .int .i64 0, .int .i64 0, .int .i64 0], .slice (some ⟨w.heap.size + 1 + 1, 0, none⟩) 1 1]) (by simp [results, Tryd.results20, go_sem]) rfl ⟨_, rfl, (by have h := OwnG.lit ((w.alloc (.cells #[.int .i64 s0, .int .i64 s1, .int .i64 s2, .int .i64 s3, .int .i64 s4] 25)).alloc (.cells #[.int .i64 0, .int .i64 0, .int .i64 0, .int .i64 0, .int .i64 0] 25)) ⟨3, 0, 0, 0, c⟩ w.heap.size (by simp <;> omega); simpa [Bm.cells] using h), (by repeat' (first | exact Below.refl _ _ | (refine Below.setCell ?_ (by simp <;> omega) _) | (refine Below.alloc ?_ (by simp <;> omega) _) | (refine Below.drew ?_)))⟩
theorem Bl.set5 {w : World} {B : Nat} {x0 x1 x2 x3 x4 : Value} (h : Bl w B [x0, x1, x2, x3, x4]) (y0 y1 y2 y3 y4 : Value) : Bl (((((w.setCell ⟨B, 0, none⟩ (y0)).setCell ⟨B, 1, none⟩ (y1)).setCell ⟨B, 2, none⟩ (y2)).setCell ⟨B, 3, none⟩ (y3)).setCell ⟨B, 4, none⟩ (y4)) B [y0, y1, y2, y3, y4] := by
  have h := (((((h.set 0 y0).set 1 y1).set 2 y2).set 3 y3).set 4 y4)
  simpa only [List.set_cons_zero, List.set_cons_succ] using h
theorem below_set5 {w w1 : World} {b B : Nat} (h : Below b w w1) (hB : b ≤ B) (y0 y1 y2 y3 y4 : Value) : Below b w (((((w1.setCell ⟨B, 0, none⟩ (y0)).setCell ⟨B, 1, none⟩ (y1)).setCell ⟨B, 2, none⟩ (y2)).setCell ⟨B, 3, none⟩ (y3)).setCell ⟨B, 4, none⟩ (y4)) :=
  (((((h.setCell (p := ⟨B, 0, none⟩) hB y0).setCell (p := ⟨B, 1, none⟩) hB y1).setCell (p := ⟨B, 2, none⟩) hB y2).setCell (p := ⟨B, 3, none⟩) hB y3).setCell (p := ⟨B, 4, none⟩) hB y4)
theorem OwnG.far5 {w : World} {base B : Nat} {v : Value} {l : List Bm} (h : OwnG w base v l) (hB : B < base) (y0 y1 y2 y3 y4 : Value) : OwnG (((((w.setCell ⟨B, 0, none⟩ (y0)).setCell ⟨B, 1, none⟩ (y1)).setCell ⟨B, 2, none⟩ (y2)).setCell ⟨B, 3, none⟩ (y3)).setCell ⟨B, 4, none⟩ (y4)) base v l :=
  (((((h.far (o := 0) (u := y0) hB).far (o := 1) (u := y1) hB).far (o := 2) (u := y2) hB).far (o := 3) (u := y3) hB).far (o := 4) (u := y4) hB)
set_option maxHeartbeats 1000000 in
theorem stick_low (s0 s1 s2 s3 s4 : Int) (w : World) (h : ¬ 2 ≤ s0) : Calls Tryd.prog 23 #[.agg #[.int .i64 s0, .int .i64 s1, .int .i64 s2, .int .i64 s3, .int .i64 s4]] w (StR ⟨s0, s1, s2, s3, s4, []⟩ w) := by
  have h2 : s0 < 2 := by omega
  clear h
  go_enter Tryd.func23, Tryd.ntmps23
  go_wp2
  exact bodyPost_ret (v := .tuple #[.agg #[.int .i64 s0, .int .i64 s1, .int .i64 s2, .int .i64 s3, .int .i64 s4], .slice none 0 0]) (by simp [results, Tryd.results23, go_sem]) rfl ⟨_, rfl, OwnG.nil _ _, (by repeat' (first | exact Below.refl _ _ | (refine Below.setCell ?_ (by simp <;> omega) _) | (refine Below.alloc ?_ (by simp <;> omega) _) | (refine Below.drew ?_)))⟩
set_option maxHeartbeats 1000000 in
theorem stick_hold (s0 s1 s2 s3 s4 : Int) (w : World) (h : 2 ≤ s0) (h0 : 0 ≤ s2) (h1 : s2 < 256) (h2 : s2 + 1 = s1) : Calls Tryd.prog 23 #[.agg #[.int .i64 s0, .int .i64 s1, .int .i64 s2, .int .i64 s3, .int .i64 s4]] w (StR ⟨0, 0, 0, 0, 0, [⟨3, 0, 0, 0, 4⟩]⟩ w) := by
  have hw2 : IntKind.i64.wrap (s2 + 1) = s2 + 1 := wrap64_in _ (by omega) (by omega)
  have h3 : s1 ≤ s2 + 1 := by omega
  have bR : Bl ((w.alloc (.cells #[.int .i64 s0, .int .i64 s1, .int .i64 (s2 + 1), .int .i64 s3, .int .i64 s4] 25)).alloc (.cells #[.int .i64 0, .int .i64 0, .int .i64 0, .int .i64 0, .int .i64 0] 25)) (w.heap.size + 1) [.int .i64 0, .int .i64 0, .int .i64 0, .int .i64 0, .int .i64 0] := Bl.new (w.alloc (.cells #[.int .i64 s0, .int .i64 s1, .int .i64 (s2 + 1), .int .i64 s3, .int .i64 s4] 25)) [.int .i64 0, .int .i64 0, .int .i64 0, .int .i64 0, .int .i64 0] 25 (w.heap.size + 1) (by simp)
  have B0 : Below w.heap.size w ((w.alloc (.cells #[.int .i64 s0, .int .i64 s1, .int .i64 (s2 + 1), .int .i64 s3, .int .i64 s4] 25)).alloc (.cells #[.int .i64 0, .int .i64 0, .int .i64 0, .int .i64 0, .int .i64 0] 25)) := (by repeat' (first | exact Below.refl _ _ | (refine Below.setCell ?_ (by simp <;> omega) _) | (refine Below.alloc ?_ (by simp <;> omega) _) | (refine Below.drew ?_)))
  have hz : ((w.alloc (.cells #[.int .i64 s0, .int .i64 s1, .int .i64 (s2 + 1), .int .i64 s3, .int .i64 s4] 25)).alloc (.cells #[.int .i64 0, .int .i64 0, .int .i64 0, .int .i64 0, .int .i64 0] 25)).heap.size = w.heap.size + 1 + 1 := by simp
  have H := Lib.hid h
  clear h2 h0 h1
  go_enter Tryd.func23, Tryd.ntmps23
  go_wp2_with fail
  refine (sfall_high s0 s1 (s2 + 1) s3 s4 4 _ H.out (by decide)).mono ?_
  rintro e w1 ⟨v, rfl, ho, hb⟩
  rw [hz] at ho
  replace bR := bR.keep hb
  replace B0 := below_step B0 hb
  clear hb hz
  have r0 := bR.c 0 rfl
  have s0f := bR.f 0 (x := _) rfl
  have r1 := bR.c 1 rfl
  have s1f := bR.f 1 (x := _) rfl
  have r2 := bR.c 2 rfl
  have s2f := bR.f 2 (x := _) rfl
  have r3 := bR.c 3 rfl
  have s3f := bR.f 3 (x := _) rfl
  have r4 := bR.c 4 rfl
  have s4f := bR.f 4 (x := _) rfl
  go_wp2
  have bR2 := bR.set5 (.int .i64 0) (.int .i64 0) (.int .i64 0) (.int .i64 0) (.int .i64 0)
  have B2 := below_set5 B0 (B := w.heap.size + 1) (by omega) (.int .i64 0) (.int .i64 0) (.int .i64 0) (.int .i64 0) (.int .i64 0)
  have ho2 := (ho.far5 (B := w.heap.size + 1) (by omega) (.int .i64 0) (.int .i64 0) (.int .i64 0) (.int .i64 0) (.int .i64 0)).mono (base' := w.heap.size) (by omega)
  clear r0 s0f r1 s1f r2 s2f r3 s3f r4 s4f bR B0 ho
  obtain ⟨W2, hW2⟩ : ∃ W2, W2 = (((((w1.setCell ⟨w.heap.size + 1, 0, none⟩ (.int .i64 0)).setCell ⟨w.heap.size + 1, 1, none⟩ (.int .i64 0)).setCell ⟨w.heap.size + 1, 2, none⟩ (.int .i64 0)).setCell ⟨w.heap.size + 1, 3, none⟩ (.int .i64 0)).setCell ⟨w.heap.size + 1, 4, none⟩ (.int .i64 0)) := ⟨_, rfl⟩
  rw [← hW2] at bR2 B2 ho2 ⊢
  clear hW2
  have r0 := bR2.c 0 rfl
  have r1 := bR2.c 1 rfl
  have r2 := bR2.c 2 rfl
  have r3 := bR2.c 3 rfl
  have r4 := bR2.c 4 rfl
  exact bodyPost_ret (v := .tuple #[.agg #[.int .i64 0, .int .i64 0, .int .i64 0, .int .i64 0, .int .i64 0], v]) (by simp [results, Tryd.results23, go_sem, r0, r1, r2, r3, r4]) rfl ⟨v, rfl, ho2, B2⟩
set_option maxHeartbeats 1000000 in
theorem stick_sent (s1 s2 s3 s4 : Int) (w : World) (h0 : 0 ≤ s2) (h1 : s2 < 256) (h2 : s2 + 1 < s1) : Calls Tryd.prog 23 #[.agg #[.int .i64 2, .int .i64 s1, .int .i64 s2, .int .i64 s3, .int .i64 s4]] w (StR ⟨2, s1, s2 + 1, s3, s4, []⟩ w) := by
  have hw2 : IntKind.i64.wrap (s2 + 1) = s2 + 1 := wrap64_in _ (by omega) (by omega)
  go_enter Tryd.func23, Tryd.ntmps23
  go_wp2
  exact bodyPost_ret (v := .tuple #[.agg #[.int .i64 2, .int .i64 s1, .int .i64 (s2 + 1), .int .i64 s3, .int .i64 s4], .slice none 0 0]) (by simp [results, Tryd.results23, go_sem]) rfl ⟨_, rfl, OwnG.nil _ _, (by repeat' (first | exact Below.refl _ _ | (refine Below.setCell ?_ (by simp <;> omega) _) | (refine Below.alloc ?_ (by simp <;> omega) _) | (refine Below.drew ?_)))⟩
set_option maxHeartbeats 1000000 in
theorem stick_go (s0 s1 s2 s3 s4 : Int) (w : World) (h : 3 ≤ s0) (h0 : 0 ≤ s2) (h1 : s2 < 256) (h2 : s2 + 1 < s1) (h3 : 1 ≤ s3 ∧ s3 ≤ 255) (h4 : 0 < s3 - 1) : Calls Tryd.prog 23 #[.agg #[.int .i64 s0, .int .i64 s1, .int .i64 s2, .int .i64 s3, .int .i64 s4]] w (StR ⟨s0, s1, s2 + 1, s3 - 1, s4, []⟩ w) := by
  have hw2 : IntKind.i64.wrap (s2 + 1) = s2 + 1 := wrap64_in _ (by omega) (by omega)
  have hw3 : IntKind.i64.wrap (s3 - 1) = s3 - 1 := wrap64_in _ (by omega) (by omega)
  have hq : (s0 == 2) = false := by simp; omega
  have hl : 2 ≤ s0 := by omega
  go_enter Tryd.func23, Tryd.ntmps23
  go_wp2
  exact bodyPost_ret (v := .tuple #[.agg #[.int .i64 s0, .int .i64 s1, .int .i64 (s2 + 1), .int .i64 (s3 - 1), .int .i64 s4], .slice none 0 0]) (by simp [results, Tryd.results23, go_sem]) rfl ⟨_, rfl, OwnG.nil _ _, (by repeat' (first | exact Below.refl _ _ | (refine Below.setCell ?_ (by simp <;> omega) _) | (refine Below.alloc ?_ (by simp <;> omega) _) | (refine Below.drew ?_)))⟩
set_option maxHeartbeats 1000000 in
theorem stick_keep (s0 s1 s2 s3 s4 : Int) (w : World) (h : 3 ≤ s0) (h0 : 0 ≤ s2) (h1 : s2 < 256) (h2 : s2 + 1 < s1) (h3 : 1 ≤ s3 ∧ s3 ≤ 255) (h4 : s3 - 1 = 0) (h5 : 3 ≤ s1 ∧ s1 ≤ 255) : Calls Tryd.prog 23 #[.agg #[.int .i64 s0, .int .i64 s1, .int .i64 s2, .int .i64 s3, .int .i64 s4]] w (StR ⟨s0, s1, s2 + 1, s1 / 3, s4, [⟨4, 0, 0, 0, 0⟩]⟩ w) := by
  have hw2 : IntKind.i64.wrap (s2 + 1) = s2 + 1 := wrap64_in _ (by omega) (by omega)
  have hw3 : IntKind.i64.wrap (s3 - 1) = s3 - 1 := wrap64_in _ (by omega) (by omega)
  have hq : (s0 == 2) = false := by simp; omega
  have hl : 2 ≤ s0 := by omega
  have h6 : ¬ 0 < s3 - 1 := by omega
  obtain ⟨h5a, h5b⟩ := h5
  have hq3 : Int.tdiv s1 3 = s1 / 3 := by rw [Int.tdiv_eq_ediv_of_nonneg (by omega)]
  have bR : Bl ((w.alloc (.cells #[.int .i64 s0, .int .i64 s1, .int .i64 (s2 + 1), .int .i64 (s1 / 3), .int .i64 s4] 25)).alloc (.cells #[.int .i64 0, .int .i64 0, .int .i64 0, .int .i64 0, .int .i64 0] 25)) (w.heap.size + 1) [.int .i64 0, .int .i64 0, .int .i64 0, .int .i64 0, .int .i64 0] := Bl.new (w.alloc (.cells #[.int .i64 s0, .int .i64 s1, .int .i64 (s2 + 1), .int .i64 (s1 / 3), .int .i64 s4] 25)) [.int .i64 0, .int .i64 0, .int .i64 0, .int .i64 0, .int .i64 0] 25 (w.heap.size + 1) (by simp)
  have B0 : Below w.heap.size w ((w.alloc (.cells #[.int .i64 s0, .int .i64 s1, .int .i64 (s2 + 1), .int .i64 (s1 / 3), .int .i64 s4] 25)).alloc (.cells #[.int .i64 0, .int .i64 0, .int .i64 0, .int .i64 0, .int .i64 0] 25)) := (by repeat' (first | exact Below.refl _ _ | (refine Below.setCell ?_ (by simp <;> omega) _) | (refine Below.alloc ?_ (by simp <;> omega) _) | (refine Below.drew ?_)))
  have hz : ((w.alloc (.cells #[.int .i64 s0, .int .i64 s1, .int .i64 (s2 + 1), .int .i64 (s1 / 3), .int .i64 s4] 25)).alloc (.cells #[.int .i64 0, .int .i64 0, .int .i64 0, .int .i64 0, .int .i64 0] 25)).heap.size = w.heap.size + 1 + 1 := by simp
  have bS : Bl ((w.alloc (.cells #[.int .i64 s0, .int .i64 s1, .int .i64 (s2 + 1), .int .i64 (s1 / 3), .int .i64 s4] 25)).alloc (.cells #[.int .i64 0, .int .i64 0, .int .i64 0, .int .i64 0, .int .i64 0] 25)) w.heap.size [.int .i64 s0, .int .i64 s1, .int .i64 (s2 + 1), .int .i64 (s1 / 3), .int .i64 s4] := (Bl.new w [.int .i64 s0, .int .i64 s1, .int .i64 (s2 + 1), .int .i64 (s1 / 3), .int .i64 s4] 25 w.heap.size rfl).alloc _
  go_enter Tryd.func23, Tryd.ntmps23
  go_wp2_with fail
  obtain ⟨V, eV⟩ : ∃ V, V = ((w.alloc (.cells #[.int .i64 s0, .int .i64 s1, .int .i64 (s2 + 1), .int .i64 (s1 / 3), .int .i64 s4] 25)).alloc (.cells #[.int .i64 0, .int .i64 0, .int .i64 0, .int .i64 0, .int .i64 0] 25)) := ⟨_, rfl⟩
  rw [← eV] at bR B0 hz bS ⊢
  clear eV
  replace hz := Lib.hid hz
  have lds := And.intro (And.intro trivial trivial) trivial
  clear lds
  have dbS0 := over_cell (over_drew V) bS.lt (bS.c 0 rfl)
  have dbS1 := over_cell (over_drew V) bS.lt (bS.c 1 rfl)
  have dbS2 := over_cell (over_drew V) bS.lt (bS.c 2 rfl)
  have dbS3 := over_cell (over_drew V) bS.lt (bS.c 3 rfl)
  have dbS4 := over_cell (over_drew V) bS.lt (bS.c 4 rfl)
  refine wp_region_held_drew (S := fun _ => True) (by kernel_rfl) trivial (fun hHeld => ?_)
  refine wpAnyH_ready (rs := [0, 1]) (by kernel_rfl) (by simp) ?_
  refine (AllReadyH.cons rfl (fun K hK => ?_) (AllReadyH.cons rfl (fun K hK => ?_) AllReadyH.nil))
  · go_simp
    refine hK.out _ _ trivial (fun hHeld => ?_)
    clear hK K
    try simp only [Act.put, List.setIfInBounds_toArray, List.set_cons_zero, List.set_cons_succ]
    refine wpAnyH_ready (rs := [1]) (by kernel_rfl) (by simp) ?_
    refine (AllReadyH.cons rfl (fun K hK => ?_) AllReadyH.nil)
    go_simp
    refine (skeep_any _).mono ?_
    rintro e w1 ⟨rfl, hb⟩
    have O1 : Over V w1 := over_step (over_drew _) hb
    have hs := O1.size
    have bR1 := bR.keep O1
    have bR2 := bR1.alloc (.cells #[.int .i64 4, .int .i64 0, .int .i64 0, .int .i64 0, .slice none 0 0, .slice none 0 0, .slice none 0 0, .int .i64 0, .slice none 0 0, .int .i64 0, .int .i64 0] 46)
    have B1 := below_step B0 O1
    have r0 := bR1.c 0 rfl
    have r0f := bR1.f 0 (x := _) rfl
    have t0 := bR2.c 0 rfl
    have t0f := bR2.f 0 (x := _) rfl
    have r1 := bR1.c 1 rfl
    have r1f := bR1.f 1 (x := _) rfl
    have t1 := bR2.c 1 rfl
    have t1f := bR2.f 1 (x := _) rfl
    have r2 := bR1.c 2 rfl
    have r2f := bR1.f 2 (x := _) rfl
    have t2 := bR2.c 2 rfl
    have t2f := bR2.f 2 (x := _) rfl
    have r3 := bR1.c 3 rfl
    have r3f := bR1.f 3 (x := _) rfl
    have t3 := bR2.c 3 rfl
    have t3f := bR2.f 3 (x := _) rfl
    have r4 := bR1.c 4 rfl
    have r4f := bR1.f 4 (x := _) rfl
    have t4 := bR2.c 4 rfl
    have t4f := bR2.f 4 (x := _) rfl
    have ubS0 := (bS.keep O1).c 0 rfl
    have vbS0 := ((bS.keep O1).alloc (.cells #[.int .i64 4, .int .i64 0, .int .i64 0, .int .i64 0, .slice none 0 0, .slice none 0 0, .slice none 0 0, .int .i64 0, .slice none 0 0, .int .i64 0, .int .i64 0] 46)).c 0 rfl
    have ubS1 := (bS.keep O1).c 1 rfl
    have vbS1 := ((bS.keep O1).alloc (.cells #[.int .i64 4, .int .i64 0, .int .i64 0, .int .i64 0, .slice none 0 0, .slice none 0 0, .slice none 0 0, .int .i64 0, .slice none 0 0, .int .i64 0, .int .i64 0] 46)).c 1 rfl
    have ubS2 := (bS.keep O1).c 2 rfl
    have vbS2 := ((bS.keep O1).alloc (.cells #[.int .i64 4, .int .i64 0, .int .i64 0, .int .i64 0, .slice none 0 0, .slice none 0 0, .slice none 0 0, .int .i64 0, .slice none 0 0, .int .i64 0, .int .i64 0] 46)).c 2 rfl
    have ubS3 := (bS.keep O1).c 3 rfl
    have vbS3 := ((bS.keep O1).alloc (.cells #[.int .i64 4, .int .i64 0, .int .i64 0, .int .i64 0, .slice none 0 0, .slice none 0 0, .slice none 0 0, .int .i64 0, .slice none 0 0, .int .i64 0, .int .i64 0] 46)).c 3 rfl
    have ubS4 := (bS.keep O1).c 4 rfl
    have vbS4 := ((bS.keep O1).alloc (.cells #[.int .i64 4, .int .i64 0, .int .i64 0, .int .i64 0, .slice none 0 0, .slice none 0 0, .slice none 0 0, .int .i64 0, .slice none 0 0, .int .i64 0, .int .i64 0] 46)).c 4 rfl
    clear hb
    refine hK.out _ _ trivial (fun hHeld => ?_)
    clear hK K
    try simp only [Act.put, List.setIfInBounds_toArray, List.set_cons_zero, List.set_cons_succ]
    refine wpAnyH_ready (rs := [2, 3]) (by kernel_rfl) (by simp) ?_
    refine (AllReadyH.cons rfl (fun K hK => ?_) (AllReadyH.cons rfl (fun K hK => ?_) AllReadyH.nil))
    · go_simp
      refine hK.out _ _ trivial (fun hHeld => ?_)
      clear hK K
      try simp only [Act.put, List.setIfInBounds_toArray, List.set_cons_zero, List.set_cons_succ]
      refine wpAnyH_ready (rs := [3]) (by kernel_rfl) (by simp) ?_
      refine (AllReadyH.cons rfl (fun K hK => ?_) AllReadyH.nil)
      go_simp
      refine hK.out _ _ trivial (fun hHeld => ?_)
      clear hK K
      try simp only [Act.put, List.setIfInBounds_toArray, List.set_cons_zero, List.set_cons_succ]
      refine wpAnyH_ready (rs := [4]) (by kernel_rfl) (by simp) ?_
      refine (AllReadyH.cons rfl (fun K hK => ?_) AllReadyH.nil)
      go_simp
      refine hK.out _ _ trivial (fun hHeld => ?_)
      clear hK K
      try simp only [Act.put, List.setIfInBounds_toArray, List.set_cons_zero, List.set_cons_succ]
      refine wpAnyH_done (by kernel_rfl) ?_ _
      have hbl := bR2.set5 (.int .i64 s0) (.int .i64 s1) (.int .i64 (s2 + 1)) (.int .i64 (s1 / 3)) (.int .i64 s4)
      have how := (OwnG.lit w1 ⟨4, 0, 0, 0, 0⟩ V.heap.size hs).far5 (B := w.heap.size + 1) (by rw [hz.out]; omega) (.int .i64 s0) (.int .i64 s1) (.int .i64 (s2 + 1)) (.int .i64 (s1 / 3)) (.int .i64 s4)
      have hbe := below_set5 (B1.alloc B1.size (.cells #[.int .i64 4, .int .i64 0, .int .i64 0, .int .i64 0, .slice none 0 0, .slice none 0 0, .slice none 0 0, .int .i64 0, .slice none 0 0, .int .i64 0, .int .i64 0] 46)) (B := w.heap.size + 1) (by omega) (.int .i64 s0) (.int .i64 s1) (.int .i64 (s2 + 1)) (.int .i64 (s1 / 3)) (.int .i64 s4)
      replace how := how.mono (base' := w.heap.size) (by rw [hz.out]; omega)
      simp only [Bm.cells] at how hbl hbe
      clear r0 r0f t0 t0f r1 r1f t1 t1f r2 r2f t2 t2f r3 r3f t3 t3f r4 r4f t4 t4f ubS0 vbS0 ubS1 vbS1 ubS2 vbS2 ubS3 vbS3 ubS4 vbS4
      go_wp2
      obtain ⟨W2, hW2⟩ : ∃ W2, W2 = ((((((w1.alloc (.cells #[.int .i64 4, .int .i64 0, .int .i64 0, .int .i64 0, .slice none 0 0, .slice none 0 0, .slice none 0 0, .int .i64 0, .slice none 0 0, .int .i64 0, .int .i64 0] 46)).setCell ⟨w.heap.size + 1, 0, none⟩ (.int .i64 s0)).setCell ⟨w.heap.size + 1, 1, none⟩ (.int .i64 s1)).setCell ⟨w.heap.size + 1, 2, none⟩ (.int .i64 (s2 + 1))).setCell ⟨w.heap.size + 1, 3, none⟩ (.int .i64 (s1 / 3))).setCell ⟨w.heap.size + 1, 4, none⟩ (.int .i64 s4)) := ⟨_, rfl⟩
      rw [← hW2] at hbl how hbe ⊢
      clear hW2
      have r0 := hbl.c 0 rfl
      have r1 := hbl.c 1 rfl
      have r2 := hbl.c 2 rfl
      have r3 := hbl.c 3 rfl
      have r4 := hbl.c 4 rfl
      exact bodyPost_ret (v := .tuple #[.agg #[.int .i64 s0, .int .i64 s1, .int .i64 (s2 + 1), .int .i64 (s1 / 3), .int .i64 s4], .slice (some ⟨w1.heap.size, 0, none⟩) 1 1]) (by simp [results, Tryd.results23, go_sem, r0, r1, r2, r3, r4]) rfl ⟨_, rfl, how, hbe⟩
    · go_simp
      refine hK.out _ _ trivial (fun hHeld => ?_)
      clear hK K
      try simp only [Act.put, List.setIfInBounds_toArray, List.set_cons_zero, List.set_cons_succ]
      refine wpAnyH_ready (rs := [2]) (by kernel_rfl) (by simp) ?_
      refine (AllReadyH.cons rfl (fun K hK => ?_) AllReadyH.nil)
      go_simp
      refine hK.out _ _ trivial (fun hHeld => ?_)
      clear hK K
      try simp only [Act.put, List.setIfInBounds_toArray, List.set_cons_zero, List.set_cons_succ]
      refine wpAnyH_ready (rs := [4]) (by kernel_rfl) (by simp) ?_
      refine (AllReadyH.cons rfl (fun K hK => ?_) AllReadyH.nil)
      go_simp
      refine hK.out _ _ trivial (fun hHeld => ?_)
      clear hK K
      try simp only [Act.put, List.setIfInBounds_toArray, List.set_cons_zero, List.set_cons_succ]
      refine wpAnyH_done (by kernel_rfl) ?_ _
      have hbl := (bR1.set5 (.int .i64 s0) (.int .i64 s1) (.int .i64 (s2 + 1)) (.int .i64 (s1 / 3)) (.int .i64 s4)).alloc (.cells #[.int .i64 4, .int .i64 0, .int .i64 0, .int .i64 0, .slice none 0 0, .slice none 0 0, .slice none 0 0, .int .i64 0, .slice none 0 0, .int .i64 0, .int .i64 0] 46)
      have how := OwnG.lit (((((w1.setCell ⟨w.heap.size + 1, 0, none⟩ (.int .i64 s0)).setCell ⟨w.heap.size + 1, 1, none⟩ (.int .i64 s1)).setCell ⟨w.heap.size + 1, 2, none⟩ (.int .i64 (s2 + 1))).setCell ⟨w.heap.size + 1, 3, none⟩ (.int .i64 (s1 / 3))).setCell ⟨w.heap.size + 1, 4, none⟩ (.int .i64 s4)) ⟨4, 0, 0, 0, 0⟩ V.heap.size (by simpa using hs)
      have hbe := (below_set5 B1 (B := w.heap.size + 1) (by omega) (.int .i64 s0) (.int .i64 s1) (.int .i64 (s2 + 1)) (.int .i64 (s1 / 3)) (.int .i64 s4)).alloc (by have := B1.size; simpa using this) (.cells #[.int .i64 4, .int .i64 0, .int .i64 0, .int .i64 0, .slice none 0 0, .slice none 0 0, .slice none 0 0, .int .i64 0, .slice none 0 0, .int .i64 0, .int .i64 0] 46)
      replace how := how.mono (base' := w.heap.size) (by rw [hz.out]; omega)
      rw [show ((((((w1.setCell ⟨w.heap.size + 1, 0, none⟩ (.int .i64 s0)).setCell ⟨w.heap.size + 1, 1, none⟩ (.int .i64 s1)).setCell ⟨w.heap.size + 1, 2, none⟩ (.int .i64 (s2 + 1))).setCell ⟨w.heap.size + 1, 3, none⟩ (.int .i64 (s1 / 3))).setCell ⟨w.heap.size + 1, 4, none⟩ (.int .i64 s4))).heap.size = w1.heap.size by simp] at how
      simp only [Bm.cells] at how hbl hbe
      clear r0 r0f t0 t0f r1 r1f t1 t1f r2 r2f t2 t2f r3 r3f t3 t3f r4 r4f t4 t4f ubS0 vbS0 ubS1 vbS1 ubS2 vbS2 ubS3 vbS3 ubS4 vbS4
      go_wp2
      obtain ⟨W2, hW2⟩ : ∃ W2, W2 = ((((((w1.setCell ⟨w.heap.size + 1, 0, none⟩ (.int .i64 s0)).setCell ⟨w.heap.size + 1, 1, none⟩ (.int .i64 s1)).setCell ⟨w.heap.size + 1, 2, none⟩ (.int .i64 (s2 + 1))).setCell ⟨w.heap.size + 1, 3, none⟩ (.int .i64 (s1 / 3))).setCell ⟨w.heap.size + 1, 4, none⟩ (.int .i64 s4)).alloc (.cells #[.int .i64 4, .int .i64 0, .int .i64 0, .int .i64 0, .slice none 0 0, .slice none 0 0, .slice none 0 0, .int .i64 0, .slice none 0 0, .int .i64 0, .int .i64 0] 46)) := ⟨_, rfl⟩
      rw [← hW2] at hbl how hbe ⊢
      clear hW2
      have r0 := hbl.c 0 rfl
      have r1 := hbl.c 1 rfl
      have r2 := hbl.c 2 rfl
      have r3 := hbl.c 3 rfl
      have r4 := hbl.c 4 rfl
      exact bodyPost_ret (v := .tuple #[.agg #[.int .i64 s0, .int .i64 s1, .int .i64 (s2 + 1), .int .i64 (s1 / 3), .int .i64 s4], .slice (some ⟨w1.heap.size, 0, none⟩) 1 1]) (by simp [results, Tryd.results23, go_sem, r0, r1, r2, r3, r4]) rfl ⟨_, rfl, how, hbe⟩
  · go_simp
    refine (skeep_any _).mono ?_
    rintro e w1 ⟨rfl, hb⟩
    have O1 : Over V w1 := over_step (over_drew _) hb
    have hs := O1.size
    have bR1 := bR.keep O1
    have bR2 := bR1.alloc (.cells #[.int .i64 4, .int .i64 0, .int .i64 0, .int .i64 0, .slice none 0 0, .slice none 0 0, .slice none 0 0, .int .i64 0, .slice none 0 0, .int .i64 0, .int .i64 0] 46)
    have B1 := below_step B0 O1
    have r0 := bR1.c 0 rfl
    have r0f := bR1.f 0 (x := _) rfl
    have t0 := bR2.c 0 rfl
    have t0f := bR2.f 0 (x := _) rfl
    have r1 := bR1.c 1 rfl
    have r1f := bR1.f 1 (x := _) rfl
    have t1 := bR2.c 1 rfl
    have t1f := bR2.f 1 (x := _) rfl
    have r2 := bR1.c 2 rfl
    have r2f := bR1.f 2 (x := _) rfl
    have t2 := bR2.c 2 rfl
    have t2f := bR2.f 2 (x := _) rfl
    have r3 := bR1.c 3 rfl
    have r3f := bR1.f 3 (x := _) rfl
    have t3 := bR2.c 3 rfl
    have t3f := bR2.f 3 (x := _) rfl
    have r4 := bR1.c 4 rfl
    have r4f := bR1.f 4 (x := _) rfl
    have t4 := bR2.c 4 rfl
    have t4f := bR2.f 4 (x := _) rfl
    have ubS0 := (bS.keep O1).c 0 rfl
    have vbS0 := ((bS.keep O1).alloc (.cells #[.int .i64 4, .int .i64 0, .int .i64 0, .int .i64 0, .slice none 0 0, .slice none 0 0, .slice none 0 0, .int .i64 0, .slice none 0 0, .int .i64 0, .int .i64 0] 46)).c 0 rfl
    have ubS1 := (bS.keep O1).c 1 rfl
    have vbS1 := ((bS.keep O1).alloc (.cells #[.int .i64 4, .int .i64 0, .int .i64 0, .int .i64 0, .slice none 0 0, .slice none 0 0, .slice none 0 0, .int .i64 0, .slice none 0 0, .int .i64 0, .int .i64 0] 46)).c 1 rfl
    have ubS2 := (bS.keep O1).c 2 rfl
    have vbS2 := ((bS.keep O1).alloc (.cells #[.int .i64 4, .int .i64 0, .int .i64 0, .int .i64 0, .slice none 0 0, .slice none 0 0, .slice none 0 0, .int .i64 0, .slice none 0 0, .int .i64 0, .int .i64 0] 46)).c 2 rfl
    have ubS3 := (bS.keep O1).c 3 rfl
    have vbS3 := ((bS.keep O1).alloc (.cells #[.int .i64 4, .int .i64 0, .int .i64 0, .int .i64 0, .slice none 0 0, .slice none 0 0, .slice none 0 0, .int .i64 0, .slice none 0 0, .int .i64 0, .int .i64 0] 46)).c 3 rfl
    have ubS4 := (bS.keep O1).c 4 rfl
    have vbS4 := ((bS.keep O1).alloc (.cells #[.int .i64 4, .int .i64 0, .int .i64 0, .int .i64 0, .slice none 0 0, .slice none 0 0, .slice none 0 0, .int .i64 0, .slice none 0 0, .int .i64 0, .int .i64 0] 46)).c 4 rfl
    clear hb
    refine hK.out _ _ trivial (fun hHeld => ?_)
    clear hK K
    try simp only [Act.put, List.setIfInBounds_toArray, List.set_cons_zero, List.set_cons_succ]
    refine wpAnyH_ready (rs := [0, 2]) (by kernel_rfl) (by simp) ?_
    refine (AllReadyH.cons rfl (fun K hK => ?_) (AllReadyH.cons rfl (fun K hK => ?_) AllReadyH.nil))
    · go_simp
      refine hK.out _ _ trivial (fun hHeld => ?_)
      clear hK K
      try simp only [Act.put, List.setIfInBounds_toArray, List.set_cons_zero, List.set_cons_succ]
      refine wpAnyH_ready (rs := [2, 3]) (by kernel_rfl) (by simp) ?_
      refine (AllReadyH.cons rfl (fun K hK => ?_) (AllReadyH.cons rfl (fun K hK => ?_) AllReadyH.nil))
      · go_simp
        refine hK.out _ _ trivial (fun hHeld => ?_)
        clear hK K
        try simp only [Act.put, List.setIfInBounds_toArray, List.set_cons_zero, List.set_cons_succ]
        refine wpAnyH_ready (rs := [3]) (by kernel_rfl) (by simp) ?_
        refine (AllReadyH.cons rfl (fun K hK => ?_) AllReadyH.nil)
        go_simp
        refine hK.out _ _ trivial (fun hHeld => ?_)
        clear hK K
        try simp only [Act.put, List.setIfInBounds_toArray, List.set_cons_zero, List.set_cons_succ]
        refine wpAnyH_ready (rs := [4]) (by kernel_rfl) (by simp) ?_
        refine (AllReadyH.cons rfl (fun K hK => ?_) AllReadyH.nil)
        go_simp
        refine hK.out _ _ trivial (fun hHeld => ?_)
        clear hK K
        try simp only [Act.put, List.setIfInBounds_toArray, List.set_cons_zero, List.set_cons_succ]
        refine wpAnyH_done (by kernel_rfl) ?_ _
        have hbl := bR2.set5 (.int .i64 s0) (.int .i64 s1) (.int .i64 (s2 + 1)) (.int .i64 (s1 / 3)) (.int .i64 s4)
        have how := (OwnG.lit w1 ⟨4, 0, 0, 0, 0⟩ V.heap.size hs).far5 (B := w.heap.size + 1) (by rw [hz.out]; omega) (.int .i64 s0) (.int .i64 s1) (.int .i64 (s2 + 1)) (.int .i64 (s1 / 3)) (.int .i64 s4)
        have hbe := below_set5 (B1.alloc B1.size (.cells #[.int .i64 4, .int .i64 0, .int .i64 0, .int .i64 0, .slice none 0 0, .slice none 0 0, .slice none 0 0, .int .i64 0, .slice none 0 0, .int .i64 0, .int .i64 0] 46)) (B := w.heap.size + 1) (by omega) (.int .i64 s0) (.int .i64 s1) (.int .i64 (s2 + 1)) (.int .i64 (s1 / 3)) (.int .i64 s4)
        replace how := how.mono (base' := w.heap.size) (by rw [hz.out]; omega)
        simp only [Bm.cells] at how hbl hbe
        clear r0 r0f t0 t0f r1 r1f t1 t1f r2 r2f t2 t2f r3 r3f t3 t3f r4 r4f t4 t4f ubS0 vbS0 ubS1 vbS1 ubS2 vbS2 ubS3 vbS3 ubS4 vbS4
        go_wp2
        obtain ⟨W2, hW2⟩ : ∃ W2, W2 = ((((((w1.alloc (.cells #[.int .i64 4, .int .i64 0, .int .i64 0, .int .i64 0, .slice none 0 0, .slice none 0 0, .slice none 0 0, .int .i64 0, .slice none 0 0, .int .i64 0, .int .i64 0] 46)).setCell ⟨w.heap.size + 1, 0, none⟩ (.int .i64 s0)).setCell ⟨w.heap.size + 1, 1, none⟩ (.int .i64 s1)).setCell ⟨w.heap.size + 1, 2, none⟩ (.int .i64 (s2 + 1))).setCell ⟨w.heap.size + 1, 3, none⟩ (.int .i64 (s1 / 3))).setCell ⟨w.heap.size + 1, 4, none⟩ (.int .i64 s4)) := ⟨_, rfl⟩
        rw [← hW2] at hbl how hbe ⊢
        clear hW2
        have r0 := hbl.c 0 rfl
        have r1 := hbl.c 1 rfl
        have r2 := hbl.c 2 rfl
        have r3 := hbl.c 3 rfl
        have r4 := hbl.c 4 rfl
        exact bodyPost_ret (v := .tuple #[.agg #[.int .i64 s0, .int .i64 s1, .int .i64 (s2 + 1), .int .i64 (s1 / 3), .int .i64 s4], .slice (some ⟨w1.heap.size, 0, none⟩) 1 1]) (by simp [results, Tryd.results23, go_sem, r0, r1, r2, r3, r4]) rfl ⟨_, rfl, how, hbe⟩
      · go_simp
        refine hK.out _ _ trivial (fun hHeld => ?_)
        clear hK K
        try simp only [Act.put, List.setIfInBounds_toArray, List.set_cons_zero, List.set_cons_succ]
        refine wpAnyH_ready (rs := [2]) (by kernel_rfl) (by simp) ?_
        refine (AllReadyH.cons rfl (fun K hK => ?_) AllReadyH.nil)
        go_simp
        refine hK.out _ _ trivial (fun hHeld => ?_)
        clear hK K
        try simp only [Act.put, List.setIfInBounds_toArray, List.set_cons_zero, List.set_cons_succ]
        refine wpAnyH_ready (rs := [4]) (by kernel_rfl) (by simp) ?_
        refine (AllReadyH.cons rfl (fun K hK => ?_) AllReadyH.nil)
        go_simp
        refine hK.out _ _ trivial (fun hHeld => ?_)
        clear hK K
        try simp only [Act.put, List.setIfInBounds_toArray, List.set_cons_zero, List.set_cons_succ]
        refine wpAnyH_done (by kernel_rfl) ?_ _
        have hbl := (bR1.set5 (.int .i64 s0) (.int .i64 s1) (.int .i64 (s2 + 1)) (.int .i64 (s1 / 3)) (.int .i64 s4)).alloc (.cells #[.int .i64 4, .int .i64 0, .int .i64 0, .int .i64 0, .slice none 0 0, .slice none 0 0, .slice none 0 0, .int .i64 0, .slice none 0 0, .int .i64 0, .int .i64 0] 46)
        have how := OwnG.lit (((((w1.setCell ⟨w.heap.size + 1, 0, none⟩ (.int .i64 s0)).setCell ⟨w.heap.size + 1, 1, none⟩ (.int .i64 s1)).setCell ⟨w.heap.size + 1, 2, none⟩ (.int .i64 (s2 + 1))).setCell ⟨w.heap.size + 1, 3, none⟩ (.int .i64 (s1 / 3))).setCell ⟨w.heap.size + 1, 4, none⟩ (.int .i64 s4)) ⟨4, 0, 0, 0, 0⟩ V.heap.size (by simpa using hs)
        have hbe := (below_set5 B1 (B := w.heap.size + 1) (by omega) (.int .i64 s0) (.int .i64 s1) (.int .i64 (s2 + 1)) (.int .i64 (s1 / 3)) (.int .i64 s4)).alloc (by have := B1.size; simpa using this) (.cells #[.int .i64 4, .int .i64 0, .int .i64 0, .int .i64 0, .slice none 0 0, .slice none 0 0, .slice none 0 0, .int .i64 0, .slice none 0 0, .int .i64 0, .int .i64 0] 46)
        replace how := how.mono (base' := w.heap.size) (by rw [hz.out]; omega)
        rw [show ((((((w1.setCell ⟨w.heap.size + 1, 0, none⟩ (.int .i64 s0)).setCell ⟨w.heap.size + 1, 1, none⟩ (.int .i64 s1)).setCell ⟨w.heap.size + 1, 2, none⟩ (.int .i64 (s2 + 1))).setCell ⟨w.heap.size + 1, 3, none⟩ (.int .i64 (s1 / 3))).setCell ⟨w.heap.size + 1, 4, none⟩ (.int .i64 s4))).heap.size = w1.heap.size by simp] at how
        simp only [Bm.cells] at how hbl hbe
        clear r0 r0f t0 t0f r1 r1f t1 t1f r2 r2f t2 t2f r3 r3f t3 t3f r4 r4f t4 t4f ubS0 vbS0 ubS1 vbS1 ubS2 vbS2 ubS3 vbS3 ubS4 vbS4
        go_wp2
        obtain ⟨W2, hW2⟩ : ∃ W2, W2 = ((((((w1.setCell ⟨w.heap.size + 1, 0, none⟩ (.int .i64 s0)).setCell ⟨w.heap.size + 1, 1, none⟩ (.int .i64 s1)).setCell ⟨w.heap.size + 1, 2, none⟩ (.int .i64 (s2 + 1))).setCell ⟨w.heap.size + 1, 3, none⟩ (.int .i64 (s1 / 3))).setCell ⟨w.heap.size + 1, 4, none⟩ (.int .i64 s4)).alloc (.cells #[.int .i64 4, .int .i64 0, .int .i64 0, .int .i64 0, .slice none 0 0, .slice none 0 0, .slice none 0 0, .int .i64 0, .slice none 0 0, .int .i64 0, .int .i64 0] 46)) := ⟨_, rfl⟩
        rw [← hW2] at hbl how hbe ⊢
        clear hW2
        have r0 := hbl.c 0 rfl
        have r1 := hbl.c 1 rfl
        have r2 := hbl.c 2 rfl
        have r3 := hbl.c 3 rfl
        have r4 := hbl.c 4 rfl
        exact bodyPost_ret (v := .tuple #[.agg #[.int .i64 s0, .int .i64 s1, .int .i64 (s2 + 1), .int .i64 (s1 / 3), .int .i64 s4], .slice (some ⟨w1.heap.size, 0, none⟩) 1 1]) (by simp [results, Tryd.results23, go_sem, r0, r1, r2, r3, r4]) rfl ⟨_, rfl, how, hbe⟩
    · go_simp
      refine hK.out _ _ trivial (fun hHeld => ?_)
      clear hK K
      try simp only [Act.put, List.setIfInBounds_toArray, List.set_cons_zero, List.set_cons_succ]
      refine wpAnyH_ready (rs := [0]) (by kernel_rfl) (by simp) ?_
      refine (AllReadyH.cons rfl (fun K hK => ?_) AllReadyH.nil)
      go_simp
      refine hK.out _ _ trivial (fun hHeld => ?_)
      clear hK K
      try simp only [Act.put, List.setIfInBounds_toArray, List.set_cons_zero, List.set_cons_succ]
      refine wpAnyH_ready (rs := [3]) (by kernel_rfl) (by simp) ?_
      refine (AllReadyH.cons rfl (fun K hK => ?_) AllReadyH.nil)
      go_simp
      refine hK.out _ _ trivial (fun hHeld => ?_)
      clear hK K
      try simp only [Act.put, List.setIfInBounds_toArray, List.set_cons_zero, List.set_cons_succ]
      refine wpAnyH_ready (rs := [4]) (by kernel_rfl) (by simp) ?_
      refine (AllReadyH.cons rfl (fun K hK => ?_) AllReadyH.nil)
      go_simp
      refine hK.out _ _ trivial (fun hHeld => ?_)
      clear hK K
      try simp only [Act.put, List.setIfInBounds_toArray, List.set_cons_zero, List.set_cons_succ]
      refine wpAnyH_done (by kernel_rfl) ?_ _
      have hbl := bR2.set5 (.int .i64 s0) (.int .i64 s1) (.int .i64 (s2 + 1)) (.int .i64 (s1 / 3)) (.int .i64 s4)
      have how := (OwnG.lit w1 ⟨4, 0, 0, 0, 0⟩ V.heap.size hs).far5 (B := w.heap.size + 1) (by rw [hz.out]; omega) (.int .i64 s0) (.int .i64 s1) (.int .i64 (s2 + 1)) (.int .i64 (s1 / 3)) (.int .i64 s4)
      have hbe := below_set5 (B1.alloc B1.size (.cells #[.int .i64 4, .int .i64 0, .int .i64 0, .int .i64 0, .slice none 0 0, .slice none 0 0, .slice none 0 0, .int .i64 0, .slice none 0 0, .int .i64 0, .int .i64 0] 46)) (B := w.heap.size + 1) (by omega) (.int .i64 s0) (.int .i64 s1) (.int .i64 (s2 + 1)) (.int .i64 (s1 / 3)) (.int .i64 s4)
      replace how := how.mono (base' := w.heap.size) (by rw [hz.out]; omega)
      simp only [Bm.cells] at how hbl hbe
      clear r0 r0f t0 t0f r1 r1f t1 t1f r2 r2f t2 t2f r3 r3f t3 t3f r4 r4f t4 t4f ubS0 vbS0 ubS1 vbS1 ubS2 vbS2 ubS3 vbS3 ubS4 vbS4
      go_wp2
      obtain ⟨W2, hW2⟩ : ∃ W2, W2 = ((((((w1.alloc (.cells #[.int .i64 4, .int .i64 0, .int .i64 0, .int .i64 0, .slice none 0 0, .slice none 0 0, .slice none 0 0, .int .i64 0, .slice none 0 0, .int .i64 0, .int .i64 0] 46)).setCell ⟨w.heap.size + 1, 0, none⟩ (.int .i64 s0)).setCell ⟨w.heap.size + 1, 1, none⟩ (.int .i64 s1)).setCell ⟨w.heap.size + 1, 2, none⟩ (.int .i64 (s2 + 1))).setCell ⟨w.heap.size + 1, 3, none⟩ (.int .i64 (s1 / 3))).setCell ⟨w.heap.size + 1, 4, none⟩ (.int .i64 s4)) := ⟨_, rfl⟩
      rw [← hW2] at hbl how hbe ⊢
      clear hW2
      have r0 := hbl.c 0 rfl
      have r1 := hbl.c 1 rfl
      have r2 := hbl.c 2 rfl
      have r3 := hbl.c 3 rfl
      have r4 := hbl.c 4 rfl
      exact bodyPost_ret (v := .tuple #[.agg #[.int .i64 s0, .int .i64 s1, .int .i64 (s2 + 1), .int .i64 (s1 / 3), .int .i64 s4], .slice (some ⟨w1.heap.size, 0, none⟩) 1 1]) (by simp [results, Tryd.results23, go_sem, r0, r1, r2, r3, r4]) rfl ⟨_, rfl, how, hbe⟩
end Go.Proofs.YtnklnibjlhnicaaRRRRDoor
