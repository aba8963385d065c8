/-
  Contracts of PrefixText of the program and of the model: one text. Condition: the library's table of powers of ten reads as it is laid.
-/
import Derived.Test.YtcmbajphholliabDoorT1
namespace Go.Proofs.YtcmbajphholliabDoor
open Go.ChangeShapes Go.WideShapes Go.ChangeAt Go.RowKit Go.BigFrame
set_option linter.unusedVariables false
set_option maxRecDepth 100000

theorem itext_any (a n : Int) (w : World) (ht : Tab w) : Calls Tryd.prog 72 #[.agg #[.int .i64 a, .int .i64 n]] w (TextB w (textL a n)) := by
  obtain ⟨c0, c1, lt, B0⟩ := box2 w (.int .i64 a) (.int .i64 n) 83
  have ht0 := ht.keep B0
  cases hp : pokB a n
  · rw [show textL a n = [] by simp [textL, hp]]
    have H := Lib.hid hp
    clear hp
    go_enter Tryd.func72, Tryd.ntmps72
    go_wp2_with fail
    refine (ipok_t _ H).mono ?_
    rintro e w1 ⟨rfl, hb1⟩
    go_wp2_with fail
    go_ret
    exact ⟨_, rfl, ⟨by simp, by simp, .inl ⟨none, 0, rfl, rfl, fun _ => rfl⟩⟩, below_step B0 hb1⟩
  · obtain ⟨ha0, ha1, hn0, hn1, -⟩ := pok_of hp
    rw [show textL a n = dg (a / 256).toNat ++ 46 :: (dg (a % 256).toNat ++ 47 :: dg n.toNat) by rw [textL, if_pos hp]]
    have H := Lib.hid hp
    clear hp
    have hconv := fun (W : World) (s : ByteArray) => Lib.run_convert_string_bytes (P := Tryd.prog) W 9 22 BT s Tryd.underlying9 Tryd.underlying22 Tryd.underlying5
    go_enter Tryd.func72, Tryd.ntmps72
    go_wp2_with fail
    refine (ipok_t _ H).mono ?_
    rintro e w1 ⟨rfl, hb1⟩
    have k0 := cell_keep hb1 lt c0
    have k1 := cell_keep hb1 lt c1
    have l1 := Nat.lt_of_lt_of_le lt hb1.size
    have B1 := below_step B0 hb1
    have ht1 := ht0.keep hb1
    clear hb1 c0 c1 lt ht0
    go_wp2_with fail
    refine wp_region_class (C := Over (w1)) (by kernel_rfl) (by kernel_rfl) (over_drew _) ?_
    repeat (first | go_big_quiet_skip | (go_big_quiet_want; go_big_quiet_op; go_big_quiet_on) | (go_big_quiet_want; apply Exists.intro; refine ⟨fun w' hC => ?_, ?_⟩; (have k0 := over_cell hC l1 k0; simp [Oper.quietAt, Oper.quietUpon, go_sem, k0]; first | done | rfl); go_big_quiet_on; simp only [Act.put, List.setIfInBounds_toArray, List.set_cons_zero, List.set_cons_succ]))
    refine wpQuiet_nil ?_
    intro wr hC
    replace k0 := over_cell hC l1 k0
    replace k1 := over_cell hC l1 k1
    have ht2 := ht1.keep (over_below hC)
    have l2 := Nat.lt_of_lt_of_le l1 (over_below hC).size
    have B2 := below_step B1 (over_below hC)
    clear hC ht1 l1 B1
    go_wp2_with fail
    rw [and_255 a ha0 ha1]
    obtain ⟨s1, e1⟩ : ∃ s : ByteArray, s = ⟨(Lib.decDigits (a / 256).toNat).toArray⟩ := ⟨_, rfl⟩
    obtain ⟨s2, e2⟩ : ∃ s : ByteArray, s = ⟨(Lib.decDigits (a % 256).toNat).toArray⟩ := ⟨_, rfl⟩
    obtain ⟨s3, e3⟩ : ∃ s : ByteArray, s = ⟨(Lib.decDigits n.toNat).toArray⟩ := ⟨_, rfl⟩
    have z1 : s1.size ≤ 3 := by rw [e1]; exact dd_len (by omega)
    have z2 : s2.size ≤ 3 := by rw [e2]; exact dd_len (by omega)
    have z3 : s3.size ≤ 3 := by rw [e3]; exact dd_len (by omega)
    have E1 := Lib.hid e1
    have E2 := Lib.hid e2
    have E3 := Lib.hid e3
    clear e1 e2 e3
    have y1 : ¬ 9223372036854775807 < s1.size + 1 := by omega
    have y2 : ¬ 9223372036854775807 < s1.size + 1 + s2.size := by omega
    have y3 : ¬ 9223372036854775807 < s1.size + 1 + s2.size + 1 := by omega
    have y4 : ¬ 9223372036854775807 < s1.size + 1 + s2.size + 1 + s3.size := by omega
    refine wp_region_held_drew (S := (fun w' => Over wr w' ∧ w'.cell? ⟨w.heap.size, 0, none⟩ = some (.int .i64 a) ∧ w'.cell? ⟨w.heap.size, 1, none⟩ = some (.int .i64 n))) (by kernel_rfl) (held2 l2 k0 k1 (over_drew _)) (fun hHeld => ?_)
    refine wpAnyH_take (i := 0) (v := ?_) rfl (by kernel_rfl) (by kernel_rfl) (by kernel_rfl) (fun _ _ _ h => h) (Or.inl ⟨by rfl, ?_⟩) (by assumption) ?_
    rotate_left
    · intro w hSw
      (try dsimp only at hSw)
      go_simp
      try rfl
    change wpAnyH _ _ _ _ _ _ _ (Act.put _ (some 14) _) _
    simp only [Act.put, List.setIfInBounds_toArray, List.set_cons_succ, List.set_cons_zero]
    refine wpAnyH_take (i := 3) (v := ?_) rfl (by kernel_rfl) (by kernel_rfl) (by kernel_rfl) (fun _ _ _ h => h) (Or.inl ⟨by rfl, ?_⟩) (by assumption) ?_
    rotate_left
    · intro w hSw
      (try dsimp only at hSw)
      go_simp
      try rfl
    change wpAnyH _ _ _ _ _ _ _ (Act.put _ (some 17) _) _
    simp only [Act.put, List.setIfInBounds_toArray, List.set_cons_succ, List.set_cons_zero]
    refine wpAnyH_take (i := 7) (v := ?_) rfl (by kernel_rfl) (by kernel_rfl) (by kernel_rfl) (fun _ _ _ h => h) (Or.inl ⟨by rfl, ?_⟩) (by assumption) ?_
    rotate_left
    · intro w hSw
      (try dsimp only at hSw)
      go_simp
      try rfl
    change wpAnyH _ _ _ _ _ _ _ (Act.put _ (some 21) _) _
    simp only [Act.put, List.setIfInBounds_toArray, List.set_cons_succ, List.set_cons_zero]
    refine wpAnyH_take (i := 8) (v := ?_) rfl (by kernel_rfl) (by kernel_rfl) (by kernel_rfl) (fun _ _ _ h => h) (Or.inl ⟨by rfl, ?_⟩) (by assumption) ?_
    rotate_left
    · intro w hSw
      (try dsimp only at hSw)
      go_simp
      try rfl
    change wpAnyH _ _ _ _ _ _ _ (Act.put _ (some 22) _) _
    simp only [Act.put, List.setIfInBounds_toArray, List.set_cons_succ, List.set_cons_zero]
    refine wpAnyH_ready (rs := [1]) (by kernel_rfl) (by simp) ?_
    refine AllReadyH.cons rfl (fun K hK => ?_) AllReadyH.nil
    go_simp
    refine (itoa_is s1 (a / 256) _ E1 (by omega) (by omega) (ht2.keep (‹Over wr _ ∧ _›.1))).mono ?_
    rintro e wq ⟨rfl, hb1⟩
    refine hK.out _ _ (held2 l2 k0 k1 (over_step (‹Over wr _ ∧ _›.1) hb1)) (fun hHeld => ?_)
    clear hK K
    refine wpAnyH_take (i := 2) (v := ?_) rfl (by kernel_rfl) (by kernel_rfl) (by kernel_rfl) (fun _ _ _ h => h) (Or.inl ⟨by rfl, ?_⟩) (by assumption) ?_
    rotate_left
    · intro w hSw
      (try dsimp only at hSw)
      go_simp
      try rfl
    change wpAnyH _ _ _ _ _ _ _ (Act.put _ (some 16) _) _
    simp only [Act.put, List.setIfInBounds_toArray, List.set_cons_succ, List.set_cons_zero]
    refine wpAnyH_ready (rs := [4]) (by kernel_rfl) (by simp) ?_
    refine AllReadyH.cons rfl (fun K hK => ?_) AllReadyH.nil
    go_simp
    refine (itoa_is s2 (a % 256) _ E2 (by omega) (by omega) (ht2.keep (‹Over wr _ ∧ _›.1))).mono ?_
    rintro e wq ⟨rfl, hb4⟩
    refine hK.out _ _ (held2 l2 k0 k1 (over_step (‹Over wr _ ∧ _›.1) hb4)) (fun hHeld => ?_)
    clear hK K
    refine wpAnyH_take (i := 5) (v := ?_) rfl (by kernel_rfl) (by kernel_rfl) (by kernel_rfl) (fun _ _ _ h => h) (Or.inl ⟨by rfl, ?_⟩) (by assumption) ?_
    rotate_left
    · intro w hSw
      (try dsimp only at hSw)
      go_simp
      try rfl
    change wpAnyH _ _ _ _ _ _ _ (Act.put _ (some 19) _) _
    simp only [Act.put, List.setIfInBounds_toArray, List.set_cons_succ, List.set_cons_zero]
    refine wpAnyH_take (i := 6) (v := ?_) rfl (by kernel_rfl) (by kernel_rfl) (by kernel_rfl) (fun _ _ _ h => h) (Or.inl ⟨by rfl, ?_⟩) (by assumption) ?_
    rotate_left
    · intro w hSw
      (try dsimp only at hSw)
      go_simp
      try rfl
    change wpAnyH _ _ _ _ _ _ _ (Act.put _ (some 20) _) _
    simp only [Act.put, List.setIfInBounds_toArray, List.set_cons_succ, List.set_cons_zero]
    refine wpAnyH_ready (rs := [9]) (by kernel_rfl) (by simp) ?_
    refine AllReadyH.cons rfl (fun K hK => ?_) AllReadyH.nil
    go_simp
    refine (itoa_is s3 n _ E3 (by omega) (by omega) (ht2.keep (‹Over wr _ ∧ _›.1))).mono ?_
    rintro e wq ⟨rfl, hb9⟩
    refine hK.out _ _ (held2 l2 k0 k1 (over_step (‹Over wr _ ∧ _›.1) hb9)) (fun hHeld => ?_)
    clear hK K
    refine wpAnyH_take (i := 10) (v := ?_) rfl (by kernel_rfl) (by kernel_rfl) (by kernel_rfl) (fun _ _ _ h => h) (Or.inl ⟨by rfl, ?_⟩) (by assumption) ?_
    rotate_left
    · intro w hSw
      (try dsimp only at hSw)
      go_simp
      try rfl
    change wpAnyH _ _ _ _ _ _ _ (Act.put _ (some 24) _) _
    simp only [Act.put, List.setIfInBounds_toArray, List.set_cons_succ, List.set_cons_zero]
    refine wpAnyH_ready (rs := [11]) (by kernel_rfl) (by simp) ?_
    refine AllReadyH.cons rfl (fun K hK => ?_) AllReadyH.nil
    go_simp
    refine hK.out _ _ (held2 l2 k0 k1 (over_step (‹Over wr _ ∧ _›.1) (bytesWorld_below _ _ _))) (fun hHeld => ?_)
    clear hK K
    refine wpAnyH_take (i := 12) (v := ?_) rfl (by kernel_rfl) (by kernel_rfl) (by kernel_rfl) (fun _ _ _ h => h) (Or.inl ⟨by rfl, ?_⟩) (by assumption) ?_
    rotate_left
    · intro w hSw
      (try dsimp only at hSw)
      go_simp
      try rfl
    change wpAnyH _ _ _ _ _ _ _ (Act.put _ (some 2) _) _
    simp only [Act.put, List.setIfInBounds_toArray, List.set_cons_succ, List.set_cons_zero]
    refine wpAnyH_done (by kernel_rfl) ?_ _
    have hsz : (s1 ++ ⟨#[46]⟩ ++ s2 ++ ⟨#[47]⟩ ++ s3 : ByteArray).size = s1.size + 1 + s2.size + 1 + s3.size := by
      rw [ByteArray.size_append, ByteArray.size_append, ByteArray.size_append, ByteArray.size_append]
      rfl
    have ho := bytesWorld_own wq (s1 ++ ⟨#[46]⟩ ++ s2 ++ ⟨#[47]⟩ ++ s3) (by rw [hsz]; unfold maxLen; omega) (grownCap wq (s1.size + 1 + s2.size + 1 + s3.size) 0 BT)
    have hsb : sb (s1 ++ ⟨#[46]⟩ ++ s2 ++ ⟨#[47]⟩ ++ s3) = dg (a / 256).toNat ++ 46 :: (dg (a % 256).toNat ++ 47 :: dg n.toNat) := by
      rw [sb_append, sb_append, sb_append, sb_append, E1.out, E2.out, E3.out, sb_digits, sb_digits, sb_digits]
      simp [sb]
    rw [hsz, hsb] at ho
    have hO := over_below (‹Over wr _ ∧ _›.1 : Over wr (Lib.bytesWorld wq BT (s1 ++ ⟨#[46]⟩ ++ s2 ++ ⟨#[47]⟩ ++ s3)))
    have hle : w.heap.size ≤ wq.heap.size := Nat.le_trans (Nat.le_of_lt l2) (Nat.le_trans hb1.size (Nat.le_trans hb4.size hb9.size))
    clear hsz hsb y1 y2 y3 y4 z1 z2 z3 hconv
    go_wp2_with fail
    go_ret
    exact ⟨_, rfl, ho.mono hle, below_step B2 hO⟩
end Go.Proofs.YtcmbajphholliabDoor
