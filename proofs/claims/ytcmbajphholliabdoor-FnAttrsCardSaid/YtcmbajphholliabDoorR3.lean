/-
  The laws' own word on prefixes holds. Condition: the library's table of powers of ten reads as it is laid.
-/
import Derived.Test.YtcmbajphholliabDoorR2
import Derived.Test.YtcmbajphholliabDoorW2
import Derived.Lib.SlBytesConst
namespace Go.Proofs.YtcmbajphholliabDoor
open Go.ChangeShapes Go.WideShapes Go.ChangeAt Go.RowKit Go.BigFrame
set_option linter.unusedVariables false
set_option maxRecDepth 100000

theorem cell_marked (w : World) (C : Array Value) (t : TypeId) (fz : Nat × Nat) (i : Nat) : (w.alloc (.cells C t fz)).cell? ⟨w.heap.size, i, none⟩ = C[i]? := by
  have h : (w.alloc (.cells C t fz)).heap[w.heap.size]? = some (.cells C t fz) := by
    show (w.heap.push _)[w.heap.size]? = _
    simp
  unfold World.cell?
  rw [h]
  rfl
theorem words_any (w : World) (ht : Tab w) : Calls Tryd.prog 20 #[] w fun e w' => e = .returned (.bool true) ∧ Below w.heap.size w w' := by
  have hconv := fun (W : World) (C : Array Value) (n c : Nat) => Lib.run_convert_bytes_const (P := Tryd.prog) W 22 BT C n c Tryd.underlying22 Tryd.underlying5
  have htx : textL 256 8 = [49, 46, 48, 47, 56] := by
    rw [textL, if_pos (by decide), dg_small (by decide), dg_small (by decide), dg_small (by decide)]
    decide
  have hw1 : Below w.heap.size w (w.alloc (.cells #[.int .u8 49, .int .u8 46, .int .u8 48, .int .u8 47, .int .u8 56] 5 (5, 6))) := Below.alloc (Below.refl _ _) (Nat.le_refl _) _
  have hrd : Rd (w.alloc (.cells #[.int .u8 49, .int .u8 46, .int .u8 48, .int .u8 47, .int .u8 56] 5 (5, 6))) (.slice (some ⟨w.heap.size, 0, none⟩) 5 5) [49, 46, 48, 47, 56] := by
    refine ⟨by decide, by decide, .inr ⟨w.heap.size, 0, 5, rfl, by decide, fun i hi => ?_⟩⟩
    match i, hi with
    | 0, _ => rw [cell_marked]; rfl
    | 1, _ => rw [cell_marked]; rfl
    | 2, _ => rw [cell_marked]; rfl
    | 3, _ => rw [cell_marked]; rfl
    | 4, _ => rw [cell_marked]; rfl
  go_enter Tryd.func20, Tryd.ntmps20
  go_wp2_with fail
  clear hconv
  refine (iread_any _ _ _ hrd (by decide) (ht.keep hw1)).mono ?_
  rintro e w2 ⟨r, rfl, hr, hb⟩
  replace hw1 := below_step hw1 hb
  rw [← htx] at hr
  obtain rfl := reads_text (by decide) hr
  clear hrd hr htx hb
  go_wp2_with fail
  refine (icov_any 256 8 300 _).mono ?_
  rintro e w3 ⟨rfl, hb3⟩
  rw [show covB 256 8 300 = true by decide]
  have lt2 : w2.heap.size < (w2.alloc (.cells #[.int .i64 256, .int .i64 8] 83)).heap.size := by simp
  have p0 := cell_keep (b := w2.heap.size) (o := 0) (v := .int .i64 256) hb3 lt2 (by simp)
  have p1 := cell_keep (b := w2.heap.size) (o := 1) (v := .int .i64 8) hb3 lt2 (by simp)
  replace hw1 := below_step (Below.alloc hw1 hw1.size _) hb3
  clear hb3 lt2
  obtain ⟨B, hB⟩ : ∃ B, B = w2.heap.size := ⟨_, rfl⟩
  rw [← hB] at p0 p1 ⊢
  clear hB
  go_wp2_with fail
  refine (icov_any 256 8 600 _).mono ?_
  rintro e w4 ⟨rfl, hb4⟩
  rw [show covB 256 8 600 = false by decide]
  replace hw1 := below_step hw1 hb4
  go_wp2_with fail
  go_ret
  exact ⟨rfl, hw1⟩
end Go.Proofs.YtcmbajphholliabDoor
