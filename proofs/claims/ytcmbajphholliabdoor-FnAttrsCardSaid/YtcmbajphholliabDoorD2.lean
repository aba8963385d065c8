/-
  The draws: a new cursor, and the prefixes that are drawn by it. Conditions: those in each contract.
-/
import Derived.Test.YtcmbajphholliabDoorD1
import Derived.Test.YtcmbajphholliabDoorP1
import Derived.Deep.AppendLies
namespace Go.Proofs.YtcmbajphholliabDoor
open Go.ChangeShapes Go.WideShapes Go.ChangeAt Go.RowKit Go.BigFrame
set_option linter.unusedVariables false
set_option maxRecDepth 100000

theorem cur_new {w wr : World} {v : Value} {l : List Int} (h : Rd w v l) (hl : l.length ≤ 9223372036854775807) (hB : Over w wr) (q : Int) (t : TypeId) :
    Cur w (wr.alloc (.cells #[v, .int .i64 0, .int .i64 q] t)) wr.heap.size v l := by
  have lt : wr.heap.size < (wr.alloc (.cells #[v, .int .i64 0, .int .i64 q] t)).heap.size := by simp
  exact ⟨h, over_alloc hB _, hB.size, lt, hl, by simp, ⟨0, Nat.zero_le _, by simp⟩, ⟨q, by simp⟩, World.frozen?_alloc_at _ _ _ _ rfl, World.frozen?_alloc_at _ _ _ _ rfl⟩
theorem new_any (v : Value) (l : List Int) (w : World) (h : Rd w v l) :
    Calls Tryd.prog 27 #[v] w (fun e w' => ∃ g, e = .returned (.pointer (some ⟨g, 0, none⟩)) ∧ Cur w w' g v l) := by
  have hR := h
  have hlm : l.length ≤ 9223372036854775807 := by have := h.2.1; unfold maxLen at this; omega
  have hce : ∀ i, i < l.length → ∃ b o c, v = .slice (some ⟨b, o, none⟩) l.length c ∧ b < w.heap.size ∧ w.cell? ⟨b, o + i, none⟩ = some (.int .u8 (l.getD i 0)) := by
    intro i hi
    rcases hR.2.2 with ⟨p, c, rfl, rfl, _⟩ | ⟨b, o, c, rfl, hp, hc⟩
    · simp at hi
    · exact ⟨b, o, c, rfl, World.block_lt_of_cell? _ _ (hc i hi), hc i hi⟩
  obtain ⟨p, c, hv⟩ := hR.len
  subst hv
  clear h
  go_enter Tryd.func27, Tryd.ntmps27
  go_wp2_with fail
  go_loopw [3, 4] (fun a i wr => ∃ (q : Int) (k : Nat), k ≤ l.length ∧ k ≤ 4000 ∧ a = .int .i64 q ∧ i = .int .i64 k ∧ Over w wr) (fun _ i _ => 4000 - (intOf i).toNat)
  case atStart => exact ⟨_, 0, Nat.zero_le _, Nat.zero_le _, rfl, rfl, over_refl _⟩
  case round =>
    obtain ⟨q, k, hk, hk4, rfl, rfl, hB⟩ := hrel
    by_cases hlt : k < l.length
    · obtain ⟨b, o, c2, hv, hbl, hcc⟩ := hce k hlt
      obtain rfl : p = some ⟨b, o, none⟩ := by injection hv
      have e0 := over_cell hB hbl hcc
      have hltI : (k : Int) < (l.length : Int) := by omega
      obtain ⟨x, hx⟩ : ∃ x, l.getD k 0 = x := ⟨_, rfl⟩
      rw [hx] at e0
      have hx0 : 0 ≤ x ∧ x ≤ 255 := by rw [← hx]; exact getD_bd hR.1 k
      clear hx hcc hv hce
      by_cases h4 : k < 4000
      · have h4I : (k : Int) < 4000 := by omega
        go_wp2_with fail
        go_roundw
        case rel => exact ⟨_, k + 1, by omega, by omega, rfl, by go_num, by first | exact hB | exact below_drewN hB _⟩
        case measure => simp [intOf]; omega
      · have h4I : ¬ (k : Int) < 4000 := by omega
        go_wp2_with fail
        go_ret
        exact ⟨_, rfl, cur_new hR hlm hB _ _⟩
    · have hltI : ¬ (k : Int) < (l.length : Int) := by omega
      clear hce
      go_wp2_with fail
      go_ret
      exact ⟨_, rfl, cur_new hR hlm hB _ _⟩

theorem Cur.alloc {V w : World} {g : Nat} {v : Value} {l : List Int} (h : Cur V w g v l) (o : Obj) : Cur V (w.alloc o) g v l := by
  have e (i : Nat) : (w.alloc o).cell? ⟨g, i, none⟩ = w.cell? ⟨g, i, none⟩ := World.cell?_alloc_past _ _ _ h.lt
  obtain ⟨i, hi, c1⟩ := h.c1
  obtain ⟨q, c2⟩ := h.c2
  exact ⟨h.rd, over_alloc h.over o, h.hg, Nat.lt_of_lt_of_le h.lt (by simp), h.len, (e 0).trans h.c0, ⟨i, hi, (e 1).trans c1⟩, ⟨q, (e 2).trans c2⟩, (World.frozen?_alloc_past _ _ _ h.lt).trans h.f1, (World.frozen?_alloc_past _ _ _ h.lt).trans h.f2⟩
theorem Cur.setNew {V w : World} {g B o : Nat} {v u : Value} {l : List Int} (h : Cur V w g v l) (hne : B ≠ g) (hB : V.heap.size ≤ B) : Cur V (w.setCell ⟨B, o, none⟩ u) g v l := by
  have e (i : Nat) : (w.setCell ⟨B, o, none⟩ u).cell? ⟨g, i, none⟩ = w.cell? ⟨g, i, none⟩ := World.cell?_setCell_other _ _ _ _ (by intro q; injection q with q _; exact hne q)
  obtain ⟨i, hi, c1⟩ := h.c1
  obtain ⟨q, c2⟩ := h.c2
  have gr := grown_set w B o u
  exact ⟨h.rd, over_row h.over hB gr, h.hg, Nat.lt_of_lt_of_le h.lt gr.size, h.len, (e 0).trans h.c0, ⟨i, hi, (e 1).trans c1⟩, ⟨q, (e 2).trans c2⟩, by rw [World.frozen?_setCell]; exact h.f1, by rw [World.frozen?_setCell]; exact h.f2⟩
theorem lit_cells (w : World) (zs : List Int) (T : TypeId) (b : Nat) (hb : b = w.heap.size) : ∀ i, i < zs.length → (w.alloc (.cells (zs.map (Value.int .i64)).toArray T)).cell? ⟨b, i, none⟩ = some (.int .i64 (zs.getD i 0)) := by
  intro i hi
  rw [World.cell?_alloc_at _ _ _ _ hb]
  simp [List.getD, hi]
theorem fits_bits (op : BinOp) (x y : Int) : fits (bits op .i64 x y) := by
  unfold fits bits
  rw [IntKind.wrap_i64]
  omega
/-- a prefix out of the cursor -/
def CurP (V : World) (g : Nat) (v : Value) (l : List Int) (w : World) (e : Ending) (w' : World) : Prop :=
  ∃ a n : Int, e = .returned (.agg #[.int .i64 a, .int .i64 n]) ∧ Cur V w' g v l ∧ w.grownBy w' (some g) ∧ fits a ∧ fits n
end Go.Proofs.YtcmbajphholliabDoor
