/-
  The draws: a new cursor, and the prefixes that are drawn by it. Conditions: those in each contract.
-/
import Derived.Test.YtichmbbpjkikaaaDoorD1
import Derived.Test.YtichmbbpjkikaaaDoorP1
import Derived.Deep.AppendLies
namespace Go.Proofs.YtichmbbpjkikaaaDoor
open Go.ChangeShapes Go.WideShapes Go.ChangeAt Go.RowKit Go.BigFrame
set_option linter.unusedVariables false
set_option maxRecDepth 100000

theorem cur_new {w wr : World} {v : Value} {l : List Int} (h : Rd w v l) (hl : l.length ≤ 9223372036854775807) (hB : Over w wr) (q : Int) (t : TypeId) :
    Cur w (wr.alloc (.cells #[v, .int .i64 0, .int .i64 q] t)) wr.heap.size v l := by
  have lt : wr.heap.size < (wr.alloc (.cells #[v, .int .i64 0, .int .i64 q] t)).heap.size := by simp
  exact ⟨h, over_alloc hB _, hB.size, lt, hl, by simp, ⟨0, Nat.zero_le _, by simp⟩, ⟨q, by simp⟩, World.frozen?_alloc_at _ _ _ _ rfl, World.frozen?_alloc_at _ _ _ _ rfl⟩
theorem new_any (v : Value) (l : List Int) (w : World) (h : Rd w v l) :
    Calls Tryd.prog 45 #[v] w (fun e w' => ∃ g, e = .returned (.pointer (some ⟨g, 0, none⟩)) ∧ Cur w w' g v l) := by
  have hR := h
  have hlm : l.length ≤ 9223372036854775807 := by have := h.2.1; unfold maxLen at this; omega
  have hce : ∀ i, i < l.length → ∃ b o c, v = .slice (some ⟨b, o, none⟩) l.length c ∧ b < w.heap.size ∧ w.cell? ⟨b, o + i, none⟩ = some (.int .u8 (l.getD i 0)) := by
    intro i hi
    rcases hR.2.2 with ⟨p, c, rfl, rfl, _⟩ | ⟨b, o, c, rfl, hp, hc⟩
    · simp at hi
    · exact ⟨b, o, c, rfl, World.block_lt_of_cell? _ _ (hc i hi), hc i hi⟩
  obtain ⟨p, c, hv⟩ := hR.len
  subst hv
  clear h
  go_enter Tryd.func45, Tryd.ntmps45
  go_wp2_with fail
  go_loopw [3, 4] (fun a i wr => ∃ (q : Int) (k : Nat), k ≤ l.length ∧ k ≤ 4000 ∧ a = .int .i64 q ∧ i = .int .i64 k ∧ Over w wr) (fun _ i _ => 4000 - (intOf i).toNat)
  case atStart => exact ⟨_, 0, Nat.zero_le _, Nat.zero_le _, rfl, rfl, over_refl _⟩
  case round =>
    obtain ⟨q, k, hk, hk4, rfl, rfl, hB⟩ := hrel
    by_cases hlt : k < l.length
    · obtain ⟨b, o, c2, hv, hbl, hcc⟩ := hce k hlt
      obtain rfl : p = some ⟨b, o, none⟩ := by injection hv
      have e0 := over_cell hB hbl hcc
      have hltI : (k : Int) < (l.length : Int) := by omega
      obtain ⟨x, hx⟩ : ∃ x, l.getD k 0 = x := ⟨_, rfl⟩
      rw [hx] at e0
      have hx0 : 0 ≤ x ∧ x ≤ 255 := by rw [← hx]; exact getD_bd hR.1 k
      clear hx hcc hv hce
      by_cases h4 : k < 4000
      · have h4I : (k : Int) < 4000 := by omega
        go_wp2_with fail
        go_roundw
        case rel => exact ⟨_, k + 1, by omega, by omega, rfl, by go_num, by first | exact hB | exact below_drewN hB _⟩
        case measure => simp [intOf]; omega
      · have h4I : ¬ (k : Int) < 4000 := by omega
        go_wp2_with fail
        go_ret
        exact ⟨_, rfl, cur_new hR hlm hB _ _⟩
    · have hltI : ¬ (k : Int) < (l.length : Int) := by omega
      clear hce
      go_wp2_with fail
      go_ret
      exact ⟨_, rfl, cur_new hR hlm hB _ _⟩

theorem Cur.alloc {V w : World} {g : Nat} {v : Value} {l : List Int} (h : Cur V w g v l) (o : Obj) : Cur V (w.alloc o) g v l := by
  have e (i : Nat) : (w.alloc o).cell? ⟨g, i, none⟩ = w.cell? ⟨g, i, none⟩ := World.cell?_alloc_past _ _ _ h.lt
  obtain ⟨i, hi, c1⟩ := h.c1
  obtain ⟨q, c2⟩ := h.c2
  exact ⟨h.rd, over_alloc h.over o, h.hg, Nat.lt_of_lt_of_le h.lt (by simp), h.len, (e 0).trans h.c0, ⟨i, hi, (e 1).trans c1⟩, ⟨q, (e 2).trans c2⟩, (World.frozen?_alloc_past _ _ _ h.lt).trans h.f1, (World.frozen?_alloc_past _ _ _ h.lt).trans h.f2⟩
theorem Cur.setNew {V w : World} {g B o : Nat} {v u : Value} {l : List Int} (h : Cur V w g v l) (hne : B ≠ g) (hB : V.heap.size ≤ B) : Cur V (w.setCell ⟨B, o, none⟩ u) g v l := by
  have e (i : Nat) : (w.setCell ⟨B, o, none⟩ u).cell? ⟨g, i, none⟩ = w.cell? ⟨g, i, none⟩ := World.cell?_setCell_other _ _ _ _ (by intro q; injection q with q _; exact hne q)
  obtain ⟨i, hi, c1⟩ := h.c1
  obtain ⟨q, c2⟩ := h.c2
  have gr := grown_set w B o u
  exact ⟨h.rd, over_row h.over hB gr, h.hg, Nat.lt_of_lt_of_le h.lt gr.size, h.len, (e 0).trans h.c0, ⟨i, hi, (e 1).trans c1⟩, ⟨q, (e 2).trans c2⟩, by rw [World.frozen?_setCell]; exact h.f1, by rw [World.frozen?_setCell]; exact h.f2⟩
theorem lit_cells (w : World) (zs : List Int) (T : TypeId) (b : Nat) (hb : b = w.heap.size) : ∀ i, i < zs.length → (w.alloc (.cells (zs.map (Value.int .i64)).toArray T)).cell? ⟨b, i, none⟩ = some (.int .i64 (zs.getD i 0)) := by
  intro i hi
  rw [World.cell?_alloc_at _ _ _ _ hb]
  simp [List.getD, hi]
theorem fits_bits (op : BinOp) (x y : Int) : fits (bits op .i64 x y) := by
  unfold fits bits
  rw [IntKind.wrap_i64]
  omega
/-- a prefix out of the cursor -/
def CurP (V : World) (g : Nat) (v : Value) (l : List Int) (w : World) (e : Ending) (w' : World) : Prop :=
  ∃ a n : Int, e = .returned (.agg #[.int .i64 a, .int .i64 n]) ∧ Cur V w' g v l ∧ w.grownBy w' (some g) ∧ fits a ∧ fits n
theorem draw_bd (V : World) (g : Nat) (v : Value) (l : List Int) (w : World) (h : Cur V w g v l) :
    Calls Tryd.prog 54 #[.pointer (some ⟨g, 0, none⟩)] w fun e w' => ∃ a n : Int, e = .returned (.agg #[.int .i64 a, .int .i64 n]) ∧ Cur V w' g v l ∧ w.grownBy w' (some g) ∧ (0 ≤ a ∧ a ≤ 65535) ∧ 0 ≤ n ∧ n ≤ 16 := by
  go_enter Tryd.func54, Tryd.ntmps54
  go_wp2_with fail
  have h1 := h.alloc (.cells #[.int .i64 0, .int .i64 0] 24)
  have hlt := h.lt
  have g1 := grown_alloc (grown_alloc (World.grownBy.refl w (some g)) (.cells #[.int .i64 0, .int .i64 0] 24))
  refine (pick_any V g v l (fun i => [0, 1, 8, 8, 9, 12, 16, 16].getD i 0) 8 (w.heap.size + 1) _ (h1.alloc _) (by decide) (by decide) (by omega) (by simp) (lit_cells _ [0, 1, 8, 8, 9, 12, 16, 16] _ _ (by simp))).mono ?_
  rintro e w1 ⟨n, rfl, ⟨i, hi, hn⟩, cu1, hg1⟩
  have hnb : 0 ≤ n ∧ n ≤ 16 := by
    have q : ∀ i, i < 8 → (0 : Int) ≤ [0, 1, 8, 8, 9, 12, 16, 16].getD i 0 ∧ [0, 1, 8, 8, 9, 12, 16, 16].getD i (0 : Int) ≤ 16 := by decide
    rw [hn]; exact q i hi
  obtain ⟨hn0, hn1⟩ := hnb
  clear hn hi i
  obtain ⟨B, hBe⟩ : ∃ B, B = w.heap.size := ⟨_, rfl⟩
  have hBg : B ≠ g := by omega
  have k0 : w1.cell? ⟨B, 0, none⟩ = some (.int .i64 0) := (hg1.cell_far _ (by simp; omega) (by simpa using hBg)).trans (by simp [hBe])
  have k1 : w1.cell? ⟨B, 1, none⟩ = some (.int .i64 0) := (hg1.cell_far _ (by simp; omega) (by simpa using hBg)).trans (by simp [hBe])
  have f0 : w1.frozen? ⟨B, 0, none⟩ = false := (hg1.frozen_far _ (by simp; omega) (by simpa using hBg)).trans (by simp [hBe])
  have f1 : w1.frozen? ⟨B, 1, none⟩ = false := (hg1.frozen_far _ (by simp; omega) (by simpa using hBg)).trans (by simp [hBe])
  have lt1 : B < w1.heap.size := by have := hg1.size; simp at this; omega
  replace g1 := grown_trans (g1 _) hg1
  have hBw : w.heap.size ≤ B := by omega
  have hBV : V.heap.size ≤ B := Nat.le_trans h.over.size hBw
  rw [← hBe]
  clear hg1 h1 hBe
  go_wp2_with fail
  refine (below_any V g v l 65536 _ cu1 (by decide) (by decide)).mono ?_
  rintro e w2 ⟨y, rfl, ⟨hy0, hy1⟩, cu2, hg2⟩
  replace g1 := grown_trans g1 hg2
  replace k0 := (hg2.cell_far _ lt1 (by simpa using hBg)).trans k0
  replace k1 := (hg2.cell_far _ lt1 (by simpa using hBg)).trans k1
  replace f0 := (hg2.frozen_far _ lt1 (by simpa using hBg)).trans f0
  replace f1 := (hg2.frozen_far _ lt1 (by simpa using hBg)).trans f1
  replace lt1 := Nat.lt_of_lt_of_le lt1 hg2.size
  clear hg2 cu1
  go_wp2_with fail
  have hg2 := cu2.lt
  refine (pick_any V g v l (fun i => [256, 512, 513, 65535, y].getD i 0) 5 w2.heap.size _ (cu2.alloc _) (by decide) (by decide) (by omega) (by simp) (lit_cells _ [256, 512, 513, 65535, y] _ _ rfl)).mono ?_
  rintro e w3 ⟨x, rfl, ⟨j, hj, hxj⟩, cu3, hg3⟩
  have hxb : 0 ≤ x ∧ x ≤ 65535 := by
    rw [hxj]
    match j, hj with
    | 0, _ => show (0 : Int) ≤ 256 ∧ (256 : Int) ≤ 65535; decide
    | 1, _ => show (0 : Int) ≤ 512 ∧ (512 : Int) ≤ 65535; decide
    | 2, _ => show (0 : Int) ≤ 513 ∧ (513 : Int) ≤ 65535; decide
    | 3, _ => show (0 : Int) ≤ 65535 ∧ (65535 : Int) ≤ 65535; decide
    | 4, _ => show 0 ≤ y ∧ y ≤ 65535; omega
  clear hxj hj j
  replace g1 := grown_trans (grown_alloc g1 _) hg3
  replace k0 := (hg3.cell_far _ (by simp; omega) (by simpa using hBg)).trans ((World.cell?_alloc_past _ _ _ lt1).trans k0)
  replace k1 := (hg3.cell_far _ (by simp; omega) (by simpa using hBg)).trans ((World.cell?_alloc_past _ _ _ lt1).trans k1)
  replace f0 := (hg3.frozen_far _ (by simp; omega) (by simpa using hBg)).trans ((World.frozen?_alloc_past _ _ _ lt1).trans f0)
  replace f1 := (hg3.frozen_far _ (by simp; omega) (by simpa using hBg)).trans ((World.frozen?_alloc_past _ _ _ lt1).trans f1)
  replace lt1 : B < w3.heap.size := by have := hg3.size; simp at this; omega
  clear hg3 cu2 hg2
  go_wp2_with fail
  refine (mask_any n _ hn0 hn1).mono ?_
  rintro e w4 ⟨rfl, rfl⟩
  go_wp2_with fail
  have hfX : 0 ≤ bits .and .i64 x (mask n) ∧ bits .and .i64 x (mask n) ≤ 65535 := by rw [and_mask x n hxb.1 hxb.2 hn0 hn1]; exact hd_bd x n hxb.1 hxb.2
  generalize bits .and .i64 x (mask n) = X at hfX ⊢
  have e0 := set_other (u := .int .i64 n) (a := ⟨B, 1, none⟩) (by simp) (set_same (u := .int .i64 X) k0)
  have e1 := set_same (u := .int .i64 n) (set_other (u := .int .i64 X) (a := ⟨B, 0, none⟩) (by simp) k1)
  exact bodyPost_ret (v := .agg #[.int .i64 X, .int .i64 n]) (by simp [results, Tryd.results54, go_sem, e0, e1]) rfl
    ⟨_, _, rfl, by repeat' (first | exact cu3 | (refine Cur.setNew ?_ hBg hBV)), by repeat' (first | exact g1 | (refine grown_setNew ?_ hBw)), hfX, by omega, by omega⟩
theorem draw_any (V : World) (g : Nat) (v : Value) (l : List Int) (w : World) (h : Cur V w g v l) :
    Calls Tryd.prog 54 #[.pointer (some ⟨g, 0, none⟩)] w (CurP V g v l w) :=
  (draw_bd V g v l w h).mono fun e w' ⟨a, n, he, hc, hg, ha, hn⟩ => ⟨a, n, he, hc, hg, ⟨by omega, by omega⟩, ⟨by omega, by omega⟩⟩
end Go.Proofs.YtichmbbpjkikaaaDoor
