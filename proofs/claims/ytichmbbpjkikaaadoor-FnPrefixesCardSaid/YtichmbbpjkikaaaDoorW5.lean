/-
  Contracts of GetPrefix of the program. Conditions: those in each contract.
-/
import Derived.Test.YtichmbbpjkikaaaDoorW4
import Derived.IntWalk
namespace Go.Proofs.YtichmbbpjkikaaaDoor
open Go.ChangeShapes Go.WideShapes Go.ChangeAt Go.RowKit Go.BigFrame
set_option linter.unusedVariables false
set_option maxRecDepth 100000

theorem ebytes' (n : Int) (w : World) (h0 : 0 ≤ n) (h1 : n ≤ 255) : Calls Tryd.prog 52 #[.int .i64 n] w fun e w' => e = .returned (.int .i64 ((n + 7) / 8)) ∧ w = w' := ebytes n w h0 h1
theorem iget_none (v : Value) (l : List Int) (a : Int) (w : World) (h : Rd w v l) (ha : ¬ (0 ≤ a ∧ a < l.length)) :
    Calls Tryd.prog 14 #[v, .int .i64 a] w fun e w' => e = .returned (.tuple #[.agg #[.int .i64 0, .int .i64 0], .int .i64 (-1)]) ∧ Below w.heap.size w w' := by
  obtain ⟨p, c, rfl⟩ := h.len
  obtain ⟨n, hn⟩ : ∃ n, n = l.length := ⟨_, rfl⟩
  rw [← hn] at ha ⊢
  clear hn h
  by_cases h0 : 0 ≤ a
  · have h1 : ¬ a < n := by omega
    go_enter Tryd.func14, Tryd.ntmps14
    go_wp2
    exact bodyPost_ret (v := .tuple #[.agg #[.int .i64 0, .int .i64 0], .int .i64 (-1)]) (by simp [results, Tryd.results14, go_sem]) rfl ⟨rfl, (Below.refl _ _).alloc (Nat.le_refl _) _⟩
  · go_enter Tryd.func14, Tryd.ntmps14
    go_wp2
    exact bodyPost_ret (v := .tuple #[.agg #[.int .i64 0, .int .i64 0], .int .i64 (-1)]) (by simp [results, Tryd.results14, go_sem]) rfl ⟨rfl, (Below.refl _ _).alloc (Nat.le_refl _) _⟩

theorem iget_bad (b o c n : Nat) (l0 : Int) (k : Nat) (w : World) (hk : k < n) (hm : n ≤ 1048576) (hb : b < w.heap.size) (e0 : w.cell? ⟨b, o + k, none⟩ = some (.int .u8 l0)) (hl : 0 ≤ l0) (hl2 : l0 ≤ 255) (hs : ¬ (l0 ≤ 16 ∧ (k : Int) + 1 + (l0 + 7) / 8 ≤ n)) :
    Calls Tryd.prog 14 #[.slice (some ⟨b, o, none⟩) n c, .int .i64 k] w fun e w' => e = .returned (.tuple #[.agg #[.int .i64 0, .int .i64 0], .int .i64 (-1)]) ∧ Below w.heap.size w w' := by
  have hkI : (k : Int) < (n : Int) := by omega
  by_cases h16 : l0 ≤ 16
  · have hs' : ¬ (k : Int) + 1 + (l0 + 7) / 8 ≤ n := fun h => hs ⟨h16, h⟩
    clear hs
    go_enter Tryd.func14, Tryd.ntmps14
    go_wp2_with (go_at_call 52; refine (ebytes' l0 _ (by omega) (by omega)).mono ?_; rintro e w1 ⟨rfl, rfl⟩)
    exact bodyPost_ret (v := .tuple #[.agg #[.int .i64 0, .int .i64 0], .int .i64 (-1)]) (by simp [results, Tryd.results14, go_sem]) rfl ⟨rfl, by repeat' (first | exact Below.refl _ _ | (refine Below.setCell ?_ (by simp) _) | (refine Below.alloc ?_ (by simp) _) | (refine Below.drew ?_))⟩
  · clear hs
    have h16' : 16 < l0 := by omega
    go_enter Tryd.func14, Tryd.ntmps14
    go_wp2_with (go_at_call 52; refine (ebytes' l0 _ (by omega) (by omega)).mono ?_; rintro e w1 ⟨rfl, rfl⟩)
    exact bodyPost_ret (v := .tuple #[.agg #[.int .i64 0, .int .i64 0], .int .i64 (-1)]) (by simp [results, Tryd.results14, go_sem]) rfl ⟨rfl, by repeat' (first | exact Below.refl _ _ | (refine Below.setCell ?_ (by simp) _) | (refine Below.alloc ?_ (by simp) _) | (refine Below.drew ?_))⟩
theorem iget_0_yes (b o c n : Nat) (l0 : Int) (k : Nat) (w : World) (hk : k < n) (hm : n ≤ 1048576) (hb : b < w.heap.size) (e0 : w.cell? ⟨b, o + k, none⟩ = some (.int .u8 l0)) (hl : 0 ≤ l0) (h16 : l0 = 0) (H : Hid (pokB (0) (0) = true)) :
    Calls Tryd.prog 14 #[.slice (some ⟨b, o, none⟩) n c, .int .i64 k] w fun e w' => e = .returned (.tuple #[.agg #[.int .i64 (0), .int .i64 0], .int .i64 (k + 1)]) ∧ Below w.heap.size w w' := by
  have hkI : (k : Int) < (n : Int) := by omega
  subst h16
  go_enter Tryd.func14, Tryd.ntmps14
  go_wp2_with fail
  refine (ebytes' 0 _ (by omega) (by omega)).mono ?_
  rintro e wx ⟨rfl, rfl⟩
  go_wp2_with fail
  refine (ebytes' 0 _ (by omega) (by omega)).mono ?_
  rintro e wx ⟨rfl, rfl⟩
  go_wp2_with fail
  refine wp_loop_rounds 1 ?_
  rw [rounds_succ]
  go_wp2_with fail
  refine (ipok_t _ H).mono ?_
  rintro e w1 ⟨rfl, hb1⟩
  have k0 : w1.cell? ⟨w.heap.size + 1, 0, none⟩ = some (.int .i64 (0)) := cell_keep hb1 (by simp <;> omega) (by simp)
  have k1 : w1.cell? ⟨w.heap.size + 1, 1, none⟩ = some (.int .i64 (0)) := cell_keep hb1 (by simp <;> omega) (by simp)
  have r0 : w1.cell? ⟨w.heap.size, 0, none⟩ = some (.int .i64 0) := cell_keep hb1 (by simp <;> omega) (by simp)
  have r1 : w1.cell? ⟨w.heap.size, 1, none⟩ = some (.int .i64 0) := cell_keep hb1 (by simp <;> omega) (by simp)
  have f0 : w1.frozen? ⟨w.heap.size, 0, none⟩ = false := fr_keep hb1 (by simp <;> omega) (by simp)
  have f1 : w1.frozen? ⟨w.heap.size, 1, none⟩ = false := fr_keep hb1 (by simp <;> omega) (by simp)
  have B1 : Below w.heap.size w w1 := below_step (by repeat' (first | exact Below.refl _ _ | (refine Below.setCell ?_ (by simp) _) | (refine Below.alloc ?_ (by simp) _) | (refine Below.drew ?_))) hb1
  clear hb1
  go_wp2
  exact bodyPost_ret (v := .tuple #[.agg #[.int .i64 (0), .int .i64 0], .int .i64 (k + 1)]) (by simp [results, Tryd.results14, go_sem, r0, r1]) rfl ⟨rfl, by repeat' (first | exact B1 | (refine Below.setCell ?_ (by simp) _))⟩

theorem iget_1_yes (b o c n : Nat) (l0 : Int) (k : Nat) (w : World) (hk : k < n) (hm : n ≤ 1048576) (hb : b < w.heap.size) (e0 : w.cell? ⟨b, o + k, none⟩ = some (.int .u8 l0)) (hl : 0 ≤ l0) (h16 : 1 ≤ l0) (h17 : l0 ≤ 8) (x : Int) (ex : w.cell? ⟨b, o + (k + 1), none⟩ = some (.int .u8 x)) (hx0 : 0 ≤ x) (hx1 : x ≤ 255) (hs : k + 2 ≤ n) (H : Hid (pokB (x * 256) (l0) = true)) :
    Calls Tryd.prog 14 #[.slice (some ⟨b, o, none⟩) n c, .int .i64 k] w fun e w' => e = .returned (.tuple #[.agg #[.int .i64 (x * 256), .int .i64 l0], .int .i64 (k + 1 + 1)]) ∧ Below w.heap.size w w' := by
  have hkI : (k : Int) < (n : Int) := by omega
  have h8 : (l0 + 7) / 8 = 1 := by omega
  have hk2 : (k : Int) + 1 < n := by omega
  rw [← or_zero (x * 256) (by omega) (by omega)] at H ⊢
  go_enter Tryd.func14, Tryd.ntmps14
  go_wp2_with fail
  refine (ebytes' l0 _ (by omega) (by omega)).mono ?_
  rintro e wx ⟨rfl, rfl⟩
  go_wp2_with fail
  refine (ebytes' l0 _ (by omega) (by omega)).mono ?_
  rintro e wx ⟨rfl, rfl⟩
  go_wp2_with fail
  refine wp_loop_rounds 2 ?_
  rw [rounds_succ]
  go_wp2_with fail
  have hw1 : IntKind.i64.wrap ((k : Int) + 1) = (k : Int) + 1 := wrap64_in _ (by omega) (by omega)
  have hz1 : (0 : Int) ≤ (k : Int) + 1 := by omega
  have ht1 : ((k : Int) + 1).toNat = k + 1 := by omega
  have hq : IntKind.i64.wrap x = x := wrap64_in _ (by omega) (by omega)
  have hsh : Op.shift .shl .i64 x .i64 8 = pure (.int .i64 (x * 256)) := by
    rw [shift_shl _ _ _ _ (by omega) (by decide)]
    exact congrArg pure (congrArg (Value.int .i64) (wrap64_in (x * 256) (by omega) (by omega)))
  have hq0 : IntKind.i64.wrap 0 = 0 := by decide
  have hq8 : IntKind.i64.wrap 8 = 8 := by decide
  refine wp_still_tail 16 (by kernel_rfl) (by kernel_rfl) ?_
  simp only [List.take_succ_cons, List.take_zero, List.drop_succ_cons, List.drop_zero]
  repeat still_step
  refine wpStill_nil ?_
  clear hw1 hz1 ht1 hq hsh hq0 hq8
  go_wp2_with fail
  rw [rounds_succ]
  go_wp2_with fail
  refine (ipok_t _ H).mono ?_
  rintro e w1 ⟨rfl, hb1⟩
  have k0 : w1.cell? ⟨w.heap.size + 1, 0, none⟩ = some (.int .i64 (bits .or .i64 0 (x * 256))) := cell_keep hb1 (by simp <;> omega) (by simp)
  have k1 : w1.cell? ⟨w.heap.size + 1, 1, none⟩ = some (.int .i64 (l0)) := cell_keep hb1 (by simp <;> omega) (by simp)
  have r0 : w1.cell? ⟨w.heap.size, 0, none⟩ = some (.int .i64 0) := cell_keep hb1 (by simp <;> omega) (by simp)
  have r1 : w1.cell? ⟨w.heap.size, 1, none⟩ = some (.int .i64 0) := cell_keep hb1 (by simp <;> omega) (by simp)
  have f0 : w1.frozen? ⟨w.heap.size, 0, none⟩ = false := fr_keep hb1 (by simp <;> omega) (by simp)
  have f1 : w1.frozen? ⟨w.heap.size, 1, none⟩ = false := fr_keep hb1 (by simp <;> omega) (by simp)
  have B1 : Below w.heap.size w w1 := below_step (by repeat' (first | exact Below.refl _ _ | (refine Below.setCell ?_ (by simp) _) | (refine Below.alloc ?_ (by simp) _) | (refine Below.drew ?_))) hb1
  clear hb1
  go_wp2
  exact bodyPost_ret (v := .tuple #[.agg #[.int .i64 (bits .or .i64 0 (x * 256)), .int .i64 l0], .int .i64 (k + 1 + 1)]) (by simp [results, Tryd.results14, go_sem, r0, r1]) rfl ⟨rfl, by repeat' (first | exact B1 | (refine Below.setCell ?_ (by simp) _))⟩

theorem iget_1_no (b o c n : Nat) (l0 : Int) (k : Nat) (w : World) (hk : k < n) (hm : n ≤ 1048576) (hb : b < w.heap.size) (e0 : w.cell? ⟨b, o + k, none⟩ = some (.int .u8 l0)) (hl : 0 ≤ l0) (h16 : 1 ≤ l0) (h17 : l0 ≤ 8) (x : Int) (ex : w.cell? ⟨b, o + (k + 1), none⟩ = some (.int .u8 x)) (hx0 : 0 ≤ x) (hx1 : x ≤ 255) (hs : k + 2 ≤ n) (H : Hid (pokB (x * 256) (l0) = false)) :
    Calls Tryd.prog 14 #[.slice (some ⟨b, o, none⟩) n c, .int .i64 k] w fun e w' => e = .returned (.tuple #[.agg #[.int .i64 0, .int .i64 0], .int .i64 (-1)]) ∧ Below w.heap.size w w' := by
  have hkI : (k : Int) < (n : Int) := by omega
  have h8 : (l0 + 7) / 8 = 1 := by omega
  have hk2 : (k : Int) + 1 < n := by omega
  rw [← or_zero (x * 256) (by omega) (by omega)] at H
  go_enter Tryd.func14, Tryd.ntmps14
  go_wp2_with fail
  refine (ebytes' l0 _ (by omega) (by omega)).mono ?_
  rintro e wx ⟨rfl, rfl⟩
  go_wp2_with fail
  refine (ebytes' l0 _ (by omega) (by omega)).mono ?_
  rintro e wx ⟨rfl, rfl⟩
  go_wp2_with fail
  refine wp_loop_rounds 2 ?_
  rw [rounds_succ]
  go_wp2_with fail
  have hw1 : IntKind.i64.wrap ((k : Int) + 1) = (k : Int) + 1 := wrap64_in _ (by omega) (by omega)
  have hz1 : (0 : Int) ≤ (k : Int) + 1 := by omega
  have ht1 : ((k : Int) + 1).toNat = k + 1 := by omega
  have hq : IntKind.i64.wrap x = x := wrap64_in _ (by omega) (by omega)
  have hsh : Op.shift .shl .i64 x .i64 8 = pure (.int .i64 (x * 256)) := by
    rw [shift_shl _ _ _ _ (by omega) (by decide)]
    exact congrArg pure (congrArg (Value.int .i64) (wrap64_in (x * 256) (by omega) (by omega)))
  have hq0 : IntKind.i64.wrap 0 = 0 := by decide
  have hq8 : IntKind.i64.wrap 8 = 8 := by decide
  refine wp_still_tail 16 (by kernel_rfl) (by kernel_rfl) ?_
  simp only [List.take_succ_cons, List.take_zero, List.drop_succ_cons, List.drop_zero]
  repeat still_step
  refine wpStill_nil ?_
  clear hw1 hz1 ht1 hq hsh hq0 hq8
  go_wp2_with fail
  rw [rounds_succ]
  go_wp2_with fail
  refine (ipok_t _ H).mono ?_
  rintro e w1 ⟨rfl, hb1⟩
  have k0 : w1.cell? ⟨w.heap.size + 1, 0, none⟩ = some (.int .i64 (bits .or .i64 0 (x * 256))) := cell_keep hb1 (by simp <;> omega) (by simp)
  have k1 : w1.cell? ⟨w.heap.size + 1, 1, none⟩ = some (.int .i64 (l0)) := cell_keep hb1 (by simp <;> omega) (by simp)
  have r0 : w1.cell? ⟨w.heap.size, 0, none⟩ = some (.int .i64 0) := cell_keep hb1 (by simp <;> omega) (by simp)
  have r1 : w1.cell? ⟨w.heap.size, 1, none⟩ = some (.int .i64 0) := cell_keep hb1 (by simp <;> omega) (by simp)
  have f0 : w1.frozen? ⟨w.heap.size, 0, none⟩ = false := fr_keep hb1 (by simp <;> omega) (by simp)
  have f1 : w1.frozen? ⟨w.heap.size, 1, none⟩ = false := fr_keep hb1 (by simp <;> omega) (by simp)
  have B1 : Below w.heap.size w w1 := below_step (by repeat' (first | exact Below.refl _ _ | (refine Below.setCell ?_ (by simp) _) | (refine Below.alloc ?_ (by simp) _) | (refine Below.drew ?_))) hb1
  clear hb1
  go_wp2
  exact bodyPost_ret (v := .tuple #[.agg #[.int .i64 0, .int .i64 0], .int .i64 (-1)]) (by simp [results, Tryd.results14, go_sem, r0, r1]) rfl ⟨rfl, by repeat' (first | exact B1 | (refine Below.setCell ?_ (by simp) _))⟩

theorem iget_2_yes (b o c n : Nat) (l0 : Int) (k : Nat) (w : World) (hk : k < n) (hm : n ≤ 1048576) (hb : b < w.heap.size) (e0 : w.cell? ⟨b, o + k, none⟩ = some (.int .u8 l0)) (hl : 0 ≤ l0) (h16 : 9 ≤ l0) (h17 : l0 ≤ 16) (x y : Int) (ex : w.cell? ⟨b, o + (k + 1), none⟩ = some (.int .u8 x)) (ey : w.cell? ⟨b, o + (k + 2), none⟩ = some (.int .u8 y)) (hx0 : 0 ≤ x) (hx1 : x ≤ 255) (hy0 : 0 ≤ y) (hy1 : y ≤ 255) (hs : k + 3 ≤ n) (H : Hid (pokB (x * 256 + y) (l0) = true)) :
    Calls Tryd.prog 14 #[.slice (some ⟨b, o, none⟩) n c, .int .i64 k] w fun e w' => e = .returned (.tuple #[.agg #[.int .i64 (x * 256 + y), .int .i64 l0], .int .i64 (k + 1 + 2)]) ∧ Below w.heap.size w w' := by
  have hkI : (k : Int) < (n : Int) := by omega
  have h8 : (l0 + 7) / 8 = 2 := by omega
  have hk2 : (k : Int) + 1 < n := by omega
  have hk3 : (k : Int) + 2 < n := by omega
  rw [← or_hl x y hx0 hx1 hy0 hy1, ← or_zero (x * 256) (by omega) (by omega)] at H ⊢
  go_enter Tryd.func14, Tryd.ntmps14
  go_wp2_with fail
  refine (ebytes' l0 _ (by omega) (by omega)).mono ?_
  rintro e wx ⟨rfl, rfl⟩
  go_wp2_with fail
  refine (ebytes' l0 _ (by omega) (by omega)).mono ?_
  rintro e wx ⟨rfl, rfl⟩
  go_wp2_with fail
  refine wp_loop_rounds 3 ?_
  rw [rounds_succ]
  go_wp2_with fail
  have hw1 : IntKind.i64.wrap ((k : Int) + 1) = (k : Int) + 1 := wrap64_in _ (by omega) (by omega)
  have hz1 : (0 : Int) ≤ (k : Int) + 1 := by omega
  have ht1 : ((k : Int) + 1).toNat = k + 1 := by omega
  have hq : IntKind.i64.wrap x = x := wrap64_in _ (by omega) (by omega)
  have hsh : Op.shift .shl .i64 x .i64 8 = pure (.int .i64 (x * 256)) := by
    rw [shift_shl _ _ _ _ (by omega) (by decide)]
    exact congrArg pure (congrArg (Value.int .i64) (wrap64_in (x * 256) (by omega) (by omega)))
  have hq0 : IntKind.i64.wrap 0 = 0 := by decide
  have hq8 : IntKind.i64.wrap 8 = 8 := by decide
  refine wp_still_tail 16 (by kernel_rfl) (by kernel_rfl) ?_
  simp only [List.take_succ_cons, List.take_zero, List.drop_succ_cons, List.drop_zero]
  repeat still_step
  refine wpStill_nil ?_
  clear hw1 hz1 ht1 hq hsh hq0 hq8
  go_wp2_with fail
  rw [rounds_succ]
  go_wp2_with fail
  have hw1 : IntKind.i64.wrap ((k : Int) + 1) = (k : Int) + 1 := wrap64_in _ (by omega) (by omega)
  have hw2 : IntKind.i64.wrap ((k : Int) + 1 + 1) = (k : Int) + 1 + 1 := wrap64_in _ (by omega) (by omega)
  have hz1 : (0 : Int) ≤ (k : Int) + 1 + 1 := by omega
  have ht1 : ((k : Int) + 1 + 1).toNat = k + 2 := by omega
  have hz2 : (0 : Int) ≤ (k : Int) + 2 := by omega
  have ht2 : ((k : Int) + 2).toNat = k + 2 := by omega
  have hk4 : (k : Int) + 1 + 1 < n := by omega
  have hw3 : IntKind.i64.wrap ((k : Int) + 2) = (k : Int) + 2 := wrap64_in _ (by omega) (by omega)
  have hq : IntKind.i64.wrap y = y := wrap64_in _ (by omega) (by omega)
  have hsh : Op.shift .shl .i64 y .i64 0 = pure (.int .i64 y) := by
    rw [shift_shl _ _ _ _ (by omega) (by decide)]
    exact congrArg pure (congrArg (Value.int .i64) ((congrArg IntKind.i64.wrap (Int.mul_one y)).trans hq))
  have hq0 : IntKind.i64.wrap 0 = 0 := by decide
  have hq8 : IntKind.i64.wrap 8 = 8 := by decide
  refine wp_still_tail 16 (by kernel_rfl) (by kernel_rfl) ?_
  simp only [List.take_succ_cons, List.take_zero, List.drop_succ_cons, List.drop_zero]
  repeat still_step
  refine wpStill_nil ?_
  clear hw1 hz1 ht1 hq hsh hq0 hq8
  clear hw2 hw3 hz2 ht2 hk4
  go_wp2_with fail
  rw [rounds_succ]
  go_wp2_with fail
  refine (ipok_t _ H).mono ?_
  rintro e w1 ⟨rfl, hb1⟩
  have k0 : w1.cell? ⟨w.heap.size + 1, 0, none⟩ = some (.int .i64 (bits .or .i64 (bits .or .i64 0 (x * 256)) y)) := cell_keep hb1 (by simp <;> omega) (by simp)
  have k1 : w1.cell? ⟨w.heap.size + 1, 1, none⟩ = some (.int .i64 (l0)) := cell_keep hb1 (by simp <;> omega) (by simp)
  have r0 : w1.cell? ⟨w.heap.size, 0, none⟩ = some (.int .i64 0) := cell_keep hb1 (by simp <;> omega) (by simp)
  have r1 : w1.cell? ⟨w.heap.size, 1, none⟩ = some (.int .i64 0) := cell_keep hb1 (by simp <;> omega) (by simp)
  have f0 : w1.frozen? ⟨w.heap.size, 0, none⟩ = false := fr_keep hb1 (by simp <;> omega) (by simp)
  have f1 : w1.frozen? ⟨w.heap.size, 1, none⟩ = false := fr_keep hb1 (by simp <;> omega) (by simp)
  have B1 : Below w.heap.size w w1 := below_step (by repeat' (first | exact Below.refl _ _ | (refine Below.setCell ?_ (by simp) _) | (refine Below.alloc ?_ (by simp) _) | (refine Below.drew ?_))) hb1
  clear hb1
  go_wp2
  exact bodyPost_ret (v := .tuple #[.agg #[.int .i64 (bits .or .i64 (bits .or .i64 0 (x * 256)) y), .int .i64 l0], .int .i64 (k + 1 + 2)]) (by simp [results, Tryd.results14, go_sem, r0, r1]) rfl ⟨rfl, by repeat' (first | exact B1 | (refine Below.setCell ?_ (by simp) _))⟩

theorem iget_2_no (b o c n : Nat) (l0 : Int) (k : Nat) (w : World) (hk : k < n) (hm : n ≤ 1048576) (hb : b < w.heap.size) (e0 : w.cell? ⟨b, o + k, none⟩ = some (.int .u8 l0)) (hl : 0 ≤ l0) (h16 : 9 ≤ l0) (h17 : l0 ≤ 16) (x y : Int) (ex : w.cell? ⟨b, o + (k + 1), none⟩ = some (.int .u8 x)) (ey : w.cell? ⟨b, o + (k + 2), none⟩ = some (.int .u8 y)) (hx0 : 0 ≤ x) (hx1 : x ≤ 255) (hy0 : 0 ≤ y) (hy1 : y ≤ 255) (hs : k + 3 ≤ n) (H : Hid (pokB (x * 256 + y) (l0) = false)) :
    Calls Tryd.prog 14 #[.slice (some ⟨b, o, none⟩) n c, .int .i64 k] w fun e w' => e = .returned (.tuple #[.agg #[.int .i64 0, .int .i64 0], .int .i64 (-1)]) ∧ Below w.heap.size w w' := by
  have hkI : (k : Int) < (n : Int) := by omega
  have h8 : (l0 + 7) / 8 = 2 := by omega
  have hk2 : (k : Int) + 1 < n := by omega
  have hk3 : (k : Int) + 2 < n := by omega
  rw [← or_hl x y hx0 hx1 hy0 hy1, ← or_zero (x * 256) (by omega) (by omega)] at H
  go_enter Tryd.func14, Tryd.ntmps14
  go_wp2_with fail
  refine (ebytes' l0 _ (by omega) (by omega)).mono ?_
  rintro e wx ⟨rfl, rfl⟩
  go_wp2_with fail
  refine (ebytes' l0 _ (by omega) (by omega)).mono ?_
  rintro e wx ⟨rfl, rfl⟩
  go_wp2_with fail
  refine wp_loop_rounds 3 ?_
  rw [rounds_succ]
  go_wp2_with fail
  have hw1 : IntKind.i64.wrap ((k : Int) + 1) = (k : Int) + 1 := wrap64_in _ (by omega) (by omega)
  have hz1 : (0 : Int) ≤ (k : Int) + 1 := by omega
  have ht1 : ((k : Int) + 1).toNat = k + 1 := by omega
  have hq : IntKind.i64.wrap x = x := wrap64_in _ (by omega) (by omega)
  have hsh : Op.shift .shl .i64 x .i64 8 = pure (.int .i64 (x * 256)) := by
    rw [shift_shl _ _ _ _ (by omega) (by decide)]
    exact congrArg pure (congrArg (Value.int .i64) (wrap64_in (x * 256) (by omega) (by omega)))
  have hq0 : IntKind.i64.wrap 0 = 0 := by decide
  have hq8 : IntKind.i64.wrap 8 = 8 := by decide
  refine wp_still_tail 16 (by kernel_rfl) (by kernel_rfl) ?_
  simp only [List.take_succ_cons, List.take_zero, List.drop_succ_cons, List.drop_zero]
  repeat still_step
  refine wpStill_nil ?_
  clear hw1 hz1 ht1 hq hsh hq0 hq8
  go_wp2_with fail
  rw [rounds_succ]
  go_wp2_with fail
  have hw1 : IntKind.i64.wrap ((k : Int) + 1) = (k : Int) + 1 := wrap64_in _ (by omega) (by omega)
  have hw2 : IntKind.i64.wrap ((k : Int) + 1 + 1) = (k : Int) + 1 + 1 := wrap64_in _ (by omega) (by omega)
  have hz1 : (0 : Int) ≤ (k : Int) + 1 + 1 := by omega
  have ht1 : ((k : Int) + 1 + 1).toNat = k + 2 := by omega
  have hz2 : (0 : Int) ≤ (k : Int) + 2 := by omega
  have ht2 : ((k : Int) + 2).toNat = k + 2 := by omega
  have hk4 : (k : Int) + 1 + 1 < n := by omega
  have hw3 : IntKind.i64.wrap ((k : Int) + 2) = (k : Int) + 2 := wrap64_in _ (by omega) (by omega)
  have hq : IntKind.i64.wrap y = y := wrap64_in _ (by omega) (by omega)
  have hsh : Op.shift .shl .i64 y .i64 0 = pure (.int .i64 y) := by
    rw [shift_shl _ _ _ _ (by omega) (by decide)]
    exact congrArg pure (congrArg (Value.int .i64) ((congrArg IntKind.i64.wrap (Int.mul_one y)).trans hq))
  have hq0 : IntKind.i64.wrap 0 = 0 := by decide
  have hq8 : IntKind.i64.wrap 8 = 8 := by decide
  refine wp_still_tail 16 (by kernel_rfl) (by kernel_rfl) ?_
  simp only [List.take_succ_cons, List.take_zero, List.drop_succ_cons, List.drop_zero]
  repeat still_step
  refine wpStill_nil ?_
  clear hw1 hz1 ht1 hq hsh hq0 hq8
  clear hw2 hw3 hz2 ht2 hk4
  go_wp2_with fail
  rw [rounds_succ]
  go_wp2_with fail
  refine (ipok_t _ H).mono ?_
  rintro e w1 ⟨rfl, hb1⟩
  have k0 : w1.cell? ⟨w.heap.size + 1, 0, none⟩ = some (.int .i64 (bits .or .i64 (bits .or .i64 0 (x * 256)) y)) := cell_keep hb1 (by simp <;> omega) (by simp)
  have k1 : w1.cell? ⟨w.heap.size + 1, 1, none⟩ = some (.int .i64 (l0)) := cell_keep hb1 (by simp <;> omega) (by simp)
  have r0 : w1.cell? ⟨w.heap.size, 0, none⟩ = some (.int .i64 0) := cell_keep hb1 (by simp <;> omega) (by simp)
  have r1 : w1.cell? ⟨w.heap.size, 1, none⟩ = some (.int .i64 0) := cell_keep hb1 (by simp <;> omega) (by simp)
  have f0 : w1.frozen? ⟨w.heap.size, 0, none⟩ = false := fr_keep hb1 (by simp <;> omega) (by simp)
  have f1 : w1.frozen? ⟨w.heap.size, 1, none⟩ = false := fr_keep hb1 (by simp <;> omega) (by simp)
  have B1 : Below w.heap.size w w1 := below_step (by repeat' (first | exact Below.refl _ _ | (refine Below.setCell ?_ (by simp) _) | (refine Below.alloc ?_ (by simp) _) | (refine Below.drew ?_))) hb1
  clear hb1
  go_wp2
  exact bodyPost_ret (v := .tuple #[.agg #[.int .i64 0, .int .i64 0], .int .i64 (-1)]) (by simp [results, Tryd.results14, go_sem, r0, r1]) rfl ⟨rfl, by repeat' (first | exact B1 | (refine Below.setCell ?_ (by simp) _))⟩

end Go.Proofs.YtichmbbpjkikaaaDoor
