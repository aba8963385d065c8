/-
  Contracts of PrefixCmp of the program and of the model. Conditions: those in each contract.
-/
import Derived.Test.YtbcmoofpgffbhaaW2
import Derived.StillTailTactics
import Derived.LoopN
namespace Go.Proofs.Ytbcmoofpgffbhaa
open Go.ChangeShapes Go.WideShapes Go.ChangeAt Go.RowKit Go.BigFrame
set_option linter.unusedVariables false
set_option maxRecDepth 100000

def cmp1 (a b : Int) : Int := if a < b then -1 else if b < a then 1 else 0
def orv (x y : Int) : Int := if x ≠ 0 then x else y
def cmp2 (a n b m : Int) : Int := orv (cmp1 a b) (cmp1 n m)
def pcmp (a n b m : Int) : Int := if pokB a n && pokB b m then cmp2 a n b m else 0
theorem cmp1_lt {a b : Int} (h : a < b) : cmp1 a b = -1 := by simp [cmp1, h]
theorem cmp1_gt {a b : Int} (h : b < a) : cmp1 a b = 1 := by unfold cmp1; rw [if_neg (by omega), if_pos h]
theorem cmp1_eq (a : Int) : cmp1 a a = 0 := by simp [cmp1]

theorem nan_any (a : Int) (w : World) : Calls Try.prog 196 #[.int .i64 a] w fun e w' => e = .returned (.bool false) ∧ w = w' := by
  go_enter Try.func196, Try.ntmps196
  go_wp2
  go_ret
  exact ⟨ret_bool (by simp), rfl⟩
theorem compare_any (a b : Int) (w : World) : Calls Try.prog 169 #[.int .i64 a, .int .i64 b] w fun e w' => e = .returned (.int .i64 (cmp1 a b)) ∧ w = w' := by
  rcases Int.lt_trichotomy a b with h | h | h
  · rw [cmp1_lt h]
    go_enter Try.func169, Try.ntmps169
    go_wp2_with (go_at_call 196; refine (nan_any _ _).mono ?_; rintro e w' ⟨rfl, rfl⟩)
    go_ret
    exact ⟨rfl, rfl⟩
  · subst h
    rw [cmp1_eq]
    go_enter Try.func169, Try.ntmps169
    go_wp2_with (go_at_call 196; refine (nan_any _ _).mono ?_; rintro e w' ⟨rfl, rfl⟩)
    go_ret
    exact ⟨rfl, rfl⟩
  · rw [cmp1_gt h]
    have h' : ¬ a < b := by omega
    go_enter Try.func169, Try.ntmps169
    go_wp2_with (go_at_call 196; refine (nan_any _ _).mono ?_; rintro e w' ⟨rfl, rfl⟩)
    go_ret
    exact ⟨rfl, rfl⟩
/-- cmp.Or of two numbers that lie in a row -/
theorem or_any (x y : Int) (g : Nat) (w : World) (c0 : w.cell? ⟨g, 0, none⟩ = some (.int .i64 x)) (c1 : w.cell? ⟨g, 1, none⟩ = some (.int .i64 y)) :
    Calls Try.prog 168 #[.slice (some ⟨g, 0, none⟩) 2 2] w fun e w' => e = .returned (.int .i64 (orv x y)) ∧ w = w' := by
  by_cases hx : x = 0
  · subst hx
    rw [show orv 0 y = y by simp [orv]]
    by_cases hy : y = 0
    · subst hy
      go_enter Try.func168, Try.ntmps168
      go_wp2
      refine wp_loop_rounds 3 ?_
      rw [rounds_succ]
      go_wp2
      rw [rounds_succ]
      go_wp2
      rw [rounds_succ]
      go_wp2
      go_ret
      exact ⟨rfl, rfl⟩
    · have hy' : (y == 0) = false := by simp [hy]
      have hy2 : (y != 0) = true := by simp [hy]
      go_enter Try.func168, Try.ntmps168
      go_wp2
      refine wp_loop_rounds 2 ?_
      rw [rounds_succ]
      go_wp2
      rw [rounds_succ]
      go_wp2
      go_ret
      exact ⟨rfl, rfl⟩
  · have hx' : (x == 0) = false := by simp [hx]
    have hx2 : (x != 0) = true := by simp [hx]
    rw [show orv x y = x from if_pos hx]
    clear hx
    go_enter Try.func168, Try.ntmps168
    go_wp2
    refine wp_loop_rounds 1 ?_
    rw [rounds_succ]
    go_wp2
    go_ret
    exact ⟨rfl, rfl⟩

theorem scmp_l (a n b m : Int) (w : World) : Calls Try.prog 142 #[.agg #[.int .i64 a, .int .i64 n], .agg #[.int .i64 b, .int .i64 m]] w fun e w' => e = .returned (.int .i64 (cmp2 a n b m)) ∧ Below w.heap.size w w' := by
  rcases Int.lt_trichotomy a b with h | h | h
  · rw [show cmp2 a n b m = -1 by unfold cmp2; rw [cmp1_lt h]; rfl]
    have hne : (a != b) = true := by simp; omega
    obtain ⟨c0, c1, lt, B0⟩ := box2 w (.int .i64 a) (.int .i64 n) 48
    obtain ⟨d0, d1, ld, D0⟩ := box2 (w.alloc (.cells #[.int .i64 a, .int .i64 n] 48)) (.int .i64 b) (.int .i64 m) 48
    have lt2 := Nat.lt_of_lt_of_le lt D0.size
    have e0 := cell_keep D0 lt c0
    have e1 := cell_keep D0 lt c1
    have BD := below_step B0 D0
    clear c0 c1 lt B0 D0
    have q0 : (w.alloc (.cells #[.int .i64 a, .int .i64 n] 48)).heap.size = w.heap.size + 1 := by simp
    rw [q0] at d0 d1 ld
    clear q0
    go_enter Try.func142, Try.ntmps142
    go_wp2
    go_ret
    exact ⟨rfl, BD⟩
  · subst h
    rcases Int.lt_trichotomy n m with h | h | h
    · rw [show cmp2 a n a m = -1 by unfold cmp2; rw [cmp1_eq, cmp1_lt h]; rfl]
      obtain ⟨c0, c1, lt, B0⟩ := box2 w (.int .i64 a) (.int .i64 n) 48
      obtain ⟨d0, d1, ld, D0⟩ := box2 (w.alloc (.cells #[.int .i64 a, .int .i64 n] 48)) (.int .i64 a) (.int .i64 m) 48
      have lt2 := Nat.lt_of_lt_of_le lt D0.size
      have e0 := cell_keep D0 lt c0
      have e1 := cell_keep D0 lt c1
      have BD := below_step B0 D0
      clear c0 c1 lt B0 D0
      have q0 : (w.alloc (.cells #[.int .i64 a, .int .i64 n] 48)).heap.size = w.heap.size + 1 := by simp
      rw [q0] at d0 d1 ld
      clear q0
      go_enter Try.func142, Try.ntmps142
      go_wp2
      go_ret
      exact ⟨rfl, BD⟩
    · subst h
      rw [show cmp2 a n a n = 0 by unfold cmp2; rw [cmp1_eq, cmp1_eq]; rfl]
      obtain ⟨c0, c1, lt, B0⟩ := box2 w (.int .i64 a) (.int .i64 n) 48
      obtain ⟨d0, d1, ld, D0⟩ := box2 (w.alloc (.cells #[.int .i64 a, .int .i64 n] 48)) (.int .i64 a) (.int .i64 n) 48
      have lt2 := Nat.lt_of_lt_of_le lt D0.size
      have e0 := cell_keep D0 lt c0
      have e1 := cell_keep D0 lt c1
      have BD := below_step B0 D0
      clear c0 c1 lt B0 D0
      have q0 : (w.alloc (.cells #[.int .i64 a, .int .i64 n] 48)).heap.size = w.heap.size + 1 := by simp
      rw [q0] at d0 d1 ld
      clear q0
      go_enter Try.func142, Try.ntmps142
      go_wp2
      go_ret
      exact ⟨rfl, BD⟩
    · rw [show cmp2 a n a m = 1 by unfold cmp2; rw [cmp1_eq, cmp1_gt h]; rfl]
      have h' : ¬ n < m := by omega
      obtain ⟨c0, c1, lt, B0⟩ := box2 w (.int .i64 a) (.int .i64 n) 48
      obtain ⟨d0, d1, ld, D0⟩ := box2 (w.alloc (.cells #[.int .i64 a, .int .i64 n] 48)) (.int .i64 a) (.int .i64 m) 48
      have lt2 := Nat.lt_of_lt_of_le lt D0.size
      have e0 := cell_keep D0 lt c0
      have e1 := cell_keep D0 lt c1
      have BD := below_step B0 D0
      clear c0 c1 lt B0 D0
      have q0 : (w.alloc (.cells #[.int .i64 a, .int .i64 n] 48)).heap.size = w.heap.size + 1 := by simp
      rw [q0] at d0 d1 ld
      clear q0
      go_enter Try.func142, Try.ntmps142
      go_wp2
      go_ret
      exact ⟨rfl, BD⟩
  · rw [show cmp2 a n b m = 1 by unfold cmp2; rw [cmp1_gt h]; rfl]
    have hne : (a != b) = true := by simp; omega
    have h' : ¬ a < b := by omega
    obtain ⟨c0, c1, lt, B0⟩ := box2 w (.int .i64 a) (.int .i64 n) 48
    obtain ⟨d0, d1, ld, D0⟩ := box2 (w.alloc (.cells #[.int .i64 a, .int .i64 n] 48)) (.int .i64 b) (.int .i64 m) 48
    have lt2 := Nat.lt_of_lt_of_le lt D0.size
    have e0 := cell_keep D0 lt c0
    have e1 := cell_keep D0 lt c1
    have BD := below_step B0 D0
    clear c0 c1 lt B0 D0
    have q0 : (w.alloc (.cells #[.int .i64 a, .int .i64 n] 48)).heap.size = w.heap.size + 1 := by simp
    rw [q0] at d0 d1 ld
    clear q0
    go_enter Try.func142, Try.ntmps142
    go_wp2
    go_ret
    exact ⟨rfl, BD⟩
set_option maxRecDepth 100000 in
theorem icmp_any (a n b m : Int) (w : World) : Calls Try.prog 153 #[.agg #[.int .i64 a, .int .i64 n], .agg #[.int .i64 b, .int .i64 m]] w fun e w' => e = .returned (.int .i64 (pcmp a n b m)) ∧ Below w.heap.size w w' := by
  cases hp : pokB a n
  · rw [show pcmp a n b m = 0 by simp [pcmp, hp]]
    have H1 := Lib.hid hp
    clear hp
    obtain ⟨c0, c1, lt, B0⟩ := box2 w (.int .i64 a) (.int .i64 n) 48
    obtain ⟨d0, d1, ld, D0⟩ := box2 (w.alloc (.cells #[.int .i64 a, .int .i64 n] 48)) (.int .i64 b) (.int .i64 m) 48
    have lt2 := Nat.lt_of_lt_of_le lt D0.size
    have e0 := cell_keep D0 lt c0
    have e1 := cell_keep D0 lt c1
    have BD := below_step B0 D0
    clear c0 c1 lt B0 D0
    have q0 : (w.alloc (.cells #[.int .i64 a, .int .i64 n] 48)).heap.size = w.heap.size + 1 := by simp
    rw [q0] at d0 d1 ld
    clear q0
    go_enter Try.func153, Try.ntmps153
    go_wp2_with fail
    refine (ipok_t _ H1).mono ?_
    rintro e w1 ⟨rfl, hb⟩
    replace BD := below_step BD hb
    clear hb e0 e1 d0 d1
    go_wp2_with fail
    go_ret
    exact ⟨rfl, BD⟩
  · cases hq : pokB b m
    · rw [show pcmp a n b m = 0 by simp [pcmp, hq]]
      have H1 := Lib.hid hp
      have H2 := Lib.hid hq
      clear hp hq
      obtain ⟨c0, c1, lt, B0⟩ := box2 w (.int .i64 a) (.int .i64 n) 48
      obtain ⟨d0, d1, ld, D0⟩ := box2 (w.alloc (.cells #[.int .i64 a, .int .i64 n] 48)) (.int .i64 b) (.int .i64 m) 48
      have lt2 := Nat.lt_of_lt_of_le lt D0.size
      have e0 := cell_keep D0 lt c0
      have e1 := cell_keep D0 lt c1
      have BD := below_step B0 D0
      clear c0 c1 lt B0 D0
      have q0 : (w.alloc (.cells #[.int .i64 a, .int .i64 n] 48)).heap.size = w.heap.size + 1 := by simp
      rw [q0] at d0 d1 ld
      clear q0
      go_enter Try.func153, Try.ntmps153
      go_wp2_with fail
      refine (ipok_t _ H1).mono ?_
      rintro e w1 ⟨rfl, hb⟩
      replace BD := below_step BD hb
      replace e0 := cell_keep hb lt2 e0
      replace e1 := cell_keep hb lt2 e1
      replace d0 := cell_keep hb ld d0
      replace d1 := cell_keep hb ld d1
      replace lt2 := Nat.lt_of_lt_of_le lt2 hb.size
      replace ld := Nat.lt_of_lt_of_le ld hb.size
      clear hb
      go_wp2_with fail
      refine (ipok_t _ H2).mono ?_
      rintro e w2 ⟨rfl, hb⟩
      replace BD := below_step BD hb
      replace e0 := cell_keep hb lt2 e0
      replace e1 := cell_keep hb lt2 e1
      replace d0 := cell_keep hb ld d0
      replace d1 := cell_keep hb ld d1
      replace lt2 := Nat.lt_of_lt_of_le lt2 hb.size
      replace ld := Nat.lt_of_lt_of_le ld hb.size
      clear hb
      go_wp2_with fail
      go_ret
      exact ⟨rfl, BD⟩
    · rw [show pcmp a n b m = cmp2 a n b m by simp [pcmp, hp, hq]]
      have H1 := Lib.hid hp
      have H2 := Lib.hid hq
      clear hp hq
      obtain ⟨c0, c1, lt, B0⟩ := box2 w (.int .i64 a) (.int .i64 n) 48
      obtain ⟨d0, d1, ld, D0⟩ := box2 (w.alloc (.cells #[.int .i64 a, .int .i64 n] 48)) (.int .i64 b) (.int .i64 m) 48
      have lt2 := Nat.lt_of_lt_of_le lt D0.size
      have e0 := cell_keep D0 lt c0
      have e1 := cell_keep D0 lt c1
      have BD := below_step B0 D0
      clear c0 c1 lt B0 D0
      have q0 : (w.alloc (.cells #[.int .i64 a, .int .i64 n] 48)).heap.size = w.heap.size + 1 := by simp
      rw [q0] at d0 d1 ld
      clear q0
      go_enter Try.func153, Try.ntmps153
      go_wp2_with fail
      refine (ipok_t _ H1).mono ?_
      rintro e w1 ⟨rfl, hb⟩
      replace BD := below_step BD hb
      replace e0 := cell_keep hb lt2 e0
      replace e1 := cell_keep hb lt2 e1
      replace d0 := cell_keep hb ld d0
      replace d1 := cell_keep hb ld d1
      replace lt2 := Nat.lt_of_lt_of_le lt2 hb.size
      replace ld := Nat.lt_of_lt_of_le ld hb.size
      clear hb
      go_wp2_with fail
      refine (ipok_t _ H2).mono ?_
      rintro e w2 ⟨rfl, hb⟩
      replace BD := below_step BD hb
      replace e0 := cell_keep hb lt2 e0
      replace e1 := cell_keep hb lt2 e1
      replace d0 := cell_keep hb ld d0
      replace d1 := cell_keep hb ld d1
      replace lt2 := Nat.lt_of_lt_of_le lt2 hb.size
      replace ld := Nat.lt_of_lt_of_le ld hb.size
      clear hb
      go_wp2_with fail
      refine wp_region_still_tail 10 (by kernel_rfl) (by kernel_rfl) ?_
      simp only [List.take_succ_cons, List.take_zero, List.drop_succ_cons, List.drop_zero]
      repeat (first | still_step | (refine wpStill_step (fun K hK => ?_); go_simp; refine ⟨_, (compare_any _ _ _).mono (fun _ _ h => ⟨h.1, h.2.symm⟩), hK _ ?_⟩; clear hK K))
      refine wpStill_nil ?_
      change wpList _ _ _ _ _ w2.drew
      have BD2 : Below w.heap.size w w2.drew := BD.drew
      generalize w2.drew = w3 at BD2
      clear e0 e1 d0 d1 BD lt2 ld
      go_wp2_with fail
      refine (or_any (cmp1 a b) (cmp1 n m) w3.heap.size _ (by simp) (by simp)).mono ?_
      rintro e w4 ⟨rfl, rfl⟩
      go_wp2_with fail
      go_ret
      exact ⟨rfl, BD2.alloc BD2.size _⟩

end Go.Proofs.Ytbcmoofpgffbhaa
