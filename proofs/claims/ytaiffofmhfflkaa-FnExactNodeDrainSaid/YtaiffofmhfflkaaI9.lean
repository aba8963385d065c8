/-
  Ranks, of the program and of the model. Conditions: those in each contract.
-/
import Derived.Test.YtaiffofmhfflkaaI8
namespace Go.Proofs.Ytaiffofmhfflkaa
open Go.ChangeShapes Go.WideShapes Go.ChangeAt Go.RowKit Go.BigFrame Go.Joins
set_option linter.unusedVariables false
set_option maxRecDepth 100000

def nm (a b : Int) : Int := Lib.compareInt a b
theorem snum_any (a b : Int) (w : World) : Calls Try.prog 85 #[.int .i64 a, .int .i64 b] w fun e w' => e = .returned (.int .i64 (nm a b)) ∧ w = w' := by
  by_cases h0 : a < b
  · have e : nm a b = -1 := by simp [nm, Lib.compareInt, h0]
    rw [e]
    clear e
    go_enter Try.func85, Try.ntmps85
    go_wp2
    go_ret
    exact ⟨rfl, rfl⟩
  · by_cases h1 : b < a
    · have e : nm a b = 1 := by simp only [nm, Lib.compareInt]; split <;> first | omega | (split <;> omega)
      rw [e]
      clear e
      go_enter Try.func85, Try.ntmps85
      go_wp2
      go_ret
      exact ⟨rfl, rfl⟩
    · have e : nm a b = 0 := by simp only [nm, Lib.compareInt]; split <;> first | omega | (split <;> omega)
      rw [e]
      clear e
      go_enter Try.func85, Try.ntmps85
      go_wp2
      go_ret
      exact ⟨rfl, rfl⟩
theorem inum_any (a b : Int) (w : World) : Calls Try.prog 110 #[.int .i64 a, .int .i64 b] w fun e w' => e = .returned (.int .i64 (nm a b)) ∧ w = w' :=
  (Try.cmp_Compare_int a b w).mono fun _ _ ⟨he, hw⟩ => ⟨he, hw.symm⟩
theorem nm_zero (a b : Int) : nm a b = 0 ↔ a = b := by
  unfold nm Lib.compareInt
  split
  · constructor <;> intro h <;> omega
  · split
    · constructor <;> intro h <;> omega
    · constructor <;> intro h <;> omega
/-- the rank: greater preference first, then the shorter path -/
def rk (pr : Int) (pl : Nat) (pr' : Int) (pl' : Nat) : Int := if pr = pr' then nm pl pl' else nm pr' pr
theorem srank_any (pa ca qa da : Option Addr) (pd cd qd dd : Nat) (p c q d : List Int) (pr bw pr' bw' : Int) (w : World) (hpl : p.length ≤ 8) (hql : q.length ≤ 8) :
    Calls Try.prog 83 #[.agg #[.slice pa p.length pd, .int .i64 pr, .slice ca c.length cd, .int .i64 bw], .agg #[.slice qa q.length qd, .int .i64 pr', .slice da d.length dd, .int .i64 bw']] w fun e w' => e = .returned (.int .i64 (rk pr p.length pr' q.length)) ∧ Below w.heap.size w w' := by
  have bA := Bx.new w (.slice pa p.length pd) (.int .i64 pr) (.slice ca c.length cd) (.int .i64 bw) 52 w.heap.size rfl
  have z0 : (w.alloc (.cells #[.slice pa p.length pd, .int .i64 pr, .slice ca c.length cd, .int .i64 bw] 52)).heap.size = w.heap.size + 1 := by simp
  have bB := Bx.new (w.alloc (.cells #[.slice pa p.length pd, .int .i64 pr, .slice ca c.length cd, .int .i64 bw] 52)) (.slice qa q.length qd) (.int .i64 pr') (.slice da d.length dd) (.int .i64 bw') 52 (w.heap.size + 1) z0.symm
  replace bA := bA.alloc (.cells #[.slice qa q.length qd, .int .i64 pr', .slice da d.length dd, .int .i64 bw'] 52)
  have B1 : Below w.heap.size w ((w.alloc (.cells #[.slice pa p.length pd, .int .i64 pr, .slice ca c.length cd, .int .i64 bw] 52)).alloc (.cells #[.slice qa q.length qd, .int .i64 pr', .slice da d.length dd, .int .i64 bw'] 52)) := ((Below.refl _ _).alloc (Nat.le_refl _) _).alloc (by rw [z0]; omega) _
  clear z0
  by_cases h : pr = pr'
  · skip
    rw [show rk pr p.length pr' q.length = nm p.length q.length by simp [rk, h]]
    have hne : (pr != pr') = false := by simp [h]
    clear h
    go_enter Try.func83, Try.ntmps83
    have kA0 := bA.c0
    have kA1 := bA.c1
    have kA2 := bA.c2
    have kA3 := bA.c3
    have kB0 := bB.c0
    have kB1 := bB.c1
    have kB2 := bB.c2
    have kB3 := bB.c3
    go_wp2_with fail
    clear kA0 kA1 kA2 kA3 kB0 kB1 kB2 kB3
    refine (snum_any _ _ _).mono ?_
    rintro e w1 ⟨rfl, rfl⟩
    go_wp2
    go_ret
    exact ⟨rfl, B1⟩
  · skip
    rw [show rk pr p.length pr' q.length = nm pr' pr by simp [rk, h]]
    have hne : (pr != pr') = true := by simp [h]
    clear h
    go_enter Try.func83, Try.ntmps83
    have kA0 := bA.c0
    have kA1 := bA.c1
    have kA2 := bA.c2
    have kA3 := bA.c3
    have kB0 := bB.c0
    have kB1 := bB.c1
    have kB2 := bB.c2
    have kB3 := bB.c3
    go_wp2_with fail
    clear kA0 kA1 kA2 kA3 kB0 kB1 kB2 kB3
    refine (snum_any _ _ _).mono ?_
    rintro e w1 ⟨rfl, rfl⟩
    go_wp2
    go_ret
    exact ⟨rfl, B1⟩
theorem bypref_any (pa ca qa da : Option Addr) (pd cd qd dd : Nat) (p c q d : List Int) (pr bw pr' bw' : Int) (w : World) (hpl : p.length ≤ 8) (hql : q.length ≤ 8) :
    Calls Try.prog 118 #[.agg #[.slice pa p.length pd, .int .i64 pr, .slice ca c.length cd, .int .i64 bw], .agg #[.slice qa q.length qd, .int .i64 pr', .slice da d.length dd, .int .i64 bw']] w fun e w' => e = .returned (.int .i64 (nm pr' pr)) ∧ Below w.heap.size w w' := by
  have bA := Bx.new w (.slice pa p.length pd) (.int .i64 pr) (.slice ca c.length cd) (.int .i64 bw) 52 w.heap.size rfl
  have z0 : (w.alloc (.cells #[.slice pa p.length pd, .int .i64 pr, .slice ca c.length cd, .int .i64 bw] 52)).heap.size = w.heap.size + 1 := by simp
  have bB := Bx.new (w.alloc (.cells #[.slice pa p.length pd, .int .i64 pr, .slice ca c.length cd, .int .i64 bw] 52)) (.slice qa q.length qd) (.int .i64 pr') (.slice da d.length dd) (.int .i64 bw') 52 (w.heap.size + 1) z0.symm
  replace bA := bA.alloc (.cells #[.slice qa q.length qd, .int .i64 pr', .slice da d.length dd, .int .i64 bw'] 52)
  have B1 : Below w.heap.size w ((w.alloc (.cells #[.slice pa p.length pd, .int .i64 pr, .slice ca c.length cd, .int .i64 bw] 52)).alloc (.cells #[.slice qa q.length qd, .int .i64 pr', .slice da d.length dd, .int .i64 bw'] 52)) := ((Below.refl _ _).alloc (Nat.le_refl _) _).alloc (by rw [z0]; omega) _
  clear z0
  go_enter Try.func118, Try.ntmps118
  have kA0 := bA.c0
  have kA1 := bA.c1
  have kA2 := bA.c2
  have kA3 := bA.c3
  have kB0 := bB.c0
  have kB1 := bB.c1
  have kB2 := bB.c2
  have kB3 := bB.c3
  go_wp2_with fail
  clear kA0 kA1 kA2 kA3 kB0 kB1 kB2 kB3
  refine (inum_any _ _ _).mono ?_
  rintro e w1 ⟨rfl, rfl⟩
  go_wp2
  go_ret
  exact ⟨rfl, B1⟩
theorem bylen_any (pa ca qa da : Option Addr) (pd cd qd dd : Nat) (p c q d : List Int) (pr bw pr' bw' : Int) (w : World) (hpl : p.length ≤ 8) (hql : q.length ≤ 8) :
    Calls Try.prog 119 #[.agg #[.slice pa p.length pd, .int .i64 pr, .slice ca c.length cd, .int .i64 bw], .agg #[.slice qa q.length qd, .int .i64 pr', .slice da d.length dd, .int .i64 bw']] w fun e w' => e = .returned (.int .i64 (nm p.length q.length)) ∧ Below w.heap.size w w' := by
  have bA := Bx.new w (.slice pa p.length pd) (.int .i64 pr) (.slice ca c.length cd) (.int .i64 bw) 52 w.heap.size rfl
  have z0 : (w.alloc (.cells #[.slice pa p.length pd, .int .i64 pr, .slice ca c.length cd, .int .i64 bw] 52)).heap.size = w.heap.size + 1 := by simp
  have bB := Bx.new (w.alloc (.cells #[.slice pa p.length pd, .int .i64 pr, .slice ca c.length cd, .int .i64 bw] 52)) (.slice qa q.length qd) (.int .i64 pr') (.slice da d.length dd) (.int .i64 bw') 52 (w.heap.size + 1) z0.symm
  replace bA := bA.alloc (.cells #[.slice qa q.length qd, .int .i64 pr', .slice da d.length dd, .int .i64 bw'] 52)
  have B1 : Below w.heap.size w ((w.alloc (.cells #[.slice pa p.length pd, .int .i64 pr, .slice ca c.length cd, .int .i64 bw] 52)).alloc (.cells #[.slice qa q.length qd, .int .i64 pr', .slice da d.length dd, .int .i64 bw'] 52)) := ((Below.refl _ _).alloc (Nat.le_refl _) _).alloc (by rw [z0]; omega) _
  clear z0
  go_enter Try.func119, Try.ntmps119
  have kA0 := bA.c0
  have kA1 := bA.c1
  have kA2 := bA.c2
  have kA3 := bA.c3
  have kB0 := bB.c0
  have kB1 := bB.c1
  have kB2 := bB.c2
  have kB3 := bB.c3
  go_wp2_with fail
  clear kA0 kA1 kA2 kA3 kB0 kB1 kB2 kB3
  refine (inum_any _ _ _).mono ?_
  rintro e w1 ⟨rfl, rfl⟩
  go_wp2
  go_ret
  exact ⟨rfl, B1⟩
theorem irank_any (pa ca qa da : Option Addr) (pd cd qd dd : Nat) (p c q d : List Int) (pr bw pr' bw' : Int) (w : World) (hpl : p.length ≤ 8) (hql : q.length ≤ 8) :
    Calls Try.prog 103 #[.agg #[.slice pa p.length pd, .int .i64 pr, .slice ca c.length cd, .int .i64 bw], .agg #[.slice qa q.length qd, .int .i64 pr', .slice da d.length dd, .int .i64 bw']] w fun e w' => e = .returned (.int .i64 (rk pr p.length pr' q.length)) ∧ Below w.heap.size w w' := by
  have bA := Bx.new w (.slice pa p.length pd) (.int .i64 pr) (.slice ca c.length cd) (.int .i64 bw) 52 w.heap.size rfl
  have z0 : (w.alloc (.cells #[.slice pa p.length pd, .int .i64 pr, .slice ca c.length cd, .int .i64 bw] 52)).heap.size = w.heap.size + 1 := by simp
  have bB := Bx.new (w.alloc (.cells #[.slice pa p.length pd, .int .i64 pr, .slice ca c.length cd, .int .i64 bw] 52)) (.slice qa q.length qd) (.int .i64 pr') (.slice da d.length dd) (.int .i64 bw') 52 (w.heap.size + 1) z0.symm
  replace bA := bA.alloc (.cells #[.slice qa q.length qd, .int .i64 pr', .slice da d.length dd, .int .i64 bw'] 52)
  have B1 : Below w.heap.size w ((w.alloc (.cells #[.slice pa p.length pd, .int .i64 pr, .slice ca c.length cd, .int .i64 bw] 52)).alloc (.cells #[.slice qa q.length qd, .int .i64 pr', .slice da d.length dd, .int .i64 bw'] 52)) := ((Below.refl _ _).alloc (Nat.le_refl _) _).alloc (by rw [z0]; omega) _
  clear z0
  by_cases h : pr = pr'
  · have hk : rk pr p.length pr' q.length = nm p.length q.length := by simp [rk, h]
    rw [hk]
    have hz : nm pr' pr = 0 := (nm_zero _ _).2 h.symm
    have HZ := Lib.hid hz
    clear hk h hz
    obtain ⟨z, hy⟩ : ∃ z : Int, nm p.length q.length = z := ⟨_, rfl⟩
    have HY := Lib.hid hy
    rw [hy]
    clear hy
    by_cases h0 : z = 0
    · subst h0
      have i0 : ∀ w : World, (Instr.index 133 (.agg #[Value.func (Fn.func 118) #[] #[], Value.func (Fn.func 119) #[] #[]]) (.int .i64 0)).run Try.prog w = .ok (Value.func (Fn.func 118) #[] #[]) w := fun _ => by kernel_rfl
      have i1 : ∀ w : World, (Instr.index 133 (.agg #[Value.func (Fn.func 118) #[] #[], Value.func (Fn.func 119) #[] #[]]) (.int .i64 1)).run Try.prog w = .ok (Value.func (Fn.func 119) #[] #[]) w := fun _ => by kernel_rfl
      go_enter Try.func103, Try.ntmps103
      have kA0 := bA.c0
      have kA1 := bA.c1
      have kA2 := bA.c2
      have kA3 := bA.c3
      have kB0 := bB.c0
      have kB1 := bB.c1
      have kB2 := bB.c2
      have kB3 := bB.c3
      go_wp2_with fail
      refine wp_loop_rounds 3 ?_
      rw [rounds_succ]
      go_wp2_with fail
      clear kA0 kA1 kA2 kA3 kB0 kB1 kB2 kB3
      refine (bypref_any pa ca qa da pd cd qd dd p c q d pr bw pr' bw' _ hpl hql).mono ?_
      rintro e w1 ⟨rfl, hb⟩
      rw [HZ.out]
      replace bA := bA.keep hb
      replace bB := bB.keep hb
      replace B1 := below_step B1 hb
      clear hb
      have kA0 := bA.c0
      have kA1 := bA.c1
      have kA2 := bA.c2
      have kA3 := bA.c3
      have kB0 := bB.c0
      have kB1 := bB.c1
      have kB2 := bB.c2
      have kB3 := bB.c3
      go_wp2_with fail
      rw [rounds_succ]
      go_wp2_with fail
      clear kA0 kA1 kA2 kA3 kB0 kB1 kB2 kB3
      refine (bylen_any pa ca qa da pd cd qd dd p c q d pr bw pr' bw' _ hpl hql).mono ?_
      rintro e w2 ⟨rfl, hb⟩
      rw [HY.out]
      replace bA := bA.keep hb
      replace bB := bB.keep hb
      replace B1 := below_step B1 hb
      clear hb
      go_wp2_with fail
      rw [rounds_succ]
      go_wp2
      go_ret
      exact ⟨rfl, B1⟩
    · have hne : (z != 0) = true := by simp [h0]
      have i0 : ∀ w : World, (Instr.index 133 (.agg #[Value.func (Fn.func 118) #[] #[], Value.func (Fn.func 119) #[] #[]]) (.int .i64 0)).run Try.prog w = .ok (Value.func (Fn.func 118) #[] #[]) w := fun _ => by kernel_rfl
      have i1 : ∀ w : World, (Instr.index 133 (.agg #[Value.func (Fn.func 118) #[] #[], Value.func (Fn.func 119) #[] #[]]) (.int .i64 1)).run Try.prog w = .ok (Value.func (Fn.func 119) #[] #[]) w := fun _ => by kernel_rfl
      go_enter Try.func103, Try.ntmps103
      have kA0 := bA.c0
      have kA1 := bA.c1
      have kA2 := bA.c2
      have kA3 := bA.c3
      have kB0 := bB.c0
      have kB1 := bB.c1
      have kB2 := bB.c2
      have kB3 := bB.c3
      go_wp2_with fail
      refine wp_loop_rounds 2 ?_
      rw [rounds_succ]
      go_wp2_with fail
      clear kA0 kA1 kA2 kA3 kB0 kB1 kB2 kB3
      refine (bypref_any pa ca qa da pd cd qd dd p c q d pr bw pr' bw' _ hpl hql).mono ?_
      rintro e w1 ⟨rfl, hb⟩
      rw [HZ.out]
      replace bA := bA.keep hb
      replace bB := bB.keep hb
      replace B1 := below_step B1 hb
      clear hb
      have kA0 := bA.c0
      have kA1 := bA.c1
      have kA2 := bA.c2
      have kA3 := bA.c3
      have kB0 := bB.c0
      have kB1 := bB.c1
      have kB2 := bB.c2
      have kB3 := bB.c3
      go_wp2_with fail
      rw [rounds_succ]
      go_wp2_with fail
      clear kA0 kA1 kA2 kA3 kB0 kB1 kB2 kB3
      refine (bylen_any pa ca qa da pd cd qd dd p c q d pr bw pr' bw' _ hpl hql).mono ?_
      rintro e w2 ⟨rfl, hb⟩
      rw [HY.out]
      replace bA := bA.keep hb
      replace bB := bB.keep hb
      replace B1 := below_step B1 hb
      clear hb
      go_wp2
      go_ret
      exact ⟨rfl, B1⟩
  · have hk : rk pr p.length pr' q.length = nm pr' pr := by simp [rk, h]
    rw [hk]
    obtain ⟨z, hy⟩ : ∃ z : Int, nm pr' pr = z := ⟨_, rfl⟩
    have hne : (z != 0) = true := by
      rw [← hy]
      simp only [bne_iff_ne, ne_eq, nm_zero]
      exact fun e => h e.symm
    have HY := Lib.hid hy
    rw [hy]
    clear hy hk h
    have i0 : ∀ w : World, (Instr.index 133 (.agg #[Value.func (Fn.func 118) #[] #[], Value.func (Fn.func 119) #[] #[]]) (.int .i64 0)).run Try.prog w = .ok (Value.func (Fn.func 118) #[] #[]) w := fun _ => by kernel_rfl
    have i1 : ∀ w : World, (Instr.index 133 (.agg #[Value.func (Fn.func 118) #[] #[], Value.func (Fn.func 119) #[] #[]]) (.int .i64 1)).run Try.prog w = .ok (Value.func (Fn.func 119) #[] #[]) w := fun _ => by kernel_rfl
    go_enter Try.func103, Try.ntmps103
    have kA0 := bA.c0
    have kA1 := bA.c1
    have kA2 := bA.c2
    have kA3 := bA.c3
    have kB0 := bB.c0
    have kB1 := bB.c1
    have kB2 := bB.c2
    have kB3 := bB.c3
    go_wp2_with fail
    refine wp_loop_rounds 1 ?_
    rw [rounds_succ]
    go_wp2_with fail
    clear kA0 kA1 kA2 kA3 kB0 kB1 kB2 kB3
    refine (bypref_any pa ca qa da pd cd qd dd p c q d pr bw pr' bw' _ hpl hql).mono ?_
    rintro e w1 ⟨rfl, hb⟩
    rw [HY.out]
    replace bA := bA.keep hb
    replace bB := bB.keep hb
    replace B1 := below_step B1 hb
    clear hb
    go_wp2
    go_ret
    exact ⟨rfl, B1⟩
end Go.Proofs.Ytaiffofmhfflkaa
