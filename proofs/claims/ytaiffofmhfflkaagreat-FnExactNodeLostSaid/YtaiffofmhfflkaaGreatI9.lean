/-
  Ranks, of the program and of the model. Conditions: those in each contract.
-/
import Derived.Test.YtaiffofmhfflkaaGreatI8
namespace Go.Proofs.YtaiffofmhfflkaaGreat
open Go.ChangeShapes Go.WideShapes Go.ChangeAt Go.RowKit Go.BigFrame Go.Joins
set_option linter.unusedVariables false
set_option maxRecDepth 100000

def nm (a b : Int) : Int := Lib.compareInt a b
theorem snum_any (a b : Int) (w : World) : Calls Tryz.prog 163 #[.int .i64 a, .int .i64 b] w fun e w' => e = .returned (.int .i64 (nm a b)) ∧ w = w' := by
  by_cases h0 : a < b
  · have e : nm a b = -1 := by simp [nm, Lib.compareInt, h0]
    rw [e]
    clear e
    go_enter Tryz.func163, Tryz.ntmps163
    go_wp2
    go_ret
    exact ⟨rfl, rfl⟩
  · by_cases h1 : b < a
    · have e : nm a b = 1 := by simp only [nm, Lib.compareInt]; split <;> first | omega | (split <;> omega)
      rw [e]
      clear e
      go_enter Tryz.func163, Tryz.ntmps163
      go_wp2
      go_ret
      exact ⟨rfl, rfl⟩
    · have e : nm a b = 0 := by simp only [nm, Lib.compareInt]; split <;> first | omega | (split <;> omega)
      rw [e]
      clear e
      go_enter Tryz.func163, Tryz.ntmps163
      go_wp2
      go_ret
      exact ⟨rfl, rfl⟩
theorem inum_any (a b : Int) (w : World) : Calls Tryz.prog 200 #[.int .i64 a, .int .i64 b] w fun e w' => e = .returned (.int .i64 (nm a b)) ∧ w = w' :=
  (Tryz.cmp_Compare_int a b w).mono fun _ _ ⟨he, hw⟩ => ⟨he, hw.symm⟩
theorem nm_zero (a b : Int) : nm a b = 0 ↔ a = b := by
  unfold nm Lib.compareInt
  split
  · constructor <;> intro h <;> omega
  · split
    · constructor <;> intro h <;> omega
    · constructor <;> intro h <;> omega
/-- the rank: greater preference first, then the shorter path -/
def rk (pr : Int) (pl : Nat) (pr' : Int) (pl' : Nat) : Int := if pr = pr' then nm pl pl' else nm pr' pr
theorem srank_any (pa ca qa da : Option Addr) (pd cd qd dd : Nat) (p c q d : List Int) (pr bw pr' bw' : Int) (w : World) (hpl : p.length ≤ 8) (hql : q.length ≤ 8) :
    Calls Tryz.prog 161 #[.agg #[.slice pa p.length pd, .int .i64 pr, .slice ca c.length cd, .int .i64 bw], .agg #[.slice qa q.length qd, .int .i64 pr', .slice da d.length dd, .int .i64 bw']] w fun e w' => e = .returned (.int .i64 (rk pr p.length pr' q.length)) ∧ Below w.heap.size w w' := by
  have bA := Bx.new w (.slice pa p.length pd) (.int .i64 pr) (.slice ca c.length cd) (.int .i64 bw) 133 w.heap.size rfl
  have z0 : (w.alloc (.cells #[.slice pa p.length pd, .int .i64 pr, .slice ca c.length cd, .int .i64 bw] 133)).heap.size = w.heap.size + 1 := by simp
  have bB := Bx.new (w.alloc (.cells #[.slice pa p.length pd, .int .i64 pr, .slice ca c.length cd, .int .i64 bw] 133)) (.slice qa q.length qd) (.int .i64 pr') (.slice da d.length dd) (.int .i64 bw') 133 (w.heap.size + 1) z0.symm
  replace bA := bA.alloc (.cells #[.slice qa q.length qd, .int .i64 pr', .slice da d.length dd, .int .i64 bw'] 133)
  have B1 : Below w.heap.size w ((w.alloc (.cells #[.slice pa p.length pd, .int .i64 pr, .slice ca c.length cd, .int .i64 bw] 133)).alloc (.cells #[.slice qa q.length qd, .int .i64 pr', .slice da d.length dd, .int .i64 bw'] 133)) := ((Below.refl _ _).alloc (Nat.le_refl _) _).alloc (by rw [z0]; omega) _
  clear z0
  by_cases h : pr = pr'
  · skip
    rw [show rk pr p.length pr' q.length = nm p.length q.length by simp [rk, h]]
    have hne : (pr != pr') = false := by simp [h]
    clear h
    go_enter Tryz.func161, Tryz.ntmps161
    have kA0 := bA.c0
    have kA1 := bA.c1
    have kA2 := bA.c2
    have kA3 := bA.c3
    have kB0 := bB.c0
    have kB1 := bB.c1
    have kB2 := bB.c2
    have kB3 := bB.c3
    go_wp2_with fail
    clear kA0 kA1 kA2 kA3 kB0 kB1 kB2 kB3
    refine (snum_any _ _ _).mono ?_
    rintro e w1 ⟨rfl, rfl⟩
    go_wp2
    go_ret
    exact ⟨rfl, B1⟩
  · skip
    rw [show rk pr p.length pr' q.length = nm pr' pr by simp [rk, h]]
    have hne : (pr != pr') = true := by simp [h]
    clear h
    go_enter Tryz.func161, Tryz.ntmps161
    have kA0 := bA.c0
    have kA1 := bA.c1
    have kA2 := bA.c2
    have kA3 := bA.c3
    have kB0 := bB.c0
    have kB1 := bB.c1
    have kB2 := bB.c2
    have kB3 := bB.c3
    go_wp2_with fail
    clear kA0 kA1 kA2 kA3 kB0 kB1 kB2 kB3
    refine (snum_any _ _ _).mono ?_
    rintro e w1 ⟨rfl, rfl⟩
    go_wp2
    go_ret
    exact ⟨rfl, B1⟩
end Go.Proofs.YtaiffofmhfflkaaGreat
