/-
  CmdOk of the program. Conditions: those in each contract.
-/
import Derived.Test.YtkodnipmogdgkabGreatCM
import Derived.Laws.EntriesVeiled
namespace Go.Proofs.YtkodnipmogdgkabGreat
open Go.ChangeShapes Go.WideShapes Go.ChangeAt Go.RowKit Go.BigFrame Go.Joins
set_option linter.unusedVariables false
set_option maxRecDepth 100000
set_option linter.unusedSimpArgs false
set_option maxRecDepth 100000

theorem hasL_t (nv lv : Value) (x : Fb) (j : Int) {b : Bool} (w : World) (h : RdF w nv lv x) (hw : wtF x ≤ 1048576) (H : Hid ((fbB x && inB j 0 ((x.links.length : Int) - 1)) = b)) :
    Calls Tryz.prog 27 #[.agg #[nv, lv, .int .i64 x.width], .int .i64 j] w fun e w' => e = .returned (.bool b) ∧ Below w.heap.size w w' := by
  have hn1 : x.nodes.length ≤ 1048576 ∧ x.links.length ≤ 1048576 := by unfold wtF at hw; omega
  have hO := H.out
  obtain ⟨na, nc, rfl⟩ := h.1.len
  obtain ⟨la, lc, rfl⟩ := h.2.len
  obtain ⟨bA, B1, z⟩ := one w [.slice na x.nodes.length nc, .slice la x.links.length lc, .int .i64 x.width] 33
  have hR := h.keep B1
  have a0 := bA.c 0 rfl
  have a1 := bA.c 1 rfl
  have a2 := bA.c 2 rfl
  go_enter Tryz.func27, Tryz.ntmps27
  go_wp2_with fail
  clear a0 a1 a2 z
  refine (ifok_any _ _ x _ hR hn1.1 hn1.2).mono ?_
  rintro e w1 ⟨rfl, hb⟩
  replace bA := bA.keep hb
  replace B1 := below_step B1 hb
  clear hb hR h
  cases hf : fbB x
  · rw [hf, Bool.false_and] at hO
    subst hO
    go_wp2_with fail
    go_ret
    exact ⟨rfl, B1⟩
  · rw [hf, Bool.true_and] at hO
    have a1 := bA.c 1 rfl
    have hw1 : IntKind.i64.wrap ((x.links.length : Int) - 1) = (x.links.length : Int) - 1 := wrap64_in _ (by omega) (by omega)
    go_wp2_with fail
    refine (within_any j 0 ((x.links.length : Int) - 1) w1).mono ?_
    rintro e w2 ⟨rfl, rfl⟩
    subst hO
    go_wp2_with fail
    go_ret
    exact ⟨rfl, B1⟩
theorem hasN_t (nv lv : Value) (x : Fb) (j : Int) {b : Bool} (w : World) (h : RdF w nv lv x) (hw : wtF x ≤ 1048576) (H : Hid ((fbB x && inB j 0 ((x.nodes.length : Int) - 1)) = b)) :
    Calls Tryz.prog 30 #[.agg #[nv, lv, .int .i64 x.width], .int .i64 j] w fun e w' => e = .returned (.bool b) ∧ Below w.heap.size w w' := by
  have hn1 : x.nodes.length ≤ 1048576 ∧ x.links.length ≤ 1048576 := by unfold wtF at hw; omega
  have hO := H.out
  obtain ⟨na, nc, rfl⟩ := h.1.len
  obtain ⟨la, lc, rfl⟩ := h.2.len
  obtain ⟨bA, B1, z⟩ := one w [.slice na x.nodes.length nc, .slice la x.links.length lc, .int .i64 x.width] 33
  have hR := h.keep B1
  have a0 := bA.c 0 rfl
  have a1 := bA.c 1 rfl
  have a2 := bA.c 2 rfl
  go_enter Tryz.func30, Tryz.ntmps30
  go_wp2_with fail
  clear a0 a1 a2 z
  refine (ifok_any _ _ x _ hR hn1.1 hn1.2).mono ?_
  rintro e w1 ⟨rfl, hb⟩
  replace bA := bA.keep hb
  replace B1 := below_step B1 hb
  clear hb hR h
  cases hf : fbB x
  · rw [hf, Bool.false_and] at hO
    subst hO
    go_wp2_with fail
    go_ret
    exact ⟨rfl, B1⟩
  · rw [hf, Bool.true_and] at hO
    have a0 := bA.c 0 rfl
    have hw1 : IntKind.i64.wrap ((x.nodes.length : Int) - 1) = (x.nodes.length : Int) - 1 := wrap64_in _ (by omega) (by omega)
    go_wp2_with fail
    refine (within_any j 0 ((x.nodes.length : Int) - 1) w1).mono ?_
    rintro e w2 ⟨rfl, rfl⟩
    subst hO
    go_wp2_with fail
    go_ret
    exact ⟨rfl, B1⟩
theorem noPl_t (nv lv : Value) (x : Fb) (j : Int) {b : Bool} (w : World) (h : RdF w nv lv x) (hw : wtF x ≤ 1048576) (H : Hid ((fbB x && decide (j = 0)) = b)) :
    Calls Tryz.prog 34 #[.agg #[nv, lv, .int .i64 x.width], .int .i64 j] w fun e w' => e = .returned (.bool b) ∧ Below w.heap.size w w' := by
  have hn1 : x.nodes.length ≤ 1048576 ∧ x.links.length ≤ 1048576 := by unfold wtF at hw; omega
  have hO := H.out
  obtain ⟨na, nc, rfl⟩ := h.1.len
  obtain ⟨la, lc, rfl⟩ := h.2.len
  obtain ⟨bA, B1, z⟩ := one w [.slice na x.nodes.length nc, .slice la x.links.length lc, .int .i64 x.width] 33
  have hR := h.keep B1
  have a0 := bA.c 0 rfl
  have a1 := bA.c 1 rfl
  have a2 := bA.c 2 rfl
  go_enter Tryz.func34, Tryz.ntmps34
  go_wp2_with fail
  clear a0 a1 a2 z
  refine (ifok_any _ _ x _ hR hn1.1 hn1.2).mono ?_
  rintro e w1 ⟨rfl, hb⟩
  replace bA := bA.keep hb
  replace B1 := below_step B1 hb
  clear hb hR h
  cases hf : fbB x
  · rw [hf, Bool.false_and] at hO
    subst hO
    go_wp2_with fail
    go_ret
    exact ⟨rfl, B1⟩
  · rw [hf, Bool.true_and] at hO
    by_cases hj : j = 0
    · subst hj
      subst hO
      go_wp2_with fail
      go_ret
      exact ⟨rfl, B1⟩
    · have hjb : (j == 0) = false := by simp [hj]
      have hO2 : b = false := by rw [← hO]; simp [hj]
      subst hO2
      go_wp2_with fail
      go_ret
      exact ⟨rfl, B1⟩
theorem iplain_any (n : FuncId) (w : World) : Calls Tryz.prog 28 #[.func (.func n) #[] #[]] w fun e w' => ∃ b, e = .returned (.func (.func 57) #[] #[.pointer (some ⟨b, 0, none⟩)]) ∧ Below w.heap.size w w' := by
  go_enter Tryz.func28, Tryz.ntmps28
  go_wp2
  go_ret
  exact ⟨_, rfl, (Below.refl _ _).alloc (Nat.le_refl _) _⟩
theorem icof0 (w : World) : Calls Tryz.prog 16 #[.int .i64 0] w fun e w' => ∃ (f9 : Fn) (c9 : Array Value), e = .returned (.tuple #[.agg #[.func (.func 27) #[] #[], .bool true, .bool false, .func f9 #[] c9], .bool true]) ∧ Below w.heap.size w w' := by
  obtain ⟨bR, B0, z⟩ := one w [.nilFunc, .bool false, .bool false, .nilFunc] 48
  have hRw : w.heap.size ≤ w.heap.size := Nat.le_refl _
  go_enter Tryz.func16, Tryz.ntmps16
  go_wp2_with fail
  refine (iplain_any _ _).mono ?_
  rintro e w1 ⟨b, rfl, hb⟩
  replace bR := bR.keep hb
  have B1 := below_step B0 hb
  have r0 := bR.c 0 rfl
  have f0 := bR.f 0 rfl
  have r1 := bR.c 1 rfl
  have f1 := bR.f 1 rfl
  have r2 := bR.c 2 rfl
  have f2 := bR.f 2 rfl
  have r3 := bR.c 3 rfl
  have f3 := bR.f 3 rfl
  go_wp2_with fail
  have bE := (((bR.set 0 (.func (.func 27) #[] #[])).set 1 (.bool true)).set 2 (.bool false)).set 3 (.func (.func 57) #[] #[.pointer (some ⟨b, 0, none⟩)])
  have e0 := bE.c 0 rfl
  have e1 := bE.c 1 rfl
  have e2 := bE.c 2 rfl
  have e3 := bE.c 3 rfl
  exact bodyPost_ret (v := .tuple #[.agg #[.func (.func 27) #[] #[], .bool true, .bool false, .func (.func 57) #[] #[.pointer (some ⟨b, 0, none⟩)]], .bool true]) (by simp [results, Tryz.results16, go_sem, e0, e1, e2, e3]) rfl
    ⟨_, _, rfl, by first | exact (((B1.setCell (p := ⟨w.heap.size, 0, none⟩) hRw _).setCell (p := ⟨w.heap.size, 1, none⟩) hRw _).setCell (p := ⟨w.heap.size, 2, none⟩) hRw _).setCell (p := ⟨w.heap.size, 3, none⟩) hRw _ | exact (Below.refl _ _).alloc (Nat.le_refl _) _⟩
theorem icof1 (w : World) : Calls Tryz.prog 16 #[.int .i64 1] w fun e w' => ∃ (f9 : Fn) (c9 : Array Value), e = .returned (.tuple #[.agg #[.func (.func 30) #[] #[], .bool true, .bool false, .func f9 #[] c9], .bool true]) ∧ Below w.heap.size w w' := by
  obtain ⟨bR, B0, z⟩ := one w [.nilFunc, .bool false, .bool false, .nilFunc] 48
  have hRw : w.heap.size ≤ w.heap.size := Nat.le_refl _
  go_enter Tryz.func16, Tryz.ntmps16
  go_wp2_with fail
  refine (iplain_any _ _).mono ?_
  rintro e w1 ⟨b, rfl, hb⟩
  replace bR := bR.keep hb
  have B1 := below_step B0 hb
  have r0 := bR.c 0 rfl
  have f0 := bR.f 0 rfl
  have r1 := bR.c 1 rfl
  have f1 := bR.f 1 rfl
  have r2 := bR.c 2 rfl
  have f2 := bR.f 2 rfl
  have r3 := bR.c 3 rfl
  have f3 := bR.f 3 rfl
  go_wp2_with fail
  have bE := (((bR.set 0 (.func (.func 30) #[] #[])).set 1 (.bool true)).set 2 (.bool false)).set 3 (.func (.func 57) #[] #[.pointer (some ⟨b, 0, none⟩)])
  have e0 := bE.c 0 rfl
  have e1 := bE.c 1 rfl
  have e2 := bE.c 2 rfl
  have e3 := bE.c 3 rfl
  exact bodyPost_ret (v := .tuple #[.agg #[.func (.func 30) #[] #[], .bool true, .bool false, .func (.func 57) #[] #[.pointer (some ⟨b, 0, none⟩)]], .bool true]) (by simp [results, Tryz.results16, go_sem, e0, e1, e2, e3]) rfl
    ⟨_, _, rfl, by first | exact (((B1.setCell (p := ⟨w.heap.size, 0, none⟩) hRw _).setCell (p := ⟨w.heap.size, 1, none⟩) hRw _).setCell (p := ⟨w.heap.size, 2, none⟩) hRw _).setCell (p := ⟨w.heap.size, 3, none⟩) hRw _ | exact (Below.refl _ _).alloc (Nat.le_refl _) _⟩
theorem icof2 (w : World) : Calls Tryz.prog 16 #[.int .i64 2] w fun e w' => ∃ (f9 : Fn) (c9 : Array Value), e = .returned (.tuple #[.agg #[.func (.func 30) #[] #[], .bool false, .bool false, .func f9 #[] c9], .bool true]) ∧ Below w.heap.size w w' := by
  obtain ⟨bR, B0, z⟩ := one w [.nilFunc, .bool false, .bool false, .nilFunc] 48
  have hRw : w.heap.size ≤ w.heap.size := Nat.le_refl _
  have r0 := bR.c 0 rfl
  have f0 := bR.f 0 rfl
  have r1 := bR.c 1 rfl
  have f1 := bR.f 1 rfl
  have r2 := bR.c 2 rfl
  have f2 := bR.f 2 rfl
  have r3 := bR.c 3 rfl
  have f3 := bR.f 3 rfl
  go_enter Tryz.func16, Tryz.ntmps16
  go_wp2_with fail
  have bE := (((bR.set 0 (.func (.func 30) #[] #[])).set 1 (.bool false)).set 2 (.bool false)).set 3 (.func (.func 32) #[] #[])
  have e0 := bE.c 0 rfl
  have e1 := bE.c 1 rfl
  have e2 := bE.c 2 rfl
  have e3 := bE.c 3 rfl
  exact bodyPost_ret (v := .tuple #[.agg #[.func (.func 30) #[] #[], .bool false, .bool false, .func (.func 32) #[] #[]], .bool true]) (by simp [results, Tryz.results16, go_sem, e0, e1, e2, e3]) rfl
    ⟨_, _, rfl, by first | exact (((B0.setCell (p := ⟨w.heap.size, 0, none⟩) hRw _).setCell (p := ⟨w.heap.size, 1, none⟩) hRw _).setCell (p := ⟨w.heap.size, 2, none⟩) hRw _).setCell (p := ⟨w.heap.size, 3, none⟩) hRw _ | exact (Below.refl _ _).alloc (Nat.le_refl _) _⟩
theorem icof3 (w : World) : Calls Tryz.prog 16 #[.int .i64 3] w fun e w' => ∃ (f9 : Fn) (c9 : Array Value), e = .returned (.tuple #[.agg #[.func (.func 27) #[] #[], .bool true, .bool false, .func f9 #[] c9], .bool true]) ∧ Below w.heap.size w w' := by
  obtain ⟨bR, B0, z⟩ := one w [.nilFunc, .bool false, .bool false, .nilFunc] 48
  have hRw : w.heap.size ≤ w.heap.size := Nat.le_refl _
  go_enter Tryz.func16, Tryz.ntmps16
  go_wp2_with fail
  refine (iplain_any _ _).mono ?_
  rintro e w1 ⟨b, rfl, hb⟩
  replace bR := bR.keep hb
  have B1 := below_step B0 hb
  have r0 := bR.c 0 rfl
  have f0 := bR.f 0 rfl
  have r1 := bR.c 1 rfl
  have f1 := bR.f 1 rfl
  have r2 := bR.c 2 rfl
  have f2 := bR.f 2 rfl
  have r3 := bR.c 3 rfl
  have f3 := bR.f 3 rfl
  go_wp2_with fail
  have bE := (((bR.set 0 (.func (.func 27) #[] #[])).set 1 (.bool true)).set 2 (.bool false)).set 3 (.func (.func 57) #[] #[.pointer (some ⟨b, 0, none⟩)])
  have e0 := bE.c 0 rfl
  have e1 := bE.c 1 rfl
  have e2 := bE.c 2 rfl
  have e3 := bE.c 3 rfl
  exact bodyPost_ret (v := .tuple #[.agg #[.func (.func 27) #[] #[], .bool true, .bool false, .func (.func 57) #[] #[.pointer (some ⟨b, 0, none⟩)]], .bool true]) (by simp [results, Tryz.results16, go_sem, e0, e1, e2, e3]) rfl
    ⟨_, _, rfl, by first | exact (((B1.setCell (p := ⟨w.heap.size, 0, none⟩) hRw _).setCell (p := ⟨w.heap.size, 1, none⟩) hRw _).setCell (p := ⟨w.heap.size, 2, none⟩) hRw _).setCell (p := ⟨w.heap.size, 3, none⟩) hRw _ | exact (Below.refl _ _).alloc (Nat.le_refl _) _⟩
theorem icof4 (w : World) : Calls Tryz.prog 16 #[.int .i64 4] w fun e w' => ∃ (f9 : Fn) (c9 : Array Value), e = .returned (.tuple #[.agg #[.func (.func 34) #[] #[], .bool false, .bool false, .func f9 #[] c9], .bool true]) ∧ Below w.heap.size w w' := by
  obtain ⟨bR, B0, z⟩ := one w [.nilFunc, .bool false, .bool false, .nilFunc] 48
  have hRw : w.heap.size ≤ w.heap.size := Nat.le_refl _
  have r0 := bR.c 0 rfl
  have f0 := bR.f 0 rfl
  have r1 := bR.c 1 rfl
  have f1 := bR.f 1 rfl
  have r2 := bR.c 2 rfl
  have f2 := bR.f 2 rfl
  have r3 := bR.c 3 rfl
  have f3 := bR.f 3 rfl
  go_enter Tryz.func16, Tryz.ntmps16
  go_wp2_with fail
  have bE := (((bR.set 0 (.func (.func 34) #[] #[])).set 1 (.bool false)).set 2 (.bool false)).set 3 (.func (.func 35) #[] #[])
  have e0 := bE.c 0 rfl
  have e1 := bE.c 1 rfl
  have e2 := bE.c 2 rfl
  have e3 := bE.c 3 rfl
  exact bodyPost_ret (v := .tuple #[.agg #[.func (.func 34) #[] #[], .bool false, .bool false, .func (.func 35) #[] #[]], .bool true]) (by simp [results, Tryz.results16, go_sem, e0, e1, e2, e3]) rfl
    ⟨_, _, rfl, by first | exact (((B0.setCell (p := ⟨w.heap.size, 0, none⟩) hRw _).setCell (p := ⟨w.heap.size, 1, none⟩) hRw _).setCell (p := ⟨w.heap.size, 2, none⟩) hRw _).setCell (p := ⟨w.heap.size, 3, none⟩) hRw _ | exact (Below.refl _ _).alloc (Nat.le_refl _) _⟩
theorem icof5 (w : World) : Calls Tryz.prog 16 #[.int .i64 5] w fun e w' => ∃ (f9 : Fn) (c9 : Array Value), e = .returned (.tuple #[.agg #[.func (.func 30) #[] #[], .bool false, .bool true, .func f9 #[] c9], .bool true]) ∧ Below w.heap.size w w' := by
  obtain ⟨bR, B0, z⟩ := one w [.nilFunc, .bool false, .bool false, .nilFunc] 48
  have hRw : w.heap.size ≤ w.heap.size := Nat.le_refl _
  have r0 := bR.c 0 rfl
  have f0 := bR.f 0 rfl
  have r1 := bR.c 1 rfl
  have f1 := bR.f 1 rfl
  have r2 := bR.c 2 rfl
  have f2 := bR.f 2 rfl
  have r3 := bR.c 3 rfl
  have f3 := bR.f 3 rfl
  go_enter Tryz.func16, Tryz.ntmps16
  go_wp2_with fail
  have bE := (((bR.set 0 (.func (.func 30) #[] #[])).set 1 (.bool false)).set 2 (.bool true)).set 3 (.func (.func 36) #[] #[])
  have e0 := bE.c 0 rfl
  have e1 := bE.c 1 rfl
  have e2 := bE.c 2 rfl
  have e3 := bE.c 3 rfl
  exact bodyPost_ret (v := .tuple #[.agg #[.func (.func 30) #[] #[], .bool false, .bool true, .func (.func 36) #[] #[]], .bool true]) (by simp [results, Tryz.results16, go_sem, e0, e1, e2, e3]) rfl
    ⟨_, _, rfl, by first | exact (((B0.setCell (p := ⟨w.heap.size, 0, none⟩) hRw _).setCell (p := ⟨w.heap.size, 1, none⟩) hRw _).setCell (p := ⟨w.heap.size, 2, none⟩) hRw _).setCell (p := ⟨w.heap.size, 3, none⟩) hRw _ | exact (Below.refl _ _).alloc (Nat.le_refl _) _⟩
theorem icofN (k : Int) (w : World) (hk : k < 0 ∨ 5 < k) : Calls Tryz.prog 16 #[.int .i64 k] w fun e w' => e = .returned (.tuple #[.agg #[.nilFunc, .bool false, .bool false, .nilFunc], .bool false]) ∧ Below w.heap.size w w' := by
  obtain ⟨bR, B0, z⟩ := one w [.nilFunc, .bool false, .bool false, .nilFunc] 48
  have hRw : w.heap.size ≤ w.heap.size := Nat.le_refl _
  have k0 : (k == 0) = false := by simp; omega
  have k1 : (k == 1) = false := by simp; omega
  have k2 : (k == 2) = false := by simp; omega
  have k3 : (k == 3) = false := by simp; omega
  have k4 : (k == 4) = false := by simp; omega
  have k5 : (k == 5) = false := by simp; omega
  have r0 := bR.c 0 rfl
  have f0 := bR.f 0 rfl
  have r1 := bR.c 1 rfl
  have f1 := bR.f 1 rfl
  have r2 := bR.c 2 rfl
  have f2 := bR.f 2 rfl
  have r3 := bR.c 3 rfl
  have f3 := bR.f 3 rfl
  go_enter Tryz.func16, Tryz.ntmps16
  go_wp2_with fail
  have bE := (((bR.set 0 .nilFunc).set 1 (.bool false)).set 2 (.bool false)).set 3 .nilFunc
  have e0 := bE.c 0 rfl
  have e1 := bE.c 1 rfl
  have e2 := bE.c 2 rfl
  have e3 := bE.c 3 rfl
  exact bodyPost_ret (v := .tuple #[.agg #[.nilFunc, .bool false, .bool false, .nilFunc], .bool false]) (by simp [results, Tryz.results16, go_sem, e0, e1, e2, e3]) rfl
    ⟨rfl, by first | exact (((B0.setCell (p := ⟨w.heap.size, 0, none⟩) hRw _).setCell (p := ⟨w.heap.size, 1, none⟩) hRw _).setCell (p := ⟨w.heap.size, 2, none⟩) hRw _).setCell (p := ⟨w.heap.size, 3, none⟩) hRw _ | exact (Below.refl _ _).alloc (Nat.le_refl _) _⟩
theorem irouteN (hp : Value) (o9 : Bool) (r : Value) (k at9 : Int) (on : Bool) (ad ha : Int) {b : Bool} (w : World) (H : Hid ((decide (ad = 0) && decide (ha = 0)) = b)) :
    Calls Tryz.prog 17 #[.agg #[hp, .bool o9, .bool false, r], .agg #[.int .i64 k, .int .i64 at9, .bool on, .int .i64 ad, .int .i64 ha]] w fun e w' => e = .returned (.bool b) ∧ Below w.heap.size w w' := by
  obtain ⟨bK, bC, B0, z⟩ := two w [hp, .bool o9, .bool false, r] [.int .i64 k, .int .i64 at9, .bool on, .int .i64 ad, .int .i64 ha] 48 35
  have hO := H.out
  by_cases h1 : ad = 0
  · subst h1
    by_cases h2 : ha = 0
    · subst h2
      subst hO
      go_enter Tryz.func17, Tryz.ntmps17
      go_wp2
      go_ret
      exact ⟨rfl, B0⟩
    · have h2b : (ha == 0) = false := by simp [h2]
      have hv : b = false := by rw [← hO]; simp [h2]
      subst hv
      go_enter Tryz.func17, Tryz.ntmps17
      go_wp2
      go_ret
      exact ⟨rfl, B0⟩
  · have h1b : (ad == 0) = false := by simp [h1]
    have hv : b = false := by rw [← hO]; simp [h1]
    subst hv
    go_enter Tryz.func17, Tryz.ntmps17
    go_wp2
    go_ret
    exact ⟨rfl, B0⟩
theorem irouteY (hp : Value) (o9 : Bool) (r : Value) (k at9 : Int) (on : Bool) (ad ha : Int) {b : Bool} (w : World) (H : Hid ((addrB ad && inB ha 0 65535) = b)) :
    Calls Tryz.prog 17 #[.agg #[hp, .bool o9, .bool true, r], .agg #[.int .i64 k, .int .i64 at9, .bool on, .int .i64 ad, .int .i64 ha]] w fun e w' => e = .returned (.bool b) ∧ Below w.heap.size w w' := by
  obtain ⟨bK, bC, B0, z⟩ := two w [hp, .bool o9, .bool true, r] [.int .i64 k, .int .i64 at9, .bool on, .int .i64 ad, .int .i64 ha] 48 35
  have hO := H.out
  cases hadr : addrB ad
  · have HAD := Lib.hid hadr
    rw [hadr, Bool.false_and] at hO
    subst hO
    go_enter Tryz.func17, Tryz.ntmps17
    go_wp2_with (first | (go_at_call 37; refine (iaddr_t _ HAD).mono ?_; rintro e w9 ⟨rfl, rfl⟩))
    go_ret
    exact ⟨rfl, B0⟩
  · have HAD := Lib.hid hadr
    rw [hadr, Bool.true_and] at hO
    subst hO
    go_enter Tryz.func17, Tryz.ntmps17
    go_wp2_with (first | (go_at_call 37; refine (iaddr_t _ HAD).mono ?_; rintro e w9 ⟨rfl, rfl⟩) | (go_at_call 38; refine (within_any ha 0 65535 _).mono ?_; rintro e w9 ⟨rfl, rfl⟩))
    go_ret
    exact ⟨rfl, B0⟩
set_option maxHeartbeats 4000000 in
theorem icmd_any (nv lv : Value) (x : Fb) (k at9 : Int) (on : Bool) (ad ha : Int) (w : World) (h : RdF w nv lv x) (hw : wtF x ≤ 1048576) :
    Calls Tryz.prog 8 #[.agg #[nv, lv, .int .i64 x.width], .agg #[.int .i64 k, .int .i64 at9, .bool on, .int .i64 ad, .int .i64 ha]] w fun e w' => e = .returned (.bool (cmdB x k at9 on ad ha)) ∧ Below w.heap.size w w' := by
  obtain ⟨na, nc, rfl⟩ := h.1.len
  obtain ⟨la, lc, rfl⟩ := h.2.len
  obtain ⟨bA, bC, B1, z⟩ := two w [.slice na x.nodes.length nc, .slice la x.links.length lc, .int .i64 x.width] [.int .i64 k, .int .i64 at9, .bool on, .int .i64 ad, .int .i64 ha] 33 35
  have hR := h.keep B1
  clear h z
  have c0 := bC.c 0 rfl
  go_enter Tryz.func8, Tryz.ntmps8
  go_wp2_with fail
  clear c0
  by_cases hk : k < 0 ∨ 5 < k
  · have hv : cmdB x k at9 on ad ha = false := by
      have : inB k 0 5 = false := by unfold inB; simp; omega
      unfold cmdB
      rw [this]
      simp
    have HV := Lib.hid hv
    clear hv
    refine (icofN k _ hk).mono ?_
    rintro e w1 ⟨rfl, hb⟩
    replace B1 := below_step B1 hb
    obtain ⟨bK, NK, zK⟩ := one w1 [.nilFunc, .bool false, .bool false, .nilFunc] 48
    go_wp2
    go_ret
    exact ⟨by rw [HV.out] <;> rfl, below_step B1 NK⟩
  · obtain rfl | rfl | rfl | rfl | rfl | rfl : k = 0 ∨ k = 1 ∨ k = 2 ∨ k = 3 ∨ k = 4 ∨ k = 5 := by omega
    · clear hk
      refine (icof0 _).mono ?_
      rintro e w1 ⟨f9, c9, rfl, hb⟩
      replace bA := bA.keep hb
      replace bC := bC.keep hb
      replace hR := hR.keep hb
      replace B1 := below_step B1 hb
      obtain ⟨bK, NK, zK⟩ := one w1 [.func (.func 27) #[] #[], .bool true, .bool false, .func f9 #[] c9] 48
      clear hb
      have a0 := (bA.keep NK).c 0 rfl
      have a1 := (bA.keep NK).c 1 rfl
      have a2 := (bA.keep NK).c 2 rfl
      have c0 := (bC.keep NK).c 0 rfl
      have c1 := (bC.keep NK).c 1 rfl
      have c2 := (bC.keep NK).c 2 rfl
      have c3 := (bC.keep NK).c 3 rfl
      have c4 := (bC.keep NK).c 4 rfl
      cases hr : (decide (ad = 0) && decide (ha = 0))
      · have HR := Lib.hid hr
        have hrt : routeB 0 ad ha = (decide (ad = 0) && decide (ha = 0)) := if_neg (by decide)
        have hv : cmdB x 0 at9 on ad ha = false := by unfold cmdB; rw [hrt, hr]; simp
        have HV := Lib.hid hv
        clear hv
        go_wp2_with (first | (go_at_call 17; refine (irouteN _ _ _ _ _ _ _ _ _ HR).mono ?_; rintro e w9 ⟨rfl, hb9⟩))
        go_ret
        exact ⟨by rw [HV.out] <;> rfl, below_step (below_step B1 NK) hb9⟩
      · have HR := Lib.hid hr
        obtain ⟨g, hg⟩ : ∃ g, (fbB x && inB at9 0 ((x.links.length : Int) - 1)) = g := ⟨_, rfl⟩
        have HG := Lib.hid hg
        have hrt : routeB 0 ad ha = (decide (ad = 0) && decide (ha = 0)) := if_neg (by decide)
        have hin : inB 0 0 5 = true := by decide
        have hpl : placeB x 0 at9 on = inB at9 0 ((x.links.length : Int) - 1) := by unfold placeB; simp
        have hv : cmdB x 0 at9 on ad ha = g := by unfold cmdB; rw [hrt, hr, hin, hpl]; simpa using hg
        have HV := Lib.hid hv
        clear hv
        replace hR := hR.keep NK
        go_wp2_with (first | (go_at_call 17; refine (irouteN _ _ _ _ _ _ _ _ _ HR).mono ?_; rintro e w9 ⟨rfl, hb9⟩; replace a0 := cell_keep hb9 (World.block_lt_of_cell? _ _ a0) a0; replace a1 := cell_keep hb9 (World.block_lt_of_cell? _ _ a1) a1; replace a2 := cell_keep hb9 (World.block_lt_of_cell? _ _ a2) a2; replace c1 := cell_keep hb9 (World.block_lt_of_cell? _ _ c1) c1; have k0 := (bK.keep hb9).c 0 rfl))
        refine (hasL_t _ _ x _ _ (hR.keep hb9) hw HG).mono ?_
        rintro e w8 ⟨rfl, hb8⟩
        go_wp2
        go_ret
        exact ⟨by rw [HV.out] <;> rfl, below_step (below_step (below_step B1 NK) hb9) hb8⟩
    · clear hk
      refine (icof1 _).mono ?_
      rintro e w1 ⟨f9, c9, rfl, hb⟩
      replace bA := bA.keep hb
      replace bC := bC.keep hb
      replace hR := hR.keep hb
      replace B1 := below_step B1 hb
      obtain ⟨bK, NK, zK⟩ := one w1 [.func (.func 30) #[] #[], .bool true, .bool false, .func f9 #[] c9] 48
      clear hb
      have a0 := (bA.keep NK).c 0 rfl
      have a1 := (bA.keep NK).c 1 rfl
      have a2 := (bA.keep NK).c 2 rfl
      have c0 := (bC.keep NK).c 0 rfl
      have c1 := (bC.keep NK).c 1 rfl
      have c2 := (bC.keep NK).c 2 rfl
      have c3 := (bC.keep NK).c 3 rfl
      have c4 := (bC.keep NK).c 4 rfl
      cases hr : (decide (ad = 0) && decide (ha = 0))
      · have HR := Lib.hid hr
        have hrt : routeB 1 ad ha = (decide (ad = 0) && decide (ha = 0)) := if_neg (by decide)
        have hv : cmdB x 1 at9 on ad ha = false := by unfold cmdB; rw [hrt, hr]; simp
        have HV := Lib.hid hv
        clear hv
        go_wp2_with (first | (go_at_call 17; refine (irouteN _ _ _ _ _ _ _ _ _ HR).mono ?_; rintro e w9 ⟨rfl, hb9⟩))
        go_ret
        exact ⟨by rw [HV.out] <;> rfl, below_step (below_step B1 NK) hb9⟩
      · have HR := Lib.hid hr
        obtain ⟨g, hg⟩ : ∃ g, (fbB x && inB at9 0 ((x.nodes.length : Int) - 1)) = g := ⟨_, rfl⟩
        have HG := Lib.hid hg
        have hrt : routeB 1 ad ha = (decide (ad = 0) && decide (ha = 0)) := if_neg (by decide)
        have hin : inB 1 0 5 = true := by decide
        have hpl : placeB x 1 at9 on = inB at9 0 ((x.nodes.length : Int) - 1) := by unfold placeB; simp
        have hv : cmdB x 1 at9 on ad ha = g := by unfold cmdB; rw [hrt, hr, hin, hpl]; simpa using hg
        have HV := Lib.hid hv
        clear hv
        replace hR := hR.keep NK
        go_wp2_with (first | (go_at_call 17; refine (irouteN _ _ _ _ _ _ _ _ _ HR).mono ?_; rintro e w9 ⟨rfl, hb9⟩; replace a0 := cell_keep hb9 (World.block_lt_of_cell? _ _ a0) a0; replace a1 := cell_keep hb9 (World.block_lt_of_cell? _ _ a1) a1; replace a2 := cell_keep hb9 (World.block_lt_of_cell? _ _ a2) a2; replace c1 := cell_keep hb9 (World.block_lt_of_cell? _ _ c1) c1; have k0 := (bK.keep hb9).c 0 rfl))
        refine (hasN_t _ _ x _ _ (hR.keep hb9) hw HG).mono ?_
        rintro e w8 ⟨rfl, hb8⟩
        go_wp2
        go_ret
        exact ⟨by rw [HV.out] <;> rfl, below_step (below_step (below_step B1 NK) hb9) hb8⟩
    · clear hk
      refine (icof2 _).mono ?_
      rintro e w1 ⟨f9, c9, rfl, hb⟩
      replace bA := bA.keep hb
      replace bC := bC.keep hb
      replace hR := hR.keep hb
      replace B1 := below_step B1 hb
      obtain ⟨bK, NK, zK⟩ := one w1 [.func (.func 30) #[] #[], .bool false, .bool false, .func f9 #[] c9] 48
      clear hb
      cases on
      · have a0 := (bA.keep NK).c 0 rfl
        have a1 := (bA.keep NK).c 1 rfl
        have a2 := (bA.keep NK).c 2 rfl
        have c0 := (bC.keep NK).c 0 rfl
        have c1 := (bC.keep NK).c 1 rfl
        have c2 := (bC.keep NK).c 2 rfl
        have c3 := (bC.keep NK).c 3 rfl
        have c4 := (bC.keep NK).c 4 rfl
        cases hr : (decide (ad = 0) && decide (ha = 0))
        · have HR := Lib.hid hr
          have hrt : routeB 2 ad ha = (decide (ad = 0) && decide (ha = 0)) := if_neg (by decide)
          have hv : cmdB x 2 at9 false ad ha = false := by unfold cmdB; rw [hrt, hr]; simp
          have HV := Lib.hid hv
          clear hv
          go_wp2_with (first | (go_at_call 17; refine (irouteN _ _ _ _ _ _ _ _ _ HR).mono ?_; rintro e w9 ⟨rfl, hb9⟩))
          go_ret
          exact ⟨by rw [HV.out] <;> rfl, below_step (below_step B1 NK) hb9⟩
        · have HR := Lib.hid hr
          obtain ⟨g, hg⟩ : ∃ g, (fbB x && inB at9 0 ((x.nodes.length : Int) - 1)) = g := ⟨_, rfl⟩
          have HG := Lib.hid hg
          have hrt : routeB 2 ad ha = (decide (ad = 0) && decide (ha = 0)) := if_neg (by decide)
          have hin : inB 2 0 5 = true := by decide
          have hpl : placeB x 2 at9 false = inB at9 0 ((x.nodes.length : Int) - 1) := by unfold placeB; simp
          have hv : cmdB x 2 at9 false ad ha = g := by unfold cmdB; rw [hrt, hr, hin, hpl]; simpa using hg
          have HV := Lib.hid hv
          clear hv
          replace hR := hR.keep NK
          go_wp2_with (first | (go_at_call 17; refine (irouteN _ _ _ _ _ _ _ _ _ HR).mono ?_; rintro e w9 ⟨rfl, hb9⟩; replace a0 := cell_keep hb9 (World.block_lt_of_cell? _ _ a0) a0; replace a1 := cell_keep hb9 (World.block_lt_of_cell? _ _ a1) a1; replace a2 := cell_keep hb9 (World.block_lt_of_cell? _ _ a2) a2; replace c1 := cell_keep hb9 (World.block_lt_of_cell? _ _ c1) c1; have k0 := (bK.keep hb9).c 0 rfl))
          refine (hasN_t _ _ x _ _ (hR.keep hb9) hw HG).mono ?_
          rintro e w8 ⟨rfl, hb8⟩
          go_wp2
          go_ret
          exact ⟨by rw [HV.out] <;> rfl, below_step (below_step (below_step B1 NK) hb9) hb8⟩
      · have a0 := (bA.keep NK).c 0 rfl
        have a1 := (bA.keep NK).c 1 rfl
        have a2 := (bA.keep NK).c 2 rfl
        have c0 := (bC.keep NK).c 0 rfl
        have c1 := (bC.keep NK).c 1 rfl
        have c2 := (bC.keep NK).c 2 rfl
        have c3 := (bC.keep NK).c 3 rfl
        have c4 := (bC.keep NK).c 4 rfl
        have hpl : placeB x 2 at9 true = false := by unfold placeB; simp
        have hv : cmdB x 2 at9 true ad ha = false := by unfold cmdB; rw [hpl]; simp
        have HV := Lib.hid hv
        clear hv
        go_wp2_with fail
        go_ret
        exact ⟨by rw [HV.out] <;> rfl, below_step B1 NK⟩
    · clear hk
      refine (icof3 _).mono ?_
      rintro e w1 ⟨f9, c9, rfl, hb⟩
      replace bA := bA.keep hb
      replace bC := bC.keep hb
      replace hR := hR.keep hb
      replace B1 := below_step B1 hb
      obtain ⟨bK, NK, zK⟩ := one w1 [.func (.func 27) #[] #[], .bool true, .bool false, .func f9 #[] c9] 48
      clear hb
      have a0 := (bA.keep NK).c 0 rfl
      have a1 := (bA.keep NK).c 1 rfl
      have a2 := (bA.keep NK).c 2 rfl
      have c0 := (bC.keep NK).c 0 rfl
      have c1 := (bC.keep NK).c 1 rfl
      have c2 := (bC.keep NK).c 2 rfl
      have c3 := (bC.keep NK).c 3 rfl
      have c4 := (bC.keep NK).c 4 rfl
      cases hr : (decide (ad = 0) && decide (ha = 0))
      · have HR := Lib.hid hr
        have hrt : routeB 3 ad ha = (decide (ad = 0) && decide (ha = 0)) := if_neg (by decide)
        have hv : cmdB x 3 at9 on ad ha = false := by unfold cmdB; rw [hrt, hr]; simp
        have HV := Lib.hid hv
        clear hv
        go_wp2_with (first | (go_at_call 17; refine (irouteN _ _ _ _ _ _ _ _ _ HR).mono ?_; rintro e w9 ⟨rfl, hb9⟩))
        go_ret
        exact ⟨by rw [HV.out] <;> rfl, below_step (below_step B1 NK) hb9⟩
      · have HR := Lib.hid hr
        obtain ⟨g, hg⟩ : ∃ g, (fbB x && inB at9 0 ((x.links.length : Int) - 1)) = g := ⟨_, rfl⟩
        have HG := Lib.hid hg
        have hrt : routeB 3 ad ha = (decide (ad = 0) && decide (ha = 0)) := if_neg (by decide)
        have hin : inB 3 0 5 = true := by decide
        have hpl : placeB x 3 at9 on = inB at9 0 ((x.links.length : Int) - 1) := by unfold placeB; simp
        have hv : cmdB x 3 at9 on ad ha = g := by unfold cmdB; rw [hrt, hr, hin, hpl]; simpa using hg
        have HV := Lib.hid hv
        clear hv
        replace hR := hR.keep NK
        go_wp2_with (first | (go_at_call 17; refine (irouteN _ _ _ _ _ _ _ _ _ HR).mono ?_; rintro e w9 ⟨rfl, hb9⟩; replace a0 := cell_keep hb9 (World.block_lt_of_cell? _ _ a0) a0; replace a1 := cell_keep hb9 (World.block_lt_of_cell? _ _ a1) a1; replace a2 := cell_keep hb9 (World.block_lt_of_cell? _ _ a2) a2; replace c1 := cell_keep hb9 (World.block_lt_of_cell? _ _ c1) c1; have k0 := (bK.keep hb9).c 0 rfl))
        refine (hasL_t _ _ x _ _ (hR.keep hb9) hw HG).mono ?_
        rintro e w8 ⟨rfl, hb8⟩
        go_wp2
        go_ret
        exact ⟨by rw [HV.out] <;> rfl, below_step (below_step (below_step B1 NK) hb9) hb8⟩
    · clear hk
      refine (icof4 _).mono ?_
      rintro e w1 ⟨f9, c9, rfl, hb⟩
      replace bA := bA.keep hb
      replace bC := bC.keep hb
      replace hR := hR.keep hb
      replace B1 := below_step B1 hb
      obtain ⟨bK, NK, zK⟩ := one w1 [.func (.func 34) #[] #[], .bool false, .bool false, .func f9 #[] c9] 48
      clear hb
      cases on
      · have a0 := (bA.keep NK).c 0 rfl
        have a1 := (bA.keep NK).c 1 rfl
        have a2 := (bA.keep NK).c 2 rfl
        have c0 := (bC.keep NK).c 0 rfl
        have c1 := (bC.keep NK).c 1 rfl
        have c2 := (bC.keep NK).c 2 rfl
        have c3 := (bC.keep NK).c 3 rfl
        have c4 := (bC.keep NK).c 4 rfl
        cases hr : (decide (ad = 0) && decide (ha = 0))
        · have HR := Lib.hid hr
          have hrt : routeB 4 ad ha = (decide (ad = 0) && decide (ha = 0)) := if_neg (by decide)
          have hv : cmdB x 4 at9 false ad ha = false := by unfold cmdB; rw [hrt, hr]; simp
          have HV := Lib.hid hv
          clear hv
          go_wp2_with (first | (go_at_call 17; refine (irouteN _ _ _ _ _ _ _ _ _ HR).mono ?_; rintro e w9 ⟨rfl, hb9⟩))
          go_ret
          exact ⟨by rw [HV.out] <;> rfl, below_step (below_step B1 NK) hb9⟩
        · have HR := Lib.hid hr
          obtain ⟨g, hg⟩ : ∃ g, (fbB x && decide (at9 = 0)) = g := ⟨_, rfl⟩
          have HG := Lib.hid hg
          have hrt : routeB 4 ad ha = (decide (ad = 0) && decide (ha = 0)) := if_neg (by decide)
          have hin : inB 4 0 5 = true := by decide
          have hpl : placeB x 4 at9 false = decide (at9 = 0) := by unfold placeB; simp
          have hv : cmdB x 4 at9 false ad ha = g := by unfold cmdB; rw [hrt, hr, hin, hpl]; simpa using hg
          have HV := Lib.hid hv
          clear hv
          replace hR := hR.keep NK
          go_wp2_with (first | (go_at_call 17; refine (irouteN _ _ _ _ _ _ _ _ _ HR).mono ?_; rintro e w9 ⟨rfl, hb9⟩; replace a0 := cell_keep hb9 (World.block_lt_of_cell? _ _ a0) a0; replace a1 := cell_keep hb9 (World.block_lt_of_cell? _ _ a1) a1; replace a2 := cell_keep hb9 (World.block_lt_of_cell? _ _ a2) a2; replace c1 := cell_keep hb9 (World.block_lt_of_cell? _ _ c1) c1; have k0 := (bK.keep hb9).c 0 rfl))
          refine (noPl_t _ _ x _ _ (hR.keep hb9) hw HG).mono ?_
          rintro e w8 ⟨rfl, hb8⟩
          go_wp2
          go_ret
          exact ⟨by rw [HV.out] <;> rfl, below_step (below_step (below_step B1 NK) hb9) hb8⟩
      · have a0 := (bA.keep NK).c 0 rfl
        have a1 := (bA.keep NK).c 1 rfl
        have a2 := (bA.keep NK).c 2 rfl
        have c0 := (bC.keep NK).c 0 rfl
        have c1 := (bC.keep NK).c 1 rfl
        have c2 := (bC.keep NK).c 2 rfl
        have c3 := (bC.keep NK).c 3 rfl
        have c4 := (bC.keep NK).c 4 rfl
        have hpl : placeB x 4 at9 true = false := by unfold placeB; simp
        have hv : cmdB x 4 at9 true ad ha = false := by unfold cmdB; rw [hpl]; simp
        have HV := Lib.hid hv
        clear hv
        go_wp2_with fail
        go_ret
        exact ⟨by rw [HV.out] <;> rfl, below_step B1 NK⟩
    · clear hk
      refine (icof5 _).mono ?_
      rintro e w1 ⟨f9, c9, rfl, hb⟩
      replace bA := bA.keep hb
      replace bC := bC.keep hb
      replace hR := hR.keep hb
      replace B1 := below_step B1 hb
      obtain ⟨bK, NK, zK⟩ := one w1 [.func (.func 30) #[] #[], .bool false, .bool true, .func f9 #[] c9] 48
      clear hb
      cases on
      · have a0 := (bA.keep NK).c 0 rfl
        have a1 := (bA.keep NK).c 1 rfl
        have a2 := (bA.keep NK).c 2 rfl
        have c0 := (bC.keep NK).c 0 rfl
        have c1 := (bC.keep NK).c 1 rfl
        have c2 := (bC.keep NK).c 2 rfl
        have c3 := (bC.keep NK).c 3 rfl
        have c4 := (bC.keep NK).c 4 rfl
        cases hr : (addrB ad && inB ha 0 65535)
        · have HR := Lib.hid hr
          have hrt : routeB 5 ad ha = (addrB ad && inB ha 0 65535) := if_pos rfl
          have hv : cmdB x 5 at9 false ad ha = false := by unfold cmdB; rw [hrt, hr]; simp
          have HV := Lib.hid hv
          clear hv
          go_wp2_with (first | (go_at_call 17; refine (irouteY _ _ _ _ _ _ _ _ _ HR).mono ?_; rintro e w9 ⟨rfl, hb9⟩))
          go_ret
          exact ⟨by rw [HV.out] <;> rfl, below_step (below_step B1 NK) hb9⟩
        · have HR := Lib.hid hr
          obtain ⟨g, hg⟩ : ∃ g, (fbB x && inB at9 0 ((x.nodes.length : Int) - 1)) = g := ⟨_, rfl⟩
          have HG := Lib.hid hg
          have hrt : routeB 5 ad ha = (addrB ad && inB ha 0 65535) := if_pos rfl
          have hin : inB 5 0 5 = true := by decide
          have hpl : placeB x 5 at9 false = inB at9 0 ((x.nodes.length : Int) - 1) := by unfold placeB; simp
          have hv : cmdB x 5 at9 false ad ha = g := by unfold cmdB; rw [hrt, hr, hin, hpl]; simpa using hg
          have HV := Lib.hid hv
          clear hv
          replace hR := hR.keep NK
          go_wp2_with (first | (go_at_call 17; refine (irouteY _ _ _ _ _ _ _ _ _ HR).mono ?_; rintro e w9 ⟨rfl, hb9⟩; replace a0 := cell_keep hb9 (World.block_lt_of_cell? _ _ a0) a0; replace a1 := cell_keep hb9 (World.block_lt_of_cell? _ _ a1) a1; replace a2 := cell_keep hb9 (World.block_lt_of_cell? _ _ a2) a2; replace c1 := cell_keep hb9 (World.block_lt_of_cell? _ _ c1) c1; have k0 := (bK.keep hb9).c 0 rfl))
          refine (hasN_t _ _ x _ _ (hR.keep hb9) hw HG).mono ?_
          rintro e w8 ⟨rfl, hb8⟩
          go_wp2
          go_ret
          exact ⟨by rw [HV.out] <;> rfl, below_step (below_step (below_step B1 NK) hb9) hb8⟩
      · have a0 := (bA.keep NK).c 0 rfl
        have a1 := (bA.keep NK).c 1 rfl
        have a2 := (bA.keep NK).c 2 rfl
        have c0 := (bC.keep NK).c 0 rfl
        have c1 := (bC.keep NK).c 1 rfl
        have c2 := (bC.keep NK).c 2 rfl
        have c3 := (bC.keep NK).c 3 rfl
        have c4 := (bC.keep NK).c 4 rfl
        have hpl : placeB x 5 at9 true = false := by unfold placeB; simp
        have hv : cmdB x 5 at9 true ad ha = false := by unfold cmdB; rw [hpl]; simp
        have HV := Lib.hid hv
        clear hv
        go_wp2_with fail
        go_ret
        exact ⟨by rw [HV.out] <;> rfl, below_step B1 NK⟩
theorem scmd_t {nv lv : Value} {x : Fb} {k at9 : Int} {on : Bool} {ad ha : Int} {b : Bool} (w : World) (h : RdF w nv lv x) (hw : wtF x ≤ 1048576) (H : Hid (cmdB x k at9 on ad ha = b)) :
    Calls Tryz.prog 5 #[.agg #[nv, lv, .int .i64 x.width], .agg #[.int .i64 k, .int .i64 at9, .bool on, .int .i64 ad, .int .i64 ha]] w fun e w' => e = .returned (.bool b) ∧ Below w.heap.size w w' := H.out ▸ scmd_any nv lv x k at9 on ad ha w h hw
theorem icmd_t {nv lv : Value} {x : Fb} {k at9 : Int} {on : Bool} {ad ha : Int} {b : Bool} (w : World) (h : RdF w nv lv x) (hw : wtF x ≤ 1048576) (H : Hid (cmdB x k at9 on ad ha = b)) :
    Calls Tryz.prog 8 #[.agg #[nv, lv, .int .i64 x.width], .agg #[.int .i64 k, .int .i64 at9, .bool on, .int .i64 ad, .int .i64 ha]] w fun e w' => e = .returned (.bool b) ∧ Below w.heap.size w w' := H.out ▸ icmd_any nv lv x k at9 on ad ha w h hw
end Go.Proofs.YtkodnipmogdgkabGreat
