/-
  What is drawn for the laws on sessions: two Confs. Conditions: those in each contract.
-/
import Derived.Test.YtcmbajphholliabDoorH0
import Derived.Test.YtcmbajphholliabDoorG2
namespace Go.Proofs.YtcmbajphholliabDoor
open Go.ChangeShapes Go.WideShapes Go.ChangeAt Go.RowKit Go.BigFrame
set_option linter.unusedVariables false
set_option maxRecDepth 100000
set_option linter.unusedSimpArgs false

def CurC (V : World) (g : Nat) (v : Value) (l : List Int) (w : World) (e : Ending) (w' : World) : Prop :=
  ∃ s i h p : Int, e = .returned (.agg #[.int .i64 s, .int .i64 i, .int .i64 h, .int .i64 p]) ∧ Cur V w' g v l ∧ w.grownBy w' (some g)
theorem conf_any (V : World) (g : Nat) (v : Value) (l : List Int) (w : World) (h : Cur V w g v l) :
    Calls Tryd.prog 60 #[.pointer (some ⟨g, 0, none⟩)] w (CurC V g v l w) := by
  have hlt := h.lt
  have hRg : w.heap.size ≠ g := by omega
  have hRV := h.over.size
  have hRw := Nat.le_refl w.heap.size
  obtain ⟨bR, B0, z⟩ := one w [.int .i64 0, .int .i64 0, .int .i64 0, .int .i64 0] 24
  clear z
  have cu0 := h.alloc (.cells #[.int .i64 0, .int .i64 0, .int .i64 0, .int .i64 0] 24)
  have g1 := grown_alloc (World.grownBy.refl w (some g)) (.cells #[.int .i64 0, .int .i64 0, .int .i64 0, .int .i64 0] 24)
  clear B0
  go_enter Tryd.func60, Tryd.ntmps60
  go_wp2_with fail
  have hcl := cu0.lt
  refine (pick_any V g v l (fun i => [1, 2, 3, 65535].getD i 0) 4 (w.heap.size + 1) _ (cu0.alloc _) (by decide) (by decide) (by simp <;> omega) (by simp) (lit_cells _ [1, 2, 3, 65535] _ _ (by simp))).mono ?_
  rintro e w1 ⟨x, rfl, -, cu1, hg1⟩
  replace g1 := grown_trans (grown_alloc g1 _) hg1
  replace bR := (bR.alloc _).grown hg1 (by simpa using hRg)
  clear hg1 cu0 hcl
  go_wp2_with fail
  have hcl := cu1.lt
  refine (pick_any V g v l (fun i => [1, 2, 255].getD i 0) 3 w1.heap.size _ (cu1.alloc _) (by decide) (by decide) (by simp <;> omega) (by simp) (lit_cells _ [1, 2, 255] _ _ (by simp))).mono ?_
  rintro e w2 ⟨y, rfl, -, cu2, hg2⟩
  replace g1 := grown_trans (grown_alloc g1 _) hg2
  replace bR := (bR.alloc _).grown hg2 (by simpa using hRg)
  clear hg2 cu1 hcl
  go_wp2_with fail
  have hcl := cu2.lt
  refine (pick_any V g v l (fun i => [3, 4, 9, 255].getD i 0) 4 w2.heap.size _ (cu2.alloc _) (by decide) (by decide) (by simp <;> omega) (by simp) (lit_cells _ [3, 4, 9, 255] _ _ (by simp))).mono ?_
  rintro e w3 ⟨z, rfl, -, cu3, hg3⟩
  replace g1 := grown_trans (grown_alloc g1 _) hg3
  replace bR := (bR.alloc _).grown hg3 (by simpa using hRg)
  clear hg3 cu2 hcl
  go_wp2_with fail
  have hcl := cu3.lt
  refine (pick_any V g v l (fun i => [0, 0, 1, 2].getD i 0) 4 w3.heap.size _ (cu3.alloc _) (by decide) (by decide) (by simp <;> omega) (by simp) (lit_cells _ [0, 0, 1, 2] _ _ (by simp))).mono ?_
  rintro e w4 ⟨t, rfl, -, cu4, hg4⟩
  replace g1 := grown_trans (grown_alloc g1 _) hg4
  replace bR := (bR.alloc _).grown hg4 (by simpa using hRg)
  clear hg4 cu3 hcl
  have r0 := bR.c 0 rfl
  have rf0 := bR.f 0 rfl
  have r1 := bR.c 1 rfl
  have rf1 := bR.f 1 rfl
  have r2 := bR.c 2 rfl
  have rf2 := bR.f 2 rfl
  have r3 := bR.c 3 rfl
  have rf3 := bR.f 3 rfl
  go_wp2_with fail
  have bE := ((((bR.set 0 (.int .i64 x)).set 1 (.int .i64 y)).set 2 (.int .i64 z)).set 3 (.int .i64 t))
  have e0 := bE.c 0 rfl
  have e1 := bE.c 1 rfl
  have e2 := bE.c 2 rfl
  have e3 := bE.c 3 rfl
  exact bodyPost_ret (v := .agg #[.int .i64 x, .int .i64 y, .int .i64 z, .int .i64 t]) (by simp [results, Tryd.results60, go_sem, e0, e1, e2, e3]) rfl
    ⟨_, _, _, _, rfl, by repeat' (first | exact cu4 | (refine Cur.setNew ?_ hRg hRV)), by repeat' (first | exact g1 | (refine grown_setNew ?_ hRw))⟩
set_option maxHeartbeats 4000000 in
theorem bentConf_any (V : World) (g : Nat) (v : Value) (l : List Int) (w : World) (h : Cur V w g v l) :
    Calls Tryd.prog 28 #[.pointer (some ⟨g, 0, none⟩)] w (CurC V g v l w) := by
  have hlt := h.lt
  have hRg : w.heap.size ≠ g := by omega
  have hRV := h.over.size
  have hRw := Nat.le_refl w.heap.size
  obtain ⟨bR, B0, z⟩ := one w [.int .i64 0, .int .i64 0, .int .i64 0, .int .i64 0] 24
  clear z B0
  have cu0 := h.alloc (.cells #[.int .i64 0, .int .i64 0, .int .i64 0, .int .i64 0] 24)
  have g1 := grown_alloc (World.grownBy.refl w (some g)) (.cells #[.int .i64 0, .int .i64 0, .int .i64 0, .int .i64 0] 24)
  go_enter Tryd.func28, Tryd.ntmps28
  go_wp2_with fail
  refine (conf_any V g v l _ cu0).mono ?_
  rintro e w1 ⟨x, y, z, t, rfl, cu1, hg1⟩
  replace g1 := grown_trans g1 hg1
  replace bR := bR.grown hg1 (by simpa using hRg)
  clear hg1 cu0
  go_wp2_with fail
  obtain ⟨X, eX⟩ : ∃ X, X = w1.heap.size := ⟨_, rfl⟩
  try rw [← eX]
  have hcl := cu1.lt
  have hXg : X ≠ g := by omega
  have hRl := bR.lt
  have hRX : w.heap.size ≠ X := by omega
  have hXV : V.heap.size ≤ X := by omega
  have hXw : w.heap.size ≤ X := by omega
  obtain ⟨bX, -, -⟩ := one w1 [.int .i64 x, .int .i64 y, .int .i64 z, .int .i64 t] 24
  rw [← eX] at bX
  clear eX hcl hRl
  replace bR := bR.alloc (.cells #[.int .i64 x, .int .i64 y, .int .i64 z, .int .i64 t] 24)
  replace cu1 := cu1.alloc (.cells #[.int .i64 x, .int .i64 y, .int .i64 z, .int .i64 t] 24)
  replace g1 := grown_alloc g1 (.cells #[.int .i64 x, .int .i64 y, .int .i64 z, .int .i64 t] 24)
  refine (once_any V g v l 9 _ cu1 (by decide) (by decide)).mono ?_
  rintro e w2 ⟨b, rfl, cu2, hg2⟩
  replace g1 := grown_trans g1 hg2
  replace bR := bR.grown hg2 (by simpa using hRg)
  replace bX := bX.grown hg2 (by simpa using hXg)
  clear hg2 cu1
  cases b
  · have r0 := bR.c 0 rfl
    have rf0 := bR.f 0 rfl
    have r1 := bR.c 1 rfl
    have rf1 := bR.f 1 rfl
    have r2 := bR.c 2 rfl
    have rf2 := bR.f 2 rfl
    have r3 := bR.c 3 rfl
    have rf3 := bR.f 3 rfl
    have x0 := bX.c 0 rfl
    have xf0 := bX.f 0 rfl
    have x1 := bX.c 1 rfl
    have xf1 := bX.f 1 rfl
    have x2 := bX.c 2 rfl
    have xf2 := bX.f 2 rfl
    have x3 := bX.c 3 rfl
    have xf3 := bX.f 3 rfl
    go_wp2_with fail
    have bE := ((((bR.set 0 (.int .i64 x)).set 1 (.int .i64 y)).set 2 (.int .i64 z)).set 3 (.int .i64 t))
    have e0 := bE.c 0 rfl
    have e1 := bE.c 1 rfl
    have e2 := bE.c 2 rfl
    have e3 := bE.c 3 rfl
    exact bodyPost_ret (v := .agg #[.int .i64 x, .int .i64 y, .int .i64 z, .int .i64 t]) (by simp [results, Tryd.results28, go_sem, e0, e1, e2, e3]) rfl
      ⟨_, _, _, _, rfl, by repeat' (first | exact cu2 | (refine Cur.setNew ?_ hRg hRV) | (refine Cur.setNew ?_ hXg hXV)), by repeat' (first | exact g1 | (refine grown_setNew ?_ hRw) | (refine grown_setNew ?_ hXw))⟩
  · go_wp2_with fail
    refine (below_any V g v l 4 _ cu2 (by decide) (by decide)).mono ?_
    rintro e w3 ⟨q, rfl, ⟨hq0, hq1⟩, cu3, hg3⟩
    replace g1 := grown_trans g1 hg3
    replace bR := bR.grown hg3 (by simpa using hRg)
    replace bX := bX.grown hg3 (by simpa using hXg)
    clear hg3 cu2
    by_cases q0 : q = 0
    · subst q0
      clear hq0 hq1
      go_wp2_with fail
      have hcl := cu3.lt
      refine (pick_any V g v l (fun i => [0, 65536].getD i 0) 2 w3.heap.size _ (cu3.alloc _) (by decide) (by decide) (by simp <;> omega) (by simp) (lit_cells _ [0, 65536] _ _ (by simp))).mono ?_
      rintro e w4 ⟨r, rfl, -, cu4, hg4⟩
      replace g1 := grown_trans (grown_alloc g1 _) hg4
      replace bR := (bR.alloc _).grown hg4 (by simpa using hRg)
      replace bX := (bX.alloc _).grown hg4 (by simpa using hXg)
      clear hg4 cu3 hcl
      have r0 := bR.c 0 rfl
      have rf0 := bR.f 0 rfl
      have r1 := bR.c 1 rfl
      have rf1 := bR.f 1 rfl
      have r2 := bR.c 2 rfl
      have rf2 := bR.f 2 rfl
      have r3 := bR.c 3 rfl
      have rf3 := bR.f 3 rfl
      have x0 := bX.c 0 rfl
      have xf0 := bX.f 0 rfl
      have x1 := bX.c 1 rfl
      have xf1 := bX.f 1 rfl
      have x2 := bX.c 2 rfl
      have xf2 := bX.f 2 rfl
      have x3 := bX.c 3 rfl
      have xf3 := bX.f 3 rfl
      go_wp2_with fail
      have bE := (((((bR.far (o := 0) (u := .int .i64 r) hRX).set 0 (.int .i64 r)).set 1 (.int .i64 y)).set 2 (.int .i64 z)).set 3 (.int .i64 t))
      have e0 := bE.c 0 rfl
      have e1 := bE.c 1 rfl
      have e2 := bE.c 2 rfl
      have e3 := bE.c 3 rfl
      exact bodyPost_ret (v := .agg #[.int .i64 r, .int .i64 y, .int .i64 z, .int .i64 t]) (by simp [results, Tryd.results28, go_sem, e0, e1, e2, e3]) rfl
        ⟨_, _, _, _, rfl, by repeat' (first | exact cu4 | (refine Cur.setNew ?_ hRg hRV) | (refine Cur.setNew ?_ hXg hXV)), by repeat' (first | exact g1 | (refine grown_setNew ?_ hRw) | (refine grown_setNew ?_ hXw))⟩
    · skip
      by_cases q1 : q = 1
      · subst q1
        clear hq0 hq1
        go_wp2_with fail
        have hcl := cu3.lt
        refine (pick_any V g v l (fun i => [0, 256].getD i 0) 2 w3.heap.size _ (cu3.alloc _) (by decide) (by decide) (by simp <;> omega) (by simp) (lit_cells _ [0, 256] _ _ (by simp))).mono ?_
        rintro e w4 ⟨r, rfl, -, cu4, hg4⟩
        replace g1 := grown_trans (grown_alloc g1 _) hg4
        replace bR := (bR.alloc _).grown hg4 (by simpa using hRg)
        replace bX := (bX.alloc _).grown hg4 (by simpa using hXg)
        clear hg4 cu3 hcl
        have r0 := bR.c 0 rfl
        have rf0 := bR.f 0 rfl
        have r1 := bR.c 1 rfl
        have rf1 := bR.f 1 rfl
        have r2 := bR.c 2 rfl
        have rf2 := bR.f 2 rfl
        have r3 := bR.c 3 rfl
        have rf3 := bR.f 3 rfl
        have x0 := bX.c 0 rfl
        have xf0 := bX.f 0 rfl
        have x1 := bX.c 1 rfl
        have xf1 := bX.f 1 rfl
        have x2 := bX.c 2 rfl
        have xf2 := bX.f 2 rfl
        have x3 := bX.c 3 rfl
        have xf3 := bX.f 3 rfl
        go_wp2_with fail
        have bE := (((((bR.far (o := 1) (u := .int .i64 r) hRX).set 0 (.int .i64 x)).set 1 (.int .i64 r)).set 2 (.int .i64 z)).set 3 (.int .i64 t))
        have e0 := bE.c 0 rfl
        have e1 := bE.c 1 rfl
        have e2 := bE.c 2 rfl
        have e3 := bE.c 3 rfl
        exact bodyPost_ret (v := .agg #[.int .i64 x, .int .i64 r, .int .i64 z, .int .i64 t]) (by simp [results, Tryd.results28, go_sem, e0, e1, e2, e3]) rfl
          ⟨_, _, _, _, rfl, by repeat' (first | exact cu4 | (refine Cur.setNew ?_ hRg hRV) | (refine Cur.setNew ?_ hXg hXV)), by repeat' (first | exact g1 | (refine grown_setNew ?_ hRw) | (refine grown_setNew ?_ hXw))⟩
      · skip
        by_cases q2 : q = 2
        · subst q2
          clear hq0 hq1
          go_wp2_with fail
          have hcl := cu3.lt
          refine (pick_any V g v l (fun i => [2, 256].getD i 0) 2 w3.heap.size _ (cu3.alloc _) (by decide) (by decide) (by simp <;> omega) (by simp) (lit_cells _ [2, 256] _ _ (by simp))).mono ?_
          rintro e w4 ⟨r, rfl, -, cu4, hg4⟩
          replace g1 := grown_trans (grown_alloc g1 _) hg4
          replace bR := (bR.alloc _).grown hg4 (by simpa using hRg)
          replace bX := (bX.alloc _).grown hg4 (by simpa using hXg)
          clear hg4 cu3 hcl
          have r0 := bR.c 0 rfl
          have rf0 := bR.f 0 rfl
          have r1 := bR.c 1 rfl
          have rf1 := bR.f 1 rfl
          have r2 := bR.c 2 rfl
          have rf2 := bR.f 2 rfl
          have r3 := bR.c 3 rfl
          have rf3 := bR.f 3 rfl
          have x0 := bX.c 0 rfl
          have xf0 := bX.f 0 rfl
          have x1 := bX.c 1 rfl
          have xf1 := bX.f 1 rfl
          have x2 := bX.c 2 rfl
          have xf2 := bX.f 2 rfl
          have x3 := bX.c 3 rfl
          have xf3 := bX.f 3 rfl
          go_wp2_with fail
          have bE := (((((bR.far (o := 2) (u := .int .i64 r) hRX).set 0 (.int .i64 x)).set 1 (.int .i64 y)).set 2 (.int .i64 r)).set 3 (.int .i64 t))
          have e0 := bE.c 0 rfl
          have e1 := bE.c 1 rfl
          have e2 := bE.c 2 rfl
          have e3 := bE.c 3 rfl
          exact bodyPost_ret (v := .agg #[.int .i64 x, .int .i64 y, .int .i64 r, .int .i64 t]) (by simp [results, Tryd.results28, go_sem, e0, e1, e2, e3]) rfl
            ⟨_, _, _, _, rfl, by repeat' (first | exact cu4 | (refine Cur.setNew ?_ hRg hRV) | (refine Cur.setNew ?_ hXg hXV)), by repeat' (first | exact g1 | (refine grown_setNew ?_ hRw) | (refine grown_setNew ?_ hXw))⟩
        · skip
          have n0 : (q == 0) = false := by simp [q0]
          have n1 : (q == 1) = false := by simp [q1]
          have n2 : (q == 2) = false := by simp [q2]
          go_wp2_with fail
          have hcl := cu3.lt
          refine (pick_any V g v l (fun i => [-1, 65536].getD i 0) 2 w3.heap.size _ (cu3.alloc _) (by decide) (by decide) (by simp <;> omega) (by simp) (lit_cells _ [-1, 65536] _ _ (by simp))).mono ?_
          rintro e w4 ⟨r, rfl, -, cu4, hg4⟩
          replace g1 := grown_trans (grown_alloc g1 _) hg4
          replace bR := (bR.alloc _).grown hg4 (by simpa using hRg)
          replace bX := (bX.alloc _).grown hg4 (by simpa using hXg)
          clear hg4 cu3 hcl
          have r0 := bR.c 0 rfl
          have rf0 := bR.f 0 rfl
          have r1 := bR.c 1 rfl
          have rf1 := bR.f 1 rfl
          have r2 := bR.c 2 rfl
          have rf2 := bR.f 2 rfl
          have r3 := bR.c 3 rfl
          have rf3 := bR.f 3 rfl
          have x0 := bX.c 0 rfl
          have xf0 := bX.f 0 rfl
          have x1 := bX.c 1 rfl
          have xf1 := bX.f 1 rfl
          have x2 := bX.c 2 rfl
          have xf2 := bX.f 2 rfl
          have x3 := bX.c 3 rfl
          have xf3 := bX.f 3 rfl
          go_wp2_with fail
          have bE := (((((bR.far (o := 3) (u := .int .i64 r) hRX).set 0 (.int .i64 x)).set 1 (.int .i64 y)).set 2 (.int .i64 z)).set 3 (.int .i64 r))
          have e0 := bE.c 0 rfl
          have e1 := bE.c 1 rfl
          have e2 := bE.c 2 rfl
          have e3 := bE.c 3 rfl
          exact bodyPost_ret (v := .agg #[.int .i64 x, .int .i64 y, .int .i64 z, .int .i64 r]) (by simp [results, Tryd.results28, go_sem, e0, e1, e2, e3]) rfl
            ⟨_, _, _, _, rfl, by repeat' (first | exact cu4 | (refine Cur.setNew ?_ hRg hRV) | (refine Cur.setNew ?_ hXg hXV)), by repeat' (first | exact g1 | (refine grown_setNew ?_ hRw) | (refine grown_setNew ?_ hXw))⟩
theorem drawGreet_any (v : Value) (l : List Int) (w : World) (hr : Rd w v l) :
    Calls Tryd.prog 6 #[v] w fun e w' => ∃ sa si sh sp ta ti th tp : Int, e = .returned (.tuple #[.agg #[.int .i64 sa, .int .i64 si, .int .i64 sh, .int .i64 sp], .agg #[.int .i64 ta, .int .i64 ti, .int .i64 th, .int .i64 tp]]) ∧ Below w.heap.size w w' := by
  obtain ⟨bR, bS, B0, z⟩ := two w [.int .i64 0, .int .i64 0, .int .i64 0, .int .i64 0] [.int .i64 0, .int .i64 0, .int .i64 0, .int .i64 0] 24 24
  have hV := hr.keep B0
  obtain ⟨R, hR⟩ : ∃ R, R = w.heap.size := ⟨_, rfl⟩
  obtain ⟨S, hS⟩ : ∃ S, S = w.heap.size + 1 := ⟨_, rfl⟩
  have hRS : R ≠ S := by omega
  have hwR : w.heap.size ≤ R := by omega
  have hwS : w.heap.size ≤ S := by omega
  rw [← hR] at bR
  rw [← hS] at bS
  go_enter Tryd.func6, Tryd.ntmps6
  go_wp2_with fail
  refine (new_any v l _ hV).mono ?_
  rintro e w1 ⟨g, rfl, cu1⟩
  have hgz := cu1.hg
  rw [z] at hgz
  have hRg : R ≠ g := by omega
  have hSg : S ≠ g := by omega
  replace bR := bR.keep cu1.over
  replace bS := bS.keep cu1.over
  have o1 := below_step B0 cu1.over
  clear z hgz hV
  try rw [← hS]
  try rw [← hR]
  clear hR hS
  go_wp2_with fail
  refine (bentConf_any _ g v l _ cu1).mono ?_
  rintro e w2 ⟨sa, si, sh, sp, rfl, cu2, hg2⟩
  replace bR := bR.grown hg2 (by simpa using hRg)
  replace bS := bS.grown hg2 (by simpa using hSg)
  clear hg2 cu1 o1
  go_wp2_with fail
  refine (bentConf_any _ g v l _ cu2).mono ?_
  rintro e w3 ⟨ta, ti, th, tp, rfl, cu3, hg3⟩
  replace bR := bR.grown hg3 (by simpa using hRg)
  replace bS := bS.grown hg3 (by simpa using hSg)
  have o3 := below_step B0 cu3.over
  clear hg3 cu2
  have r0 := bR.c 0 rfl
  have rf0 := bR.f 0 rfl
  have r1 := bR.c 1 rfl
  have rf1 := bR.f 1 rfl
  have r2 := bR.c 2 rfl
  have rf2 := bR.f 2 rfl
  have r3 := bR.c 3 rfl
  have rf3 := bR.f 3 rfl
  have s0 := bS.c 0 rfl
  have sf0 := bS.f 0 rfl
  have s1 := bS.c 1 rfl
  have sf1 := bS.f 1 rfl
  have s2 := bS.c 2 rfl
  have sf2 := bS.f 2 rfl
  have s3 := bS.c 3 rfl
  have sf3 := bS.f 3 rfl
  go_wp2_with fail
  have bE := ((((((((bR.set 0 (.int .i64 sa)).set 1 (.int .i64 si)).set 2 (.int .i64 sh)).set 3 (.int .i64 sp)).far (o := 0) (u := .int .i64 ta) hRS).far (o := 1) (u := .int .i64 ti) hRS).far (o := 2) (u := .int .i64 th) hRS).far (o := 3) (u := .int .i64 tp) hRS)
  have bF := ((((((((bS.far (o := 0) (u := .int .i64 sa) hRS.symm).far (o := 1) (u := .int .i64 si) hRS.symm).far (o := 2) (u := .int .i64 sh) hRS.symm).far (o := 3) (u := .int .i64 sp) hRS.symm).set 0 (.int .i64 ta)).set 1 (.int .i64 ti)).set 2 (.int .i64 th)).set 3 (.int .i64 tp))
  have e0 := bE.c 0 rfl
  have d0 := bF.c 0 rfl
  have e1 := bE.c 1 rfl
  have d1 := bF.c 1 rfl
  have e2 := bE.c 2 rfl
  have d2 := bF.c 2 rfl
  have e3 := bE.c 3 rfl
  have d3 := bF.c 3 rfl
  exact bodyPost_ret (v := .tuple #[.agg #[.int .i64 sa, .int .i64 si, .int .i64 sh, .int .i64 sp], .agg #[.int .i64 ta, .int .i64 ti, .int .i64 th, .int .i64 tp]]) (by simp [results, Tryd.results6, go_sem, e0, e1, e2, e3, d0, d1, d2, d3]) rfl
    ⟨_, _, _, _, _, _, _, _, rfl, ((((((((o3.setCell (p := ⟨R, 0, none⟩) hwR (.int .i64 sa)).setCell (p := ⟨R, 1, none⟩) hwR (.int .i64 si)).setCell (p := ⟨R, 2, none⟩) hwR (.int .i64 sh)).setCell (p := ⟨R, 3, none⟩) hwR (.int .i64 sp)).setCell (p := ⟨S, 0, none⟩) hwS (.int .i64 ta)).setCell (p := ⟨S, 1, none⟩) hwS (.int .i64 ti)).setCell (p := ⟨S, 2, none⟩) hwS (.int .i64 th)).setCell (p := ⟨S, 3, none⟩) hwS (.int .i64 tp))⟩
end Go.Proofs.YtcmbajphholliabDoor
