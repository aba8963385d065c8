/-
  The drawn prefix that may be bent. Conditions: those in each contract.
-/
import Derived.Test.YtichmbbpjkikaaaDoorD2
namespace Go.Proofs.YtichmbbpjkikaaaDoor
open Go.ChangeShapes Go.WideShapes Go.ChangeAt Go.RowKit Go.BigFrame
set_option linter.unusedVariables false
set_option maxRecDepth 100000

/-- block B holds two cells that may be written -/
structure Box (w : World) (B : Nat) (x y : Value) : Prop where
  lt : B < w.heap.size
  c0 : w.cell? ⟨B, 0, none⟩ = some x
  c1 : w.cell? ⟨B, 1, none⟩ = some y
  f0 : w.frozen? ⟨B, 0, none⟩ = false
  f1 : w.frozen? ⟨B, 1, none⟩ = false
theorem Box.grown {w w' : World} {B : Nat} {x y : Value} {row : Option Nat} (h : Box w B x y) (hg : w.grownBy w' row) (hne : some B ≠ row) : Box w' B x y :=
  ⟨Nat.lt_of_lt_of_le h.lt hg.size, (hg.cell_far _ h.lt hne).trans h.c0, (hg.cell_far _ h.lt hne).trans h.c1, (hg.frozen_far _ h.lt hne).trans h.f0, (hg.frozen_far _ h.lt hne).trans h.f1⟩
theorem Box.alloc {w : World} {B : Nat} {x y : Value} (h : Box w B x y) (o : Obj) : Box (w.alloc o) B x y :=
  ⟨Nat.lt_of_lt_of_le h.lt (by simp), (World.cell?_alloc_past _ _ _ h.lt).trans h.c0, (World.cell?_alloc_past _ _ _ h.lt).trans h.c1, (World.frozen?_alloc_past _ _ _ h.lt).trans h.f0, (World.frozen?_alloc_past _ _ _ h.lt).trans h.f1⟩
theorem Box.new (w : World) (x y : Value) (t : TypeId) (b : Nat) (hb : b = w.heap.size) : Box (w.alloc (.cells #[x, y] t)) b x y := by
  subst hb
  exact ⟨by simp, by simp, by simp, World.frozen?_alloc_at _ _ _ _ rfl, World.frozen?_alloc_at _ _ _ _ rfl⟩
theorem Box.far {w : World} {B C o : Nat} {x y u : Value} (h : Box w B x y) (hne : B ≠ C) : Box (w.setCell ⟨C, o, none⟩ u) B x y :=
  h.grown (grown_set w C o u) (by simpa using hne)
theorem Box.set0 {w : World} {B : Nat} {x y u : Value} (h : Box w B x y) : Box (w.setCell ⟨B, 0, none⟩ u) B u y :=
  ⟨Nat.lt_of_lt_of_le h.lt (grown_set w B 0 u).size, set_same h.c0, set_other (by simp) h.c1, by rw [World.frozen?_setCell]; exact h.f0, by rw [World.frozen?_setCell]; exact h.f1⟩
theorem Box.set1 {w : World} {B : Nat} {x y u : Value} (h : Box w B x y) : Box (w.setCell ⟨B, 1, none⟩ u) B x u :=
  ⟨Nat.lt_of_lt_of_le h.lt (grown_set w B 1 u).size, set_other (by simp) h.c0, set_same h.c1, by rw [World.frozen?_setCell]; exact h.f0, by rw [World.frozen?_setCell]; exact h.f1⟩

theorem bent_any (V : World) (g : Nat) (v : Value) (l : List Int) (w : World) (h : Cur V w g v l) :
    Calls Tryd.prog 44 #[.pointer (some ⟨g, 0, none⟩)] w (CurP V g v l w) := by
  have hlt := h.lt
  go_enter Tryd.func44, Tryd.ntmps44
  go_wp2_with fail
  refine (draw_any V g v l _ (h.alloc _)).mono ?_
  rintro e w1 ⟨a, n, rfl, cu1, hg1, hfa, hfn⟩
  obtain ⟨R, hRe⟩ : ∃ R, R = w.heap.size := ⟨_, rfl⟩
  have hRg : R ≠ g := by omega
  have bR := (Box.new w (.int .i64 0) (.int .i64 0) 24 R hRe).grown hg1 (by simpa using hRg)
  have g1 := grown_trans (grown_alloc (World.grownBy.refl w (some g)) _) hg1
  have hRw : w.heap.size ≤ R := by omega
  have hRV : V.heap.size ≤ R := Nat.le_trans h.over.size hRw
  rw [← hRe]
  clear hg1 hRe
  go_wp2_with fail
  have hcu1 := cu1.lt
  have hR1 := bR.lt
  obtain ⟨P, hPe⟩ : ∃ P, P = w1.heap.size := ⟨_, rfl⟩
  have hPg : P ≠ g := by omega
  have hPR : P ≠ R := by omega
  have hRP : R ≠ P := by omega
  have hPw : w.heap.size ≤ P := by omega
  have hPV : V.heap.size ≤ P := by omega
  have bP := Box.new w1 (.int .i64 a) (.int .i64 n) 24 P hPe
  replace bR := bR.alloc (.cells #[.int .i64 a, .int .i64 n] 24)
  replace g1 := grown_alloc g1 (.cells #[.int .i64 a, .int .i64 n] 24)
  refine (once_any V g v l 6 _ (cu1.alloc _) (by decide) (by decide)).mono ?_
  rintro e w2 ⟨b, rfl, cu2, hg2⟩
  replace g1 := grown_trans g1 hg2
  replace bR := bR.grown hg2 (by simpa using hRg)
  replace bP := bP.grown hg2 (by simpa using hPg)
  rw [← hPe]
  clear hg2 cu1 hPe hcu1 hR1 hlt
  cases b
  · have r0 := bR.c0
    have r1 := bR.c1
    have rf0 := bR.f0
    have rf1 := bR.f1
    have q0 := bP.c0
    have q1 := bP.c1
    have qf0 := bP.f0
    have qf1 := bP.f1
    go_wp2_with fail
    have bE := (bR).set0 (u := .int .i64 (a)) |>.set1 (u := .int .i64 (n))
    have e0 := bE.c0
    have e1 := bE.c1
    exact bodyPost_ret (v := .agg #[.int .i64 (a), .int .i64 (n)]) (by simp [results, Tryd.results44, go_sem, e0, e1]) rfl
      ⟨_, _, rfl, by repeat' (first | exact cu2 | (refine Cur.setNew ?_ hRg hRV) | (refine Cur.setNew ?_ hPg hPV)), by repeat' (first | exact g1 | (refine grown_setNew ?_ hRw) | (refine grown_setNew ?_ hPw)), hfa, hfn⟩
  · go_wp2_with fail
    refine (below_any V g v l 3 _ cu2 (by decide) (by decide)).mono ?_
    rintro e w3 ⟨x, rfl, ⟨hx0, hx1⟩, cu3, hg3⟩
    replace g1 := grown_trans g1 hg3
    replace bR := bR.grown hg3 (by simpa using hRg)
    replace bP := bP.grown hg3 (by simpa using hPg)
    clear hg3 cu2
    by_cases x0 : x = 0
    · subst x0
      go_wp2_with fail
      have hcl := cu3.lt
      refine (pick_any V g v l (fun i => [-1, 17, 3].getD i 0) 3 w3.heap.size _ (cu3.alloc _) (by decide) (by decide) (by omega) (by simp) (lit_cells _ [-1, 17, 3] _ _ rfl)).mono ?_
      rintro e w4 ⟨z, rfl, ⟨i, hi, hz⟩, cu4, hg4⟩
      have hfz : fits z := by
        have q : ∀ i, i < 3 → (-65536 : Int) ≤ [-1, 17, 3].getD i 0 ∧ [-1, 17, 3].getD i (0 : Int) ≤ 65536 := by decide
        rw [hz]; have := q i hi; exact ⟨by omega, by omega⟩
      clear hi hz i
      replace g1 := grown_trans (grown_alloc g1 _) hg4
      replace bR := (bR.alloc _).grown hg4 (by simpa using hRg)
      replace bP := (bP.alloc _).grown hg4 (by simpa using hPg)
      clear hg4 cu3 hcl
      have r0 := bR.c0
      have r1 := bR.c1
      have rf0 := bR.f0
      have rf1 := bR.f1
      have q0 := bP.c0
      have q1 := bP.c1
      have qf0 := bP.f0
      have qf1 := bP.f1
      go_wp2_with fail
      have bE := (bR.far (o := 1) (u := .int .i64 (z)) hRP).set0 (u := .int .i64 (a)) |>.set1 (u := .int .i64 (z))
      have e0 := bE.c0
      have e1 := bE.c1
      exact bodyPost_ret (v := .agg #[.int .i64 (a), .int .i64 (z)]) (by simp [results, Tryd.results44, go_sem, e0, e1]) rfl
        ⟨_, _, rfl, by repeat' (first | exact cu4 | (refine Cur.setNew ?_ hRg hRV) | (refine Cur.setNew ?_ hPg hPV)), by repeat' (first | exact g1 | (refine grown_setNew ?_ hRw) | (refine grown_setNew ?_ hPw)), hfa, hfz⟩
    · by_cases x1 : x = 1
      · subst x1
        go_wp2_with fail
        have hcl := cu3.lt
        refine (pick_any V g v l (fun i => [-1, 65536, 1].getD i 0) 3 w3.heap.size _ (cu3.alloc _) (by decide) (by decide) (by omega) (by simp) (lit_cells _ [-1, 65536, 1] _ _ rfl)).mono ?_
        rintro e w4 ⟨z, rfl, ⟨i, hi, hz⟩, cu4, hg4⟩
        have hfz : fits z := by
          have q : ∀ i, i < 3 → (-65536 : Int) ≤ [-1, 65536, 1].getD i 0 ∧ [-1, 65536, 1].getD i (0 : Int) ≤ 65536 := by decide
          rw [hz]; have := q i hi; exact ⟨by omega, by omega⟩
        clear hi hz i
        replace g1 := grown_trans (grown_alloc g1 _) hg4
        replace bR := (bR.alloc _).grown hg4 (by simpa using hRg)
        replace bP := (bP.alloc _).grown hg4 (by simpa using hPg)
        clear hg4 cu3 hcl
        have r0 := bR.c0
        have r1 := bR.c1
        have rf0 := bR.f0
        have rf1 := bR.f1
        have q0 := bP.c0
        have q1 := bP.c1
        have qf0 := bP.f0
        have qf1 := bP.f1
        go_wp2_with fail
        have bE := (bR.far (o := 0) (u := .int .i64 (z)) hRP).set0 (u := .int .i64 (z)) |>.set1 (u := .int .i64 (n))
        have e0 := bE.c0
        have e1 := bE.c1
        exact bodyPost_ret (v := .agg #[.int .i64 (z), .int .i64 (n)]) (by simp [results, Tryd.results44, go_sem, e0, e1]) rfl
          ⟨_, _, rfl, by repeat' (first | exact cu4 | (refine Cur.setNew ?_ hRg hRV) | (refine Cur.setNew ?_ hPg hPV)), by repeat' (first | exact g1 | (refine grown_setNew ?_ hRw) | (refine grown_setNew ?_ hPw)), hfz, hfn⟩
      · obtain rfl : x = 2 := by omega
        have r0 := bR.c0
        have r1 := bR.c1
        have rf0 := bR.f0
        have rf1 := bR.f1
        have q0 := bP.c0
        have q1 := bP.c1
        have qf0 := bP.f0
        have qf1 := bP.f1
        go_wp2_with fail
        have bE := (bR.far (o := 0) (u := .int .i64 (bits .or .i64 a 1)) hRP).set0 (u := .int .i64 (bits .or .i64 a 1)) |>.set1 (u := .int .i64 (n))
        have e0 := bE.c0
        have e1 := bE.c1
        exact bodyPost_ret (v := .agg #[.int .i64 (bits .or .i64 a 1), .int .i64 (n)]) (by simp [results, Tryd.results44, go_sem, e0, e1]) rfl
          ⟨_, _, rfl, by repeat' (first | exact cu3 | (refine Cur.setNew ?_ hRg hRV) | (refine Cur.setNew ?_ hPg hPV)), by repeat' (first | exact g1 | (refine grown_setNew ?_ hRw) | (refine grown_setNew ?_ hPw)), (fits_bits _ _ _), hfn⟩
end Go.Proofs.YtichmbbpjkikaaaDoor
