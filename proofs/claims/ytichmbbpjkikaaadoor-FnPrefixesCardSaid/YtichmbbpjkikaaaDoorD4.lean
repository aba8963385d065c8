/-
  What is drawn for the laws on covering. Conditions: those in each contract.
-/
import Derived.Test.YtichmbbpjkikaaaDoorD3
import Derived.Deep.RegionHeld3
namespace Go.Proofs.YtichmbbpjkikaaaDoor
open Go.ChangeShapes Go.WideShapes Go.ChangeAt Go.RowKit Go.BigFrame
set_option linter.unusedVariables false
set_option maxRecDepth 100000
set_option linter.unusedSimpArgs false

/-- a cursor, a box P with two known cells, a box R that may be written -/
structure DS (V w : World) (g : Nat) (v : Value) (l : List Int) (P R : Nat) (x y : Value) : Prop where
  cu : Cur V w g v l
  ltP : P < w.heap.size
  p0 : w.cell? ⟨P, 0, none⟩ = some x
  p1 : w.cell? ⟨P, 1, none⟩ = some y
  ltR : R < w.heap.size
  r0 : (w.cell? ⟨R, 0, none⟩).isSome = true
  r1 : (w.cell? ⟨R, 1, none⟩).isSome = true
  f0 : w.frozen? ⟨R, 0, none⟩ = false
  f1 : w.frozen? ⟨R, 1, none⟩ = false
theorem DS.out {V w : World} {g : Nat} {v : Value} {l : List Int} {P R : Nat} {x y : Value} (h : DS V w g v l P R x y) :
    Cur V w g v l ∧ P < w.heap.size ∧ w.cell? ⟨P, 0, none⟩ = some x ∧ w.cell? ⟨P, 1, none⟩ = some y ∧ R < w.heap.size ∧ (w.cell? ⟨R, 0, none⟩).isSome = true ∧ (w.cell? ⟨R, 1, none⟩).isSome = true ∧ w.frozen? ⟨R, 0, none⟩ = false ∧ w.frozen? ⟨R, 1, none⟩ = false :=
  ⟨h.cu, h.ltP, h.p0, h.p1, h.ltR, h.r0, h.r1, h.f0, h.f1⟩
theorem DS.of {V w : World} {g : Nat} {v : Value} {l : List Int} {P R : Nat} {x y : Value} (h : Cur V w g v l ∧ P < w.heap.size ∧ w.cell? ⟨P, 0, none⟩ = some x ∧ w.cell? ⟨P, 1, none⟩ = some y ∧ R < w.heap.size ∧ (w.cell? ⟨R, 0, none⟩).isSome = true ∧ (w.cell? ⟨R, 1, none⟩).isSome = true ∧ w.frozen? ⟨R, 0, none⟩ = false ∧ w.frozen? ⟨R, 1, none⟩ = false) : DS V w g v l P R x y := by
  obtain ⟨h1, h2, h3, h4, h5, h6, h7, h8, h9⟩ := h
  exact ⟨h1, h2, h3, h4, h5, h6, h7, h8, h9⟩
theorem DS.grown {V w w' : World} {g : Nat} {v : Value} {l : List Int} {P R : Nat} {x y : Value} (h : DS V w g v l P R x y) (cu : Cur V w' g v l) (hg : w.grownBy w' (some g)) (hP : P ≠ g) (hR : R ≠ g) : DS V w' g v l P R x y := by
  have qP : some P ≠ some g := by simpa using hP
  have qR : some R ≠ some g := by simpa using hR
  exact ⟨cu, Nat.lt_of_lt_of_le h.ltP hg.size, (hg.cell_far _ h.ltP qP).trans h.p0, (hg.cell_far _ h.ltP qP).trans h.p1, Nat.lt_of_lt_of_le h.ltR hg.size,
    by rw [hg.cell_far _ h.ltR qR]; exact h.r0, by rw [hg.cell_far _ h.ltR qR]; exact h.r1, (hg.frozen_far _ h.ltR qR).trans h.f0, (hg.frozen_far _ h.ltR qR).trans h.f1⟩
theorem DS.alloc {V w : World} {g : Nat} {v : Value} {l : List Int} {P R : Nat} {x y : Value} (h : DS V w g v l P R x y) (hP : P ≠ g) (hR : R ≠ g) (o : Obj) : DS V (w.alloc o) g v l P R x y :=
  h.grown (h.cu.alloc o) (grown_alloc (World.grownBy.refl w _) o) hP hR
theorem DS.drewN {V w : World} {g : Nat} {v : Value} {l : List Int} {P R : Nat} {x y : Value} (h : DS V w g v l P R x y) (k : Nat) : DS V (w.drewN k) g v l P R x y :=
  ⟨h.cu.drewN k, h.ltP, h.p0, h.p1, h.ltR, h.r0, h.r1, h.f0, h.f1⟩
theorem DS.drew {V w : World} {g : Nat} {v : Value} {l : List Int} {P R : Nat} {x y : Value} (h : DS V w g v l P R x y) : DS V w.drew g v l P R x y := h.drewN 1
theorem some_set {w : World} {a b : Addr} {u : Value} (h : (w.cell? b).isSome = true) : ((w.setCell a u).cell? b).isSome = true := by
  by_cases hne : a = b
  · subst hne
    rw [World.cell?_setCell_same' _ _ _ h]; rfl
  · rw [World.cell?_setCell_other _ _ _ _ hne]; exact h
theorem DS.setR {V w : World} {g o : Nat} {v u : Value} {l : List Int} {P R : Nat} {x y : Value} (h : DS V w g v l P R x y) (hR : R ≠ g) (hRP : R ≠ P) (hRV : V.heap.size ≤ R) : DS V (w.setCell ⟨R, o, none⟩ u) g v l P R x y := by
  have ne (i : Nat) : (⟨R, o, none⟩ : Addr) ≠ ⟨P, i, none⟩ := by intro q; injection q with q _; exact hRP q
  have sz := (grown_set w R o u).size
  exact ⟨h.cu.setNew hR hRV, Nat.lt_of_lt_of_le h.ltP sz, set_other (ne 0) h.p0, set_other (ne 1) h.p1, Nat.lt_of_lt_of_le h.ltR sz, some_set h.r0, some_set h.r1, by rw [World.frozen?_setCell]; exact h.f0, by rw [World.frozen?_setCell]; exact h.f1⟩

theorem DS.setX {V w : World} {g o X : Nat} {v u : Value} {l : List Int} {P R : Nat} {x y : Value} (h : DS V w g v l P R x y) (hX : X ≠ g) (hXP : X ≠ P) (hXV : V.heap.size ≤ X) : DS V (w.setCell ⟨X, o, none⟩ u) g v l P R x y := by
  have ne (i : Nat) : (⟨X, o, none⟩ : Addr) ≠ ⟨P, i, none⟩ := by intro q; injection q with q _; exact hXP q
  have sz := (grown_set w X o u).size
  exact ⟨h.cu.setNew hX hXV, Nat.lt_of_lt_of_le h.ltP sz, set_other (ne 0) h.p0, set_other (ne 1) h.p1, Nat.lt_of_lt_of_le h.ltR sz, some_set h.r0, some_set h.r1, by rw [World.frozen?_setCell]; exact h.f0, by rw [World.frozen?_setCell]; exact h.f1⟩
/-- the same with two boxes that may be written -/
def D2S (V w : World) (g : Nat) (v : Value) (l : List Int) (P R T : Nat) (x y : Value) : Prop :=
  Cur V w g v l ∧ P < w.heap.size ∧ w.cell? ⟨P, 0, none⟩ = some x ∧ w.cell? ⟨P, 1, none⟩ = some y ∧ R < w.heap.size ∧ (w.cell? ⟨R, 0, none⟩).isSome = true ∧ (w.cell? ⟨R, 1, none⟩).isSome = true ∧ w.frozen? ⟨R, 0, none⟩ = false ∧ w.frozen? ⟨R, 1, none⟩ = false ∧
    T < w.heap.size ∧ (w.cell? ⟨T, 0, none⟩).isSome = true ∧ (w.cell? ⟨T, 1, none⟩).isSome = true ∧ w.frozen? ⟨T, 0, none⟩ = false ∧ w.frozen? ⟨T, 1, none⟩ = false
section
variable {V w w' : World} {g : Nat} {v : Value} {l : List Int} {P R T : Nat} {x y : Value}
theorem D2S.mk (h : DS V w g v l P R x y) (k : DS V w g v l P T x y) : D2S V w g v l P R T x y := ⟨h.cu, h.ltP, h.p0, h.p1, h.ltR, h.r0, h.r1, h.f0, h.f1, k.ltR, k.r0, k.r1, k.f0, k.f1⟩
theorem D2S.one (h : D2S V w g v l P R T x y) : DS V w g v l P R x y := by
  obtain ⟨h1, h2, h3, h4, h5, h6, h7, h8, h9, h10, h11, h12, h13, h14⟩ := h
  exact ⟨h1, h2, h3, h4, h5, h6, h7, h8, h9⟩
theorem D2S.two (h : D2S V w g v l P R T x y) : DS V w g v l P T x y := by
  obtain ⟨h1, h2, h3, h4, h5, h6, h7, h8, h9, h10, h11, h12, h13, h14⟩ := h
  exact ⟨h1, h2, h3, h4, h10, h11, h12, h13, h14⟩
theorem D2S.grown (h : D2S V w g v l P R T x y) (cu : Cur V w' g v l) (hg : w.grownBy w' (some g)) (hP : P ≠ g) (hR : R ≠ g) (hT : T ≠ g) : D2S V w' g v l P R T x y := D2S.mk (h.one.grown cu hg hP hR) (h.two.grown cu hg hP hT)
theorem D2S.setX {o X : Nat} {u : Value} (h : D2S V w g v l P R T x y) (hX : X ≠ g) (hXP : X ≠ P) (hXV : V.heap.size ≤ X) : D2S V (w.setCell ⟨X, o, none⟩ u) g v l P R T x y := D2S.mk (h.one.setX hX hXP hXV) (h.two.setX hX hXP hXV)
end
theorem Cur.below {V w w1 : World} {g : Nat} {v : Value} {l : List Int} (h : Cur V w g v l) (hb : Below w.heap.size w w1) : Cur V w1 g v l := by
  have hg := grown_below hb none
  have e (i : Nat) : w1.cell? ⟨g, i, none⟩ = w.cell? ⟨g, i, none⟩ := hg.cell_far _ h.lt (by simp)
  have f (i : Nat) : w1.frozen? ⟨g, i, none⟩ = w.frozen? ⟨g, i, none⟩ := hg.frozen_far _ h.lt (by simp)
  obtain ⟨i, hi, c1⟩ := h.c1
  obtain ⟨q, c2⟩ := h.c2
  exact ⟨h.rd, over_trans h.over hb, h.hg, Nat.lt_of_lt_of_le h.lt hb.size, h.len, (e 0).trans h.c0, ⟨i, hi, (e 1).trans c1⟩, ⟨q, (e 2).trans c2⟩, (f 1).trans h.f1, (f 2).trans h.f2⟩
theorem Cur.down {U V w : World} {g : Nat} {v : Value} {l : List Int} (h : Cur V w g v l) (ho : Over U V) (hr : Rd U v l) : Cur U w g v l :=
  ⟨hr, over_trans ho h.over, Nat.le_trans ho.size h.hg, h.lt, h.len, h.c0, h.c1, h.c2, h.f1, h.f2⟩
theorem dcov_any (v : Value) (l : List Int) (w : World) (h : Rd w v l) :
    Calls Tryd.prog 20 #[v] w fun e w' => ∃ a n x : Int, e = .returned (.tuple #[.agg #[.int .i64 a, .int .i64 n], .int .i64 x]) ∧ Over w w' := by
  go_enter Tryd.func20, Tryd.ntmps20
  go_wp2_with fail
  refine (new_any v l _ (h.keep (Below.alloc (Below.refl _ _) (Nat.le_refl _) _))).mono ?_
  rintro e w1 ⟨g, rfl, cu1⟩
  obtain ⟨R, hRe⟩ : ∃ R, R = w.heap.size := ⟨_, rfl⟩
  have bR := (Box.new w (.int .i64 0) (.int .i64 0) 24 R hRe)
  have hgV := cu1.hg
  have hRg : R ≠ g := by simp at hgV; omega
  have hRw : w.heap.size ≤ R := by omega
  replace bR : Box w1 R (.int .i64 0) (.int .i64 0) := ⟨Nat.lt_of_lt_of_le bR.lt cu1.over.size, over_cell cu1.over bR.lt bR.c0, over_cell cu1.over bR.lt bR.c1, (World.frozen?_of_block (cu1.over.block _ bR.lt)).trans bR.f0, (World.frozen?_of_block (cu1.over.block _ bR.lt)).trans bR.f1⟩
  replace cu1 := cu1.down (over_alloc (over_refl w) _) h
  rw [← hRe]
  clear hRe hgV
  go_wp2_with fail
  refine (bent_any _ g v l _ cu1).mono ?_
  rintro e w2 ⟨a, n, rfl, cu2, hg2, hfa, hfn⟩
  replace bR := bR.grown hg2 (by simpa using hRg)
  obtain ⟨P, hPe⟩ : ∃ P, P = w2.heap.size := ⟨_, rfl⟩
  have hcl := cu2.lt
  have hRl := bR.lt
  have hPg : P ≠ g := by omega
  have hRP : R ≠ P := by omega
  have bP := Box.new w2 (.int .i64 a) (.int .i64 n) 24 P hPe
  replace bR := bR.alloc (.cells #[.int .i64 a, .int .i64 n] 24)
  replace cu2 := cu2.alloc (.cells #[.int .i64 a, .int .i64 n] 24)
  have hs : DS w (w2.alloc (.cells #[.int .i64 a, .int .i64 n] 24)) g v l P R (.int .i64 a) (.int .i64 n) :=
    ⟨cu2, bP.lt, bP.c0, bP.c1, bR.lt, by rw [bR.c0]; rfl, by rw [bR.c1]; rfl, bR.f0, bR.f1⟩
  clear bR bP cu2 hcl hRl hg2 cu1
  go_wp2_with fail
  rw [← hPe]
  generalize w2.alloc (.cells #[.int .i64 a, .int .i64 n] 24) = w3 at hs ⊢
  clear hPe
  go_region_held3 (fun w' => Cur w w' g v l ∧ P < w'.heap.size ∧ w'.cell? ⟨P, 0, none⟩ = some (.int .i64 a) ∧ w'.cell? ⟨P, 1, none⟩ = some (.int .i64 n) ∧ R < w'.heap.size ∧ (w'.cell? ⟨R, 0, none⟩).isSome = true ∧ (w'.cell? ⟨R, 1, none⟩).isSome = true ∧ w'.frozen? ⟨R, 0, none⟩ = false ∧ w'.frozen? ⟨R, 1, none⟩ = false)
    ((first | exact hs.out | exact hs.drew.out | assumption | exact ((DS.of (by assumption)).alloc hPg hRg _).out | exact (((DS.of (by assumption)).setR hRg hRP hRw).setR hRg hRP hRw).out))
    ((first | (go_at_call 56; refine (below_any _ g v l 65536 _ (‹Cur w _ g v l ∧ _›).1 (by decide) (by decide)).mono ?_; rintro e w4 ⟨y, rfl, hyb, cu4, hg4⟩; have hs4 := ((DS.of (by assumption)).grown cu4 hg4 hPg hRg).out) | (go_at_call 60; refine (pick_any w g v l (fun i => [a, IntKind.i64.wrap (a + 1), 65535, -1, y].getD i 0) 5 w4.heap.size _ (cu4.alloc _) (by decide) (by decide) (Nat.ne_of_gt cu4.lt) (by simp) (lit_cells w4 [a, IntKind.i64.wrap (a + 1), 65535, -1, y] _ _ rfl)).mono ?_; rintro e w5 ⟨z, rfl, -, cu5, hg5⟩; have hs5 := ((DS.of (by assumption)).grown cu5 hg5 hPg hRg).out; obtain ⟨q0, hq0⟩ := Option.isSome_iff_exists.1 hs5.2.2.2.2.2.1; obtain ⟨q1, hq1⟩ := Option.isSome_iff_exists.1 hs5.2.2.2.2.2.2.1; have hz0 := hs5.2.2.2.2.2.2.2.1; have hz1 := hs5.2.2.2.2.2.2.2.2)))
  rename_i hH
  have ho := hH.1.over
  have e0 := set_other (a := ⟨R, 1, none⟩) (u := .int .i64 n) (by simp) (set_same (u := .int .i64 a) hq0)
  have e1 := set_same (u := .int .i64 n) (set_other (a := ⟨R, 0, none⟩) (u := .int .i64 a) (by simp) hq1)
  clear hH hs4 hs5 hq0 hq1 hz0 hz1
  go_wp2
  exact bodyPost_ret (v := .tuple #[.agg #[.int .i64 a, .int .i64 n], .int .i64 z]) (by simp [results, Tryd.results20, go_sem, e0, e1]) rfl ⟨a, n, z, rfl, ho⟩
set_option maxHeartbeats 2000000 in
theorem dins_any (v : Value) (l : List Int) (w : World) (h : Rd w v l) :
    Calls Tryd.prog 19 #[v] w fun e w' => ∃ a n b m : Int, e = .returned (.tuple #[.agg #[.int .i64 a, .int .i64 n], .agg #[.int .i64 b, .int .i64 m]]) ∧ Over w w' ∧ (fits a ∧ fits n) ∧ fits b ∧ fits m := by
  have hbel : Below w.heap.size w ((w.alloc (.cells #[.int .i64 0, .int .i64 0] 24)).alloc (.cells #[.int .i64 0, .int .i64 0] 24)) := ((Below.refl _ _).alloc (Nat.le_refl _) _).alloc (by simp) _
  go_enter Tryd.func19, Tryd.ntmps19
  go_wp2_with fail
  refine (new_any v l _ (h.keep hbel)).mono ?_
  rintro e w1 ⟨g, rfl, cu1⟩
  obtain ⟨R, hRe⟩ : ∃ R, R = w.heap.size := ⟨_, rfl⟩
  obtain ⟨T, hTe⟩ : ∃ T, T = w.heap.size + 1 := ⟨_, rfl⟩
  have bR := (Box.new w (.int .i64 0) (.int .i64 0) 24 R hRe).alloc (.cells #[.int .i64 0, .int .i64 0] 24)
  have bT := Box.new (w.alloc (.cells #[.int .i64 0, .int .i64 0] 24)) (.int .i64 0) (.int .i64 0) 24 T (by rw [hTe]; simp)
  have hgV := cu1.hg
  have hRg : R ≠ g := by simp at hgV; omega
  have hTg : T ≠ g := by simp at hgV; omega
  have hRT : R ≠ T := by omega
  have hRw : w.heap.size ≤ R := by omega
  have hTw : w.heap.size ≤ T := by omega
  replace bR : Box w1 R (.int .i64 0) (.int .i64 0) := ⟨Nat.lt_of_lt_of_le bR.lt cu1.over.size, over_cell cu1.over bR.lt bR.c0, over_cell cu1.over bR.lt bR.c1, (World.frozen?_of_block (cu1.over.block _ bR.lt)).trans bR.f0, (World.frozen?_of_block (cu1.over.block _ bR.lt)).trans bR.f1⟩
  replace bT : Box w1 T (.int .i64 0) (.int .i64 0) := ⟨Nat.lt_of_lt_of_le bT.lt cu1.over.size, over_cell cu1.over bT.lt bT.c0, over_cell cu1.over bT.lt bT.c1, (World.frozen?_of_block (cu1.over.block _ bT.lt)).trans bT.f0, (World.frozen?_of_block (cu1.over.block _ bT.lt)).trans bT.f1⟩
  replace cu1 := cu1.down hbel h
  try rw [← hTe]
  try rw [← hRe]
  clear hRe hTe hgV hbel
  go_wp2_with fail
  refine (bent_any _ g v l _ cu1).mono ?_
  rintro e w2 ⟨a, n, rfl, cu2, hg2, hfa, hfn⟩
  replace bR := bR.grown hg2 (by simpa using hRg)
  replace bT := bT.grown hg2 (by simpa using hTg)
  obtain ⟨P, hPe⟩ : ∃ P, P = w2.heap.size := ⟨_, rfl⟩
  have hcl := cu2.lt
  have hRl := bR.lt
  have hTl := bT.lt
  have hPg : P ≠ g := by omega
  have hRP : R ≠ P := by omega
  have hTP : T ≠ P := by omega
  have bP := Box.new w2 (.int .i64 a) (.int .i64 n) 24 P hPe
  replace bR := bR.alloc (.cells #[.int .i64 a, .int .i64 n] 24)
  replace bT := bT.alloc (.cells #[.int .i64 a, .int .i64 n] 24)
  replace cu2 := cu2.alloc (.cells #[.int .i64 a, .int .i64 n] 24)
  clear hcl hRl hTl hg2 cu1
  go_wp2_with fail
  rw [← hPe]
  generalize w2.alloc (.cells #[.int .i64 a, .int .i64 n] 24) = w3 at bR bT bP cu2 ⊢
  clear hPe
  refine (once_any w g v l 3 _ cu2 (by decide) (by decide)).mono ?_
  rintro e w4 ⟨b, rfl, cu4, hg4⟩
  replace bR := bR.grown hg4 (by simpa using hRg)
  replace bT := bT.grown hg4 (by simpa using hTg)
  replace bP := bP.grown hg4 (by simpa using hPg)
  clear hg4 cu2
  cases b
  · have p0 := bP.c0
    have p1 := bP.c1
    go_wp2_with fail
    clear p0 p1
    have hs : D2S w w4 g v l P R T (.int .i64 a) (.int .i64 n) := D2S.mk ⟨cu4, bP.lt, bP.c0, bP.c1, bR.lt, by rw [bR.c0]; rfl, by rw [bR.c1]; rfl, bR.f0, bR.f1⟩ ⟨cu4, bP.lt, bP.c0, bP.c1, bT.lt, by rw [bT.c0]; rfl, by rw [bT.c1]; rfl, bT.f0, bT.f1⟩
    clear bR bT bP cu4
    go_region_held3 (fun w' => Cur w w' g v l ∧ P < w'.heap.size ∧ w'.cell? ⟨P, 0, none⟩ = some (.int .i64 a) ∧ w'.cell? ⟨P, 1, none⟩ = some (.int .i64 n) ∧ R < w'.heap.size ∧ (w'.cell? ⟨R, 0, none⟩).isSome = true ∧ (w'.cell? ⟨R, 1, none⟩).isSome = true ∧ w'.frozen? ⟨R, 0, none⟩ = false ∧ w'.frozen? ⟨R, 1, none⟩ = false ∧ T < w'.heap.size ∧ (w'.cell? ⟨T, 0, none⟩).isSome = true ∧ (w'.cell? ⟨T, 1, none⟩).isSome = true ∧ w'.frozen? ⟨T, 0, none⟩ = false ∧ w'.frozen? ⟨T, 1, none⟩ = false)
      ((first | exact hs | assumption | exact (show D2S w _ g v l P R T (.int .i64 a) (.int .i64 n) from D2S.mk (DS.drewN hs.one 1) (DS.drewN hs.two 1)) | exact ((D2S.setX (V := w) (g := g) (v := v) (l := l) (P := P) (R := R) (T := T) (x := .int .i64 a) (y := .int .i64 n) (by assumption) hRg hRP hRw).setX hRg hRP hRw) | exact ((D2S.setX (V := w) (g := g) (v := v) (l := l) (P := P) (R := R) (T := T) (x := .int .i64 a) (y := .int .i64 n) (by assumption) hTg hTP hTw).setX hTg hTP hTw)))
      ((first | (go_at_call 44; refine (bent_any w g v l _ (‹Cur w _ g v l ∧ _›).1).mono ?_; rintro e w5 ⟨b, m, rfl, cu5, hg5, hfb, hfm⟩; have hs5 : D2S w w5 g v l P R T (.int .i64 a) (.int .i64 n) := D2S.grown (by assumption) cu5 hg5 hPg hRg hTg; obtain ⟨q0, hq0⟩ := Option.isSome_iff_exists.1 hs5.one.r0; obtain ⟨q1, hq1⟩ := Option.isSome_iff_exists.1 hs5.one.r1; obtain ⟨s0, hr0⟩ := Option.isSome_iff_exists.1 hs5.two.r0; obtain ⟨s1, hr1⟩ := Option.isSome_iff_exists.1 hs5.two.r1; have hz0 := hs5.one.f0; have hz1 := hs5.one.f1; have hz2 := hs5.two.f0; have hz3 := hs5.two.f1; have hs6 := hs5; unfold D2S at hs6)))
    rename_i hH
    have ho := hH.1.over
    have e0 := set_other (a := ⟨T, 1, none⟩) (u := .int .i64 m) (by simp [Ne.symm hRT]) (set_other (a := ⟨T, 0, none⟩) (u := .int .i64 b) (by simp [Ne.symm hRT]) (set_other (a := ⟨R, 1, none⟩) (u := .int .i64 n) (by simp) (set_same (u := .int .i64 a) hq0)))
    have e1 := set_other (a := ⟨T, 1, none⟩) (u := .int .i64 m) (by simp [Ne.symm hRT]) (set_other (a := ⟨T, 0, none⟩) (u := .int .i64 b) (by simp [Ne.symm hRT]) (set_same (u := .int .i64 n) (set_other (a := ⟨R, 0, none⟩) (u := .int .i64 a) (by simp) hq1)))
    have e2 := set_other (a := ⟨T, 1, none⟩) (u := .int .i64 m) (by simp) (set_same (u := .int .i64 b) (set_other (a := ⟨R, 1, none⟩) (u := .int .i64 n) (by simp [hRT]) (set_other (a := ⟨R, 0, none⟩) (u := .int .i64 a) (by simp [hRT]) hr0)))
    have e3 := set_same (u := .int .i64 m) (set_other (a := ⟨T, 0, none⟩) (u := .int .i64 b) (by simp) (set_other (a := ⟨R, 1, none⟩) (u := .int .i64 n) (by simp [hRT]) (set_other (a := ⟨R, 0, none⟩) (u := .int .i64 a) (by simp [hRT]) hr1)))
    clear hH hs5 hs6 hq0 hq1 hr0 hr1 hz0 hz1 hz2 hz3
    go_wp2
    exact bodyPost_ret (v := .tuple #[.agg #[.int .i64 a, .int .i64 n], .agg #[.int .i64 b, .int .i64 m]]) (by simp [results, Tryd.results19, go_sem, e0, e1, e2, e3]) rfl ⟨a, n, b, m, rfl, ho, ⟨hfa, hfn⟩, hfb, hfm⟩
  · have p0 := bP.c0
    have p1 := bP.c1
    go_wp2_with fail
    clear p0 p1
    refine (spok_any a n _).mono ?_
    rintro e w5 ⟨rfl, hb5⟩
    replace bR := bR.grown (grown_below hb5 none) (by simp)
    replace bT := bT.grown (grown_below hb5 none) (by simp)
    replace bP := bP.grown (grown_below hb5 none) (by simp)
    replace cu4 := cu4.below hb5
    clear hb5
    cases hk : pokB a n
    · have p0 := bP.c0
      have p1 := bP.c1
      go_wp2_with fail
      clear p0 p1
      have hs : D2S w w5 g v l P R T (.int .i64 a) (.int .i64 n) := D2S.mk ⟨cu4, bP.lt, bP.c0, bP.c1, bR.lt, by rw [bR.c0]; rfl, by rw [bR.c1]; rfl, bR.f0, bR.f1⟩ ⟨cu4, bP.lt, bP.c0, bP.c1, bT.lt, by rw [bT.c0]; rfl, by rw [bT.c1]; rfl, bT.f0, bT.f1⟩
      clear bR bT bP cu4
      go_region_held3 (fun w' => Cur w w' g v l ∧ P < w'.heap.size ∧ w'.cell? ⟨P, 0, none⟩ = some (.int .i64 a) ∧ w'.cell? ⟨P, 1, none⟩ = some (.int .i64 n) ∧ R < w'.heap.size ∧ (w'.cell? ⟨R, 0, none⟩).isSome = true ∧ (w'.cell? ⟨R, 1, none⟩).isSome = true ∧ w'.frozen? ⟨R, 0, none⟩ = false ∧ w'.frozen? ⟨R, 1, none⟩ = false ∧ T < w'.heap.size ∧ (w'.cell? ⟨T, 0, none⟩).isSome = true ∧ (w'.cell? ⟨T, 1, none⟩).isSome = true ∧ w'.frozen? ⟨T, 0, none⟩ = false ∧ w'.frozen? ⟨T, 1, none⟩ = false)
        ((first | exact hs | assumption | exact (show D2S w _ g v l P R T (.int .i64 a) (.int .i64 n) from D2S.mk (DS.drewN hs.one 1) (DS.drewN hs.two 1)) | exact ((D2S.setX (V := w) (g := g) (v := v) (l := l) (P := P) (R := R) (T := T) (x := .int .i64 a) (y := .int .i64 n) (by assumption) hRg hRP hRw).setX hRg hRP hRw) | exact ((D2S.setX (V := w) (g := g) (v := v) (l := l) (P := P) (R := R) (T := T) (x := .int .i64 a) (y := .int .i64 n) (by assumption) hTg hTP hTw).setX hTg hTP hTw)))
        ((first | (go_at_call 44; refine (bent_any w g v l _ (‹Cur w _ g v l ∧ _›).1).mono ?_; rintro e w5 ⟨b, m, rfl, cu5, hg5, hfb, hfm⟩; have hs5 : D2S w w5 g v l P R T (.int .i64 a) (.int .i64 n) := D2S.grown (by assumption) cu5 hg5 hPg hRg hTg; obtain ⟨q0, hq0⟩ := Option.isSome_iff_exists.1 hs5.one.r0; obtain ⟨q1, hq1⟩ := Option.isSome_iff_exists.1 hs5.one.r1; obtain ⟨s0, hr0⟩ := Option.isSome_iff_exists.1 hs5.two.r0; obtain ⟨s1, hr1⟩ := Option.isSome_iff_exists.1 hs5.two.r1; have hz0 := hs5.one.f0; have hz1 := hs5.one.f1; have hz2 := hs5.two.f0; have hz3 := hs5.two.f1; have hs6 := hs5; unfold D2S at hs6)))
      rename_i hH
      have ho := hH.1.over
      have e0 := set_other (a := ⟨T, 1, none⟩) (u := .int .i64 m) (by simp [Ne.symm hRT]) (set_other (a := ⟨T, 0, none⟩) (u := .int .i64 b) (by simp [Ne.symm hRT]) (set_other (a := ⟨R, 1, none⟩) (u := .int .i64 n) (by simp) (set_same (u := .int .i64 a) hq0)))
      have e1 := set_other (a := ⟨T, 1, none⟩) (u := .int .i64 m) (by simp [Ne.symm hRT]) (set_other (a := ⟨T, 0, none⟩) (u := .int .i64 b) (by simp [Ne.symm hRT]) (set_same (u := .int .i64 n) (set_other (a := ⟨R, 0, none⟩) (u := .int .i64 a) (by simp) hq1)))
      have e2 := set_other (a := ⟨T, 1, none⟩) (u := .int .i64 m) (by simp) (set_same (u := .int .i64 b) (set_other (a := ⟨R, 1, none⟩) (u := .int .i64 n) (by simp [hRT]) (set_other (a := ⟨R, 0, none⟩) (u := .int .i64 a) (by simp [hRT]) hr0)))
      have e3 := set_same (u := .int .i64 m) (set_other (a := ⟨T, 0, none⟩) (u := .int .i64 b) (by simp) (set_other (a := ⟨R, 1, none⟩) (u := .int .i64 n) (by simp [hRT]) (set_other (a := ⟨R, 0, none⟩) (u := .int .i64 a) (by simp [hRT]) hr1)))
      clear hH hs5 hs6 hq0 hq1 hr0 hr1 hz0 hz1 hz2 hz3
      go_wp2
      exact bodyPost_ret (v := .tuple #[.agg #[.int .i64 a, .int .i64 n], .agg #[.int .i64 b, .int .i64 m]]) (by simp [results, Tryd.results19, go_sem, e0, e1, e2, e3]) rfl ⟨a, n, b, m, rfl, ho, ⟨hfa, hfn⟩, hfb, hfm⟩
    · have p0 := bP.c0
      have p1 := bP.c1
      go_wp2_with fail
      clear p0 p1
      have hq := pok_of hk
      have hw1 : wrap64 (n + 1) = n + 1 := by unfold Go.RowKit.wrap64; omega
      rw [hw1]
      refine (below_any w g v l (n + 1) _ cu4 (by omega) (by omega)).mono ?_
      rintro e w6 ⟨y, rfl, ⟨hy0, hy1⟩, cu6, hg6⟩
      have hy2 : y ≤ 16 := by omega
      replace bR := bR.grown hg6 (by simpa using hRg)
      replace bT := bT.grown hg6 (by simpa using hTg)
      replace bP := bP.grown hg6 (by simpa using hPg)
      clear hg6 cu4 hw1 hq hy1
      have p0 := bP.c0
      have p1 := bP.c1
      go_wp2_with fail
      clear p0 p1
      have hs : D2S w w6 g v l P R T (.int .i64 a) (.int .i64 n) := D2S.mk ⟨cu6, bP.lt, bP.c0, bP.c1, bR.lt, by rw [bR.c0]; rfl, by rw [bR.c1]; rfl, bR.f0, bR.f1⟩ ⟨cu6, bP.lt, bP.c0, bP.c1, bT.lt, by rw [bT.c0]; rfl, by rw [bT.c1]; rfl, bT.f0, bT.f1⟩
      have hq0 := bR.c0
      have hq1 := bR.c1
      have hr0 := bT.c0
      have hr1 := bT.c1
      have hz0 := bR.f0
      have hz1 := bR.f1
      have hz2 := bT.f0
      have hz3 := bT.f1
      clear bR bT bP cu6
      go_region_held3 (fun w' => Cur w w' g v l ∧ P < w'.heap.size ∧ w'.cell? ⟨P, 0, none⟩ = some (.int .i64 a) ∧ w'.cell? ⟨P, 1, none⟩ = some (.int .i64 n) ∧ R < w'.heap.size ∧ (w'.cell? ⟨R, 0, none⟩).isSome = true ∧ (w'.cell? ⟨R, 1, none⟩).isSome = true ∧ w'.frozen? ⟨R, 0, none⟩ = false ∧ w'.frozen? ⟨R, 1, none⟩ = false ∧ T < w'.heap.size ∧ (w'.cell? ⟨T, 0, none⟩).isSome = true ∧ (w'.cell? ⟨T, 1, none⟩).isSome = true ∧ w'.frozen? ⟨T, 0, none⟩ = false ∧ w'.frozen? ⟨T, 1, none⟩ = false)
        ((first | exact hs | assumption | exact (show D2S w _ g v l P R T (.int .i64 a) (.int .i64 n) from D2S.mk (DS.drewN hs.one 1) (DS.drewN hs.two 1)) | exact ((D2S.setX (V := w) (g := g) (v := v) (l := l) (P := P) (R := R) (T := T) (x := .int .i64 a) (y := .int .i64 n) (by assumption) hRg hRP hRw).setX hRg hRP hRw) | exact ((D2S.setX (V := w) (g := g) (v := v) (l := l) (P := P) (R := R) (T := T) (x := .int .i64 a) (y := .int .i64 n) (by assumption) hTg hTP hTw).setX hTg hTP hTw)))
        ((first | (go_at_call 48; refine (mask_any y _ hy0 hy2).mono ?_; rintro e w7 ⟨rfl, rfl⟩)))
      rename_i hH
      have ho := hH.1.over
      have e0 := set_other (a := ⟨T, 1, none⟩) (u := .int .i64 y) (by simp [Ne.symm hRT]) (set_other (a := ⟨T, 0, none⟩) (u := .int .i64 (bits .and .i64 a (mask y))) (by simp [Ne.symm hRT]) (set_other (a := ⟨R, 1, none⟩) (u := .int .i64 n) (by simp) (set_same (u := .int .i64 a) hq0)))
      have e1 := set_other (a := ⟨T, 1, none⟩) (u := .int .i64 y) (by simp [Ne.symm hRT]) (set_other (a := ⟨T, 0, none⟩) (u := .int .i64 (bits .and .i64 a (mask y))) (by simp [Ne.symm hRT]) (set_same (u := .int .i64 n) (set_other (a := ⟨R, 0, none⟩) (u := .int .i64 a) (by simp) hq1)))
      have e2 := set_other (a := ⟨T, 1, none⟩) (u := .int .i64 y) (by simp) (set_same (u := .int .i64 (bits .and .i64 a (mask y))) (set_other (a := ⟨R, 1, none⟩) (u := .int .i64 n) (by simp [hRT]) (set_other (a := ⟨R, 0, none⟩) (u := .int .i64 a) (by simp [hRT]) hr0)))
      have e3 := set_same (u := .int .i64 y) (set_other (a := ⟨T, 0, none⟩) (u := .int .i64 (bits .and .i64 a (mask y))) (by simp) (set_other (a := ⟨R, 1, none⟩) (u := .int .i64 n) (by simp [hRT]) (set_other (a := ⟨R, 0, none⟩) (u := .int .i64 a) (by simp [hRT]) hr1)))
      clear hH hs hq0 hq1 hr0 hr1 hz0 hz1 hz2 hz3
      go_wp2
      exact bodyPost_ret (v := .tuple #[.agg #[.int .i64 a, .int .i64 n], .agg #[.int .i64 (bits .and .i64 a (mask y)), .int .i64 y]]) (by simp [results, Tryd.results19, go_sem, e0, e1, e2, e3]) rfl ⟨a, n, _, y, rfl, ho, ⟨hfa, hfn⟩, fits_bits _ _ _, ⟨by omega, by omega⟩⟩
end Go.Proofs.YtichmbbpjkikaaaDoor
