/-
  An attribute's rows are marked: what else lies in memory; the text's bytes. Conditions: those in each statement.
-/
import Derived.Test.YtichmbbpjkikaabDoorJ3
import Derived.Test.YtichmbbpjkikaabDoorI2
namespace Go.Proofs.YtichmbbpjkikaabDoor
open Go.ChangeShapes Go.WideShapes Go.ChangeAt Go.RowKit Go.BigFrame
set_option linter.unusedVariables false
set_option maxRecDepth 100000
set_option linter.unusedSimpArgs false

/-- the rows of an attribute are marked: no other block turns -/
theorem markA_two (pv cv : Value) (p c : List Int) (pr bw k : Int) (base : Nat) (w : World) (hp : OwnI w base pv p) (hc : OwnI w base cv c) (hap : Apart pv cv) (hb : base ≤ w.heap.size) (hk0 : 0 ≤ k) (hk : k + p.length + c.length ≤ 4294967296) :
    Calls Tryd.prog 10 #[.agg #[pv, .int .i64 pr, cv, .int .i64 bw], .int .i64 k] w fun e w' => e = .returned (.int .i64 (k + p.length + c.length)) ∧
      ∃ o wm, (w.alloc o).grownBy wm pv.ownBlock ∧ wm.grownBy w' cv.ownBlock := by
  have bA := Bx.new w pv (.int .i64 pr) cv (.int .i64 bw) 28 w.heap.size rfl
  have hp1 := hp.alloc (.cells #[pv, .int .i64 pr, cv, .int .i64 bw] 28)
  have hc1 := hc.alloc (.cells #[pv, .int .i64 pr, cv, .int .i64 bw] 28)
  have hpl := fun k h => (World.ownsRow.lt hp k h)
  go_enter Tryd.func10, Tryd.ntmps10
  go_wp2_with fail
  refine (markB_any_I _ p base _ _ hp1 hk0 (by omega)).mono ?_
  rintro e w1 ⟨rfl, hp2, hg1⟩
  replace hc1 := hc1.kept hg1 hap.2
  replace bA := bA.grown hg1 (fun h => by have := (hpl _ h.symm).2; omega)
  have a2 := bA.c2
  have HG := Lib.hid hg1
  clear hg1 hp1
  go_wp2_with fail
  refine (markB_any_I _ c base _ _ hc1 (by omega) (by omega)).mono ?_
  rintro e w2 ⟨rfl, hc2, hg2⟩
  have HG2 := Lib.hid hg2
  clear hg2 hc1 a2 bA
  go_wp2
  go_ret
  exact ⟨rfl, _, _, HG.out, HG2.out⟩
theorem OwnM.kept {w w' : World} {base : Nat} {v : Value} {l : List Int} {row : Option Nat} (h : OwnM w base v l) (hg : w.grownBy w' row) (hne : v.ownBlock = none ∨ v.ownBlock ≠ row) : OwnM w' base v l := by
  obtain ⟨h1, h2, h3 | ⟨g, c, rfl, hb, hp, hc⟩⟩ := h
  · exact ⟨h1, h2, .inl h3⟩
  · have hr : some g ≠ row := by
      rcases hne with hn | hn
      · cases hn
      · exact hn
    refine ⟨h1, h2, .inr ⟨g, c, rfl, hb, hp, fun i hi => ?_⟩⟩
    have hlt : g < w.heap.size := World.block_lt_of_cell? w _ (hc i hi).1
    exact ⟨(hg.cell_far _ hlt hr).trans (hc i hi).1, (hg.frozen_far _ hlt hr).trans (hc i hi).2⟩
theorem OwnM.lt {w : World} {base : Nat} {v : Value} {l : List Int} (h : OwnM w base v l) (hl : 0 < l.length) : ∃ g, v.ownBlock = some g ∧ base ≤ g := by
  obtain ⟨h1, h2, ⟨a, c, rfl, rfl, _⟩ | ⟨g, c, rfl, hb, hp, hc⟩⟩ := h
  · simp at hl
  · exact ⟨g, rfl, hb⟩
/-- a text made after a row of ints lies elsewhere -/
theorem apartM {w w' : World} {b1 b2 : Nat} {v u : Value} {l m : List Int} (h1 : OwnI w b1 v l) (h2 : OwnM w' b2 u m) (hm : 0 < m.length) (h : w.heap.size ≤ b2) : u.ownBlock = none ∨ u.ownBlock ≠ v.ownBlock := by
  obtain ⟨g, hg, hb⟩ := h2.lt hm
  right
  rw [hg]
  intro e
  have := (World.ownsRow.lt h1 g e.symm).2
  omega
/-- over two rows that came later -/
theorem over_two {V w wm w' : World} {o : Obj} {base : Nat} {pv cv : Value} {p c : List Int} (h : Over V w) (hp : OwnI w base pv p) (hc : OwnI w base cv c) (hV : V.heap.size ≤ base) (g1 : (w.alloc o).grownBy wm pv.ownBlock) (g2 : wm.grownBy w' cv.ownBlock) : Over V w' :=
  ((over_alloc h o).grown g1 (Nat.le_trans h.size (by simp)) (fun k hk => Nat.le_trans hV (World.ownsRow.lt hp k hk).1)).grown g2 (Nat.le_trans (Nat.le_trans h.size (by simp)) g1.size) (fun k hk => Nat.le_trans hV (World.ownsRow.lt hc k hk).1)
theorem bx_two {w wm w' : World} {o : Obj} {base B : Nat} {x0 x1 x2 x3 : Value} {pv cv : Value} {p c : List Int} (h : Bx w B x0 x1 x2 x3) (hp : OwnI w base pv p) (hc : OwnI w base cv c) (hB : B < base) (g1 : (w.alloc o).grownBy wm pv.ownBlock) (g2 : wm.grownBy w' cv.ownBlock) : Bx w' B x0 x1 x2 x3 :=
  ((h.alloc o).grown g1 (fun e => by have := (World.ownsRow.lt hp B e.symm).1; omega)).grown g2 (fun e => by have := (World.ownsRow.lt hc B e.symm).1; omega)
theorem OwnM.two {w wm w' : World} {o : Obj} {base : Nat} {pv cv v : Value} {l : List Int} (h : OwnM w base v l) (hp : ∀ k, pv.ownBlock = some k → k < base) (hc : ∀ k, cv.ownBlock = some k → k < base) (g1 : (w.alloc o).grownBy wm pv.ownBlock) (g2 : wm.grownBy w' cv.ownBlock) : OwnM w' base v l := by
  obtain ⟨h1, h2, h3 | ⟨g, c, rfl, hb, hq, hcl⟩⟩ := h
  · exact ⟨h1, h2, .inl h3⟩
  · have n1 : some g ≠ pv.ownBlock := fun e => by have := hp g e.symm; omega
    have n2 : some g ≠ cv.ownBlock := fun e => by have := hc g e.symm; omega
    refine ⟨h1, h2, .inr ⟨g, c, rfl, hb, hq, fun i hi => ?_⟩⟩
    have hlt : g < w.heap.size := World.block_lt_of_cell? w _ (hcl i hi).1
    have hlt1 : g < (w.alloc o).heap.size := Nat.lt_of_lt_of_le hlt (by simp)
    have hlt2 : g < wm.heap.size := Nat.lt_of_lt_of_le hlt1 g1.size
    exact ⟨(g2.cell_far _ hlt2 n2).trans ((g1.cell_far _ hlt1 n1).trans ((World.cell?_alloc_past _ _ _ hlt).trans (hcl i hi).1)), (g2.frozen_far _ hlt2 n2).trans ((g1.frozen_far _ hlt1 n1).trans ((World.frozen?_alloc_past _ _ _ hlt).trans (hcl i hi).2))⟩
theorem bx_below {w w' : World} {base B : Nat} {x0 x1 x2 x3 : Value} (h : Bx w B x0 x1 x2 x3) (hm : Below base w w') (hB : B < base) : Bx w' B x0 x1 x2 x3 :=
  ⟨Nat.lt_of_lt_of_le h.lt hm.size, cell_keep hm hB h.c0, cell_keep hm hB h.c1, cell_keep hm hB h.c2, cell_keep hm hB h.c3,
    (World.frozen?_of_block (hm.block _ hB)).trans h.f0, (World.frozen?_of_block (hm.block _ hB)).trans h.f1, (World.frozen?_of_block (hm.block _ hB)).trans h.f2, (World.frozen?_of_block (hm.block _ hB)).trans h.f3⟩
theorem spaced_bd (l : List Int) : ∀ x ∈ spaced l, 0 ≤ x ∧ x ≤ 255 := by
  induction l with
  | nil => intro x hx; simp [spaced] at hx
  | cons a l ih =>
    intro x hx
    have e : spaced (a :: l) = (32 :: dgI a) ++ spaced l := by simp [spaced]
    rw [e] at hx
    rcases List.mem_append.1 hx with h | h
    · rcases List.mem_cons.1 h with rfl | h
      · decide
      · exact dgI_bd a x h
    · exact ih x h
theorem atextL_bd (p : List Int) (pr : Int) (c : List Int) (bw : Int) : ∀ x ∈ atextL p pr c bw, 0 ≤ x ∧ x ≤ 255 := by
  unfold atextL
  split
  · unfold atxt
    intro x hx
    have k1 : ∀ x ∈ ([112, 114, 101, 102, 32] : List Int), 0 ≤ x ∧ x ≤ 255 := by decide
    have k2 : ∀ x ∈ ([32, 98, 119, 32] : List Int), 0 ≤ x ∧ x ≤ 255 := by decide
    have k3 : ∀ x ∈ ([32, 112, 97, 116, 104] : List Int), 0 ≤ x ∧ x ≤ 255 := by decide
    have k4 : ∀ x ∈ ([32, 109, 97, 114, 107, 115] : List Int), 0 ≤ x ∧ x ≤ 255 := by decide
    simp only [List.mem_append] at hx
    rcases hx with (((((h | h) | h) | h) | h) | h) | h
    · exact k1 x h
    · exact dgI_bd _ x h
    · exact k2 x h
    · exact dgI_bd _ x h
    · exact k3 x h
    · exact spaced_bd p x h
    · split at h
      · simp at h
      · rcases List.mem_append.1 h with h | h
        · exact k4 x h
        · exact spaced_bd c x h
  · intro x hx; simp at hx
theorem atextL_len (p : List Int) (pr : Int) (c : List Int) (bw : Int) : (atextL p pr c bw).length ≤ 200 := by
  unfold atextL
  split
  · next h => exact atxt_len h
  · simp
end Go.Proofs.YtichmbbpjkikaabDoor
