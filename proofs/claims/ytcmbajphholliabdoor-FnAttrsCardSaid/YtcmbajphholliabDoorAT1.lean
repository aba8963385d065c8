/-
  What is drawn for the laws on attributes: an attribute that is being made beside a cursor. Conditions: those in each statement.
-/
import Derived.Test.YtcmbajphholliabDoorD3
import Derived.Test.YtcmbajphholliabDoorI21
namespace Go.Proofs.YtcmbajphholliabDoor
open Go.ChangeShapes Go.WideShapes Go.ChangeAt Go.RowKit Go.BigFrame Go.Joins
set_option linter.unusedVariables false
set_option maxRecDepth 100000
set_option linter.unusedSimpArgs false

theorem step_appI {ops : Array Oper} {o : Oper} {a : Act} {K : Act → World → Prop} {Q : Exit → Act → World → Prop} {E : Prop} {w : World} (hgd : o.guard = none) (s x : Operand)
    (ho : o.op = .call { callee := .builtin .append, args := #[s, x], argTypes := #[34, 34] })
    (base g c : Nat) (v : Value) (l : List Int) (z : Int) (hs : a.eval s = v) (hx : a.eval x = .slice (some ⟨g, 0, none⟩) 1 c) (hown : OwnI w base v l)
    (h0 : w.cell? ⟨g, 0, none⟩ = some (.int .i64 z)) (hlen : l.length + 1 ≤ 4294967296) (hbase : base ≤ w.heap.size)
    (h : ∀ v' w', OwnI w' base v' (l ++ [z]) → w.grownBy w' v.ownBlock → (v'.ownBlock = v.ownBlock ∨ v'.ownBlock = some w.heap.size) → K (a.put o.dst v') w') : if Region.wanted o (yielded ops a.tmps) = true then Oper.wp Tryd.prog o a w K Q else E := by
  have hw : Region.wanted o (yielded ops a.tmps) = true := by simp [Region.wanted, hgd]
  rw [if_pos hw]
  obtain ⟨i0, hi, hz0, hz1, hz2⟩ := info_parts infoB_I
  obtain ⟨v', w', hr, h2, h3, -, h5⟩ := run_append_own_at (P := Tryd.prog) w base 34 o.type IT i0 (.int .i64 0) 1 8 Tryd.underlying34 hi hz0 hz1 hz2 rfl (by decide) v l.length (l.map (Value.int .i64)) hown ⟨g, 0, none⟩ 1 c [.int .i64 z] (by simp) (fun j y hy => by
    match j, hy with
    | 0, hy =>
      simp only [List.getElem?_cons_zero, Option.some.injEq] at hy
      subst hy
      have hadd : (⟨g, 0, none⟩ : Addr).add 0 = ⟨g, 0, none⟩ := by unfold Addr.add; split <;> simp_all
      rw [hadd]
      exact h0) (by simp [Value.oneCell']) (by unfold maxLen; omega) (by omega) hbase
  unfold Oper.wp execOp
  simp only [ho, resolve, invoke, builtin, Sem.run_bind, Sem.run_pure, Result.andThen_ok, List.map_toArray, List.map_cons, List.map_nil, hs, hx, hr]
  exact h v' w' (by unfold OwnI; rw [List.length_append, List.map_append]; exact h2) h3 h5
theorem wp_appI2 {ops : Array Oper} {rest : List Oper} {o : Oper} {a : Act} {Q : Exit → Act → World → Prop} {w : World} (hgd : o.guard = none) (s x : Operand)
    (ho : o.op = .call { callee := .builtin .append, args := #[s, x], argTypes := #[34, 34] })
    (base g c : Nat) (v : Value) (l : List Int) (z : Int) (hs : a.eval s = v) (hx : a.eval x = .slice (some ⟨g, 0, none⟩) 1 c) (hown : OwnI w base v l)
    (h0 : w.cell? ⟨g, 0, none⟩ = some (.int .i64 z)) (hlen : l.length + 1 ≤ 4294967296) (hbase : base ≤ w.heap.size)
    (h : ∀ v' w', OwnI w' base v' (l ++ [z]) → w.grownBy w' v.ownBlock → (v'.ownBlock = v.ownBlock ∨ v'.ownBlock = some w.heap.size) → wpList Tryd.prog ops Q rest (a.put o.dst v') w') : wpList Tryd.prog ops Q (o :: rest) a w := by
  have hh := step_appI (ops := ops) (o := o) (a := a) (K := fun a w => wpList Tryd.prog ops Q rest a w) (Q := Q) (E := wpList Tryd.prog ops Q rest a w) (w := w) hgd s x ho base g c v l z hs hx hown h0 hlen hbase h
  have hw : Region.wanted o (yielded ops a.tmps) = true := by simp [Region.wanted, hgd]
  rw [if_pos hw] at hh
  unfold wpList
  rw [if_pos hw]
  exact Or.inl hh
theorem grow_rowA {w w1 w2 : World} {R : Option Nat} {row : Option Nat} (h : w.grownBy w1 R) (g : w1.grownBy w2 row) (hr : ∀ k, row = some k → w.heap.size ≤ k) : w.grownBy w2 R :=
  ⟨g.os.trans h.os, g.tape.trans h.tape, g.output.trans h.output, Nat.le_trans h.size g.size, fun k hk hne => by
    refine (g.block k (Nat.lt_of_lt_of_le hk h.size) ?_).trans (h.block k hk hne)
    intro e
    have := hr k e.symm
    omega⟩
theorem Cur.grownR {V w w' : World} {g : Nat} {v : Value} {l : List Int} {row : Option Nat} (h : Cur V w g v l) (hg : w.grownBy w' row) (hne : some g ≠ row) (hr : ∀ k, row = some k → V.heap.size ≤ k) : Cur V w' g v l := by
  have e (i : Nat) : w'.cell? ⟨g, i, none⟩ = w.cell? ⟨g, i, none⟩ := hg.cell_far _ h.lt hne
  have f (i : Nat) : w'.frozen? ⟨g, i, none⟩ = w.frozen? ⟨g, i, none⟩ := hg.frozen_far _ h.lt hne
  obtain ⟨i, hi, c1⟩ := h.c1
  obtain ⟨q, c2⟩ := h.c2
  refine ⟨h.rd, Below.grown h.over hg h.over.size hr, h.hg, Nat.lt_of_lt_of_le h.lt hg.size, h.len, (e 0).trans h.c0, ⟨i, hi, (e 1).trans c1⟩, ⟨q, (e 2).trans c2⟩, (f 1).trans h.f1, (f 2).trans h.f2⟩
def Sm (p : List Int) : Prop := p.length ≤ 20 ∧ ∀ x ∈ p, 0 ≤ x ∧ x ≤ 65536
theorem Sm.nil : Sm [] := ⟨by simp, by simp⟩
theorem Sm.snoc {p : List Int} {x : Int} (h : Sm p) (hn : p.length + 1 ≤ 20) (hx : 0 ≤ x ∧ x ≤ 65536) : Sm (p ++ [x]) := by
  refine ⟨by simpa using hn, fun y hy => ?_⟩
  rcases List.mem_append.1 hy with hy | hy
  · exact h.2 y hy
  · rw [List.mem_singleton.1 hy]; exact hx
theorem Sm.bd {p : List Int} (h : Sm p) : ∀ x ∈ p, -9223372036854775808 ≤ x ∧ x ≤ 9223372036854775807 := fun x hx => by have := h.2 x hx; omega
theorem insL_pair {l : List Int} {n : Int} (h : l.Pairwise (· < ·)) : (insL l n).Pairwise (· < ·) := by
  unfold insL
  rw [List.pairwise_append]
  refine ⟨h.filter _, List.pairwise_cons.2 ⟨fun y hy => by simpa using (List.mem_filter.1 hy).2, h.filter _⟩, fun a ha b hb => ?_⟩
  have h1 : a < n := by simpa using (List.mem_filter.1 ha).2
  rcases List.mem_cons.1 hb with rfl | hb
  · exact h1
  · have h2 : n < b := by simpa using (List.mem_filter.1 hb).2
    omega
theorem insL_sm {l : List Int} {n : Int} (h : l.Pairwise (· < ·)) (hs : Sm l) (hl : l.length + 1 ≤ 20) (hx : 0 ≤ n ∧ n ≤ 65536) : Sm (insL l n) ∧ (insL l n).length ≤ l.length + 1 := by
  have hlen : (insL l n).length ≤ l.length + 1 := by
    by_cases hm : n ∈ l
    · rw [ins_found l n h hm]; omega
    · rw [ins_new l n h hm]
      have := congrArg List.length (List.take_append_drop (l.countP (· < n)) l)
      simp only [List.length_append, List.length_cons] at this ⊢
      omega
  refine ⟨⟨by omega, fun x hx' => ?_⟩, hlen⟩
  unfold insL at hx'
  rcases List.mem_append.1 hx' with q | q
  · exact hs.2 x (List.mem_filter.1 q).1
  · rcases List.mem_cons.1 q with rfl | q
    · exact hx
    · exact hs.2 x (List.mem_filter.1 q).1
/-- an attribute is being made in block A, its rows from b0 on, apart from A; R: the result's block, still empty; g: the cursor -/
structure DA (V w0 w : World) (g : Nat) (v : Value) (l : List Int) (R A b0 : Nat) (pv : Value) (pr : Int) (cv : Value) (bw : Int) (p c : List Int) : Prop where
  cu : Cur V w g v l
  gr : w0.grownBy w (some g)
  br : Bx w R (.slice none 0 0) (.int .i64 0) (.slice none 0 0) (.int .i64 0)
  bx : Bx w A pv (.int .i64 pr) cv (.int .i64 bw)
  op : OwnI w b0 pv p
  oc : OwnI w b0 cv c
  ap : Apart pv cv
  sA : pv.ownBlock = none ∨ pv.ownBlock ≠ some A
  sC : cv.ownBlock = none ∨ cv.ownBlock ≠ some A
  gA : A ≠ g
  h0 : w0.heap.size ≤ R
  rA : R ≠ A
  wA : w0.heap.size ≤ A
  hRg : R ≠ g
  gb : g < b0
  Rb : R < b0
  hb0 : b0 ≤ w.heap.size
  VA : V.heap.size ≤ A
  sp : Sm p
  sc : Sm c
section
variable {V w0 w w' : World} {g R A b0 : Nat} {v pv cv : Value} {l p c : List Int} {pr bw : Int}
theorem DA.keepG (h : DA V w0 w g v l R A b0 pv pr cv bw p c) (cu : Cur V w' g v l) (hg : w.grownBy w' (some g)) : DA V w0 w' g v l R A b0 pv pr cv bw p c :=
  ⟨cu, grown_trans h.gr hg, h.br.grown hg (by simpa using h.hRg), h.bx.grown hg (by simpa using h.gA), h.op.kept hg (OwnI.sepLt h.op h.gb), h.oc.kept hg (OwnI.sepLt h.oc h.gb), h.ap, h.sA, h.sC, h.gA, h.h0, h.rA, h.wA, h.hRg, h.gb, h.Rb, Nat.le_trans h.hb0 hg.size, h.VA, h.sp, h.sc⟩
theorem DA.keepB (h : DA V w0 w g v l R A b0 pv pr cv bw p c) (hb : Below w.heap.size w w') : DA V w0 w' g v l R A b0 pv pr cv bw p c :=
  ⟨h.cu.grownR (grown_below hb none) (by simp) (fun k e => by cases e), grow_rowA h.gr (grown_below hb none) (fun k e => by cases e), h.br.keep hb, h.bx.keep hb, h.op.keep hb, h.oc.keep hb, h.ap, h.sA, h.sC, h.gA, h.h0, h.rA, h.wA, h.hRg, h.gb, h.Rb, Nat.le_trans h.hb0 hb.size, h.VA, h.sp, h.sc⟩
theorem DA.alloc (h : DA V w0 w g v l R A b0 pv pr cv bw p c) (o : Obj) : DA V w0 (w.alloc o) g v l R A b0 pv pr cv bw p c := h.keepB ((Below.refl _ _).alloc (Nat.le_refl _) _)
theorem DA.drew (h : DA V w0 w g v l R A b0 pv pr cv bw p c) : DA V w0 w.drew g v l R A b0 pv pr cv bw p c := h.keepB ((Below.refl _ _).drew)
theorem DA.set1 (h : DA V w0 w g v l R A b0 pv pr cv bw p c) (x : Int) : DA V w0 (w.setCell ⟨A, 1, none⟩ (.int .i64 x)) g v l R A b0 pv x cv bw p c :=
  ⟨h.cu.setNew h.gA h.VA, grown_setNew h.gr h.wA, h.br.far h.rA, h.bx.set1, h.op.farN h.sA, h.oc.farN h.sC, h.ap, h.sA, h.sC, h.gA, h.h0, h.rA, h.wA, h.hRg, h.gb, h.Rb, Nat.le_trans h.hb0 (grown_set _ _ _ _).size, h.VA, h.sp, h.sc⟩
theorem DA.set3 (h : DA V w0 w g v l R A b0 pv pr cv bw p c) (x : Int) : DA V w0 (w.setCell ⟨A, 3, none⟩ (.int .i64 x)) g v l R A b0 pv pr cv x p c :=
  ⟨h.cu.setNew h.gA h.VA, grown_setNew h.gr h.wA, h.br.far h.rA, h.bx.set3, h.op.farN h.sA, h.oc.farN h.sC, h.ap, h.sA, h.sC, h.gA, h.h0, h.rA, h.wA, h.hRg, h.gb, h.Rb, Nat.le_trans h.hb0 (grown_set _ _ _ _).size, h.VA, h.sp, h.sc⟩
theorem ne_of_sep {u : Option Nat} {B : Nat} (h : u = none ∨ u ≠ some B) : some B ≠ u := by
  rcases h with h | h
  · rw [h]; simp
  · exact fun e => h e.symm
/-- behind an append, ahead of the store -/
theorem DA.box0 (h : DA V w0 w g v l R A b0 pv pr cv bw p c) (hg : w.grownBy w' pv.ownBlock) : Bx w' A pv (.int .i64 pr) cv (.int .i64 bw) := h.bx.kept hg h.sA
theorem DA.box2 (h : DA V w0 w g v l R A b0 pv pr cv bw p c) (hg : w.grownBy w' cv.ownBlock) : Bx w' A pv (.int .i64 pr) cv (.int .i64 bw) := h.bx.kept hg h.sC
theorem sep_new {u u' : Option Nat} {A n : Nat} (h : u = none ∨ u ≠ some A) (hor : u' = u ∨ u' = some n) (hn : A < n) : u' = none ∨ u' ≠ some A := by
  rcases hor with e | e
  · rw [e]; exact h
  · exact .inr (by rw [e]; simp; omega)
theorem DA.app0 {x : Int} {pv' : Value} (h : DA V w0 w g v l R A b0 pv pr cv bw p c) (ho : OwnI w' b0 pv' (p ++ [x])) (hg : w.grownBy w' pv.ownBlock) (hor : pv'.ownBlock = pv.ownBlock ∨ pv'.ownBlock = some w.heap.size) (hx : 0 ≤ x ∧ x ≤ 65536) (hn : p.length + 1 ≤ 20) :
    DA V w0 (w'.setCell ⟨A, 0, none⟩ pv') g v l R A b0 pv' pr cv bw (p ++ [x]) c := by
  have sg := OwnI.sepLt h.op h.gb
  have sR := OwnI.sepLt h.op h.Rb
  have hrow : ∀ k, pv.ownBlock = some k → b0 ≤ k := fun k hk => (World.ownsRow.lt h.op k hk).1
  have hgb := h.gb
  have hRb := h.Rb
  have h0 := h.h0
  have hVg := h.cu.hg
  have sA' := sep_new h.sA hor h.bx.lt
  have hor' : pv'.ownBlock = pv.ownBlock ∨ ∀ k, pv'.ownBlock = some k → w.heap.size ≤ k := by
    rcases hor with e | e
    · exact .inl e
    · exact .inr (fun k hk => by rw [e] at hk; cases hk; exact Nat.le_refl _)
  exact ⟨(h.cu.grownR hg (ne_of_sep sg) (fun k hk => by have := hrow k hk; omega)).setNew h.gA h.VA, grown_setNew (grow_rowA h.gr hg (fun k hk => by have := hrow k hk; omega)) h.wA,
    (h.br.grown hg (ne_of_sep sR)).far h.rA, (h.box0 hg).set0, ho.farN sA', (h.oc.kept hg h.ap.2).farN h.sC, apart_or hor' h.ap h.oc, sA', h.sC, h.gA, h.h0, h.rA, h.wA, h.hRg, h.gb, h.Rb, Nat.le_trans (Nat.le_trans h.hb0 hg.size) (grown_set _ _ _ _).size, h.VA, h.sp.snoc hn hx, h.sc⟩
theorem DA.app2 {x : Int} {cv' : Value} (h : DA V w0 w g v l R A b0 pv pr cv bw p c) (ho : OwnI w' b0 cv' (c ++ [x])) (hg : w.grownBy w' cv.ownBlock) (hor : cv'.ownBlock = cv.ownBlock ∨ cv'.ownBlock = some w.heap.size) (hx : 0 ≤ x ∧ x ≤ 65536) (hn : c.length + 1 ≤ 20) :
    DA V w0 (w'.setCell ⟨A, 2, none⟩ cv') g v l R A b0 pv pr cv' bw p (c ++ [x]) := by
  have sg := OwnI.sepLt h.oc h.gb
  have sR := OwnI.sepLt h.oc h.Rb
  have hrow : ∀ k, cv.ownBlock = some k → b0 ≤ k := fun k hk => (World.ownsRow.lt h.oc k hk).1
  have hgb := h.gb
  have hRb := h.Rb
  have h0 := h.h0
  have hVg := h.cu.hg
  have sA' := sep_new h.sC hor h.bx.lt
  have hor' : cv'.ownBlock = cv.ownBlock ∨ ∀ k, cv'.ownBlock = some k → w.heap.size ≤ k := by
    rcases hor with e | e
    · exact .inl e
    · exact .inr (fun k hk => by rw [e] at hk; cases hk; exact Nat.le_refl _)
  exact ⟨(h.cu.grownR hg (ne_of_sep sg) (fun k hk => by have := hrow k hk; omega)).setNew h.gA h.VA, grown_setNew (grow_rowA h.gr hg (fun k hk => by have := hrow k hk; omega)) h.wA,
    (h.br.grown hg (ne_of_sep sR)).far h.rA, (h.box2 hg).set2, (h.op.kept hg h.ap.1).farN h.sA, ho.farN sA', (apart_or hor' h.ap.symm h.op).symm, h.sA, sA', h.gA, h.h0, h.rA, h.wA, h.hRg, h.gb, h.Rb, Nat.le_trans (Nat.le_trans h.hb0 hg.size) (grown_set _ _ _ _).size, h.VA, h.sp, h.sc.snoc hn hx⟩
theorem DA.ins2 {cv' : Value} {c' : List Int} (h : DA V w0 w g v l R A b0 pv pr cv bw p c) (ho : OwnI w' w.heap.size cv' c') (hb : Below w.heap.size w w') (hs : Sm c') :
    DA V w0 (w'.setCell ⟨A, 2, none⟩ cv') g v l R A b0 pv pr cv' bw p c' := by
  have k := h.keepB hb
  have sA' := OwnI.sepLt ho h.bx.lt
  exact ⟨k.cu.setNew h.gA h.VA, grown_setNew k.gr h.wA, k.br.far h.rA, k.bx.set2, k.op.farN h.sA, (ho.mono h.hb0).farN sA', apartI h.op ho (Nat.le_refl _), h.sA, sA', h.gA, h.h0, h.rA, h.wA, h.hRg, h.gb, h.Rb, Nat.le_trans k.hb0 (grown_set _ _ _ _).size, h.VA, h.sp, hs⟩
end
end Go.Proofs.YtcmbajphholliabDoor
