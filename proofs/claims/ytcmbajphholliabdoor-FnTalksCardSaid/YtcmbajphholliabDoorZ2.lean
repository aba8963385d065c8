/-
  Rows of messages that begin anywhere in a block (what is left when the first is cut off), and worlds in which two blocks may turn; append. Conditions: those in each statement.
  What is sent and not received, in any state; the machine sends. Conditions: those in each contract.
-/
import Derived.Test.YtcmbajphholliabDoorV1
import Derived.ArgAppend
import Derived.Laws.IdiomCopy
import Derived.Test.YtcmbajphholliabDoorS9
namespace Go.Proofs.YtcmbajphholliabDoor
open Go.ChangeShapes Go.WideShapes Go.ChangeAt Go.RowKit Go.BigFrame Go.Joins
set_option linter.unusedVariables false
set_option maxRecDepth 100000
set_option linter.unusedSimpArgs false

/-- w' is w with new blocks, and with block X and block r turned -/
structure Gr (w w' : World) (X : Nat) (r : Option Nat) : Prop where
  os : w'.os = w.os
  tape : w'.tape = w.tape
  output : w'.output = w.output
  size : w.heap.size ≤ w'.heap.size
  block : ∀ k, k < w.heap.size → k ≠ X → some k ≠ r → w'.heap[k]? = w.heap[k]?
theorem Gr.of {w w' : World} {X : Nat} (h : w.grownBy w' (some X)) (r : Option Nat) : Gr w w' X r :=
  ⟨h.os, h.tape, h.output, h.size, fun k hk hx _ => h.block k hk (by simpa using hx)⟩
theorem Gr.own {w w' : World} {r : Option Nat} (h : w.grownBy w' r) (X : Nat) : Gr w w' X r :=
  ⟨h.os, h.tape, h.output, h.size, fun k hk _ hr => h.block k hk hr⟩
theorem Gr.trans {w w1 w2 : World} {X : Nat} {r r' : Option Nat} (h : Gr w w1 X r) (g : Gr w1 w2 X r') (hr : r' = r ∨ ∀ k, r' = some k → w.heap.size ≤ k) : Gr w w2 X r :=
  ⟨g.os.trans h.os, g.tape.trans h.tape, g.output.trans h.output, Nat.le_trans h.size g.size, fun k hk hx hn =>
    (g.block k (Nat.lt_of_lt_of_le hk h.size) hx (by
      rcases hr with rfl | hr
      · exact hn
      · intro e
        have := hr k e.symm
        omega)).trans (h.block k hk hx hn)⟩
theorem Bl.gr {w w' : World} {B X : Nat} {r : Option Nat} {xs : List Value} (h : Bl w B xs) (g : Gr w w' X r) (hx : B ≠ X) (hr : some B ≠ r) : Bl w' B xs :=
  ⟨Nat.lt_of_lt_of_le h.lt g.size, fun i x e => (World.cell?_of_block (g.block B h.lt hx hr)).trans (h.cs i x e), fun i hi => (World.frozen?_of_block (g.block B h.lt hx hr)).trans (h.fz i hi)⟩
theorem Gr.below {w0 w w' : World} {b X : Nat} {r : Option Nat} (h : Below b w0 w) (hb : b ≤ w0.heap.size) (g : Gr w w' X r) (hx : b ≤ X) (hr : ∀ k, r = some k → b ≤ k) : Below b w0 w' :=
  ⟨g.os.trans h.os, g.tape.trans h.tape, g.output.trans h.output, Nat.le_trans h.size g.size, fun k hk =>
    (g.block k (Nat.lt_of_lt_of_le hk (Nat.le_trans hb h.size)) (by omega) (fun e => by have := hr k e.symm; omega)).trans (h.block k hk)⟩
/-- the messages l, from somewhere in a block of the call's own on, and room behind them -/
def Row (w : World) (base : Nat) (v : Value) (l : List Bm) : Prop :=
  (v = .slice none 0 0 ∧ l = []) ∨ ∃ g o cap, v = .slice (some ⟨g, o, none⟩) l.length cap ∧ l.length ≤ cap ∧ cap ≤ maxLen ∧ base ≤ g ∧ g < w.heap.size ∧
    (∀ j x, (flatM l)[j]? = some x → w.cell? ⟨g, o + j, none⟩ = some x) ∧ (∀ j, l.length * 11 ≤ j → j < cap * 11 → (w.cell? ⟨g, o + j, none⟩).isSome = true) ∧ ∀ j, w.frozen? ⟨g, j, none⟩ = false
theorem Row.nil (w : World) (base : Nat) : Row w base (.slice none 0 0) [] := .inl ⟨rfl, rfl⟩
theorem Row.at {w w' : World} {base : Nat} {v : Value} {l : List Bm} (h : Row w base v l) (hs : w.heap.size ≤ w'.heap.size) (hb : ∀ k, v.ownBlock = some k → w'.heap[k]? = w.heap[k]?) : Row w' base v l := by
  rcases h with h | ⟨g, o, cap, rfl, h1, h2, h3, h4, h5, h6, h7⟩
  · exact .inl h
  · have e := hb g rfl
    refine .inr ⟨g, o, cap, rfl, h1, h2, h3, Nat.lt_of_lt_of_le h4 hs, fun j x hj => (World.cell?_of_block (a := ⟨g, o + j, none⟩) e).trans (h5 j x hj), fun j ha hc => ?_, fun j => (World.frozen?_of_block (a := ⟨g, j, none⟩) e).trans (h7 j)⟩
    rw [World.cell?_of_block (a := ⟨g, o + j, none⟩) e]
    exact h6 j ha hc
theorem Row.lt {w : World} {base : Nat} {v : Value} {l : List Bm} (h : Row w base v l) : ∀ k, v.ownBlock = some k → base ≤ k ∧ k < w.heap.size := by
  intro k hk
  rcases h with ⟨rfl, -⟩ | ⟨g, o, cap, rfl, h1, h2, h3, h4, -⟩
  · simp [Value.ownBlock] at hk
  · simp [Value.ownBlock] at hk
    subst hk
    exact ⟨h3, h4⟩
theorem Row.cap {w : World} {base : Nat} {v : Value} {l : List Bm} (h : Row w base v l) : ∃ a c, v = .slice a l.length c := by
  rcases h with ⟨rfl, rfl⟩ | ⟨g, o, cap, rfl, -⟩
  · exact ⟨_, _, rfl⟩
  · exact ⟨_, _, rfl⟩
theorem Row.gr {w w' : World} {base X : Nat} {v : Value} {l : List Bm} {r : Option Nat} (h : Row w base v l) (g : Gr w w' X r) (hx : X < base) (hr : ∀ k, v.ownBlock = some k → some k ≠ r) : Row w' base v l :=
  h.at g.size fun k hk => g.block k (h.lt k hk).2 (by have := (h.lt k hk).1; omega) (hr k hk)
theorem Row.grown {w w' : World} {base X : Nat} {v : Value} {l : List Bm} (h : Row w base v l) (g : w.grownBy w' (some X)) (hx : X < base) : Row w' base v l :=
  h.at g.size fun k hk => g.block k (h.lt k hk).2 (by have := (h.lt k hk).1; simp; omega)
theorem Row.keep {w w' : World} {base : Nat} {v : Value} {l : List Bm} (h : Row w base v l) (g : Below w.heap.size w w') : Row w' base v l :=
  h.at g.size fun k hk => g.block k (h.lt k hk).2
theorem Row.mono {w : World} {base base' : Nat} {v : Value} {l : List Bm} (h : Row w base v l) (hb : base' ≤ base) : Row w base' v l := by
  rcases h with h | ⟨g, o, cap, rfl, h1, h2, h3, h4⟩
  · exact .inl h
  · exact .inr ⟨g, o, cap, rfl, h1, h2, by omega, h4⟩
theorem Row.of {w : World} {base : Nat} {v : Value} {l : List Bm} (h : OwnG w base v l) : Row w base v l := by
  have hf := flatM_len l
  rcases h.2 with ⟨rfl, hn⟩ | ⟨g, cap, cur, rfl, hb, hg, hnc, hcm, hcs, ht⟩
  · exact .inl ⟨rfl, List.eq_nil_of_length_eq_zero hn⟩
  · have hc : ∀ j, w.cell? ⟨g, j, none⟩ = cur[j]? := fun j => cell_of_row w g j cur _ (0, 0) hg
    refine .inr ⟨g, 0, cap, rfl, hnc, hcm, hb, (Array.getElem?_eq_some_iff.1 hg).1, fun j x hj => ?_, fun j ha hj => ?_, fun j => ?_⟩
    · rw [Nat.zero_add, hc]
      rw [← ht, List.getElem?_take] at hj
      split at hj
      · simpa using hj
      · cases hj
    · rw [Nat.zero_add, hc, Array.getElem?_eq_getElem (by omega)]
      rfl
    · exact World.ownsRow.frozenAt h j
theorem grown_setCells (b : Nat) : ∀ (vs : List Value) (o : Nat) (w : World), w.grownBy (w.setCells b o vs) (some b)
  | [], o, w => World.grownBy.refl w (some b)
  | v :: r, o, w => by
    rw [World.setCells]
    exact grown_trans (grown_set w b o v) (grown_setCells b r (o + 1) _)
theorem flatM_snoc (l : List Bm) (m : Bm) : flatM (l ++ [m]) = flatM l ++ m.cells := by simp [flatM]
theorem run_appR {w : World} (ty : TypeId) (base g o2 c : Nat) (v : Value) (l : List Bm) (m : Bm) (hown : Row w base v l)
    (h0 : ∀ j y, m.cells[j]? = some y → w.cell? ⟨g, o2 + j, none⟩ = some y) (hlen : l.length + 1 ≤ 4294967296) (hbase : base ≤ w.heap.size) :
    ∃ v' w', (Builtin.append_ #[44, 44] ty #[v, .slice (some ⟨g, o2, none⟩) 1 c]).run Tryd.prog w = .ok v' w' ∧ Row w' base v' (l ++ [m]) ∧ w.grownBy w' v.ownBlock ∧ (v'.ownBlock = v.ownBlock ∨ ∀ k, v'.ownBlock = some k → w.heap.size ≤ k) := by
  obtain ⟨i0, hi, hz0, hz1, hz2⟩ := info_parts infoG
  have hadd : ∀ (g o j : Nat), (⟨g, o, none⟩ : Addr).add j = ⟨g, o + j, none⟩ := fun g o j => by unfold Addr.add; split <;> simp_all
  have hnews : ∀ j y, m.cells[j]? = some y → w.cell? ((⟨g, o2, none⟩ : Addr).add j) = some y := fun j y hj => by rw [hadd]; exact h0 j y hj
  have hm : m.cells.length = 11 := rfl
  have h1 : ∀ u ∈ m.cells, u.oneCell' = true := by simp [Bm.cells, Value.oneCell']
  rcases hown with ⟨rfl, rfl⟩ | ⟨g0, o, cap, rfl, c1, c2, c3, c4, c5, c6, c7⟩
  · obtain ⟨v', w', hr, h2, h3, -, h5⟩ := run_append_own_at (P := Tryd.prog) w base 44 ty 38 i0 (.agg #[.int .i64 0, .int .i64 0, .int .i64 0, .int .i64 0, .slice none 0 0, .slice none 0 0, .slice none 0 0, .int .i64 0, .slice none 0 0, .int .i64 0, .int .i64 0]) 11 152 Tryd.underlying44 hi hz0 hz1 hz2 rfl (by decide) (.slice none 0 0) 0 [] (World.ownsRow_nil _ _ _ _) ⟨g, o2, none⟩ 1 c m.cells (by simp [Bm.cells]) hnews h1 (by unfold maxLen; omega) (by omega) hbase
    refine ⟨v', w', hr, Row.of ?_, h3, h5.imp id fun e k hk => ?_⟩
    · unfold OwnG
      simpa [flatM] using h2
    · rw [e] at hk
      cases hk
      exact Nat.le_refl _
  · have hfl := flatM_len l
    by_cases hroom : l.length + 1 ≤ cap
    · have hsz := hz1
      have hr := run_append_room_cells (P := Tryd.prog) w 44 ty 38 i0 Tryd.underlying44 hi g0 o l.length cap ⟨g, o2, none⟩ 1 c m.cells (by rw [hm, hz1]) hnews h1 hroom
        (fun j hj => by
          rw [hz1, show o + l.length * 11 + j = o + (l.length * 11 + j) by omega]
          exact c6 _ (by omega) (by rw [hm] at hj; omega)) (fun j hj => c7 _)
      rw [hz1] at hr
      refine ⟨_, _, hr, .inr ⟨g0, o, cap, by simp, by simpa using hroom, c2, c3, Nat.lt_of_lt_of_le c4 (grown_setCells g0 m.cells (o + l.length * 11) w).size, fun j x hj => ?_, fun j ha hj => ?_, fun j => ?_⟩, grown_setCells g0 _ _ w, .inl rfl⟩
      · rw [flatM_snoc] at hj
        by_cases hl : j < (flatM l).length
        · rw [List.getElem?_append_left hl] at hj
          rw [World.cell?_setCells_out g0 _ _ _ _ (fun _ _ => .inl (by simp; omega))]
          exact c5 j x hj
        · rw [List.getElem?_append_right (by omega)] at hj
          obtain ⟨hlt, he⟩ := List.getElem?_eq_some_iff.1 hj
          have := World.cell?_setCells_in g0 m.cells (o + l.length * 11) w (fun i hi => by
            rw [show o + l.length * 11 + i = o + (l.length * 11 + i) by omega]
            exact c6 _ (by omega) (by rw [hm] at hi; omega)) _ hlt
          rw [show o + l.length * 11 + (j - (flatM l).length) = o + j by omega, he] at this
          exact this
      · simp at ha
        rw [World.cell?_setCells_out g0 _ _ _ _ (fun _ _ => .inr (by simp [hm]; omega))]
        exact c6 j (by omega) hj
      · rw [World.frozen?_setCells]
        exact c7 j
    · obtain ⟨v', w', hr, h2, h3⟩ := run_append_arg_grows (P := Tryd.prog) w 44 ty 38 i0 (.agg #[.int .i64 0, .int .i64 0, .int .i64 0, .int .i64 0, .slice none 0 0, .slice none 0 0, .slice none 0 0, .int .i64 0, .slice none 0 0, .int .i64 0, .int .i64 0]) 11 152 Tryd.underlying44 hi hz0 hz1 hz2 rfl (by decide) ⟨g0, o, none⟩ l.length cap (flatM l) hfl (fun j u hj => by rw [hadd]; exact c5 j u hj) ⟨g, o2, none⟩ 1 c m.cells (by simp [Bm.cells]) hnews (by omega) (by unfold maxLen; omega) (by omega)
      have hO : OwnG w' w.heap.size v' (l ++ [m]) := by
        unfold OwnG
        rw [List.length_append, flatM_snoc]
        exact h2
      exact ⟨v', w', hr, (Row.of hO).mono hbase, ⟨h3.os, h3.tape, h3.output, h3.size, fun k hk _ => h3.block k hk (by simp)⟩, .inr fun k hk => (World.ownsRow.lt h2 k hk).1⟩
theorem run_appR0 {w : World} (ty : TypeId) (base : Nat) (v : Value) (l : List Bm) (hown : Row w base v l) :
    (Builtin.append_ #[44, 44] ty #[v, .slice none 0 0]).run Tryd.prog w = .ok v w := by
  obtain ⟨i0, hi, hz0, hz1, hz2⟩ := info_parts infoG
  have ht := Tryd.underlying44
  rcases hown with ⟨rfl, rfl⟩ | ⟨g0, o, cap, rfl, c1, c2, -⟩
  · simp [Builtin.append_, run_underlying ht, sizeOf, typeInfo, hi, Builtin.lenOf, Builtin.firstCells, loadCells, loadCellsFrom]
  · simp [Builtin.append_, run_underlying ht, sizeOf, typeInfo, hi, Builtin.lenOf, Builtin.firstCells, loadCells, loadCellsFrom, c1, storeCells]
theorem step_appR {ops : Array Oper} {o : Oper} {a : Act} {K : Act → World → Prop} {Q : Exit → Act → World → Prop} {E : Prop} {w : World} (hgd : o.guard = none) (s x : Operand)
    (ho : o.op = .call { callee := .builtin .append, args := #[s, x], argTypes := #[44, 44] })
    (base g o2 c : Nat) (v : Value) (l : List Bm) (m : Bm) (hs : a.eval s = v) (hx : a.eval x = .slice (some ⟨g, o2, none⟩) 1 c) (hown : Row w base v l)
    (h0 : ∀ j y, m.cells[j]? = some y → w.cell? ⟨g, o2 + j, none⟩ = some y) (hlen : l.length + 1 ≤ 4294967296) (hbase : base ≤ w.heap.size)
    (h : ∀ v' w', Row w' base v' (l ++ [m]) → w.grownBy w' v.ownBlock → (v'.ownBlock = v.ownBlock ∨ ∀ k, v'.ownBlock = some k → w.heap.size ≤ k) → K (a.put o.dst v') w') : if Region.wanted o (yielded ops a.tmps) = true then Oper.wp Tryd.prog o a w K Q else E := by
  have hw : Region.wanted o (yielded ops a.tmps) = true := by simp [Region.wanted, hgd]
  rw [if_pos hw]
  obtain ⟨v', w', hr, h2, h3, h5⟩ := run_appR o.type base g o2 c v l m hown h0 hlen hbase
  unfold Oper.wp execOp
  simp only [ho, resolve, invoke, builtin, Sem.run_bind, Sem.run_pure, Result.andThen_ok, List.map_toArray, List.map_cons, List.map_nil, hs, hx, hr]
  exact h v' w' h2 h3 h5
end Go.Proofs.YtcmbajphholliabDoor
namespace Go.Proofs.YtcmbajphholliabDoor
open Go.ChangeShapes Go.WideShapes Go.ChangeAt Go.RowKit Go.BigFrame Go.Joins
set_option linter.unusedVariables false
set_option linter.unusedSimpArgs false
set_option maxRecDepth 100000

def rowOf (a : Option Addr) : Option Nat := a.map (·.block)
theorem own_slice (a : Option Addr) (n c : Nat) : (Value.slice a n c).ownBlock = rowOf a := by cases a <;> rfl
/-- machine X lies ahead of base, its messages l behind it -/
structure Sent (w : World) (X base : Nat) (v : Value) (l : List Bm) : Prop where
  x : X < base
  b : base ≤ w.heap.size
  r : Row w base v l
  n : l.length ≤ 1000
theorem Sent.step {w w1 : World} {X base : Nat} {v : Value} {l : List Bm} (h : Sent w X base v l) (g : w.grownBy w1 (some X)) : Sent w1 X base v l := ⟨h.x, Nat.le_trans h.b g.size, h.r.grown g h.x, h.n⟩
theorem Sent.below {w w1 : World} {X base : Nat} {v : Value} {l : List Bm} (h : Sent w X base v l) (g : Below w.heap.size w w1) : Sent w1 X base v l := ⟨h.x, Nat.le_trans h.b g.size, h.r.keep g, h.n⟩
theorem Sent.ne {w : World} {X base : Nat} {v : Value} {l : List Bm} (h : Sent w X base v l) : some X ≠ v.ownBlock := fun e => by
  have := (h.r.lt X e.symm).1
  have := h.x
  omega
/-- what has been sent behind a call that turns X and its row alone -/
structure SentP (w w' : World) (X base : Nat) (va : Option Addr) (v : Value) (l : List Bm) : Prop where
  row : Row w' base v l
  gr : Gr w w' X (rowOf va)
  ow : v.ownBlock = rowOf va ∨ ∀ k, v.ownBlock = some k → w.heap.size ≤ k
theorem SentP.back {w w1 w2 : World} {X base : Nat} {va : Option Addr} {v : Value} {l : List Bm} (h : SentP w1 w2 X base va v l) (g : w.grownBy w1 (some X)) : SentP w w2 X base va v l :=
  ⟨h.row, (Gr.of g _).trans h.gr (.inl rfl), h.ow.imp id fun q k hk => Nat.le_trans g.size (q k hk)⟩
theorem SentP.fwd {w w1 w2 : World} {X base : Nat} {va : Option Addr} {v : Value} {l : List Bm} (h : SentP w w1 X base va v l) (hx : X < base) (g : w1.grownBy w2 (some X)) : SentP w w2 X base va v l :=
  ⟨h.row.grown g hx, h.gr.trans (Gr.of g (rowOf va)) (.inl rfl), h.ow⟩
theorem SentP.far {w w1 : World} {X base o : Nat} {va : Option Addr} {v u : Value} {l : List Bm} (h : SentP w w1 X base va v l) (hx : X < base) : SentP w (w1.setCell ⟨X, o, none⟩ u) X base va v l := h.fwd hx (grown_set w1 X o u)
theorem SentP.same {w w1 : World} {X base : Nat} {va : Option Addr} {vn vc : Nat} {l : List Bm} (h : Sent w X base (.slice va vn vc) l) (g : w.grownBy w1 (some X)) : SentP w w1 X base va (.slice va vn vc) (l ++ []) :=
  ⟨by rw [List.append_nil]; exact h.r.grown g h.x, Gr.of g _, .inl (own_slice _ _ _)⟩
theorem Row.cap3 {w : World} {base : Nat} {v : Value} {l : List Bm} (h : Row w base v l) : ∃ a n c, v = .slice a n c := by
  obtain ⟨a, c, h⟩ := h.cap
  exact ⟨a, _, c, h⟩
theorem sendR (va : Option Addr) (vn vc base : Nat) (l : List Bm) (X : Nat) (xa xi xh xp st hd he ke pr : Int) (m : Bm) (mv : Value) (w : World) (hp : ∀ w, Calls Tryd.prog 35 #[mv] w fun e w' => e = .returned (.agg #[.int .i64 m.k, .int .i64 m.a, .int .i64 m.h, .int .i64 m.i, .slice none 0 0, .slice none 0 0, .slice none 0 0, .int .i64 0, .slice none 0 0, .int .i64 0, .int .i64 m.er]) ∧ Below w.heap.size w w')
    (hX : Bl w X [.int .i64 xa, .int .i64 xi, .int .i64 xh, .int .i64 xp, .int .i64 st, .int .i64 hd, .int .i64 he, .int .i64 ke, .int .i64 pr, .slice va vn vc]) (HS : Hid (Sent w X base (.slice va vn vc) l)) : Calls Tryd.prog 97 #[.pointer (some ⟨X, 0, none⟩), mv] w fun e w' => e = .returned (.tuple #[]) ∧ ∃ v, Bl w' X [.int .i64 xa, .int .i64 xi, .int .i64 xh, .int .i64 xp, .int .i64 st, .int .i64 hd, .int .i64 he, .int .i64 ke, .int .i64 pr, v] ∧ SentP w w' X base va v (l ++ [m]) := by
  have x9 := hX.c 9 rfl
  have y9 := hX.f 9 rfl
  go_enter Tryd.func97, Tryd.ntmps97
  go_wp2_with fail
  have HP := Lib.hid hp
  clear hp y9
  refine wp_region_held_drew (S := fun _ => True) (by kernel_rfl) trivial (fun hHeld => ?_)
  refine wpAnyH_take (i := 0) (v := ?_) rfl (by kernel_rfl) (by kernel_rfl) (by kernel_rfl) (fun _ _ _ h => h) (Or.inl ⟨by rfl, ?_⟩) (by assumption) ?_
  rotate_left
  · intro w hSw
    (try dsimp only at hSw)
    go_simp
    try rfl
  change wpAnyH _ _ _ _ _ _ _ (Act.put _ (some 4) _) _
  simp only [Act.put, List.setIfInBounds_toArray, List.set_cons_succ, List.set_cons_zero]
  refine wpAnyH_take (i := 1) (v := ?_) rfl (by kernel_rfl) (by kernel_rfl) (by kernel_rfl) (fun _ _ _ h => h) (Or.inl ⟨by rfl, ?_⟩) (by assumption) ?_
  rotate_left
  · intro w hSw
    (try dsimp only at hSw)
    go_simp
    try rfl
  change wpAnyH _ _ _ _ _ _ _ (Act.put _ (some 5) _) _
  simp only [Act.put, List.setIfInBounds_toArray, List.set_cons_succ, List.set_cons_zero]
  refine wpAnyH_take (i := 2) (v := ?_) rfl (by kernel_rfl) (by kernel_rfl) (by kernel_rfl) (fun _ _ _ h => h) (Or.inl ⟨by rfl, ?_⟩) (by assumption) ?_
  rotate_left
  · intro w hSw
    (try dsimp only at hSw)
    go_simp
    try rfl
  change wpAnyH _ _ _ _ _ _ _ (Act.put _ (some 6) _) _
  simp only [Act.put, List.setIfInBounds_toArray, List.set_cons_succ, List.set_cons_zero]
  refine wpAnyH_take (i := 3) (v := ?_) rfl (by kernel_rfl) (by kernel_rfl) (by kernel_rfl) (fun _ _ _ h => h) (Or.inl ⟨by rfl, ?_⟩) (by assumption) ?_
  rotate_left
  · intro w hSw
    (try dsimp only at hSw)
    go_simp
    try rfl
  change wpAnyH _ _ _ _ _ _ _ (Act.put _ (some 7) _) _
  simp only [Act.put, List.setIfInBounds_toArray, List.set_cons_succ, List.set_cons_zero]
  refine wpAnyH_take (i := 5) (v := ?_) rfl (by kernel_rfl) (by kernel_rfl) (by kernel_rfl) (fun _ _ _ h => h) (Or.inl ⟨by rfl, ?_⟩) (by assumption) ?_
  rotate_left
  · intro w hSw
    (try dsimp only at hSw)
    go_simp
    try rfl
  change wpAnyH _ _ _ _ _ _ _ (Act.put _ (some 9) _) _
  simp only [Act.put, List.setIfInBounds_toArray, List.set_cons_succ, List.set_cons_zero]
  refine wpAnyH_ready (rs := [4, 6]) (by kernel_rfl) (by simp) ?_
  refine AllReadyH.cons rfl (fun K hK => ?_) (AllReadyH.cons rfl (fun K hK => ?_) AllReadyH.nil)
  · go_simp
    refine hK.out _ _ trivial (fun hHeld => ?_)
    clear hK K
    try simp only [Act.put, List.setIfInBounds_toArray, List.set_cons_zero, List.set_cons_succ]
    refine wpAnyH_ready (rs := [6]) (by kernel_rfl) (by simp) ?_
    refine AllReadyH.cons rfl (fun K hK => ?_) AllReadyH.nil
    go_simp
    refine (HP.out _).mono ?_
    rintro e w3 ⟨rfl, hb3⟩
    have O3 : Over w w3 := over_step (over_drew _) hb3
    have bX := hX.keep O3
    have x93 := bX.c 9 rfl
    refine hK.out _ _ trivial (fun hHeld => ?_)
    clear hK K
    try simp only [Act.put, List.setIfInBounds_toArray, List.set_cons_zero, List.set_cons_succ]
    refine wpAnyH_ready (rs := [7]) (by kernel_rfl) (by simp) ?_
    refine AllReadyH.cons rfl (fun K hK => ?_) AllReadyH.nil
    go_simp
    refine hK.out _ _ trivial (fun hHeld => ?_)
    clear hK K
    try simp only [Act.put, List.setIfInBounds_toArray, List.set_cons_zero, List.set_cons_succ]
    have x94 : (w3.alloc (.cells #[.int .i64 m.k, .int .i64 m.a, .int .i64 m.h, .int .i64 m.i, .slice none 0 0, .slice none 0 0, .slice none 0 0, .int .i64 0, .slice none 0 0, .int .i64 0, .int .i64 m.er] 38)).cell? ⟨X, 9, none⟩ = some (.slice va vn vc) := (bX.alloc _).c 9 rfl
    refine wpAnyH_ready (rs := [8]) (by kernel_rfl) (by simp) ?_
    refine AllReadyH.cons rfl (fun K hK => ?_) AllReadyH.nil
    refine step_appR rfl (.tmp 8) (.tmp 11) rfl base w3.heap.size 0 1 (.slice va vn vc) l m rfl rfl ((HS.out.r.keep O3).keep ((Below.refl _ _).alloc (Nat.le_refl _) _)) (fun j y hj => by rw [Nat.zero_add]; exact (Bl.new w3 m.cells 38 _ rfl).c j hj) (by have := HS.out.n; omega) (Nat.le_trans HS.out.b (Nat.le_trans O3.size (by simp))) ?_
    intro v5 w5 o5 g5 r5
    obtain ⟨a5, n5, c5, rfl⟩ := Row.cap3 o5
    have bZ := (bX.alloc (.cells m.cells.toArray 38)).grown g5 HS.out.ne
    have z9 := bZ.c 9 rfl
    have zf := bZ.f 9 (x := .slice va vn vc) rfl
    refine hK.out _ _ trivial (fun hHeld => ?_)
    clear hK K
    try simp only [Act.put, List.setIfInBounds_toArray, List.set_cons_zero, List.set_cons_succ]
    refine wpAnyH_take (i := 9) (v := ?_) rfl (by kernel_rfl) (by kernel_rfl) (by kernel_rfl) (fun _ _ _ h => h) (Or.inl ⟨by rfl, ?_⟩) (by assumption) ?_
    rotate_left
    · intro w hSw
      (try dsimp only at hSw)
      go_simp
      try rfl
    change wpAnyH _ _ _ _ _ _ _ (Act.put _ (some 13) _) _
    simp only [Act.put, List.setIfInBounds_toArray, List.set_cons_succ, List.set_cons_zero]
    refine wpAnyH_take (i := 10) (v := ?_) rfl (by kernel_rfl) (by kernel_rfl) (by kernel_rfl) (fun _ _ _ h => h) (Or.inl ⟨by rfl, ?_⟩) (by assumption) ?_
    rotate_left
    · intro w hSw
      (try dsimp only at hSw)
      go_simp
      try rfl
    change wpAnyH _ _ _ _ _ _ _ (Act.put _ (some 14) _) _
    simp only [Act.put, List.setIfInBounds_toArray, List.set_cons_succ, List.set_cons_zero]
    refine wpAnyH_ready (rs := [11]) (by kernel_rfl) (by simp) ?_
    refine AllReadyH.cons rfl (fun K hK => ?_) AllReadyH.nil
    go_simp
    refine hK.out _ _ trivial (fun hHeld => ?_)
    clear hK K
    try simp only [Act.put, List.setIfInBounds_toArray, List.set_cons_zero, List.set_cons_succ]
    refine wpAnyH_done (by kernel_rfl) ?_ _
    clear x93 x94 z9 zf
    go_end0
    exact ⟨rfl, .slice a5 n5 c5, (by simpa only [List.set_cons_zero, List.set_cons_succ] using bZ.set 9 (.slice a5 n5 c5)), ⟨o5.grown (grown_set w5 X 9 _) HS.out.x, (((Gr.of (grown_below O3 (some X)) (rowOf va)).trans (Gr.of (grown_alloc (World.grownBy.refl w3 (some X)) _) (rowOf va)) (.inl rfl)).trans (Gr.own g5 X) (.inl (own_slice _ _ _))).trans (Gr.of (grown_set w5 X 9 _) (rowOf va)) (.inl rfl), r5.imp (fun q => q.trans (own_slice _ _ _)) fun q k hk => Nat.le_trans (Nat.le_trans O3.size (by simp)) (q k hk)⟩⟩
  · go_simp
    refine (HP.out _).mono ?_
    rintro e w3 ⟨rfl, hb3⟩
    have O3 : Over w w3 := over_step (over_drew _) hb3
    have bX := hX.keep O3
    have x93 := bX.c 9 rfl
    refine hK.out _ _ trivial (fun hHeld => ?_)
    clear hK K
    try simp only [Act.put, List.setIfInBounds_toArray, List.set_cons_zero, List.set_cons_succ]
    refine wpAnyH_ready (rs := [4, 7]) (by kernel_rfl) (by simp) ?_
    refine AllReadyH.cons rfl (fun K hK => ?_) (AllReadyH.cons rfl (fun K hK => ?_) AllReadyH.nil)
    · go_simp
      refine hK.out _ _ trivial (fun hHeld => ?_)
      clear hK K
      try simp only [Act.put, List.setIfInBounds_toArray, List.set_cons_zero, List.set_cons_succ]
      refine wpAnyH_ready (rs := [7]) (by kernel_rfl) (by simp) ?_
      refine AllReadyH.cons rfl (fun K hK => ?_) AllReadyH.nil
      go_simp
      refine hK.out _ _ trivial (fun hHeld => ?_)
      clear hK K
      try simp only [Act.put, List.setIfInBounds_toArray, List.set_cons_zero, List.set_cons_succ]
      have x94 : (w3.alloc (.cells #[.int .i64 m.k, .int .i64 m.a, .int .i64 m.h, .int .i64 m.i, .slice none 0 0, .slice none 0 0, .slice none 0 0, .int .i64 0, .slice none 0 0, .int .i64 0, .int .i64 m.er] 38)).cell? ⟨X, 9, none⟩ = some (.slice va vn vc) := (bX.alloc _).c 9 rfl
      refine wpAnyH_ready (rs := [8]) (by kernel_rfl) (by simp) ?_
      refine AllReadyH.cons rfl (fun K hK => ?_) AllReadyH.nil
      refine step_appR rfl (.tmp 8) (.tmp 11) rfl base w3.heap.size 0 1 (.slice va vn vc) l m rfl rfl ((HS.out.r.keep O3).keep ((Below.refl _ _).alloc (Nat.le_refl _) _)) (fun j y hj => by rw [Nat.zero_add]; exact (Bl.new w3 m.cells 38 _ rfl).c j hj) (by have := HS.out.n; omega) (Nat.le_trans HS.out.b (Nat.le_trans O3.size (by simp))) ?_
      intro v5 w5 o5 g5 r5
      obtain ⟨a5, n5, c5, rfl⟩ := Row.cap3 o5
      have bZ := (bX.alloc (.cells m.cells.toArray 38)).grown g5 HS.out.ne
      have z9 := bZ.c 9 rfl
      have zf := bZ.f 9 (x := .slice va vn vc) rfl
      refine hK.out _ _ trivial (fun hHeld => ?_)
      clear hK K
      try simp only [Act.put, List.setIfInBounds_toArray, List.set_cons_zero, List.set_cons_succ]
      refine wpAnyH_take (i := 9) (v := ?_) rfl (by kernel_rfl) (by kernel_rfl) (by kernel_rfl) (fun _ _ _ h => h) (Or.inl ⟨by rfl, ?_⟩) (by assumption) ?_
      rotate_left
      · intro w hSw
        (try dsimp only at hSw)
        go_simp
        try rfl
      change wpAnyH _ _ _ _ _ _ _ (Act.put _ (some 13) _) _
      simp only [Act.put, List.setIfInBounds_toArray, List.set_cons_succ, List.set_cons_zero]
      refine wpAnyH_take (i := 10) (v := ?_) rfl (by kernel_rfl) (by kernel_rfl) (by kernel_rfl) (fun _ _ _ h => h) (Or.inl ⟨by rfl, ?_⟩) (by assumption) ?_
      rotate_left
      · intro w hSw
        (try dsimp only at hSw)
        go_simp
        try rfl
      change wpAnyH _ _ _ _ _ _ _ (Act.put _ (some 14) _) _
      simp only [Act.put, List.setIfInBounds_toArray, List.set_cons_succ, List.set_cons_zero]
      refine wpAnyH_ready (rs := [11]) (by kernel_rfl) (by simp) ?_
      refine AllReadyH.cons rfl (fun K hK => ?_) AllReadyH.nil
      go_simp
      refine hK.out _ _ trivial (fun hHeld => ?_)
      clear hK K
      try simp only [Act.put, List.setIfInBounds_toArray, List.set_cons_zero, List.set_cons_succ]
      refine wpAnyH_done (by kernel_rfl) ?_ _
      clear x93 x94 z9 zf
      go_end0
      exact ⟨rfl, .slice a5 n5 c5, (by simpa only [List.set_cons_zero, List.set_cons_succ] using bZ.set 9 (.slice a5 n5 c5)), ⟨o5.grown (grown_set w5 X 9 _) HS.out.x, (((Gr.of (grown_below O3 (some X)) (rowOf va)).trans (Gr.of (grown_alloc (World.grownBy.refl w3 (some X)) _) (rowOf va)) (.inl rfl)).trans (Gr.own g5 X) (.inl (own_slice _ _ _))).trans (Gr.of (grown_set w5 X 9 _) (rowOf va)) (.inl rfl), r5.imp (fun q => q.trans (own_slice _ _ _)) fun q k hk => Nat.le_trans (Nat.le_trans O3.size (by simp)) (q k hk)⟩⟩
    · go_simp
      refine hK.out _ _ trivial (fun hHeld => ?_)
      clear hK K
      try simp only [Act.put, List.setIfInBounds_toArray, List.set_cons_zero, List.set_cons_succ]
      have x94 : (w3.alloc (.cells #[.int .i64 m.k, .int .i64 m.a, .int .i64 m.h, .int .i64 m.i, .slice none 0 0, .slice none 0 0, .slice none 0 0, .int .i64 0, .slice none 0 0, .int .i64 0, .int .i64 m.er] 38)).cell? ⟨X, 9, none⟩ = some (.slice va vn vc) := (bX.alloc _).c 9 rfl
      refine wpAnyH_ready (rs := [4]) (by kernel_rfl) (by simp) ?_
      refine AllReadyH.cons rfl (fun K hK => ?_) AllReadyH.nil
      go_simp
      refine hK.out _ _ trivial (fun hHeld => ?_)
      clear hK K
      try simp only [Act.put, List.setIfInBounds_toArray, List.set_cons_zero, List.set_cons_succ]
      refine wpAnyH_ready (rs := [8]) (by kernel_rfl) (by simp) ?_
      refine AllReadyH.cons rfl (fun K hK => ?_) AllReadyH.nil
      refine step_appR rfl (.tmp 8) (.tmp 11) rfl base w3.heap.size 0 1 (.slice va vn vc) l m rfl rfl ((HS.out.r.keep O3).keep ((Below.refl _ _).alloc (Nat.le_refl _) _)) (fun j y hj => by rw [Nat.zero_add]; exact (Bl.new w3 m.cells 38 _ rfl).c j hj) (by have := HS.out.n; omega) (Nat.le_trans HS.out.b (Nat.le_trans O3.size (by simp))) ?_
      intro v5 w5 o5 g5 r5
      obtain ⟨a5, n5, c5, rfl⟩ := Row.cap3 o5
      have bZ := (bX.alloc (.cells m.cells.toArray 38)).grown g5 HS.out.ne
      have z9 := bZ.c 9 rfl
      have zf := bZ.f 9 (x := .slice va vn vc) rfl
      refine hK.out _ _ trivial (fun hHeld => ?_)
      clear hK K
      try simp only [Act.put, List.setIfInBounds_toArray, List.set_cons_zero, List.set_cons_succ]
      refine wpAnyH_take (i := 9) (v := ?_) rfl (by kernel_rfl) (by kernel_rfl) (by kernel_rfl) (fun _ _ _ h => h) (Or.inl ⟨by rfl, ?_⟩) (by assumption) ?_
      rotate_left
      · intro w hSw
        (try dsimp only at hSw)
        go_simp
        try rfl
      change wpAnyH _ _ _ _ _ _ _ (Act.put _ (some 13) _) _
      simp only [Act.put, List.setIfInBounds_toArray, List.set_cons_succ, List.set_cons_zero]
      refine wpAnyH_take (i := 10) (v := ?_) rfl (by kernel_rfl) (by kernel_rfl) (by kernel_rfl) (fun _ _ _ h => h) (Or.inl ⟨by rfl, ?_⟩) (by assumption) ?_
      rotate_left
      · intro w hSw
        (try dsimp only at hSw)
        go_simp
        try rfl
      change wpAnyH _ _ _ _ _ _ _ (Act.put _ (some 14) _) _
      simp only [Act.put, List.setIfInBounds_toArray, List.set_cons_succ, List.set_cons_zero]
      refine wpAnyH_ready (rs := [11]) (by kernel_rfl) (by simp) ?_
      refine AllReadyH.cons rfl (fun K hK => ?_) AllReadyH.nil
      go_simp
      refine hK.out _ _ trivial (fun hHeld => ?_)
      clear hK K
      try simp only [Act.put, List.setIfInBounds_toArray, List.set_cons_zero, List.set_cons_succ]
      refine wpAnyH_done (by kernel_rfl) ?_ _
      clear x93 x94 z9 zf
      go_end0
      exact ⟨rfl, .slice a5 n5 c5, (by simpa only [List.set_cons_zero, List.set_cons_succ] using bZ.set 9 (.slice a5 n5 c5)), ⟨o5.grown (grown_set w5 X 9 _) HS.out.x, (((Gr.of (grown_below O3 (some X)) (rowOf va)).trans (Gr.of (grown_alloc (World.grownBy.refl w3 (some X)) _) (rowOf va)) (.inl rfl)).trans (Gr.own g5 X) (.inl (own_slice _ _ _))).trans (Gr.of (grown_set w5 X 9 _) (rowOf va)) (.inl rfl), r5.imp (fun q => q.trans (own_slice _ _ _)) fun q k hk => Nat.le_trans (Nat.le_trans O3.size (by simp)) (q k hk)⟩⟩
end Go.Proofs.YtcmbajphholliabDoor
