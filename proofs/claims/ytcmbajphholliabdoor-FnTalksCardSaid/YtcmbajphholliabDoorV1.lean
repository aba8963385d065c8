/-
  Rows of messages that bear no prefix and no attribute; append on them. Conditions: those in each statement.
-/
import Derived.Test.YtcmbajphholliabDoorG2
import Derived.Test.YtcmbajphholliabDoorW2
import Derived.Test.YtcmbajphholliabDoorB3
import Derived.Test.YtcmbajphholliabDoorO1
import Derived.Maps.AppendAt
namespace Go.Proofs.YtcmbajphholliabDoor
open Go.ChangeShapes Go.WideShapes Go.ChangeAt Go.RowKit Go.BigFrame Go.Joins
set_option linter.unusedVariables false
set_option maxRecDepth 100000
set_option linter.unusedSimpArgs false

/-- a message without prefixes and attributes: kind, As, Hold, Id, Error -/
structure Bm where
  k : Int
  a : Int
  h : Int
  i : Int
  er : Int
def Bm.cells (m : Bm) : List Value := [.int .i64 m.k, .int .i64 m.a, .int .i64 m.h, .int .i64 m.i, .slice none 0 0, .slice none 0 0, .slice none 0 0, .int .i64 0, .slice none 0 0, .int .i64 0, .int .i64 m.er]
def flatM (l : List Bm) : List Value := l.flatMap Bm.cells
theorem flatM_len (l : List Bm) : (flatM l).length = l.length * 11 := by
  induction l with
  | nil => rfl
  | cons m l ih => simp [flatM, Bm.cells] at ih ⊢; omega
/-- a row of the call's own that holds the messages l -/
def OwnG (w : World) (base : Nat) (v : Value) (l : List Bm) : Prop := w.ownsRow base 38 11 v l.length (flatM l)
theorem OwnG.kept {w w' : World} {base : Nat} {v : Value} {l : List Bm} {row : Option Nat} (h : OwnG w base v l) (hg : w.grownBy w' row) (hne : v.ownBlock = none ∨ v.ownBlock ≠ row) : OwnG w' base v l := World.ownsRow.kept h hg hne
theorem OwnG.keep {w w' : World} {base : Nat} {v : Value} {l : List Bm} (h : OwnG w base v l) (hb : Below w.heap.size w w') : OwnG w' base v l :=
  World.ownsRow.kept (row := none) h ⟨hb.os, hb.tape, hb.output, hb.size, fun k hk _ => hb.block k hk⟩ (by cases v.ownBlock <;> simp)
theorem OwnG.mono {w : World} {base base' : Nat} {v : Value} {l : List Bm} (h : OwnG w base v l) (hb : base' ≤ base) : OwnG w base' v l := by
  refine ⟨h.1, ?_⟩
  rcases h.2 with hn | ⟨g, cap, cur, hv, hg, rest⟩
  · exact .inl hn
  · exact .inr ⟨g, cap, cur, hv, by omega, rest⟩
theorem grow_row {w w1 w2 : World} {R : Option Nat} {row : Option Nat} (h : w.grownBy w1 R) (g : w1.grownBy w2 row) (hr : ∀ k, row = some k → w.heap.size ≤ k) : w.grownBy w2 R :=
  ⟨g.os.trans h.os, g.tape.trans h.tape, g.output.trans h.output, Nat.le_trans h.size g.size, fun i hi hne => (g.block i (Nat.lt_of_lt_of_le hi h.size) (fun e => by have := hr i e.symm; omega)).trans (h.block i hi hne)⟩
theorem OwnG.far {w : World} {base : Nat} {v u : Value} {l : List Bm} {B o : Nat} (h : OwnG w base v l) (hB : B < base) : OwnG (w.setCell ⟨B, o, none⟩ u) base v l :=
  h.kept (grown_set w B o u) (by
    cases hv : v.ownBlock with
    | none => exact .inl rfl
    | some k => exact .inr (by have := (World.ownsRow.lt h k hv).1; intro e; cases e; omega))
theorem OwnG.cap {w : World} {base : Nat} {v : Value} {l : List Bm} (h : OwnG w base v l) : ∃ a c, v = .slice a l.length c ∧ l.length ≤ c := by
  rcases h.2 with ⟨hv, hn⟩ | ⟨g, cap, cur, hv, hb, hg, hnc, hcm, _⟩
  · exact ⟨none, 0, by rw [hv, hn], by omega⟩
  · exact ⟨_, cap, hv, hnc⟩
theorem OwnG.nil (w : World) (base : Nat) : OwnG w base (.slice none 0 0) [] := World.ownsRow_nil _ _ _ _
theorem infoG : (Tryd.prog.info? 38).map (fun i => (i.zero, i.size, i.bytes)) = some (some (.agg #[.int .i64 0, .int .i64 0, .int .i64 0, .int .i64 0, .slice none 0 0, .slice none 0 0, .slice none 0 0, .int .i64 0, .slice none 0 0, .int .i64 0, .int .i64 0]), 11, 152) := by kernel_rfl
/-- append(s, m): s is the call's own -/
theorem wp_appG {ops : Array Oper} {rest : List Oper} {o : Oper} {a : Act} {Q : Exit → Act → World → Prop} {w : World} (hgd : o.guard = none) (s x : Operand)
    (ho : o.op = .call { callee := .builtin .append, args := #[s, x], argTypes := #[44, 44] })
    (base g c : Nat) (v : Value) (l : List Bm) (m : Bm) (hs : a.eval s = v) (hx : a.eval x = .slice (some ⟨g, 0, none⟩) 1 c) (hown : OwnG w base v l)
    (h0 : Bl w g m.cells) (hlen : l.length + 1 ≤ 4294967296) (hbase : base ≤ w.heap.size)
    (h : ∀ v' w', OwnG w' base v' (l ++ [m]) → w.grownBy w' v.ownBlock → wpList Tryd.prog ops Q rest (a.put o.dst v') w') : wpList Tryd.prog ops Q (o :: rest) a w := by
  obtain ⟨i0, hi, hz0, hz1, hz2⟩ := info_parts infoG
  have hmap : flatM l ++ m.cells = flatM (l ++ [m]) := by simp [flatM]
  refine wpList_append_own w hgd s x 44 ho base 38 i0 (.agg #[.int .i64 0, .int .i64 0, .int .i64 0, .int .i64 0, .slice none 0 0, .slice none 0 0, .slice none 0 0, .int .i64 0, .slice none 0 0, .int .i64 0, .int .i64 0]) 11 152 Tryd.underlying44 hi hz0 hz1 hz2 rfl (by decide) v l.length (flatM l) hs hown ⟨g, 0, none⟩ 1 c m.cells hx (by simp [Bm.cells]) (fun j y hy => ?_) (by simp [Bm.cells, Value.oneCell']) (by unfold maxLen; omega) (by omega) hbase ?_
  · have hadd : ∀ j, (⟨g, 0, none⟩ : Addr).add j = ⟨g, j, none⟩ := fun j => by unfold Addr.add; split <;> simp_all
    rw [hadd]
    exact h0.c j hy
  · intro v' w' ho' hg' _
    refine h v' w' ?_ hg'
    unfold OwnG
    rw [List.length_append, ← hmap]
    exact ho'
theorem step_appG {ops : Array Oper} {o : Oper} {a : Act} {K : Act → World → Prop} {Q : Exit → Act → World → Prop} {E : Prop} {w : World} (hgd : o.guard = none) (s x : Operand)
    (ho : o.op = .call { callee := .builtin .append, args := #[s, x], argTypes := #[44, 44] })
    (base g c : Nat) (v : Value) (l : List Bm) (m : Bm) (hs : a.eval s = v) (hx : a.eval x = .slice (some ⟨g, 0, none⟩) 1 c) (hown : OwnG w base v l)
    (h0 : Bl w g m.cells) (hlen : l.length + 1 ≤ 4294967296) (hbase : base ≤ w.heap.size)
    (h : ∀ v' w', OwnG w' base v' (l ++ [m]) → w.grownBy w' v.ownBlock → (v'.ownBlock = v.ownBlock ∨ v'.ownBlock = some w.heap.size) → K (a.put o.dst v') w') : if Region.wanted o (yielded ops a.tmps) = true then Oper.wp Tryd.prog o a w K Q else E := by
  have hw : Region.wanted o (yielded ops a.tmps) = true := by simp [Region.wanted, hgd]
  rw [if_pos hw]
  obtain ⟨i0, hi, hz0, hz1, hz2⟩ := info_parts infoG
  have hmap : flatM l ++ m.cells = flatM (l ++ [m]) := by simp [flatM]
  obtain ⟨v', w', hr, h2, h3, -, h5⟩ := run_append_own_at (P := Tryd.prog) w base 44 o.type 38 i0 (.agg #[.int .i64 0, .int .i64 0, .int .i64 0, .int .i64 0, .slice none 0 0, .slice none 0 0, .slice none 0 0, .int .i64 0, .slice none 0 0, .int .i64 0, .int .i64 0]) 11 152 Tryd.underlying44 hi hz0 hz1 hz2 rfl (by decide) v l.length (flatM l) hown ⟨g, 0, none⟩ 1 c m.cells (by simp [Bm.cells]) (fun j y hy => by
    have hadd : ∀ j, (⟨g, 0, none⟩ : Addr).add j = ⟨g, j, none⟩ := fun j => by unfold Addr.add; split <;> simp_all
    rw [hadd]
    exact h0.c j hy) (by simp [Bm.cells, Value.oneCell']) (by unfold maxLen; omega) (by omega) hbase
  unfold Oper.wp execOp
  simp only [ho, resolve, invoke, builtin, Sem.run_bind, Sem.run_pure, Result.andThen_ok, List.map_toArray, List.map_cons, List.map_nil, hs, hx, hr]
  exact h v' w' (by unfold OwnG; rw [List.length_append, ← hmap]; exact h2) h3 h5
end Go.Proofs.YtcmbajphholliabDoor
