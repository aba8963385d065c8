/-
  What is drawn for the laws on encodings: bytes. Conditions: those in each contract.
-/
import Derived.Test.YtichmbbpjkikaaaDoorD3
import Derived.Test.YtichmbbpjkikaaaDoorT3
import Derived.Test.YtichmbbpjkikaaaDoorW7
namespace Go.Proofs.YtichmbbpjkikaaaDoor
open Go.ChangeShapes Go.WideShapes Go.ChangeAt Go.RowKit Go.BigFrame
set_option linter.unusedVariables false
set_option maxRecDepth 100000
set_option linter.unusedSimpArgs false

/-- another row than the cursor's has turned -/
theorem Cur.far {V w w1 : World} {g : Nat} {v : Value} {l : List Int} {row : Option Nat} (h : Cur V w g v l) (hg : w.grownBy w1 row) (hne : some g ≠ row) (hV : ∀ k, row = some k → V.heap.size ≤ k) : Cur V w1 g v l := by
  have e (i : Nat) : w1.cell? ⟨g, i, none⟩ = w.cell? ⟨g, i, none⟩ := hg.cell_far _ h.lt hne
  have f (i : Nat) : w1.frozen? ⟨g, i, none⟩ = w.frozen? ⟨g, i, none⟩ := hg.frozen_far _ h.lt hne
  obtain ⟨i, hi, c1⟩ := h.c1
  obtain ⟨q, c2⟩ := h.c2
  exact ⟨h.rd, h.over.grown hg h.over.size hV, h.hg, Nat.lt_of_lt_of_le h.lt hg.size, h.len, (e 0).trans h.c0, ⟨i, hi, (e 1).trans c1⟩, ⟨q, (e 2).trans c2⟩, (f 1).trans h.f1, (f 2).trans h.f2⟩
/-- old blocks but the cursor's are as they were, though a newer row has turned -/
theorem grown_new {a w w1 : World} {g : Nat} {row : Option Nat} (h : a.grownBy w (some g)) (hg : w.grownBy w1 row) (hn : ∀ k, row = some k → a.heap.size ≤ k) : a.grownBy w1 (some g) :=
  ⟨hg.os.trans h.os, hg.tape.trans h.tape, hg.output.trans h.output, Nat.le_trans h.size hg.size, fun k hk hne => (hg.block k (Nat.lt_of_lt_of_le hk h.size) (fun e => by have := hn k e.symm; omega)).trans (h.block k hk hne)⟩
theorem sepG {w w' : World} {g : Nat} {u : Value} {xs : List Int} (h : Own w' w.heap.size u xs) (hg : g < w.heap.size) : u.ownBlock = none ∨ u.ownBlock ≠ some g := by
  cases hv : u.ownBlock with
  | none => exact .inl rfl
  | some k => exact .inr (by have := (World.ownsRow.lt h k hv).1; intro e; cases e; omega)
/-- fresh bytes out of the cursor, at most n of them -/
def CurS (V : World) (g : Nat) (v : Value) (l : List Int) (n : Nat) (w : World) (e : Ending) (w' : World) : Prop :=
  ∃ u xs, e = .returned u ∧ Own w' w.heap.size u xs ∧ (∀ x ∈ xs, 0 ≤ x ∧ x ≤ 255) ∧ xs.length ≤ n ∧ Cur V w' g v l ∧ w.grownBy w' (some g)
theorem some_any (V : World) (g : Nat) (v : Value) (l : List Int) (m : Nat) (w : World) (h : Cur V w g v l) (hm : m ≤ 100) :
    Calls Tryd.prog 57 #[.pointer (some ⟨g, 0, none⟩), .int .i64 m] w (CurS V g v l m w) := by
  have hmw : wrap64 ((m : Int) + 1) = (m : Int) + 1 := by unfold Go.RowKit.wrap64; omega
  go_enter Tryd.func57, Tryd.ntmps57
  go_wp2_with fail
  refine (below_any V g v l ((m : Int) + 1) _ h (by omega) (by omega)).mono ?_
  rintro e w1 ⟨x, rfl, ⟨hx0, hx1⟩, cu1, hg1⟩
  obtain ⟨n, rfl⟩ := Int.eq_ofNat_of_zero_le hx0
  have hn : n ≤ m := by omega
  clear hx1 hx0 hmw
  have hlt := h.lt
  go_wp2
  go_loopw [5, 7] (fun bv i wr => ∃ (k : Nat) (xs : List Int), i = .int .i64 (k : Int) ∧ k ≤ n ∧ xs.length ≤ k ∧ Own wr w.heap.size bv xs ∧ (∀ x ∈ xs, 0 ≤ x ∧ x ≤ 255) ∧ Cur V wr g v l ∧ w.grownBy wr (some g)) (fun _ i _ => n - (intOf i).toNat)
  case atStart => exact ⟨0, [], rfl, Nat.zero_le _, Nat.le_refl _, World.ownsRow_nil _ _ _ _, by simp, cu1, hg1⟩
  case round =>
    obtain ⟨k, xs, rfl, hk, hxl, own, hxb, cu, hgr⟩ := hrel
    by_cases hlt2 : k < n
    · have hltI : (k : Int) < (n : Int) := by omega
      have hh := h.over.size
      go_wp2_with (first
        | (go_at_call 83; refine (byte_any V g v l _ cu).mono ?_; rintro e w2 ⟨y, rfl, ⟨hy0, hy1⟩, cu2, hg2⟩; have hu : IntKind.u8.wrap y = y := (by rw [IntKind.wrap_u8]; omega))
        | (at_builtin; refine wp_app rfl (.tmp 17) (.tmp 21) rfl w.heap.size _ _ xs [y] rfl rfl ((own.kept hg2 (sepG own hlt)).alloc _) (rd_lit1 _ y ⟨hy0, hy1⟩) ?c1 ?c2 ?c3))
      case c1 => simp; omega
      case c2 => have := hgr.size; have := hg2.size; simp; omega
      case c3 =>
        intro v3 w3 own3 hg3
        have s2 := own.kept hg2 (sepG own hlt)
        have hr : ∀ k, (_ : Value).ownBlock = some k → w.heap.size ≤ k := fun k hk => (World.ownsRow.lt s2 k hk).1
        have cu3 := (cu2.alloc (.cells #[.int .u8 y] BT)).far hg3 (fun e => by have := hr g e.symm; omega) (fun k hk => Nat.le_trans hh (hr k hk))
        have gr3 := grown_new (grown_alloc (grown_trans hgr hg2) (.cells #[.int .u8 y] BT)) hg3 hr
        go_wp2
        go_roundw
        case rel => exact ⟨k + 1, xs ++ [y], by simp, by omega, by simp; omega, own3, fun z hz => by rcases List.mem_append.1 hz with q | q; exact hxb z q; simp at q; omega, cu3, gr3⟩
        case measure => simp [intOf]; omega
    · have hltI : ¬ (k : Int) < (n : Int) := by omega
      go_wp2
      go_ret
      exact ⟨_, xs, rfl, own, hxb, by omega, cu, hgr⟩
end Go.Proofs.YtichmbbpjkikaaaDoor
