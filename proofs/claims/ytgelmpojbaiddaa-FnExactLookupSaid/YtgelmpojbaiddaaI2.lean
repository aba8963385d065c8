/-
  Attributes: what an argument that is one reads as; contracts of the laws' own functions that size, copy, compare, mark and ask them. Conditions: those in each contract.
-/
import Derived.Test.YtgelmpojbaiddaaI1
import Derived.Test.YtgelmpojbaiddaaG1
namespace Go.Proofs.Ytgelmpojbaiddaa
open Go.ChangeShapes Go.WideShapes Go.ChangeAt Go.RowKit Go.BigFrame Go.Joins
set_option linter.unusedVariables false
set_option maxRecDepth 100000

def I64 (x : Int) : Prop := -9223372036854775808 ≤ x ∧ x ≤ 9223372036854775807
def Is_Attr (W : World) (v : Value) : Prop := ∃ (pv cv : Value) (p c : List Int) (pr bw : Int), v = .agg #[pv, .int .i64 pr, cv, .int .i64 bw] ∧ RdI W pv p ∧ RdI W cv c ∧ I64 pr ∧ I64 bw

section
variable {H : Type} {enc : TypeId × Value → H} {W : World} {base : Nat} {d : DataW H} {p : List MemPlace} {v : Value}
theorem rdI_trod {fuel : Nat} {y : DataW H × List MemPlace} (h : DataW.trod enc Try.prog W 0 (fun _ => true) true fuel 47 [v] = some y) : ∃ l, RdI W v l := by
  rcases open_ints Try.underlying47 Try.underlying3 (by kernel_rfl) h with ⟨hcs, _⟩ | ⟨x, len, cap, zs, hcs, _, hl, hm, hz, _, hc, hwf⟩
  · simp at hcs
    subst hcs
    exact ⟨[], by simp, by simp, .inl ⟨none, 0, rfl, rfl, fun _ => rfl⟩⟩
  · simp at hcs
    subst hcs
    simp at hz
    have hlen : (zs.take len).length = len := by simp; omega
    refine ⟨zs.take len, fun y hy => bounds_i64 (hwf y (List.mem_of_mem_take hy)), by omega, ?_⟩
    by_cases h0 : len = 0
    · subst h0
      exact .inl ⟨some x, cap, by simp, by simp, fun h => by cases h⟩
    · obtain ⟨b, off, spot⟩ := x
      have hspot : spot = none := by
        have h1 := hc 0 (by omega)
        simpa [Addr.add] using World.cell?_spot h1
      subst hspot
      refine .inr ⟨b, off, cap, by rw [hlen], by omega, fun i hi => ?_⟩
      rw [hlen] at hi
      have h1 := hc i (by omega)
      have e1 : (zs.take len).getD i 0 = zs.getD i 0 := by simp [List.getD, hi]
      rw [e1]
      have hadd : (⟨b, off, none⟩ : Addr).add i = ⟨b, off + i, none⟩ := by unfold Addr.add; split <;> simp_all
      rw [hadd] at h1
      exact h1
end

/-- the cells of a struct of four fields in a new block -/
theorem box4 (w : World) (u0 u1 u2 u3 : Value) (T : TypeId) : (w.alloc (.cells #[u0, u1, u2, u3] T)).cell? ⟨w.heap.size, 0, none⟩ = some u0 ∧ (w.alloc (.cells #[u0, u1, u2, u3] T)).cell? ⟨w.heap.size, 1, none⟩ = some u1 ∧ (w.alloc (.cells #[u0, u1, u2, u3] T)).cell? ⟨w.heap.size, 2, none⟩ = some u2 ∧ (w.alloc (.cells #[u0, u1, u2, u3] T)).cell? ⟨w.heap.size, 3, none⟩ = some u3 ∧ w.heap.size < (w.alloc (.cells #[u0, u1, u2, u3] T)).heap.size ∧ Below w.heap.size w (w.alloc (.cells #[u0, u1, u2, u3] T)) :=
  ⟨by simp, by simp, by simp, by simp, by simp, (Below.refl _ _).alloc (Nat.le_refl _) _⟩
theorem RdI.alloc {w : World} {v : Value} {l : List Int} (h : RdI w v l) (o : Obj) : RdI (w.alloc o) v l := h.keep ((Below.refl _ _).alloc (Nat.le_refl _) _)
theorem rdI_over {V w : World} {v : Value} {l : List Int} (h : RdI V v l) (o : Over V w) : RdI w v l := h.keep o
theorem OwnI.alloc {w : World} {base : Nat} {v : Value} {l : List Int} (h : OwnI w base v l) (o : Obj) : OwnI (w.alloc o) base v l := h.keep ((Below.refl _ _).alloc (Nat.le_refl _) _)
theorem OwnI.kept {w w' : World} {base : Nat} {v : Value} {l : List Int} {row : Option Nat} (h : OwnI w base v l) (hg : w.grownBy w' row) (hne : v.ownBlock = none ∨ v.ownBlock ≠ row) : OwnI w' base v l := World.ownsRow.kept h hg hne
/-- two rows apart -/
def Apart (v u : Value) : Prop := (v.ownBlock = none ∨ v.ownBlock ≠ u.ownBlock) ∧ (u.ownBlock = none ∨ u.ownBlock ≠ v.ownBlock)
theorem Apart.symm {v u : Value} (h : Apart v u) : Apart u v := ⟨h.2, h.1⟩
theorem apartI {w w' : World} {b1 b2 : Nat} {v u : Value} {l m : List Int} (h1 : OwnI w b1 v l) (h2 : OwnI w' b2 u m) (h : w.heap.size ≤ b2) : Apart v u := by
  have a : v.ownBlock = none ∨ v.ownBlock ≠ u.ownBlock := by
    cases hv : v.ownBlock with
    | none => exact .inl rfl
    | some k =>
      refine .inr (fun e => ?_)
      have a1 := (World.ownsRow.lt h1 k hv).2
      have a2 := (World.ownsRow.lt h2 k e.symm).1
      omega
  refine ⟨a, ?_⟩
  rcases a with h0 | h0
  · cases hu : u.ownBlock with
    | none => exact .inl rfl
    | some k => exact .inr (by rw [h0]; simp)
  · exact .inr (Ne.symm h0)
theorem over_grownI {V w w' : World} {v : Value} {l : List Int} {base : Nat} (h : Over V w) (ho : OwnI w base v l) (hb : V.heap.size ≤ base) (hg : w.grownBy w' v.ownBlock) : Over V w' :=
  Below.grown h hg h.size (fun k hk => Nat.le_trans hb (World.ownsRow.lt ho k hk).1)
/-- a fresh copy -/
def NewI (w : World) (l : List Int) (e : Ending) (w' : World) : Prop := ∃ a c, e = .returned (.slice a l.length c) ∧ OwnI w' w.heap.size (.slice a l.length c) l ∧ Below w.heap.size w w'
theorem OwnI.len {w : World} {base : Nat} {v : Value} {l : List Int} (h : OwnI w base v l) : ∃ a c, v = .slice a l.length c := by
  unfold OwnI at h
  rcases h.2 with ⟨rfl, hn⟩ | ⟨g, cap, cur, rfl, hb, hg, hnc, hcm, hcs, htake⟩
  · exact ⟨none, 0, by rw [hn]⟩
  · exact ⟨_, cap, rfl⟩
theorem toI_new (v : Value) (l : List Int) (w : World) (h : RdI w v l) (hn : l.length ≤ 1048576) : Calls Try.prog 21 #[v] w (NewI w l) :=
  (toB_any_I v l w h hn).mono fun _ _ ⟨he, ho, hb⟩ => ⟨_, _, he, ho, hb⟩
theorem eqI_same (v u : Value) (l : List Int) (w : World) (h1 : RdI w v l) (h2 : RdI w u l) :
    Calls Try.prog 23 #[v, u] w fun e w' => e = .returned (.bool true) ∧ Below w.heap.size w w' :=
  (eqB_any_I v u l l w h1 h2).mono fun _ _ ⟨he, hb⟩ => ⟨by rw [he]; simp, hb⟩

/-- how much room is left -/
def szN (left n : Int) : Int := if left < n then -1 else left - n
theorem szN_lt {left n : Int} (h : left < n) : szN left n = -1 := by simp [szN, h]
theorem szN_ge {left n : Int} (h : ¬ left < n) : szN left n = left - n := by simp [szN, h]
/-- the size of an attribute -/
def szA (left : Int) (p c : List Int) : Int := if left < p.length then -1 else szN (left - p.length) c.length
theorem szA_p {p c : List Int} (h : ¬ szA 1048576 p c < 0) : p.length ≤ 1048576 := by
  unfold szA at h
  split at h
  · exact absurd (by decide) h
  · omega
theorem szA_c {p c : List Int} (h : ¬ szA 1048576 p c < 0) : c.length ≤ 1048576 := by
  unfold szA szN at h
  split at h
  · exact absurd (by decide) h
  · split at h
    · exact absurd (by decide) h
    · omega
/-- a fresh attribute: two rows of its own, apart -/
def NewA (w : World) (p : List Int) (pr : Int) (c : List Int) (bw : Int) (e : Ending) (w' : World) : Prop :=
  ∃ a d b f, e = .returned (.agg #[.slice a p.length d, .int .i64 pr, .slice b c.length f, .int .i64 bw]) ∧ OwnI w' w.heap.size (.slice a p.length d) p ∧ OwnI w' w.heap.size (.slice b c.length f) c ∧ Apart (.slice a p.length d) (.slice b c.length f) ∧ Below w.heap.size w w'
theorem OwnI.far {w : World} {base : Nat} {v u : Value} {l : List Int} {B o : Nat} (h : OwnI w base v l) (hB : B < base) : OwnI (w.setCell ⟨B, o, none⟩ u) base v l :=
  h.kept (grown_set w B o u) (by
    cases hv : v.ownBlock with
    | none => exact .inl rfl
    | some k => exact .inr (by have := (World.ownsRow.lt h k hv).1; intro e; cases e; omega))
end Go.Proofs.Ytgelmpojbaiddaa
