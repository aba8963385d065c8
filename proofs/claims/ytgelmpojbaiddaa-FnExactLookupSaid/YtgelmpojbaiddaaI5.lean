/-
  AttrOk of the model. Conditions: those in each contract.
-/
import Derived.Test.YtgelmpojbaiddaaI4
namespace Go.Proofs.Ytgelmpojbaiddaa
open Go.ChangeShapes Go.WideShapes Go.ChangeAt Go.RowKit Go.BigFrame Go.Joins
set_option linter.unusedVariables false
set_option maxRecDepth 100000

theorem nums_no {l : List Int} {k : Nat} {x : Int} (hk : k < l.length) (hx : l.getD k 0 = x) (h : asB x = false) : numsB l = false := by
  unfold numsB
  simp only [decide_eq_false_iff_not]
  intro g
  have := g k hk
  rw [hx, h] at this
  cases this
theorem nums_yes {l : List Int} {n : Nat} (hn : n = l.length) (h : ∀ i, i < n → asB (l.getD i 0) = true) : numsB l = true := by
  unfold numsB
  simp only [decide_eq_true_eq]
  intro i hi
  exact h i (by omega)
theorem asc_no {l : List Int} {k : Nat} {x y : Int} (hk : k + 1 < l.length) (hx : l.getD k 0 = x) (hy : l.getD (k + 1) 0 = y) (h : ¬ x < y) : ascB l = false := by
  unfold ascB
  simp only [decide_eq_false_iff_not]
  intro g
  have := g k (by omega)
  rw [hx, hy] at this
  exact h this
theorem asc_yes {l : List Int} {n : Nat} (hn : n = l.length) (h : ∀ i, i + 1 < n → l.getD i 0 < l.getD (i + 1) 0) : ascB l = true := by
  unfold ascB
  simp only [decide_eq_true_eq]
  intro i hi
  exact h i (by omega)
theorem all_succ {l : List Int} {k : Nat} {x : Int} (h : ∀ i, i < k → asB (l.getD i 0) = true) (hx : l.getD k 0 = x) (hs : asB x = true) : ∀ i, i < k + 1 → asB (l.getD i 0) = true := by
  intro i hi
  by_cases e : i = k
  · rw [e, hx]; exact hs
  · exact h i (by omega)
theorem aok_eq {p c : List Int} {pr bw : Int} (h1 : p.length ≤ 8) (h2 : c.length ≤ 4) (h3 : 0 ≤ pr) (h4 : pr ≤ 1000) (h5 : 0 ≤ bw) (h6 : bw ≤ 1000) : aokB p pr c bw = (numsB p && (numsB c && ascB c)) := by
  simp [aokB, inB, h1, h2, h3, h4, h5, h6, Bool.and_assoc]

end Go.Proofs.Ytgelmpojbaiddaa
