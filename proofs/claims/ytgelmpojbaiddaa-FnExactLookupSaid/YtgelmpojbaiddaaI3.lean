/-
  Validity of attributes, of the program and of the model. Conditions: those in each contract.
-/
import Derived.Test.YtgelmpojbaiddaaI2
namespace Go.Proofs.Ytgelmpojbaiddaa
open Go.ChangeShapes Go.WideShapes Go.ChangeAt Go.RowKit Go.BigFrame Go.Joins
set_option linter.unusedVariables false
set_option maxRecDepth 100000

/-- a slice of ints: its length, and its elements where there are any -/
theorem RdI.el {w : World} {v : Value} {l : List Int} (h : RdI w v l) : ∃ a c, v = .slice a l.length c ∧ ∀ i, i < l.length → ∃ b o, a = some ⟨b, o, none⟩ ∧ w.cell? ⟨b, o + i, none⟩ = some (.int .i64 (l.getD i 0)) := by
  rcases h.2.2 with ⟨a, c, rfl, rfl, hac⟩ | ⟨b, o, c, rfl, hp, hc⟩
  · exact ⟨a, c, rfl, fun i hi => by simp at hi⟩
  · exact ⟨_, c, rfl, fun i hi => ⟨b, o, rfl, hc i hi⟩⟩
def inB (n lo hi : Int) : Bool := decide (lo ≤ n ∧ n ≤ hi)
def asB (n : Int) : Bool := inB n 1 65535
def numsB (l : List Int) : Bool := decide (∀ i, i < l.length → asB (l.getD i 0) = true)
def ascB (l : List Int) : Bool := decide (∀ i, i < l.length - 1 → l.getD i 0 < l.getD (i + 1) 0)
def aokB (p : List Int) (pr : Int) (c : List Int) (bw : Int) : Bool :=
  decide (p.length ≤ 8) && numsB p && inB pr 0 1000 && inB bw 0 1000 && (decide (c.length ≤ 4) && numsB c) && ascB c

theorem within_any (n lo hi : Int) (w : World) : Calls Try.prog 53 #[.int .i64 n, .int .i64 lo, .int .i64 hi] w fun e w' => e = .returned (.bool (inB n lo hi)) ∧ w = w' := by
  by_cases h0 : lo ≤ n
  all_goals
    go_enter Try.func53, Try.ntmps53
    go_wp2
    go_ret
    exact ⟨ret_bool (by unfold inB; first | (congr 1; simp; omega) | (simp; omega)), rfl⟩
end Go.Proofs.Ytgelmpojbaiddaa
