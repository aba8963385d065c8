/-
  Words for the law on Delta. Conditions: those in each contract.
-/
import Derived.Test.YtbcmoofpgffbhaaDD
namespace Go.Proofs.Ytbcmoofpgffbhaa
open Go.ChangeShapes Go.WideShapes Go.ChangeAt Go.RowKit Go.BigFrame Go.Joins
set_option linter.unusedVariables false
set_option maxRecDepth 100000
set_option linter.unusedSimpArgs false
set_option maxRecDepth 100000

theorem came_cnt (L M : List Grp) (h : M.length + wtG M ≤ 1048576) : cntYS (dCame L M) ≤ 12000000 := by
  have hf : ∀ (f : Grp → Bool) (N : List Grp), cntYS (N.filter f) ≤ cntYS N := fun f N => by
    induction N with
    | nil => simp
    | cons x N ih =>
      have e : cntYS (x :: N) = cntY x + cntYS N := by simp [cntYS]
      rw [List.filter_cons]
      split
      · have e2 : cntYS (x :: N.filter f) = cntY x + cntYS (N.filter f) := by simp [cntYS]
        rw [e, e2]; omega
      · rw [e]; omega
  have h1 := cntY_le M
  unfold dCame
  split
  · have := hf (fun x => !(L.any fun y => sameG x y)) M
    unfold cameL
    omega
  · simp [cntYS]
theorem gone_cnt (L M : List Grp) (h : L.length + wtG L ≤ 1048576) : cntP (dGone L M) ≤ 12000000 := by
  unfold dGone cntP
  split
  · have := List.length_filter_le (fun p : Int × Int => !((M.map pxG).any fun q => sameQ p q)) (L.map pxG)
    rw [List.length_map] at this
    unfold goneL
    omega
  · simp
end Go.Proofs.Ytbcmoofpgffbhaa
