/-
  Better and Equal, of the program and of the model. Conditions: those in each contract.
-/
import Derived.Test.YtaiffofmhfflkaaGreatI9
namespace Go.Proofs.YtaiffofmhfflkaaGreat
open Go.ChangeShapes Go.WideShapes Go.ChangeAt Go.RowKit Go.BigFrame Go.Joins
set_option linter.unusedVariables false
set_option maxRecDepth 100000

theorem szA_le (p c : List Int) (h : ¬ szA 1048576 p c < 0) : szA 1048576 p c ≤ 1048576 := by
  unfold szA szN at *
  split at h
  · exact absurd (by decide) h
  · split at h
    · exact absurd (by decide) h
    · rename_i h1 h2
      simp only [h1, h2, if_false]
      omega
theorem szA_p2 {t : Int} {p c : List Int} (ht : t ≤ 1048576) (h : ¬ szA t p c < 0) : p.length ≤ 1048576 := by
  unfold szA at h
  split at h
  · exact absurd (by decide) h
  · omega
theorem szA_c2 {t : Int} {p c : List Int} (ht : t ≤ 1048576) (h : ¬ szA t p c < 0) : c.length ≤ 1048576 := by
  unfold szA szN at h
  split at h
  · exact absurd (by decide) h
  · split at h
    · exact absurd (by decide) h
    · omega
end Go.Proofs.YtaiffofmhfflkaaGreat
