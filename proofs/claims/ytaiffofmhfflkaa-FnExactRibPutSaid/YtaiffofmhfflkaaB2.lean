/-
  Bytes appended to a slice that the call made; bytes.Clone. Conditions: those in each statement.
-/
import Derived.Test.YtaiffofmhfflkaaO2
import Derived.Laws.AppendOwnNone
namespace Go.Proofs.Ytaiffofmhfflkaa
open Go.ChangeShapes Go.WideShapes Go.ChangeAt Go.RowKit Go.BigFrame
set_option linter.unusedVariables false
set_option maxRecDepth 100000

/-- one byte more -/
theorem rd_lit1 (w : World) (z : Int) (h : 0 ≤ z ∧ z ≤ 255) : Rd (w.alloc (.cells #[.int .u8 z] BT)) (.slice (some ⟨w.heap.size, 0, none⟩) 1 1) [z] :=
  ⟨by simpa using h, by simp [maxLen], .inr ⟨w.heap.size, 0, 1, rfl, by simp, fun i hi => by
    have : i = 0 := by simp at hi; omega
    subst this; simp⟩⟩
theorem own_empty (w : World) (base : Nat) (hb : base ≤ w.heap.size) : Own (w.alloc (.cells #[] BT)) base (.slice (some ⟨w.heap.size, 0, none⟩) 0 0) [] :=
  Own.lit w #[] [] hb (by simp) (by simp)
theorem own_empty_at (w : World) (base g : Nat) (hg : g = w.heap.size) (hb : base ≤ g) : Own (w.alloc (.cells #[] BT)) base (.slice (some ⟨g, 0, none⟩) 0 0) [] := by
  subst hg; exact own_empty w base hb
theorem over_grown {V w w' : World} {v : Value} {l : List Int} {base : Nat} (h : Over V w) (ho : Own w base v l) (hb : V.heap.size ≤ base) (hg : w.grownBy w' v.ownBlock) : Over V w' :=
  Below.grown h hg h.size (fun k hk => Nat.le_trans hb (World.ownsRow.lt ho k hk).1)

end Go.Proofs.Ytaiffofmhfflkaa
