/-
  Lists of prefixes: contracts of the program's and the model's test that they are valid and ascending, of the program's comparison of two lists. Conditions: those in each contract.
-/
import Derived.Test.YtbmjicdnphfgaaaN1
import Derived.Test.YtbmjicdnphfgaaaI5
import Derived.Test.YtbmjicdnphfgaaaW3
namespace Go.Proofs.Ytbmjicdnphfgaaa
open Go.ChangeShapes Go.WideShapes Go.ChangeAt Go.RowKit Go.BigFrame
set_option linter.unusedVariables false
set_option maxRecDepth 100000
set_option linter.unusedSimpArgs false

def okAt (l : List (Int × Int)) (i : Nat) : Prop := pokB (l.getD i (0, 0)).1 (l.getD i (0, 0)).2 = true
def upAt (l : List (Int × Int)) (i : Nat) : Prop := cmp2 (l.getD i (0, 0)).1 (l.getD i (0, 0)).2 (l.getD (i + 1) (0, 0)).1 (l.getD (i + 1) (0, 0)).2 < 0
instance (l : List (Int × Int)) (i : Nat) : Decidable (okAt l i) := by unfold okAt; infer_instance
instance (l : List (Int × Int)) (i : Nat) : Decidable (upAt l i) := by unfold upAt; infer_instance
/-- valid and ascending -/
def pfxB (l : List (Int × Int)) : Bool := decide ((∀ i, i < l.length → okAt l i) ∧ ∀ i, i < l.length - 1 → upAt l i)
theorem pfxB_yes {l : List (Int × Int)} {n : Nat} (hn : n = l.length) (h : ∀ i, i < n → okAt l i) (h2 : ∀ i, i + 1 < n → upAt l i) : pfxB l = true := by
  subst hn
  simp only [pfxB, decide_eq_true_eq]
  exact ⟨h, fun i hi => h2 i (by omega)⟩
theorem pfxB_ok {l : List (Int × Int)} {k : Nat} {x y : Int} (hk : k < l.length) (hx : l.getD k (0, 0) = (x, y)) (h : pokB x y = false) : pfxB l = false := by
  simp only [pfxB, decide_eq_false_iff_not]
  rintro ⟨h1, -⟩
  have := h1 k hk
  unfold okAt at this
  rw [hx] at this
  rw [this] at h
  cases h
theorem pfxB_up {l : List (Int × Int)} {k : Nat} {a b x y : Int} (hk : k + 1 < l.length) (ha : l.getD k (0, 0) = (a, b)) (hx : l.getD (k + 1) (0, 0) = (x, y)) (h : ¬ cmp2 a b x y < 0) : pfxB l = false := by
  simp only [pfxB, decide_eq_false_iff_not]
  rintro ⟨-, h1⟩
  have := h1 k (by omega)
  unfold upAt at this
  rw [ha, hx] at this
  exact h this
theorem icmp_t {a n b m r : Int} (w : World) (h : Hid (pcmp a n b m = r)) : Calls Try.prog 80 #[.agg #[.int .i64 a, .int .i64 n], .agg #[.int .i64 b, .int .i64 m]] w fun e w' => e = .returned (.int .i64 r) ∧ Below w.heap.size w w' :=
  h.out ▸ icmp_any a n b m w
theorem scmp_t {a n b m r : Int} (w : World) (h : Hid (cmp2 a n b m = r)) : Calls Try.prog 77 #[.agg #[.int .i64 a, .int .i64 n], .agg #[.int .i64 b, .int .i64 m]] w fun e w' => e = .returned (.int .i64 r) ∧ Below w.heap.size w w' :=
  h.out ▸ scmp_l a n b m w
end Go.Proofs.Ytbmjicdnphfgaaa
