/-
  Small words for the law on SessStep. No condition beside those in each statement.
-/
import Derived.Test.YtaffcicgljoajaaGreatDoorS22
import Derived.Test.YtaffcicgljoajaaGreatDoorS24
import Derived.Deep.Cut
import Derived.Deep.CutRange
namespace Go.Proofs.YtaffcicgljoajaaGreatDoor
open Go.ChangeShapes Go.WideShapes Go.ChangeAt Go.RowKit Go.BigFrame Go.Joins
set_option linter.unusedVariables false
set_option maxRecDepth 100000
set_option linter.unusedSimpArgs false

def OneM (R : St) : Prop := R.l = [] ∨ ∃ m, R.l = [m]
theorem oneM_ite {c : Prop} [Decidable c] {a b : St} (ha : OneM a) (hb : OneM b) : OneM (if c then a else b) := by
  split
  · exact ha
  · exact hb
theorem ssF_l (xa xi xh xp s0 s1 s2 s3 s4 : Int) (ga ca pa ma : Option Addr) (gx cx px mx : Nat) (gs cs : List (Int × Int)) (ps ms : List Int) (ek ee kn sa ho ix pr bw er : Int) : OneM (ssF xa xi xh xp s0 s1 s2 s3 s4 gs cs ps ms ek ee kn sa ho ix pr bw er) := by
  unfold ssF stepF fallF
  repeat' (first | exact .inl rfl | exact .inr ⟨_, rfl⟩ | apply oneM_ite)
theorem mid_set5 (w : World) (B : Nat) (y0 y1 y2 y3 y4 : Value) : Mid B (B + 1) w (((((w.setCell ⟨B, 0, none⟩ (y0)).setCell ⟨B, 1, none⟩ (y1)).setCell ⟨B, 2, none⟩ (y2)).setCell ⟨B, 3, none⟩ (y3)).setCell ⟨B, 4, none⟩ (y4)) :=
  ((((Mid.set (o := 0) y0).trans (Mid.set (o := 1) y1)).trans (Mid.set (o := 2) y2)).trans (Mid.set (o := 3) y3)).trans (Mid.set (o := 4) y4)
/-- what a region leaves that keeps a step's answer: the session in a block of its own, the messages in a row -/
def Kept (V wx : World) (R : St) (p u : Value) : Prop :=
  ∃ B lo hi, p = .pointer (some ⟨B, 0, none⟩) ∧ Over V wx ∧ Bl wx B [.int .i64 R.a, .int .i64 R.b, .int .i64 R.c, .int .i64 R.d, .int .i64 R.e] ∧ GM wx lo hi u R.l ∧ V.heap.size ≤ B ∧ V.heap.size ≤ lo ∧ hi ≤ wx.heap.size ∧ (hi ≤ B ∨ B + 1 ≤ lo)
end Go.Proofs.YtaffcicgljoajaaGreatDoor
