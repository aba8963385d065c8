/-
  What a step of a session answers. No condition.
-/
import Derived.Test.YtcmbajphholliabDoorV1
namespace Go.Proofs.YtcmbajphholliabDoor
open Go.ChangeShapes Go.WideShapes Go.ChangeAt Go.RowKit Go.BigFrame Go.Joins
set_option linter.unusedVariables false
set_option maxRecDepth 100000
set_option linter.unusedSimpArgs false

/-- a step: State, Hold, Heard, Keep, Peer behind it, and what is sent -/
structure St where
  a : Int
  b : Int
  c : Int
  d : Int
  e : Int
  l : List Bm
def fallF (s0 c : Int) : St := if 2 ≤ s0 then ⟨0, 0, 0, 0, 0, [⟨3, 0, 0, 0, c⟩]⟩ else ⟨0, 0, 0, 0, 0, []⟩
def stepF (xa xi xh s0 s1 s2 s3 s4 ek ee kn sa ho : Int) (acc : Bool) : St :=
  if ek = 0 then (if s0 = 0 then ⟨1, s1, s2, s3, s4, []⟩ else ⟨s0, s1, s2, s3, s4, []⟩)
  else if ek = 1 then fallF s0 6
  else if ek = 2 then (if s0 = 1 then ⟨2, xh, 0, 0, 0, [⟨1, xa, xh, xi, 0⟩]⟩ else ⟨s0, s1, s2, s3, s4, []⟩)
  else if ek = 3 then ⟨0, 0, 0, 0, 0, []⟩
  else if ek = 4 then
    (if ¬ 2 ≤ s0 then ⟨s0, s1, s2, s3, s4, []⟩
    else if kn = 3 then ⟨0, 0, 0, 0, 0, []⟩
    else if s0 = 2 then
      (if ¬ kn = 1 then fallF s0 5 else if acc = false then fallF s0 2
      else if xh ≤ ho then ⟨3, xh, 0, xh / 3, sa, [⟨4, 0, 0, 0, 0⟩]⟩ else ⟨3, ho, 0, ho / 3, sa, [⟨4, 0, 0, 0, 0⟩]⟩)
    else if s0 = 3 then (if ¬ kn = 4 then fallF s0 5 else ⟨4, s1, 0, s3, s4, []⟩)
    else if kn = 1 then fallF s0 5 else ⟨s0, s1, 0, s3, s4, []⟩)
  else if ek = 5 then
    (if ¬ 2 ≤ s0 then ⟨s0, s1, s2, s3, s4, []⟩
    else if s2 + 1 = s1 then fallF s0 4
    else if s0 = 2 then ⟨s0, s1, s2 + 1, s3, s4, []⟩
    else if s3 - 1 = 0 then ⟨s0, s1, s2 + 1, s1 / 3, s4, [⟨4, 0, 0, 0, 0⟩]⟩ else ⟨s0, s1, s2 + 1, s3 - 1, s4, []⟩)
  else fallF s0 ee
/-- what a step answers -/
def StR (R : St) (w : World) (e : Ending) (w' : World) : Prop := ∃ v, e = .returned (.tuple #[.agg #[.int .i64 R.a, .int .i64 R.b, .int .i64 R.c, .int .i64 R.d, .int .i64 R.e], v]) ∧ OwnG w' w.heap.size v R.l ∧ Below w.heap.size w w'
theorem OwnG.lit (w : World) (m : Bm) (base : Nat) (hb : base ≤ w.heap.size) : OwnG (w.alloc (.cells m.cells.toArray 38)) base (.slice (some ⟨w.heap.size, 0, none⟩) 1 1) [m] := by
  have h := World.ownsRow_lit (base := base) (e := 38) (size := 11) w m.cells.toArray 1 hb (by simp [maxLen]) (by simp [Bm.cells])
  unfold OwnG
  simpa [flatM] using h
end Go.Proofs.YtcmbajphholliabDoor
