/-
  Messages: what makes one valid, and the contract of the model's test. Conditions: those in each contract.
-/
import Derived.Test.YtcmbajphholliabDoorN4
import Derived.Test.YtcmbajphholliabDoorN2
namespace Go.Proofs.YtcmbajphholliabDoor
open Go.ChangeShapes Go.WideShapes Go.ChangeAt Go.RowKit Go.BigFrame
set_option linter.unusedVariables false
set_option maxRecDepth 100000
set_option linter.unusedSimpArgs false

/-- no attribute -/
def zA (ps ms : List Int) (pr bw : Int) : Bool := decide (pr = 0 ∧ bw = 0 ∧ ps.length + ms.length = 0)
def pokL (l : List (Int × Int)) : Bool := decide ((l.length : Int) ≤ 8) && pfxB l
/-- the message is valid -/
def mokB (gs cs : List (Int × Int)) (ps ms : List Int) (kn sa ho ix pr bw er : Int) : Bool :=
  if kn < 1 then false else if 4 < kn then false else if pokL gs = false then false else if pokL cs = false then false else
  if kn = 1 then
    if sa = 0 then false else if asB sa = false then false else if ho < 3 then false else if 255 < ho then false else if ix < 1 then false else if 255 < ix then false else
    if 0 < (gs.length : Int) + cs.length then false else if zA ps ms pr bw = false then false else decide (er = 0)
  else
    if ¬ sa = 0 then false else if ¬ ho = 0 then false else if ¬ ix = 0 then false else
    if kn = 2 then
      if cs.length = 0 then (if zA ps ms pr bw = false then false else decide (er = 0))
      else if aokB ps pr ms bw = false then false else if ps.length = 0 then false else decide (er = 0)
    else
      if 0 < (gs.length : Int) + cs.length then false else if zA ps ms pr bw = false then false else
      if kn = 3 then decide (1 ≤ er ∧ er ≤ 6) else decide (er = 0)
theorem pokL_le {l : List (Int × Int)} (h : pokL l = true) : l.length ≤ 8 := by
  unfold pokL at h
  simp at h
  omega
theorem saok_t {pv cv : Value} {p c : List Int} {pr bw : Int} {b : Bool} (w : World) (hp : RdI w pv p) (hc : RdI w cv c) (H : Hid (aokB p pr c bw = b)) :
    Calls Tryd.prog 17 #[.agg #[pv, .int .i64 pr, cv, .int .i64 bw]] w fun e w' => e = .returned (.bool b) ∧ Below w.heap.size w w' := H.out ▸ saok_any pv cv p c pr bw w hp hc
end Go.Proofs.YtcmbajphholliabDoor
