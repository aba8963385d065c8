/-
  Shut, in the form in which its law's walk takes it. No condition beside those in each contract.
-/
import Derived.Test.YtcmbajphholliabDoorI13
namespace Go.Proofs.YtcmbajphholliabDoor
open Go.ChangeShapes Go.WideShapes Go.ChangeAt Go.RowKit Go.BigFrame Go.Joins
set_option linter.unusedVariables false
set_option maxRecDepth 100000
theorem ishut_t {p c P C : List Int} {pr bw PR BW : Int} (H : Hid ((if aokB p pr c bw then p else []) = P ∧ (if aokB p pr c bw then shutP pr c else 0) = PR ∧ (if aokB p pr c bw then c else []) = C ∧ (if aokB p pr c bw then bw else 0) = BW))
    (pv cv : Value) (p' c' : List Int) (pr' bw' : Int) (w : World) (hp : RdI w pv p) (hc : RdI w cv c) : Calls Tryd.prog 25 #[.agg #[pv, .int .i64 pr, cv, .int .i64 bw]] w (NewA w P PR C BW) := by
  obtain ⟨rfl, rfl, rfl, rfl⟩ := H.out
  exact ishut_any pv cv p c pr bw w hp hc
end Go.Proofs.YtcmbajphholliabDoor
