/-
  Prepend, in the form in which its law's walk takes it. No condition beside those in each contract.
-/
import Derived.Test.YtcmbajphholliabDoorI16
namespace Go.Proofs.YtcmbajphholliabDoor
open Go.ChangeShapes Go.WideShapes Go.ChangeAt Go.RowKit Go.BigFrame Go.Joins
set_option linter.unusedVariables false
set_option maxRecDepth 100000
theorem iprepend_t {p c P C : List Int} {pr bw an PR BW : Int} {OK : Bool} (H : Hid ((if (aokB p pr c bw && asB an) then (if p.length = 8 then p else an :: p) else []) = P ∧ (if (aokB p pr c bw && asB an) then pr else 0) = PR ∧ (if (aokB p pr c bw && asB an) then c else []) = C ∧ (if (aokB p pr c bw && asB an) then bw else 0) = BW ∧ ((aokB p pr c bw && asB an) && !decide (p.length = 8)) = OK)) (han : I64 an)
    (pv cv : Value) (p' c' : List Int) (pr' bw' an' : Int) (w : World) (hp : RdI w pv p) (hc : RdI w cv c) : Calls Tryd.prog 22 #[.agg #[pv, .int .i64 pr, cv, .int .i64 bw], .int .i64 an] w (NewA2 w P PR C BW OK) := by
  obtain ⟨rfl, rfl, rfl, rfl, rfl⟩ := H.out
  exact iprepend_any pv cv p c pr bw an w hp hc han
end Go.Proofs.YtcmbajphholliabDoor
