/-
  The model's step of a session: what it answers to each event. Conditions: those in each contract.
-/
import Derived.Test.YtcmbajphholliabDoorS19
namespace Go.Proofs.YtcmbajphholliabDoor
open Go.ChangeShapes Go.WideShapes Go.ChangeAt Go.RowKit Go.BigFrame Go.Joins
set_option linter.unusedVariables false
set_option maxRecDepth 100000
set_option linter.unusedSimpArgs false

end Go.Proofs.YtcmbajphholliabDoor
