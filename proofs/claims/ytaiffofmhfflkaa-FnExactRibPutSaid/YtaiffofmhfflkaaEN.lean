/-
  A table without the entry of a prefix and a peer, of the model. Conditions: those in each contract.
-/
import Derived.Test.YtaiffofmhfflkaaEE
import Derived.Test.YtaiffofmhfflkaaEM
namespace Go.Proofs.Ytaiffofmhfflkaa
open Go.ChangeShapes Go.WideShapes Go.ChangeAt Go.RowKit Go.BigFrame Go.Joins
set_option linter.unusedVariables false
set_option maxRecDepth 100000
set_option linter.unusedSimpArgs false
set_option maxRecDepth 100000

end Go.Proofs.Ytaiffofmhfflkaa
