/-
  AttrOk, of the program and of the model. Conditions: those in each contract.
-/
import Derived.Test.YtgelmpojbaiddaaI3
namespace Go.Proofs.Ytgelmpojbaiddaa
open Go.ChangeShapes Go.WideShapes Go.ChangeAt Go.RowKit Go.BigFrame Go.Joins
set_option linter.unusedVariables false
set_option maxRecDepth 100000

theorem within_t {n lo hi : Int} {b : Bool} (w : World) (H : Hid (inB n lo hi = b)) : Calls Try.prog 53 #[.int .i64 n, .int .i64 lo, .int .i64 hi] w fun e w' => e = .returned (.bool b) ∧ w = w' := H.out ▸ within_any n lo hi w
end Go.Proofs.Ytgelmpojbaiddaa
