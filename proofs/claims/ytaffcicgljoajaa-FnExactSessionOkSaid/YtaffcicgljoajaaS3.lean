/-
  SessionOk with a known answer. Conditions: those in each contract.
-/
import Derived.Test.YtaffcicgljoajaaS2
namespace Go.Proofs.Ytaffcicgljoajaa
open Go.ChangeShapes Go.WideShapes Go.ChangeAt Go.RowKit Go.BigFrame Go.Joins
set_option linter.unusedVariables false
set_option maxRecDepth 100000
set_option linter.unusedSimpArgs false

theorem sSs_t {sa ix ho pe st hd he ke pr : Int} {b : Bool} (w : World) (H : Hid (sesB sa ix ho pe st hd he ke pr = b)) : Calls Try.prog 20 #[.agg #[.int .i64 sa, .int .i64 ix, .int .i64 ho, .int .i64 pe], .agg #[.int .i64 st, .int .i64 hd, .int .i64 he, .int .i64 ke, .int .i64 pr]] w fun e w' => e = .returned (.bool b) ∧ Below w.heap.size w w' := H.out ▸ sSs_any sa ix ho pe st hd he ke pr w
theorem iSs_t {sa ix ho pe st hd he ke pr : Int} {b : Bool} (w : World) (H : Hid (sesB sa ix ho pe st hd he ke pr = b)) : Calls Try.prog 22 #[.agg #[.int .i64 sa, .int .i64 ix, .int .i64 ho, .int .i64 pe], .agg #[.int .i64 st, .int .i64 hd, .int .i64 he, .int .i64 ke, .int .i64 pr]] w fun e w' => e = .returned (.bool b) ∧ Below w.heap.size w w' := H.out ▸ iSs_any sa ix ho pe st hd he ke pr w
end Go.Proofs.Ytaffcicgljoajaa
