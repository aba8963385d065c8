/-
  Events: what an argument that is one reads as; contracts of the laws' own functions on events; contracts of EventOk of the program and of the model. Conditions: those in each contract.
-/
import Derived.Test.YtcmbajphholliabDoorS5
namespace Go.Proofs.YtcmbajphholliabDoor
open Go.ChangeShapes Go.WideShapes Go.ChangeAt Go.RowKit Go.BigFrame Go.Joins
set_option linter.unusedVariables false
set_option maxRecDepth 100000
set_option linter.unusedSimpArgs false

def Is_Event (W : World) (v : Value) : Prop := ∃ (gv cv pv mv : Value) (gs cs : List (Int × Int)) (ps ms : List Int) (ek ee kn sa ho ix pr bw er : Int), v = .agg #[.int .i64 ek, .int .i64 kn, .int .i64 sa, .int .i64 ho, .int .i64 ix, gv, cv, pv, .int .i64 pr, mv, .int .i64 bw, .int .i64 er, .int .i64 ee] ∧ RdP W gv gs ∧ RdP W cv cs ∧ RdI W pv ps ∧ RdI W mv ms
theorem array13 {α : Type} {xs : Array α} (h : xs.size = 13) : ∃ c0 c1 c2 c3 c4 c5 c6 c7 c8 c9 c10 c11 c12, xs = #[c0, c1, c2, c3, c4, c5, c6, c7, c8, c9, c10, c11, c12] := by
  obtain ⟨l⟩ := xs
  match l, h with
  | [c0, c1, c2, c3, c4, c5, c6, c7, c8, c9, c10, c11, c12], _ => exact ⟨c0, c1, c2, c3, c4, c5, c6, c7, c8, c9, c10, c11, c12, rfl⟩
theorem list3 {α : Type} {xs : List α} (h : xs.length = 3) : ∃ c0 c1 c2, xs = [c0, c1, c2] := by
  match xs, h with
  | [c0, c1, c2], _ => exact ⟨c0, c1, c2, rfl⟩
section
variable {H : Type} {enc : TypeId × Value → H} {W : World} {base : Nat} {d : DataW H} {p : List MemPlace} {v : Value}
end
def NewE (w : World) (gs cs : List (Int × Int)) (ps ms : List Int) (ek ee kn sa ho ix pr bw er : Int) (e : Ending) (w' : World) : Prop :=
  ∃ ga gx ca cx pa px ma mx, e = .returned (.agg #[.int .i64 ek, .int .i64 kn, .int .i64 sa, .int .i64 ho, .int .i64 ix, .slice ga gs.length gx, .slice ca cs.length cx, .slice pa ps.length px, .int .i64 pr, .slice ma ms.length mx, .int .i64 bw, .int .i64 er, .int .i64 ee]) ∧ OwnP w' w.heap.size (.slice ga gs.length gx) gs ∧ OwnP w' w.heap.size (.slice ca cs.length cx) cs ∧ OwnI w' w.heap.size (.slice pa ps.length px) ps ∧ OwnI w' w.heap.size (.slice ma ms.length mx) ms ∧
    Apart (.slice ga gs.length gx) (.slice ca cs.length cx) ∧ Apart (.slice ga gs.length gx) (.slice pa ps.length px) ∧ Apart (.slice ga gs.length gx) (.slice ma ms.length mx) ∧ Apart (.slice ca cs.length cx) (.slice pa ps.length px) ∧ Apart (.slice ca cs.length cx) (.slice ma ms.length mx) ∧ Apart (.slice pa ps.length px) (.slice ma ms.length mx) ∧ Below w.heap.size w w'
end Go.Proofs.YtcmbajphholliabDoor
