/-
  Messages: what an argument that is one reads as; contracts of the laws' own functions that size, copy and compare them. Conditions: those in each contract.
-/
import Derived.Test.YtcmbajphholliabDoorN1
namespace Go.Proofs.YtcmbajphholliabDoor
open Go.ChangeShapes Go.WideShapes Go.ChangeAt Go.RowKit Go.BigFrame Go.Joins
set_option linter.unusedVariables false
set_option maxRecDepth 100000
set_option linter.unusedSimpArgs false

def Is_Msg (W : World) (v : Value) : Prop := ∃ (gv cv pv mv : Value) (gs cs : List (Int × Int)) (ps ms : List Int) (kn sa ho ix pr bw er : Int), v = .agg #[.int .i64 kn, .int .i64 sa, .int .i64 ho, .int .i64 ix, gv, cv, pv, .int .i64 pr, mv, .int .i64 bw, .int .i64 er] ∧ RdP W gv gs ∧ RdP W cv cs ∧ RdI W pv ps ∧ RdI W mv ms
theorem array11 {α : Type} {xs : Array α} (h : xs.size = 11) : ∃ c0 c1 c2 c3 c4 c5 c6 c7 c8 c9 c10, xs = #[c0, c1, c2, c3, c4, c5, c6, c7, c8, c9, c10] := by
  obtain ⟨l⟩ := xs
  match l, h with
  | [c0, c1, c2, c3, c4, c5, c6, c7, c8, c9, c10], _ => exact ⟨c0, c1, c2, c3, c4, c5, c6, c7, c8, c9, c10, rfl⟩
theorem list8 {α : Type} {xs : List α} (h : xs.length = 8) : ∃ c0 c1 c2 c3 c4 c5 c6 c7, xs = [c0, c1, c2, c3, c4, c5, c6, c7] := by
  match xs, h with
  | [c0, c1, c2, c3, c4, c5, c6, c7], _ => exact ⟨c0, c1, c2, c3, c4, c5, c6, c7, rfl⟩
section
variable {H : Type} {enc : TypeId × Value → H} {W : World} {base : Nat} {d : DataW H} {p : List MemPlace} {v : Value}
theorem cellsI1 : Tryd.prog.cellsOf 3 = 1 := by kernel_rfl
theorem cellsIS1 : Tryd.prog.cellsOf 34 = 1 := by kernel_rfl
end
/-- a fresh message: four rows of its own, apart -/
def NewM (w : World) (gs cs : List (Int × Int)) (ps ms : List Int) (kn sa ho ix pr bw er : Int) (e : Ending) (w' : World) : Prop :=
  ∃ ga gx ca cx pa px ma mx, e = .returned (.agg #[.int .i64 kn, .int .i64 sa, .int .i64 ho, .int .i64 ix, .slice ga gs.length gx, .slice ca cs.length cx, .slice pa ps.length px, .int .i64 pr, .slice ma ms.length mx, .int .i64 bw, .int .i64 er]) ∧ OwnP w' w.heap.size (.slice ga gs.length gx) gs ∧ OwnP w' w.heap.size (.slice ca cs.length cx) cs ∧ OwnI w' w.heap.size (.slice pa ps.length px) ps ∧ OwnI w' w.heap.size (.slice ma ms.length mx) ms ∧
    Apart (.slice ga gs.length gx) (.slice ca cs.length cx) ∧ Apart (.slice ga gs.length gx) (.slice pa ps.length px) ∧ Apart (.slice ga gs.length gx) (.slice ma ms.length mx) ∧ Apart (.slice ca cs.length cx) (.slice pa ps.length px) ∧ Apart (.slice ca cs.length cx) (.slice ma ms.length mx) ∧ Apart (.slice pa ps.length px) (.slice ma ms.length mx) ∧ Below w.heap.size w w'
theorem apartL {w w' : World} {b1 b2 n1 n2 : Nat} {t1 t2 : TypeId} {s1 s2 : Nat} {v u : Value} {l m : List Value} (h1 : w.ownsRow b1 t1 n1 v s1 l) (h2 : w'.ownsRow b2 t2 n2 u s2 m) (h : w.heap.size ≤ b2) : Apart v u := by
  have a : v.ownBlock = none ∨ v.ownBlock ≠ u.ownBlock := by
    cases hv : v.ownBlock with
    | none => exact .inl rfl
    | some k =>
      refine .inr (fun e => ?_)
      have a1 := (World.ownsRow.lt h1 k hv).2
      have a2 := (World.ownsRow.lt h2 k e.symm).1
      omega
  refine ⟨a, ?_⟩
  rcases a with h0 | h0
  · cases hu : u.ownBlock with
    | none => exact .inl rfl
    | some k => exact .inr (by rw [h0]; simp)
  · exact .inr (Ne.symm h0)
end Go.Proofs.YtcmbajphholliabDoor
