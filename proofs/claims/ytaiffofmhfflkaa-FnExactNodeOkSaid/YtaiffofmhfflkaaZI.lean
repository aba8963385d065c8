/-
  Words for the laws on switches. Conditions: those in each statement.
-/
import Derived.Test.YtaiffofmhfflkaaZH
import Derived.Test.YtaiffofmhfflkaaZD
namespace Go.Proofs.Ytaiffofmhfflkaa
open Go.ChangeShapes Go.WideShapes Go.ChangeAt Go.RowKit Go.BigFrame Go.Joins
set_option linter.unusedVariables false
set_option maxRecDepth 100000
set_option linter.unusedSimpArgs false
set_option maxRecDepth 100000

/-- the numbers of its slices are numbers -/
def BdN (N : Nd) : Prop := (∀ i, i < N.rib.length → BdE (N.rib.getD i e0)) ∧ ∀ i, i < N.sent.length → BdE (N.sent.getD i e0)
theorem RdN.bd {w : World} {ov rv sv : Value} {N : Nd} (h : RdN w ov rv sv N) : BdN N := ⟨h.2.1.bd, h.2.2.bd⟩
theorem newNd_open {w w' : World} {N : Nd} {e : Ending} (h : NewNd w N e w') (hd : BdN N) (hn : wtN N ≤ 1048576) : ∃ ov rv sv, e = .returned (.agg #[.int .i64 N.an, ov, .int .i64 N.bw, .bool N.dr, rv, sv]) ∧ RdN w' ov rv sv N ∧ Below w.heap.size w w' := by
  obtain ⟨ov, ru, su, h1, h2, rfl, ho, -, hr, -, hs, -, -, -, -, hb⟩ := h
  have l2 : N.rib.length ≤ 1048576 := by unfold wtN at hn; omega
  have l3 : N.sent.length ≤ 1048576 := by unfold wtN at hn; omega
  exact ⟨ov, ru, su, rfl, ⟨ho.rd, hr.rd hd.1 l2, hs.rd hd.2 l3⟩, hb⟩
theorem toNd_p {ov rv sv : Value} {N : Nd} {w : World} (h : RdN w ov rv sv N) (hd : BdN N) (hn : wtN N ≤ 1048576) :
    Calls Try.prog 10 #[.agg #[.int .i64 N.an, ov, .int .i64 N.bw, .bool N.dr, rv, sv]] w fun e w' => ∃ o r s, e = .returned (.agg #[.int .i64 N.an, o, .int .i64 N.bw, .bool N.dr, r, s]) ∧ RdN w' o r s N ∧ Below w.heap.size w w' :=
  (toNd_any ov rv sv N w h hn).mono fun e w' q => newNd_open q hd hn
theorem sndok_t {ov rv sv : Value} {N : Nd} {b : Bool} (w : World) (h : RdN w ov rv sv N) (H : Hid (ndB N = b)) :
    Calls Try.prog 9 #[.agg #[.int .i64 N.an, ov, .int .i64 N.bw, .bool N.dr, rv, sv]] w fun e w' => e = .returned (.bool b) ∧ Below w.heap.size w w' := H.out ▸ sndok_any ov rv sv N w h
theorem indok_t {ov rv sv : Value} {N : Nd} {b : Bool} (w : World) (h : RdN w ov rv sv N) (H : Hid (ndB N = b)) :
    Calls Try.prog 11 #[.agg #[.int .i64 N.an, ov, .int .i64 N.bw, .bool N.dr, rv, sv]] w fun e w' => e = .returned (.bool b) ∧ Below w.heap.size w w' := H.out ▸ indok_any ov rv sv N w h
end Go.Proofs.Ytaiffofmhfflkaa
