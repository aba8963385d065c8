/-
  Words for the law on RibDrop. Conditions: those in each statement.
-/
import Derived.Test.YtaiffofmhfflkaaEL
import Derived.Test.YtaiffofmhfflkaaEO
import Derived.Deep.Cut
import Derived.Deep.CutRange
namespace Go.Proofs.Ytaiffofmhfflkaa
open Go.ChangeShapes Go.WideShapes Go.ChangeAt Go.RowKit Go.BigFrame Go.Joins
set_option linter.unusedVariables false
set_option maxRecDepth 100000
set_option linter.unusedSimpArgs false
set_option maxRecDepth 100000

/-- what a region leaves that keeps a table: in a block of its own, beside its rows -/
def KeptT (V wx : World) (D : List Ent) (p : Value) : Prop :=
  ∃ (B base hi : Nat) (x : Option Addr) (y : Nat) (T : List ET), p = .pointer (some ⟨B, 0, none⟩) ∧ Over V wx ∧ Bl wx B [.slice x T.length y] ∧ OwnT wx base (.slice x T.length y) T ∧ entT T = D ∧ V.heap.size ≤ base ∧ V.heap.size ≤ B ∧ InH hi (.slice x T.length y) T ∧ (B < base ∨ hi ≤ B)
theorem OwnT.setFar {w : World} {base hi B o : Nat} {v u : Value} {T : List ET} (h : OwnT w base v T) (hI : InH hi v T) (hB : B < base ∨ hi ≤ B) : OwnT (w.setCell ⟨B, o, none⟩ u) base v T := by
  have ne : ∀ {x : Value}, (∀ k, x.ownBlock = some k → base ≤ k ∧ k < hi) → x.ownBlock = none ∨ x.ownBlock ≠ some B := fun {x} hx => by
    cases hv : x.ownBlock with
    | none => exact .inl rfl
    | some k => exact .inr (by have := hx k hv; intro e; cases e; omega)
  exact h.kept (grown_set w B o u) (ne fun k hk => ⟨(World.ownsRow.lt h.row k hk).1, hI.1 k hk⟩) fun t ht => ⟨ne fun k hk => ⟨((h.lt t ht).1 k hk).1, (hI.2 t ht).1 k hk⟩, ne fun k hk => ⟨((h.lt t ht).2 k hk).1, (hI.2 t ht).2 k hk⟩⟩
theorem dropD_sub {L : List Ent} {da dn dp : Int} {E : Ent} (h : E ∈ dropD L da dn dp) : E ∈ L := by
  unfold dropD at h
  split at h
  · exact (List.mem_filter.1 h).1
  · simp at h
theorem wE_dropD {L : List Ent} (h : L.length + wtE L ≤ 1048576) (da dn dp : Int) : ((dropD L da dn dp).map wE).sum ≤ 8000000 := by
  have a := wE_all L
  unfold dropD
  split
  · have := wE_filter (fun G => !(isD da dn dp G)) L
    omega
  · simp
theorem newRib_t {w : World} {L D : List Ent} {da dn dp : Int} {e : Ending} {w' : World} (H : Hid (D = dropD L da dn dp)) (h : NewRib w (dropD L da dn dp) e w') : NewRib w D e w' := H.out ▸ h
end Go.Proofs.Ytaiffofmhfflkaa
