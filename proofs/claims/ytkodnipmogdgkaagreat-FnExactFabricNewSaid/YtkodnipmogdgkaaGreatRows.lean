/-
  No cell of these rows narrows 'for every input' (looked for: loops, veiled, ifaces, maps, wideKeys, modest, calm, conditions, laid).
  DERIVED. THE GIVEN ROWS OF THIS SEAT. 5 by the template 'for every input the law returns true; each argument reads behind the call as it read before'; 0 by the template 'total and deterministic' (their statements: YtkodnipmogdgkaaGreatTotals.lean).
  GIVEN WITH THE SEED: the statements are not yours to turn. If you find one false, say at which input.
  Laid BY PROGRAM, IN A SANDBOX (cutbox-rows.mjs): the forced cells as the released guide's own fill.sh prints them over the translation 0eae39f212d7bee2… (all of the seat's roots in one cut). By AI agents, Wed Nov 11 2026. No macro, syntax, notation, axiom, sorry.
-/
import Derived.Test.YtkodnipmogdgkaaGreatChecked
import GoSem.Claim
import GoSem.ClaimJoined
import GoSem.ClaimMapViews
import Derived.JoinedTies
import Derived.KernelRfl
namespace Go.Proofs.YtkodnipmogdgkaaGreat
/- THE CELL 'sum', in the pinned program and in every row, IS THE sha256 OF THE DUMP (.gsa) THAT YtkodnipmogdgkaaGreatProg.lean LOADS. Nothing in Lean hashes anything: it is a label: what it is worth is what the hold of that sum in a sandbox is worth. -/
noncomputable def Tryz.pinned : Pinned := { name := "ytkodnipmogdgkaagreat", sum := "0eae39f212d7bee2ccbf27488b0ad171986eac3fc92b82af72fe5a902e3f0564", checked := Tryz.checked }
namespace Rows
def none {H : Type} : Left H := { results := [], args := [] }

/-- 'laws.FnExactMark': WHATEVER THE INPUT: true; the input reads as it did. -/
def fnExactMarkSpec : ChangeSpec := { name := "fnExactMark", fn := fun _ => fun
  | [d1, d2, d3] => { results := [.lit (.bool true)], args := [d1, d2, d3] }
  | _ => none }
def fnExactMarkRow : OpenClaim := { program := "ytkodnipmogdgkaagreat", sum := "0eae39f212d7bee2ccbf27488b0ad171986eac3fc92b82af72fe5a902e3f0564", func := "loop.example/g00557/laws.FnExactMark", spec := "fnExactMark", unfollowed := true, recurses := true, plainKeys := false, apart := false }
def FnExactMarkSaid : Prop := fnExactMarkRow.holds Tryz.pinned (OpenSpec.ofChange fnExactMarkSpec)

/-- ITS FALSE NEIGHBOUR: 'it returns false'. Refute it at one input. -/
def fnExactMarkWrong : ChangeSpec := { name := "fnExactMark", fn := fun _ => fun
  | [d1, d2, d3] => { results := [.lit (.bool false)], args := [d1, d2, d3] }
  | _ => none }
def FnExactMarkWrongFalsely : Prop := fnExactMarkRow.holds Tryz.pinned (OpenSpec.ofChange fnExactMarkWrong)

/-- 'laws.FnExactTurn': WHATEVER THE INPUT: true; the input reads as it did. -/
def fnExactTurnSpec : ChangeSpec := { name := "fnExactTurn", fn := fun _ => fun
  | [d1, d2, d3] => { results := [.lit (.bool true)], args := [d1, d2, d3] }
  | _ => none }
def fnExactTurnRow : OpenClaim := { program := "ytkodnipmogdgkaagreat", sum := "0eae39f212d7bee2ccbf27488b0ad171986eac3fc92b82af72fe5a902e3f0564", func := "loop.example/g00557/laws.FnExactTurn", spec := "fnExactTurn", unfollowed := true, recurses := true, plainKeys := false, apart := false }
def FnExactTurnSaid : Prop := fnExactTurnRow.holds Tryz.pinned (OpenSpec.ofChange fnExactTurnSpec)

/-- ITS FALSE NEIGHBOUR: 'it returns false'. Refute it at one input. -/
def fnExactTurnWrong : ChangeSpec := { name := "fnExactTurn", fn := fun _ => fun
  | [d1, d2, d3] => { results := [.lit (.bool false)], args := [d1, d2, d3] }
  | _ => none }
def FnExactTurnWrongFalsely : Prop := fnExactTurnRow.holds Tryz.pinned (OpenSpec.ofChange fnExactTurnWrong)

/-- 'laws.FnExactFabricNew': WHATEVER THE INPUT: true; the input reads as it did. -/
def fnExactFabricNewSpec : ChangeSpec := { name := "fnExactFabricNew", fn := fun _ => fun
  | [d1, d2, d3] => { results := [.lit (.bool true)], args := [d1, d2, d3] }
  | _ => none }
def fnExactFabricNewRow : OpenClaim := { program := "ytkodnipmogdgkaagreat", sum := "0eae39f212d7bee2ccbf27488b0ad171986eac3fc92b82af72fe5a902e3f0564", func := "loop.example/g00557/laws.FnExactFabricNew", spec := "fnExactFabricNew", unfollowed := true, recurses := true, plainKeys := false, apart := false }
def FnExactFabricNewSaid : Prop := fnExactFabricNewRow.holds Tryz.pinned (OpenSpec.ofChange fnExactFabricNewSpec)

/-- ITS FALSE NEIGHBOUR: 'it returns false'. Refute it at one input. -/
def fnExactFabricNewWrong : ChangeSpec := { name := "fnExactFabricNew", fn := fun _ => fun
  | [d1, d2, d3] => { results := [.lit (.bool false)], args := [d1, d2, d3] }
  | _ => none }
def FnExactFabricNewWrongFalsely : Prop := fnExactFabricNewRow.holds Tryz.pinned (OpenSpec.ofChange fnExactFabricNewWrong)

/-- 'laws.FnExactSynced': WHATEVER THE INPUT: true; the input reads as it did. -/
def fnExactSyncedSpec : ChangeSpec := { name := "fnExactSynced", fn := fun _ => fun
  | [d] => { results := [.lit (.bool true)], args := [d] }
  | _ => none }
def fnExactSyncedRow : OpenClaim := { program := "ytkodnipmogdgkaagreat", sum := "0eae39f212d7bee2ccbf27488b0ad171986eac3fc92b82af72fe5a902e3f0564", func := "loop.example/g00557/laws.FnExactSynced", spec := "fnExactSynced", unfollowed := true, recurses := true, plainKeys := false, apart := false }
def FnExactSyncedSaid : Prop := fnExactSyncedRow.holds Tryz.pinned (OpenSpec.ofChange fnExactSyncedSpec)

/-- ITS FALSE NEIGHBOUR: 'it returns false'. Refute it at one input. -/
def fnExactSyncedWrong : ChangeSpec := { name := "fnExactSynced", fn := fun _ => fun
  | [d] => { results := [.lit (.bool false)], args := [d] }
  | _ => none }
def FnExactSyncedWrongFalsely : Prop := fnExactSyncedRow.holds Tryz.pinned (OpenSpec.ofChange fnExactSyncedWrong)

/-- 'laws.FnExactHops': WHATEVER THE INPUT: true; the input reads as it did. -/
def fnExactHopsSpec : ChangeSpec := { name := "fnExactHops", fn := fun _ => fun
  | [d1, d2, d3] => { results := [.lit (.bool true)], args := [d1, d2, d3] }
  | _ => none }
def fnExactHopsRow : OpenClaim := { program := "ytkodnipmogdgkaagreat", sum := "0eae39f212d7bee2ccbf27488b0ad171986eac3fc92b82af72fe5a902e3f0564", func := "loop.example/g00557/laws.FnExactHops", spec := "fnExactHops", unfollowed := true, recurses := true, plainKeys := false, apart := false }
def FnExactHopsSaid : Prop := fnExactHopsRow.holds Tryz.pinned (OpenSpec.ofChange fnExactHopsSpec)

/-- ITS FALSE NEIGHBOUR: 'it returns false'. Refute it at one input. -/
def fnExactHopsWrong : ChangeSpec := { name := "fnExactHops", fn := fun _ => fun
  | [d1, d2, d3] => { results := [.lit (.bool false)], args := [d1, d2, d3] }
  | _ => none }
def FnExactHopsWrongFalsely : Prop := fnExactHopsRow.holds Tryz.pinned (OpenSpec.ofChange fnExactHopsWrong)

/- THE SECOND FORM. 'bulk': how many values and letters a reading holds, each counted each time it is reached (what is shared counts as often as it is met; a slice's spare places count too). A statement '..UptoSaid' is the law's where the arguments, and the package variables that the reading takes, are together of bulk at most 1048576: NARROWER than '..Said'. Prove '..Said' where nothing that the law and all that it calls make is longer than what came in: it says more and counts as full. Else prove '..UptoSaid'. A law counts once. -/
mutual
def uptoBulk {H : Type} : DataW H → Nat
  | .lit (.string bytes) => bytes.length + 1
  | .lit _ => 1
  | .nil => 1
  | .ptr d => uptoBulk d + 1
  | .slice elems spare => uptoBulkAll elems + uptoBulkAll spare + 1
  | .agg parts => uptoBulkAll parts + 1
  | .iface _ d => uptoBulk d + 1
  | .map entries => uptoBulkEntries entries + 1
  | .held _ => 1
def uptoBulkAll {H : Type} : List (DataW H) → Nat
  | [] => 0
  | d :: r => uptoBulk d + uptoBulkAll r
def uptoBulkEntries {H : Type} : List (Lit × DataW H) → Nat
  | [] => 0
  | x :: r => uptoBulkEntry x + uptoBulkEntries r
def uptoBulkEntry {H : Type} : Lit × DataW H → Nat
  | (.string bytes, d) => bytes.length + uptoBulk d + 1
  | (_, d) => uptoBulk d + 1
 end
def uptoSmall : (H : Type) → List (DataW H) → Bool := fun _ ds => decide (uptoBulkAll ds ≤ 1048576)
def OpenSpec.upto (s : _root_.Go.ChangeSpec) : _root_.Go.OpenSpec := { _root_.Go.OpenSpec.ofChange s with cond := some uptoSmall }

/-- 'laws.FnExactMark', WHERE WHAT IT READS IS OF BULK AT MOST 1048576: true; the input reads as it did. -/
def fnExactMarkUptoRow : OpenClaim := { program := "ytkodnipmogdgkaagreat", sum := "0eae39f212d7bee2ccbf27488b0ad171986eac3fc92b82af72fe5a902e3f0564", func := "loop.example/g00557/laws.FnExactMark", spec := "fnExactMark", unfollowed := true, recurses := true, plainKeys := false, apart := false, narrowed := true }
def FnExactMarkUptoSaid : Prop := fnExactMarkUptoRow.holds Tryz.pinned (OpenSpec.upto fnExactMarkSpec)

/-- 'laws.FnExactTurn', WHERE WHAT IT READS IS OF BULK AT MOST 1048576: true; the input reads as it did. -/
def fnExactTurnUptoRow : OpenClaim := { program := "ytkodnipmogdgkaagreat", sum := "0eae39f212d7bee2ccbf27488b0ad171986eac3fc92b82af72fe5a902e3f0564", func := "loop.example/g00557/laws.FnExactTurn", spec := "fnExactTurn", unfollowed := true, recurses := true, plainKeys := false, apart := false, narrowed := true }
def FnExactTurnUptoSaid : Prop := fnExactTurnUptoRow.holds Tryz.pinned (OpenSpec.upto fnExactTurnSpec)

/-- 'laws.FnExactFabricNew', WHERE WHAT IT READS IS OF BULK AT MOST 1048576: true; the input reads as it did. -/
def fnExactFabricNewUptoRow : OpenClaim := { program := "ytkodnipmogdgkaagreat", sum := "0eae39f212d7bee2ccbf27488b0ad171986eac3fc92b82af72fe5a902e3f0564", func := "loop.example/g00557/laws.FnExactFabricNew", spec := "fnExactFabricNew", unfollowed := true, recurses := true, plainKeys := false, apart := false, narrowed := true }
def FnExactFabricNewUptoSaid : Prop := fnExactFabricNewUptoRow.holds Tryz.pinned (OpenSpec.upto fnExactFabricNewSpec)

/-- 'laws.FnExactSynced', WHERE WHAT IT READS IS OF BULK AT MOST 1048576: true; the input reads as it did. -/
def fnExactSyncedUptoRow : OpenClaim := { program := "ytkodnipmogdgkaagreat", sum := "0eae39f212d7bee2ccbf27488b0ad171986eac3fc92b82af72fe5a902e3f0564", func := "loop.example/g00557/laws.FnExactSynced", spec := "fnExactSynced", unfollowed := true, recurses := true, plainKeys := false, apart := false, narrowed := true }
def FnExactSyncedUptoSaid : Prop := fnExactSyncedUptoRow.holds Tryz.pinned (OpenSpec.upto fnExactSyncedSpec)

/-- 'laws.FnExactHops', WHERE WHAT IT READS IS OF BULK AT MOST 1048576: true; the input reads as it did. -/
def fnExactHopsUptoRow : OpenClaim := { program := "ytkodnipmogdgkaagreat", sum := "0eae39f212d7bee2ccbf27488b0ad171986eac3fc92b82af72fe5a902e3f0564", func := "loop.example/g00557/laws.FnExactHops", spec := "fnExactHops", unfollowed := true, recurses := true, plainKeys := false, apart := false, narrowed := true }
def FnExactHopsUptoSaid : Prop := fnExactHopsUptoRow.holds Tryz.pinned (OpenSpec.upto fnExactHopsSpec)

end Rows
end Go.Proofs.YtkodnipmogdgkaaGreat
