/-
  No cell of these rows narrows 'for every input' (looked for: loops, veiled, ifaces, maps, wideKeys, modest, calm, conditions, laid).
  DERIVED. THE GIVEN ROWS OF THIS SEAT. 5 by the template 'for every input the law returns true; each argument reads behind the call as it read before'; 0 by the template 'total and deterministic' (their statements: YtaiffofmhfflkaaTotals.lean).
  GIVEN WITH THE SEED: the statements are not yours to turn. If you find one false, say at which input.
  Laid BY PROGRAM, IN A SANDBOX (cutbox-rows.mjs): the forced cells as the released guide's own fill.sh prints them over the translation c69f446ba1a5e7b2… (all of the seat's roots in one cut). By AI agents, Wed Nov 11 2026. No macro, syntax, notation, axiom, sorry.
-/
import Derived.Test.YtaiffofmhfflkaaChecked
import GoSem.Claim
import GoSem.ClaimJoined
import GoSem.ClaimMapViews
import Derived.JoinedTies
import Derived.KernelRfl
namespace Go.Proofs.Ytaiffofmhfflkaa
/- THE CELL 'sum', in the pinned program and in every row, IS THE sha256 OF THE DUMP (.gsa) THAT YtaiffofmhfflkaaProg.lean LOADS. Nothing in Lean hashes anything: it is a label: what it is worth is what the hold of that sum in a sandbox is worth. -/
noncomputable def Try.pinned : Pinned := { name := "ytaiffofmhfflkaa", sum := "c69f446ba1a5e7b229b0816fc481b6e92a3e82ef44a4cb2b41dae8eb7ba4e66b", checked := Try.checked }
namespace Rows
def none {H : Type} : Left H := { results := [], args := [] }

/-- 'laws.FnExactNodeOk': WHATEVER THE INPUT: true; the input reads as it did. -/
def fnExactNodeOkSpec : ChangeSpec := { name := "fnExactNodeOk", fn := fun _ => fun
  | [d] => { results := [.lit (.bool true)], args := [d] }
  | _ => none }
def fnExactNodeOkRow : OpenClaim := { program := "ytaiffofmhfflkaa", sum := "c69f446ba1a5e7b229b0816fc481b6e92a3e82ef44a4cb2b41dae8eb7ba4e66b", func := "loop.example/g00557/laws.FnExactNodeOk", spec := "fnExactNodeOk", unfollowed := true, recurses := true, apart := false }
def FnExactNodeOkSaid : Prop := fnExactNodeOkRow.holds Try.pinned (OpenSpec.ofChange fnExactNodeOkSpec)

/-- ITS FALSE NEIGHBOUR: 'it returns false'. Refute it at one input. -/
def fnExactNodeOkWrong : ChangeSpec := { name := "fnExactNodeOk", fn := fun _ => fun
  | [d] => { results := [.lit (.bool false)], args := [d] }
  | _ => none }
def FnExactNodeOkWrongFalsely : Prop := fnExactNodeOkRow.holds Try.pinned (OpenSpec.ofChange fnExactNodeOkWrong)

/-- 'laws.FnExactRibPut': WHATEVER THE INPUT: true; the input reads as it did. -/
def fnExactRibPutSpec : ChangeSpec := { name := "fnExactRibPut", fn := fun _ => fun
  | [d1, d2] => { results := [.lit (.bool true)], args := [d1, d2] }
  | _ => none }
def fnExactRibPutRow : OpenClaim := { program := "ytaiffofmhfflkaa", sum := "c69f446ba1a5e7b229b0816fc481b6e92a3e82ef44a4cb2b41dae8eb7ba4e66b", func := "loop.example/g00557/laws.FnExactRibPut", spec := "fnExactRibPut", inPlace := ["slices.overlaps[loop.example/g00557/impl.Entry]"], unfollowed := true, recurses := true, apart := false }
def FnExactRibPutSaid : Prop := fnExactRibPutRow.holds Try.pinned (OpenSpec.ofChange fnExactRibPutSpec)

/-- ITS FALSE NEIGHBOUR: 'it returns false'. Refute it at one input. -/
def fnExactRibPutWrong : ChangeSpec := { name := "fnExactRibPut", fn := fun _ => fun
  | [d1, d2] => { results := [.lit (.bool false)], args := [d1, d2] }
  | _ => none }
def FnExactRibPutWrongFalsely : Prop := fnExactRibPutRow.holds Try.pinned (OpenSpec.ofChange fnExactRibPutWrong)

/-- 'laws.FnExactNodeDrain': WHATEVER THE INPUT: true; the input reads as it did. -/
def fnExactNodeDrainSpec : ChangeSpec := { name := "fnExactNodeDrain", fn := fun _ => fun
  | [d1, d2] => { results := [.lit (.bool true)], args := [d1, d2] }
  | _ => none }
def fnExactNodeDrainRow : OpenClaim := { program := "ytaiffofmhfflkaa", sum := "c69f446ba1a5e7b229b0816fc481b6e92a3e82ef44a4cb2b41dae8eb7ba4e66b", func := "loop.example/g00557/laws.FnExactNodeDrain", spec := "fnExactNodeDrain", unfollowed := true, recurses := true, apart := false }
def FnExactNodeDrainSaid : Prop := fnExactNodeDrainRow.holds Try.pinned (OpenSpec.ofChange fnExactNodeDrainSpec)

/-- ITS FALSE NEIGHBOUR: 'it returns false'. Refute it at one input. -/
def fnExactNodeDrainWrong : ChangeSpec := { name := "fnExactNodeDrain", fn := fun _ => fun
  | [d1, d2] => { results := [.lit (.bool false)], args := [d1, d2] }
  | _ => none }
def FnExactNodeDrainWrongFalsely : Prop := fnExactNodeDrainRow.holds Try.pinned (OpenSpec.ofChange fnExactNodeDrainWrong)

/-- 'laws.FnExactNodeNew': WHATEVER THE INPUT: true; the input reads as it did. -/
def fnExactNodeNewSpec : ChangeSpec := { name := "fnExactNodeNew", fn := fun _ => fun
  | [d1, d2, d3] => { results := [.lit (.bool true)], args := [d1, d2, d3] }
  | _ => none }
def fnExactNodeNewRow : OpenClaim := { program := "ytaiffofmhfflkaa", sum := "c69f446ba1a5e7b229b0816fc481b6e92a3e82ef44a4cb2b41dae8eb7ba4e66b", func := "loop.example/g00557/laws.FnExactNodeNew", spec := "fnExactNodeNew", unfollowed := true, recurses := true, apart := false }
def FnExactNodeNewSaid : Prop := fnExactNodeNewRow.holds Try.pinned (OpenSpec.ofChange fnExactNodeNewSpec)

/-- ITS FALSE NEIGHBOUR: 'it returns false'. Refute it at one input. -/
def fnExactNodeNewWrong : ChangeSpec := { name := "fnExactNodeNew", fn := fun _ => fun
  | [d1, d2, d3] => { results := [.lit (.bool false)], args := [d1, d2, d3] }
  | _ => none }
def FnExactNodeNewWrongFalsely : Prop := fnExactNodeNewRow.holds Try.pinned (OpenSpec.ofChange fnExactNodeNewWrong)

/-- 'laws.FnExactBest': WHATEVER THE INPUT: true; the input reads as it did. -/
def fnExactBestSpec : ChangeSpec := { name := "fnExactBest", fn := fun _ => fun
  | [d1, d2] => { results := [.lit (.bool true)], args := [d1, d2] }
  | _ => none }
def fnExactBestRow : OpenClaim := { program := "ytaiffofmhfflkaa", sum := "c69f446ba1a5e7b229b0816fc481b6e92a3e82ef44a4cb2b41dae8eb7ba4e66b", func := "loop.example/g00557/laws.FnExactBest", spec := "fnExactBest", unfollowed := true, recurses := true, apart := false }
def FnExactBestSaid : Prop := fnExactBestRow.holds Try.pinned (OpenSpec.ofChange fnExactBestSpec)

/-- ITS FALSE NEIGHBOUR: 'it returns false'. Refute it at one input. -/
def fnExactBestWrong : ChangeSpec := { name := "fnExactBest", fn := fun _ => fun
  | [d1, d2] => { results := [.lit (.bool false)], args := [d1, d2] }
  | _ => none }
def FnExactBestWrongFalsely : Prop := fnExactBestRow.holds Try.pinned (OpenSpec.ofChange fnExactBestWrong)

/- THE SECOND FORM. 'bulk': how many values and letters a reading holds, each counted each time it is reached (what is shared counts as often as it is met; a slice's spare places count too). A statement '..UptoSaid' is the law's where the arguments, and the package variables that the reading takes, are together of bulk at most 1048576: NARROWER than '..Said'. Prove '..Said' where nothing that the law and all that it calls make is longer than what came in: it says more and counts as full. Else prove '..UptoSaid'. A law counts once. -/
mutual
def uptoBulk {H : Type} : DataW H → Nat
  | .lit (.string bytes) => bytes.length + 1
  | .lit _ => 1
  | .nil => 1
  | .ptr d => uptoBulk d + 1
  | .slice elems spare => uptoBulkAll elems + uptoBulkAll spare + 1
  | .agg parts => uptoBulkAll parts + 1
  | .iface _ d => uptoBulk d + 1
  | .map entries => uptoBulkEntries entries + 1
  | .held _ => 1
def uptoBulkAll {H : Type} : List (DataW H) → Nat
  | [] => 0
  | d :: r => uptoBulk d + uptoBulkAll r
def uptoBulkEntries {H : Type} : List (Lit × DataW H) → Nat
  | [] => 0
  | x :: r => uptoBulkEntry x + uptoBulkEntries r
def uptoBulkEntry {H : Type} : Lit × DataW H → Nat
  | (.string bytes, d) => bytes.length + uptoBulk d + 1
  | (_, d) => uptoBulk d + 1
 end
def uptoSmall : (H : Type) → List (DataW H) → Bool := fun _ ds => decide (uptoBulkAll ds ≤ 1048576)
def OpenSpec.upto (s : _root_.Go.ChangeSpec) : _root_.Go.OpenSpec := { _root_.Go.OpenSpec.ofChange s with cond := some uptoSmall }

/-- 'laws.FnExactNodeOk', WHERE WHAT IT READS IS OF BULK AT MOST 1048576: true; the input reads as it did. -/
def fnExactNodeOkUptoRow : OpenClaim := { program := "ytaiffofmhfflkaa", sum := "c69f446ba1a5e7b229b0816fc481b6e92a3e82ef44a4cb2b41dae8eb7ba4e66b", func := "loop.example/g00557/laws.FnExactNodeOk", spec := "fnExactNodeOk", unfollowed := true, recurses := true, apart := false, narrowed := true }
def FnExactNodeOkUptoSaid : Prop := fnExactNodeOkUptoRow.holds Try.pinned (OpenSpec.upto fnExactNodeOkSpec)

/-- 'laws.FnExactRibPut', WHERE WHAT IT READS IS OF BULK AT MOST 1048576: true; the input reads as it did. -/
def fnExactRibPutUptoRow : OpenClaim := { program := "ytaiffofmhfflkaa", sum := "c69f446ba1a5e7b229b0816fc481b6e92a3e82ef44a4cb2b41dae8eb7ba4e66b", func := "loop.example/g00557/laws.FnExactRibPut", spec := "fnExactRibPut", inPlace := ["slices.overlaps[loop.example/g00557/impl.Entry]"], unfollowed := true, recurses := true, apart := false, narrowed := true }
def FnExactRibPutUptoSaid : Prop := fnExactRibPutUptoRow.holds Try.pinned (OpenSpec.upto fnExactRibPutSpec)

/-- 'laws.FnExactNodeDrain', WHERE WHAT IT READS IS OF BULK AT MOST 1048576: true; the input reads as it did. -/
def fnExactNodeDrainUptoRow : OpenClaim := { program := "ytaiffofmhfflkaa", sum := "c69f446ba1a5e7b229b0816fc481b6e92a3e82ef44a4cb2b41dae8eb7ba4e66b", func := "loop.example/g00557/laws.FnExactNodeDrain", spec := "fnExactNodeDrain", unfollowed := true, recurses := true, apart := false, narrowed := true }
def FnExactNodeDrainUptoSaid : Prop := fnExactNodeDrainUptoRow.holds Try.pinned (OpenSpec.upto fnExactNodeDrainSpec)

/-- 'laws.FnExactNodeNew', WHERE WHAT IT READS IS OF BULK AT MOST 1048576: true; the input reads as it did. -/
def fnExactNodeNewUptoRow : OpenClaim := { program := "ytaiffofmhfflkaa", sum := "c69f446ba1a5e7b229b0816fc481b6e92a3e82ef44a4cb2b41dae8eb7ba4e66b", func := "loop.example/g00557/laws.FnExactNodeNew", spec := "fnExactNodeNew", unfollowed := true, recurses := true, apart := false, narrowed := true }
def FnExactNodeNewUptoSaid : Prop := fnExactNodeNewUptoRow.holds Try.pinned (OpenSpec.upto fnExactNodeNewSpec)

/-- 'laws.FnExactBest', WHERE WHAT IT READS IS OF BULK AT MOST 1048576: true; the input reads as it did. -/
def fnExactBestUptoRow : OpenClaim := { program := "ytaiffofmhfflkaa", sum := "c69f446ba1a5e7b229b0816fc481b6e92a3e82ef44a4cb2b41dae8eb7ba4e66b", func := "loop.example/g00557/laws.FnExactBest", spec := "fnExactBest", unfollowed := true, recurses := true, apart := false, narrowed := true }
def FnExactBestUptoSaid : Prop := fnExactBestUptoRow.holds Try.pinned (OpenSpec.upto fnExactBestSpec)

end Rows
end Go.Proofs.Ytaiffofmhfflkaa
