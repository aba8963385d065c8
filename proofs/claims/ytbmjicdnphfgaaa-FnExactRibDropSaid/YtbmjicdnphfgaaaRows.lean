/-
  No cell of these rows narrows 'for every input' (looked for: loops, veiled, ifaces, maps, wideKeys, modest, calm, conditions, laid).
  DERIVED. THE GIVEN ROWS OF THIS SEAT. 5 by the template 'for every input the law returns true; each argument reads behind the call as it read before'; 0 by the template 'total and deterministic' (their statements: YtbmjicdnphfgaaaTotals.lean).
  GIVEN WITH THE SEED: the statements are not yours to turn. If you find one false, say at which input.
  Laid BY PROGRAM, IN A SANDBOX (cutbox-rows.mjs): the forced cells as the released guide's own fill.sh prints them over the translation 6b5dfeaa74027235… (all of the seat's roots in one cut). By AI agents, Wed Nov 11 2026. No macro, syntax, notation, axiom, sorry.
-/
import Derived.Test.YtbmjicdnphfgaaaChecked
import GoSem.Claim
import GoSem.ClaimJoined
import GoSem.ClaimMapViews
import Derived.JoinedTies
import Derived.KernelRfl
namespace Go.Proofs.Ytbmjicdnphfgaaa
/- THE CELL 'sum', in the pinned program and in every row, IS THE sha256 OF THE DUMP (.gsa) THAT YtbmjicdnphfgaaaProg.lean LOADS. Nothing in Lean hashes anything: it is a label: what it is worth is what the hold of that sum in a sandbox is worth. -/
noncomputable def Try.pinned : Pinned := { name := "ytbmjicdnphfgaaa", sum := "6b5dfeaa7402723557052182aeba3c60ea303e2c9878ef955d01791e70337cf9", checked := Try.checked }
namespace Rows
def none {H : Type} : Left H := { results := [], args := [] }

/-- 'laws.FnExactRibGet': WHATEVER THE INPUT: true; the input reads as it did. -/
def fnExactRibGetSpec : ChangeSpec := { name := "fnExactRibGet", fn := fun _ => fun
  | [d1, d2, d3] => { results := [.lit (.bool true)], args := [d1, d2, d3] }
  | _ => none }
def fnExactRibGetRow : OpenClaim := { program := "ytbmjicdnphfgaaa", sum := "6b5dfeaa7402723557052182aeba3c60ea303e2c9878ef955d01791e70337cf9", func := "loop.example/g00557/laws.FnExactRibGet", spec := "fnExactRibGet", unfollowed := true, recurses := true, apart := false }
def FnExactRibGetSaid : Prop := fnExactRibGetRow.holds Try.pinned (OpenSpec.ofChange fnExactRibGetSpec)

/-- ITS FALSE NEIGHBOUR: 'it returns false'. Refute it at one input. -/
def fnExactRibGetWrong : ChangeSpec := { name := "fnExactRibGet", fn := fun _ => fun
  | [d1, d2, d3] => { results := [.lit (.bool false)], args := [d1, d2, d3] }
  | _ => none }
def FnExactRibGetWrongFalsely : Prop := fnExactRibGetRow.holds Try.pinned (OpenSpec.ofChange fnExactRibGetWrong)

/-- 'laws.FnExactBest': WHATEVER THE INPUT: true; the input reads as it did. -/
def fnExactBestSpec : ChangeSpec := { name := "fnExactBest", fn := fun _ => fun
  | [d1, d2] => { results := [.lit (.bool true)], args := [d1, d2] }
  | _ => none }
def fnExactBestRow : OpenClaim := { program := "ytbmjicdnphfgaaa", sum := "6b5dfeaa7402723557052182aeba3c60ea303e2c9878ef955d01791e70337cf9", func := "loop.example/g00557/laws.FnExactBest", spec := "fnExactBest", unfollowed := true, recurses := true, apart := false }
def FnExactBestSaid : Prop := fnExactBestRow.holds Try.pinned (OpenSpec.ofChange fnExactBestSpec)

/-- ITS FALSE NEIGHBOUR: 'it returns false'. Refute it at one input. -/
def fnExactBestWrong : ChangeSpec := { name := "fnExactBest", fn := fun _ => fun
  | [d1, d2] => { results := [.lit (.bool false)], args := [d1, d2] }
  | _ => none }
def FnExactBestWrongFalsely : Prop := fnExactBestRow.holds Try.pinned (OpenSpec.ofChange fnExactBestWrong)

/-- 'laws.FnExactRibDropPeer': WHATEVER THE INPUT: true; the input reads as it did. -/
def fnExactRibDropPeerSpec : ChangeSpec := { name := "fnExactRibDropPeer", fn := fun _ => fun
  | [d1, d2] => { results := [.lit (.bool true)], args := [d1, d2] }
  | _ => none }
def fnExactRibDropPeerRow : OpenClaim := { program := "ytbmjicdnphfgaaa", sum := "6b5dfeaa7402723557052182aeba3c60ea303e2c9878ef955d01791e70337cf9", func := "loop.example/g00557/laws.FnExactRibDropPeer", spec := "fnExactRibDropPeer", unfollowed := true, recurses := true, apart := false }
def FnExactRibDropPeerSaid : Prop := fnExactRibDropPeerRow.holds Try.pinned (OpenSpec.ofChange fnExactRibDropPeerSpec)

/-- ITS FALSE NEIGHBOUR: 'it returns false'. Refute it at one input. -/
def fnExactRibDropPeerWrong : ChangeSpec := { name := "fnExactRibDropPeer", fn := fun _ => fun
  | [d1, d2] => { results := [.lit (.bool false)], args := [d1, d2] }
  | _ => none }
def FnExactRibDropPeerWrongFalsely : Prop := fnExactRibDropPeerRow.holds Try.pinned (OpenSpec.ofChange fnExactRibDropPeerWrong)

/-- 'laws.FnExactRibDrop': WHATEVER THE INPUT: true; the input reads as it did. -/
def fnExactRibDropSpec : ChangeSpec := { name := "fnExactRibDrop", fn := fun _ => fun
  | [d1, d2, d3] => { results := [.lit (.bool true)], args := [d1, d2, d3] }
  | _ => none }
def fnExactRibDropRow : OpenClaim := { program := "ytbmjicdnphfgaaa", sum := "6b5dfeaa7402723557052182aeba3c60ea303e2c9878ef955d01791e70337cf9", func := "loop.example/g00557/laws.FnExactRibDrop", spec := "fnExactRibDrop", unfollowed := true, recurses := true, apart := false }
def FnExactRibDropSaid : Prop := fnExactRibDropRow.holds Try.pinned (OpenSpec.ofChange fnExactRibDropSpec)

/-- ITS FALSE NEIGHBOUR: 'it returns false'. Refute it at one input. -/
def fnExactRibDropWrong : ChangeSpec := { name := "fnExactRibDrop", fn := fun _ => fun
  | [d1, d2, d3] => { results := [.lit (.bool false)], args := [d1, d2, d3] }
  | _ => none }
def FnExactRibDropWrongFalsely : Prop := fnExactRibDropRow.holds Try.pinned (OpenSpec.ofChange fnExactRibDropWrong)

/-- 'laws.FnExactRibPut': WHATEVER THE INPUT: true; the input reads as it did. -/
def fnExactRibPutSpec : ChangeSpec := { name := "fnExactRibPut", fn := fun _ => fun
  | [d1, d2] => { results := [.lit (.bool true)], args := [d1, d2] }
  | _ => none }
def fnExactRibPutRow : OpenClaim := { program := "ytbmjicdnphfgaaa", sum := "6b5dfeaa7402723557052182aeba3c60ea303e2c9878ef955d01791e70337cf9", func := "loop.example/g00557/laws.FnExactRibPut", spec := "fnExactRibPut", inPlace := ["slices.overlaps[loop.example/g00557/impl.Entry]"], unfollowed := true, recurses := true, apart := false }
def FnExactRibPutSaid : Prop := fnExactRibPutRow.holds Try.pinned (OpenSpec.ofChange fnExactRibPutSpec)

/-- ITS FALSE NEIGHBOUR: 'it returns false'. Refute it at one input. -/
def fnExactRibPutWrong : ChangeSpec := { name := "fnExactRibPut", fn := fun _ => fun
  | [d1, d2] => { results := [.lit (.bool false)], args := [d1, d2] }
  | _ => none }
def FnExactRibPutWrongFalsely : Prop := fnExactRibPutRow.holds Try.pinned (OpenSpec.ofChange fnExactRibPutWrong)

/- THE SECOND FORM. 'bulk': how many values and letters a reading holds, each counted each time it is reached (what is shared counts as often as it is met; a slice's spare places count too). A statement '..UptoSaid' is the law's where the arguments, and the package variables that the reading takes, are together of bulk at most 1048576: NARROWER than '..Said'. Prove '..Said' where nothing that the law and all that it calls make is longer than what came in: it says more and counts as full. Else prove '..UptoSaid'. A law counts once. -/
mutual
def uptoBulk {H : Type} : DataW H → Nat
  | .lit (.string bytes) => bytes.length + 1
  | .lit _ => 1
  | .nil => 1
  | .ptr d => uptoBulk d + 1
  | .slice elems spare => uptoBulkAll elems + uptoBulkAll spare + 1
  | .agg parts => uptoBulkAll parts + 1
  | .iface _ d => uptoBulk d + 1
  | .map entries => uptoBulkEntries entries + 1
  | .held _ => 1
def uptoBulkAll {H : Type} : List (DataW H) → Nat
  | [] => 0
  | d :: r => uptoBulk d + uptoBulkAll r
def uptoBulkEntries {H : Type} : List (Lit × DataW H) → Nat
  | [] => 0
  | x :: r => uptoBulkEntry x + uptoBulkEntries r
def uptoBulkEntry {H : Type} : Lit × DataW H → Nat
  | (.string bytes, d) => bytes.length + uptoBulk d + 1
  | (_, d) => uptoBulk d + 1
 end
def uptoSmall : (H : Type) → List (DataW H) → Bool := fun _ ds => decide (uptoBulkAll ds ≤ 1048576)
def OpenSpec.upto (s : _root_.Go.ChangeSpec) : _root_.Go.OpenSpec := { _root_.Go.OpenSpec.ofChange s with cond := some uptoSmall }

/-- 'laws.FnExactRibGet', WHERE WHAT IT READS IS OF BULK AT MOST 1048576: true; the input reads as it did. -/
def fnExactRibGetUptoRow : OpenClaim := { program := "ytbmjicdnphfgaaa", sum := "6b5dfeaa7402723557052182aeba3c60ea303e2c9878ef955d01791e70337cf9", func := "loop.example/g00557/laws.FnExactRibGet", spec := "fnExactRibGet", unfollowed := true, recurses := true, apart := false, narrowed := true }
def FnExactRibGetUptoSaid : Prop := fnExactRibGetUptoRow.holds Try.pinned (OpenSpec.upto fnExactRibGetSpec)

/-- 'laws.FnExactBest', WHERE WHAT IT READS IS OF BULK AT MOST 1048576: true; the input reads as it did. -/
def fnExactBestUptoRow : OpenClaim := { program := "ytbmjicdnphfgaaa", sum := "6b5dfeaa7402723557052182aeba3c60ea303e2c9878ef955d01791e70337cf9", func := "loop.example/g00557/laws.FnExactBest", spec := "fnExactBest", unfollowed := true, recurses := true, apart := false, narrowed := true }
def FnExactBestUptoSaid : Prop := fnExactBestUptoRow.holds Try.pinned (OpenSpec.upto fnExactBestSpec)

/-- 'laws.FnExactRibDropPeer', WHERE WHAT IT READS IS OF BULK AT MOST 1048576: true; the input reads as it did. -/
def fnExactRibDropPeerUptoRow : OpenClaim := { program := "ytbmjicdnphfgaaa", sum := "6b5dfeaa7402723557052182aeba3c60ea303e2c9878ef955d01791e70337cf9", func := "loop.example/g00557/laws.FnExactRibDropPeer", spec := "fnExactRibDropPeer", unfollowed := true, recurses := true, apart := false, narrowed := true }
def FnExactRibDropPeerUptoSaid : Prop := fnExactRibDropPeerUptoRow.holds Try.pinned (OpenSpec.upto fnExactRibDropPeerSpec)

/-- 'laws.FnExactRibDrop', WHERE WHAT IT READS IS OF BULK AT MOST 1048576: true; the input reads as it did. -/
def fnExactRibDropUptoRow : OpenClaim := { program := "ytbmjicdnphfgaaa", sum := "6b5dfeaa7402723557052182aeba3c60ea303e2c9878ef955d01791e70337cf9", func := "loop.example/g00557/laws.FnExactRibDrop", spec := "fnExactRibDrop", unfollowed := true, recurses := true, apart := false, narrowed := true }
def FnExactRibDropUptoSaid : Prop := fnExactRibDropUptoRow.holds Try.pinned (OpenSpec.upto fnExactRibDropSpec)

/-- 'laws.FnExactRibPut', WHERE WHAT IT READS IS OF BULK AT MOST 1048576: true; the input reads as it did. -/
def fnExactRibPutUptoRow : OpenClaim := { program := "ytbmjicdnphfgaaa", sum := "6b5dfeaa7402723557052182aeba3c60ea303e2c9878ef955d01791e70337cf9", func := "loop.example/g00557/laws.FnExactRibPut", spec := "fnExactRibPut", inPlace := ["slices.overlaps[loop.example/g00557/impl.Entry]"], unfollowed := true, recurses := true, apart := false, narrowed := true }
def FnExactRibPutUptoSaid : Prop := fnExactRibPutUptoRow.holds Try.pinned (OpenSpec.upto fnExactRibPutSpec)

end Rows
end Go.Proofs.Ytbmjicdnphfgaaa
