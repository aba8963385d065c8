/-
  No cell of these rows narrows 'for every input' (looked for: loops, veiled, ifaces, maps, wideKeys, modest, calm, conditions, laid).
  DERIVED. THE GIVEN ROWS OF THIS SEAT. 7 by the template 'for every input the law returns true; each argument reads behind the call as it read before'; 0 by the template 'total and deterministic' (their statements: YtcolclomhklokaaTotals.lean).
  GIVEN WITH THE SEED: the statements are not yours to turn. If you find one false, say at which input.
  Laid BY PROGRAM, IN A SANDBOX (cutbox-rows.mjs): the forced cells as the released guide's own fill.sh prints them over the translation 27602d85552f586c… (all of the seat's roots in one cut). By AI agents, Wed Nov 11 2026. No macro, syntax, notation, axiom, sorry.
-/
import Derived.Test.YtcolclomhklokaaChecked
import GoSem.Claim
import GoSem.ClaimJoined
import GoSem.ClaimMapViews
import Derived.JoinedTies
import Derived.KernelRfl
namespace Go.Proofs.Ytcolclomhklokaa
/- THE CELL 'sum', in the pinned program and in every row, IS THE sha256 OF THE DUMP (.gsa) THAT YtcolclomhklokaaProg.lean LOADS. Nothing in Lean hashes anything: it is a label: what it is worth is what the hold of that sum in a sandbox is worth. -/
noncomputable def Try.pinned : Pinned := { name := "ytcolclomhklokaa", sum := "27602d85552f586cf4f1eb75de64edd00bbf900fb6c42f76641a6b2b46a9b1e7", checked := Try.checked }
namespace Rows
def none {H : Type} : Left H := { results := [], args := [] }

/-- 'laws.FnExactPrefixOk': WHATEVER THE INPUT: true; the input reads as it did. -/
def fnExactPrefixOkSpec : ChangeSpec := { name := "fnExactPrefixOk", fn := fun _ => fun
  | [d] => { results := [.lit (.bool true)], args := [d] }
  | _ => none }
def fnExactPrefixOkRow : OpenClaim := { program := "ytcolclomhklokaa", sum := "27602d85552f586cf4f1eb75de64edd00bbf900fb6c42f76641a6b2b46a9b1e7", func := "loop.example/g00557/laws.FnExactPrefixOk", spec := "fnExactPrefixOk", plainKeys := false, apart := false }
def FnExactPrefixOkSaid : Prop := fnExactPrefixOkRow.holds Try.pinned (OpenSpec.ofChange fnExactPrefixOkSpec)

/-- ITS FALSE NEIGHBOUR: 'it returns false'. Refute it at one input. -/
def fnExactPrefixOkWrong : ChangeSpec := { name := "fnExactPrefixOk", fn := fun _ => fun
  | [d] => { results := [.lit (.bool false)], args := [d] }
  | _ => none }
def FnExactPrefixOkWrongFalsely : Prop := fnExactPrefixOkRow.holds Try.pinned (OpenSpec.ofChange fnExactPrefixOkWrong)

/-- 'laws.FnExactAddrOk': WHATEVER THE INPUT: true; the input reads as it did. -/
def fnExactAddrOkSpec : ChangeSpec := { name := "fnExactAddrOk", fn := fun _ => fun
  | [d] => { results := [.lit (.bool true)], args := [d] }
  | _ => none }
def fnExactAddrOkRow : OpenClaim := { program := "ytcolclomhklokaa", sum := "27602d85552f586cf4f1eb75de64edd00bbf900fb6c42f76641a6b2b46a9b1e7", func := "loop.example/g00557/laws.FnExactAddrOk", spec := "fnExactAddrOk", plainKeys := false, apart := false }
def FnExactAddrOkSaid : Prop := fnExactAddrOkRow.holds Try.pinned (OpenSpec.ofChange fnExactAddrOkSpec)

/-- ITS FALSE NEIGHBOUR: 'it returns false'. Refute it at one input. -/
def fnExactAddrOkWrong : ChangeSpec := { name := "fnExactAddrOk", fn := fun _ => fun
  | [d] => { results := [.lit (.bool false)], args := [d] }
  | _ => none }
def FnExactAddrOkWrongFalsely : Prop := fnExactAddrOkRow.holds Try.pinned (OpenSpec.ofChange fnExactAddrOkWrong)

/-- 'laws.FnExactCovers': WHATEVER THE INPUT: true; the input reads as it did. -/
def fnExactCoversSpec : ChangeSpec := { name := "fnExactCovers", fn := fun _ => fun
  | [d1, d2] => { results := [.lit (.bool true)], args := [d1, d2] }
  | _ => none }
def fnExactCoversRow : OpenClaim := { program := "ytcolclomhklokaa", sum := "27602d85552f586cf4f1eb75de64edd00bbf900fb6c42f76641a6b2b46a9b1e7", func := "loop.example/g00557/laws.FnExactCovers", spec := "fnExactCovers", plainKeys := false, apart := false }
def FnExactCoversSaid : Prop := fnExactCoversRow.holds Try.pinned (OpenSpec.ofChange fnExactCoversSpec)

/-- ITS FALSE NEIGHBOUR: 'it returns false'. Refute it at one input. -/
def fnExactCoversWrong : ChangeSpec := { name := "fnExactCovers", fn := fun _ => fun
  | [d1, d2] => { results := [.lit (.bool false)], args := [d1, d2] }
  | _ => none }
def FnExactCoversWrongFalsely : Prop := fnExactCoversRow.holds Try.pinned (OpenSpec.ofChange fnExactCoversWrong)

/-- 'laws.FnExactInside': WHATEVER THE INPUT: true; the input reads as it did. -/
def fnExactInsideSpec : ChangeSpec := { name := "fnExactInside", fn := fun _ => fun
  | [d1, d2] => { results := [.lit (.bool true)], args := [d1, d2] }
  | _ => none }
def fnExactInsideRow : OpenClaim := { program := "ytcolclomhklokaa", sum := "27602d85552f586cf4f1eb75de64edd00bbf900fb6c42f76641a6b2b46a9b1e7", func := "loop.example/g00557/laws.FnExactInside", spec := "fnExactInside", plainKeys := false, apart := false }
def FnExactInsideSaid : Prop := fnExactInsideRow.holds Try.pinned (OpenSpec.ofChange fnExactInsideSpec)

/-- ITS FALSE NEIGHBOUR: 'it returns false'. Refute it at one input. -/
def fnExactInsideWrong : ChangeSpec := { name := "fnExactInside", fn := fun _ => fun
  | [d1, d2] => { results := [.lit (.bool false)], args := [d1, d2] }
  | _ => none }
def FnExactInsideWrongFalsely : Prop := fnExactInsideRow.holds Try.pinned (OpenSpec.ofChange fnExactInsideWrong)

/-- 'laws.FnExactPrefixCmp': WHATEVER THE INPUT: true; the input reads as it did. -/
def fnExactPrefixCmpSpec : ChangeSpec := { name := "fnExactPrefixCmp", fn := fun _ => fun
  | [d1, d2] => { results := [.lit (.bool true)], args := [d1, d2] }
  | _ => none }
def fnExactPrefixCmpRow : OpenClaim := { program := "ytcolclomhklokaa", sum := "27602d85552f586cf4f1eb75de64edd00bbf900fb6c42f76641a6b2b46a9b1e7", func := "loop.example/g00557/laws.FnExactPrefixCmp", spec := "fnExactPrefixCmp", plainKeys := false, apart := false }
def FnExactPrefixCmpSaid : Prop := fnExactPrefixCmpRow.holds Try.pinned (OpenSpec.ofChange fnExactPrefixCmpSpec)

/-- ITS FALSE NEIGHBOUR: 'it returns false'. Refute it at one input. -/
def fnExactPrefixCmpWrong : ChangeSpec := { name := "fnExactPrefixCmp", fn := fun _ => fun
  | [d1, d2] => { results := [.lit (.bool false)], args := [d1, d2] }
  | _ => none }
def FnExactPrefixCmpWrongFalsely : Prop := fnExactPrefixCmpRow.holds Try.pinned (OpenSpec.ofChange fnExactPrefixCmpWrong)

/-- 'laws.FnExactPutPrefix': WHATEVER THE INPUT: true; the input reads as it did. -/
def fnExactPutPrefixSpec : ChangeSpec := { name := "fnExactPutPrefix", fn := fun _ => fun
  | [d1, d2] => { results := [.lit (.bool true)], args := [d1, d2] }
  | _ => none }
def fnExactPutPrefixRow : OpenClaim := { program := "ytcolclomhklokaa", sum := "27602d85552f586cf4f1eb75de64edd00bbf900fb6c42f76641a6b2b46a9b1e7", func := "loop.example/g00557/laws.FnExactPutPrefix", spec := "fnExactPutPrefix", plainKeys := false, apart := false }
def FnExactPutPrefixSaid : Prop := fnExactPutPrefixRow.holds Try.pinned (OpenSpec.ofChange fnExactPutPrefixSpec)

/-- ITS FALSE NEIGHBOUR: 'it returns false'. Refute it at one input. -/
def fnExactPutPrefixWrong : ChangeSpec := { name := "fnExactPutPrefix", fn := fun _ => fun
  | [d1, d2] => { results := [.lit (.bool false)], args := [d1, d2] }
  | _ => none }
def FnExactPutPrefixWrongFalsely : Prop := fnExactPutPrefixRow.holds Try.pinned (OpenSpec.ofChange fnExactPutPrefixWrong)

/-- 'laws.FnExactGetPrefix': WHATEVER THE INPUT: true; the input reads as it did. -/
def fnExactGetPrefixSpec : ChangeSpec := { name := "fnExactGetPrefix", fn := fun _ => fun
  | [d1, d2] => { results := [.lit (.bool true)], args := [d1, d2] }
  | _ => none }
def fnExactGetPrefixRow : OpenClaim := { program := "ytcolclomhklokaa", sum := "27602d85552f586cf4f1eb75de64edd00bbf900fb6c42f76641a6b2b46a9b1e7", func := "loop.example/g00557/laws.FnExactGetPrefix", spec := "fnExactGetPrefix", plainKeys := false, apart := false }
def FnExactGetPrefixSaid : Prop := fnExactGetPrefixRow.holds Try.pinned (OpenSpec.ofChange fnExactGetPrefixSpec)

/-- ITS FALSE NEIGHBOUR: 'it returns false'. Refute it at one input. -/
def fnExactGetPrefixWrong : ChangeSpec := { name := "fnExactGetPrefix", fn := fun _ => fun
  | [d1, d2] => { results := [.lit (.bool false)], args := [d1, d2] }
  | _ => none }
def FnExactGetPrefixWrongFalsely : Prop := fnExactGetPrefixRow.holds Try.pinned (OpenSpec.ofChange fnExactGetPrefixWrong)

/- THE SECOND FORM. 'bulk': how many values and letters a reading holds, each counted each time it is reached (what is shared counts as often as it is met; a slice's spare places count too). A statement '..UptoSaid' is the law's where the arguments, and the package variables that the reading takes, are together of bulk at most 1048576: NARROWER than '..Said'. Prove '..Said' where nothing that the law and all that it calls make is longer than what came in: it says more and counts as full. Else prove '..UptoSaid'. A law counts once. -/
mutual
def uptoBulk {H : Type} : DataW H → Nat
  | .lit (.string bytes) => bytes.length + 1
  | .lit _ => 1
  | .nil => 1
  | .ptr d => uptoBulk d + 1
  | .slice elems spare => uptoBulkAll elems + uptoBulkAll spare + 1
  | .agg parts => uptoBulkAll parts + 1
  | .iface _ d => uptoBulk d + 1
  | .map entries => uptoBulkEntries entries + 1
  | .held _ => 1
def uptoBulkAll {H : Type} : List (DataW H) → Nat
  | [] => 0
  | d :: r => uptoBulk d + uptoBulkAll r
def uptoBulkEntries {H : Type} : List (Lit × DataW H) → Nat
  | [] => 0
  | x :: r => uptoBulkEntry x + uptoBulkEntries r
def uptoBulkEntry {H : Type} : Lit × DataW H → Nat
  | (.string bytes, d) => bytes.length + uptoBulk d + 1
  | (_, d) => uptoBulk d + 1
 end
def uptoSmall : (H : Type) → List (DataW H) → Bool := fun _ ds => decide (uptoBulkAll ds ≤ 1048576)
def OpenSpec.upto (s : _root_.Go.ChangeSpec) : _root_.Go.OpenSpec := { _root_.Go.OpenSpec.ofChange s with cond := some uptoSmall }

/-- 'laws.FnExactPrefixOk', WHERE WHAT IT READS IS OF BULK AT MOST 1048576: true; the input reads as it did. -/
def fnExactPrefixOkUptoRow : OpenClaim := { program := "ytcolclomhklokaa", sum := "27602d85552f586cf4f1eb75de64edd00bbf900fb6c42f76641a6b2b46a9b1e7", func := "loop.example/g00557/laws.FnExactPrefixOk", spec := "fnExactPrefixOk", plainKeys := false, apart := false, narrowed := true }
def FnExactPrefixOkUptoSaid : Prop := fnExactPrefixOkUptoRow.holds Try.pinned (OpenSpec.upto fnExactPrefixOkSpec)

/-- 'laws.FnExactAddrOk', WHERE WHAT IT READS IS OF BULK AT MOST 1048576: true; the input reads as it did. -/
def fnExactAddrOkUptoRow : OpenClaim := { program := "ytcolclomhklokaa", sum := "27602d85552f586cf4f1eb75de64edd00bbf900fb6c42f76641a6b2b46a9b1e7", func := "loop.example/g00557/laws.FnExactAddrOk", spec := "fnExactAddrOk", plainKeys := false, apart := false, narrowed := true }
def FnExactAddrOkUptoSaid : Prop := fnExactAddrOkUptoRow.holds Try.pinned (OpenSpec.upto fnExactAddrOkSpec)

/-- 'laws.FnExactCovers', WHERE WHAT IT READS IS OF BULK AT MOST 1048576: true; the input reads as it did. -/
def fnExactCoversUptoRow : OpenClaim := { program := "ytcolclomhklokaa", sum := "27602d85552f586cf4f1eb75de64edd00bbf900fb6c42f76641a6b2b46a9b1e7", func := "loop.example/g00557/laws.FnExactCovers", spec := "fnExactCovers", plainKeys := false, apart := false, narrowed := true }
def FnExactCoversUptoSaid : Prop := fnExactCoversUptoRow.holds Try.pinned (OpenSpec.upto fnExactCoversSpec)

/-- 'laws.FnExactInside', WHERE WHAT IT READS IS OF BULK AT MOST 1048576: true; the input reads as it did. -/
def fnExactInsideUptoRow : OpenClaim := { program := "ytcolclomhklokaa", sum := "27602d85552f586cf4f1eb75de64edd00bbf900fb6c42f76641a6b2b46a9b1e7", func := "loop.example/g00557/laws.FnExactInside", spec := "fnExactInside", plainKeys := false, apart := false, narrowed := true }
def FnExactInsideUptoSaid : Prop := fnExactInsideUptoRow.holds Try.pinned (OpenSpec.upto fnExactInsideSpec)

/-- 'laws.FnExactPrefixCmp', WHERE WHAT IT READS IS OF BULK AT MOST 1048576: true; the input reads as it did. -/
def fnExactPrefixCmpUptoRow : OpenClaim := { program := "ytcolclomhklokaa", sum := "27602d85552f586cf4f1eb75de64edd00bbf900fb6c42f76641a6b2b46a9b1e7", func := "loop.example/g00557/laws.FnExactPrefixCmp", spec := "fnExactPrefixCmp", plainKeys := false, apart := false, narrowed := true }
def FnExactPrefixCmpUptoSaid : Prop := fnExactPrefixCmpUptoRow.holds Try.pinned (OpenSpec.upto fnExactPrefixCmpSpec)

/-- 'laws.FnExactPutPrefix', WHERE WHAT IT READS IS OF BULK AT MOST 1048576: true; the input reads as it did. -/
def fnExactPutPrefixUptoRow : OpenClaim := { program := "ytcolclomhklokaa", sum := "27602d85552f586cf4f1eb75de64edd00bbf900fb6c42f76641a6b2b46a9b1e7", func := "loop.example/g00557/laws.FnExactPutPrefix", spec := "fnExactPutPrefix", plainKeys := false, apart := false, narrowed := true }
def FnExactPutPrefixUptoSaid : Prop := fnExactPutPrefixUptoRow.holds Try.pinned (OpenSpec.upto fnExactPutPrefixSpec)

/-- 'laws.FnExactGetPrefix', WHERE WHAT IT READS IS OF BULK AT MOST 1048576: true; the input reads as it did. -/
def fnExactGetPrefixUptoRow : OpenClaim := { program := "ytcolclomhklokaa", sum := "27602d85552f586cf4f1eb75de64edd00bbf900fb6c42f76641a6b2b46a9b1e7", func := "loop.example/g00557/laws.FnExactGetPrefix", spec := "fnExactGetPrefix", plainKeys := false, apart := false, narrowed := true }
def FnExactGetPrefixUptoSaid : Prop := fnExactGetPrefixUptoRow.holds Try.pinned (OpenSpec.upto fnExactGetPrefixSpec)

end Rows
end Go.Proofs.Ytcolclomhklokaa
