/-
  No cell of these rows narrows 'for every input' (looked for: loops, veiled, ifaces, maps, wideKeys, modest, calm, conditions, laid).
  DERIVED. THE GIVEN ROWS OF THIS SEAT. 8 by the template 'for every input the law returns true; each argument reads behind the call as it read before'; 0 by the template 'total and deterministic' (their statements: YtnobdcikkejeiaaTotals.lean).
  GIVEN WITH THE SEED: the statements are not yours to turn. If you find one false, say at which input.
  Laid BY PROGRAM, IN A SANDBOX (cutbox-rows.mjs): the forced cells as the released guide's own fill.sh prints them over the translation 340aeff20c14680a… (all of the seat's roots in one cut). By AI agents, Wed Nov 11 2026. No macro, syntax, notation, axiom, sorry.
-/
import Derived.Test.YtnobdcikkejeiaaChecked
import GoSem.Claim
import GoSem.ClaimJoined
import GoSem.ClaimMapViews
import Derived.JoinedTies
import Derived.KernelRfl
namespace Go.Proofs.Ytnobdcikkejeiaa
/- THE CELL 'sum', in the pinned program and in every row, IS THE sha256 OF THE DUMP (.gsa) THAT YtnobdcikkejeiaaProg.lean LOADS. Nothing in Lean hashes anything: it is a label: what it is worth is what the hold of that sum in a sandbox is worth. -/
noncomputable def Try.pinned : Pinned := { name := "ytnobdcikkejeiaa", sum := "340aeff20c14680a45d6da16b043cbae9bd7548b04690cc687fdafbd90f17295", checked := Try.checked }
namespace Rows
def none {H : Type} : Left H := { results := [], args := [] }

/-- 'laws.FnExactAttrOk': WHATEVER THE INPUT: true; the input reads as it did. -/
def fnExactAttrOkSpec : ChangeSpec := { name := "fnExactAttrOk", fn := fun _ => fun
  | [d] => { results := [.lit (.bool true)], args := [d] }
  | _ => none }
def fnExactAttrOkRow : OpenClaim := { program := "ytnobdcikkejeiaa", sum := "340aeff20c14680a45d6da16b043cbae9bd7548b04690cc687fdafbd90f17295", func := "loop.example/g00557/laws.FnExactAttrOk", spec := "fnExactAttrOk", apart := false }
def FnExactAttrOkSaid : Prop := fnExactAttrOkRow.holds Try.pinned (OpenSpec.ofChange fnExactAttrOkSpec)

/-- ITS FALSE NEIGHBOUR: 'it returns false'. Refute it at one input. -/
def fnExactAttrOkWrong : ChangeSpec := { name := "fnExactAttrOk", fn := fun _ => fun
  | [d] => { results := [.lit (.bool false)], args := [d] }
  | _ => none }
def FnExactAttrOkWrongFalsely : Prop := fnExactAttrOkRow.holds Try.pinned (OpenSpec.ofChange fnExactAttrOkWrong)

/-- 'laws.FnExactPathHas': WHATEVER THE INPUT: true; the input reads as it did. -/
def fnExactPathHasSpec : ChangeSpec := { name := "fnExactPathHas", fn := fun _ => fun
  | [d1, d2] => { results := [.lit (.bool true)], args := [d1, d2] }
  | _ => none }
def fnExactPathHasRow : OpenClaim := { program := "ytnobdcikkejeiaa", sum := "340aeff20c14680a45d6da16b043cbae9bd7548b04690cc687fdafbd90f17295", func := "loop.example/g00557/laws.FnExactPathHas", spec := "fnExactPathHas", apart := false }
def FnExactPathHasSaid : Prop := fnExactPathHasRow.holds Try.pinned (OpenSpec.ofChange fnExactPathHasSpec)

/-- ITS FALSE NEIGHBOUR: 'it returns false'. Refute it at one input. -/
def fnExactPathHasWrong : ChangeSpec := { name := "fnExactPathHas", fn := fun _ => fun
  | [d1, d2] => { results := [.lit (.bool false)], args := [d1, d2] }
  | _ => none }
def FnExactPathHasWrongFalsely : Prop := fnExactPathHasRow.holds Try.pinned (OpenSpec.ofChange fnExactPathHasWrong)

/-- 'laws.FnExactPrepend': WHATEVER THE INPUT: true; the input reads as it did. -/
def fnExactPrependSpec : ChangeSpec := { name := "fnExactPrepend", fn := fun _ => fun
  | [d1, d2] => { results := [.lit (.bool true)], args := [d1, d2] }
  | _ => none }
def fnExactPrependRow : OpenClaim := { program := "ytnobdcikkejeiaa", sum := "340aeff20c14680a45d6da16b043cbae9bd7548b04690cc687fdafbd90f17295", func := "loop.example/g00557/laws.FnExactPrepend", spec := "fnExactPrepend", inPlace := ["slices.overlaps[int]"], apart := false }
def FnExactPrependSaid : Prop := fnExactPrependRow.holds Try.pinned (OpenSpec.ofChange fnExactPrependSpec)

/-- ITS FALSE NEIGHBOUR: 'it returns false'. Refute it at one input. -/
def fnExactPrependWrong : ChangeSpec := { name := "fnExactPrepend", fn := fun _ => fun
  | [d1, d2] => { results := [.lit (.bool false)], args := [d1, d2] }
  | _ => none }
def FnExactPrependWrongFalsely : Prop := fnExactPrependRow.holds Try.pinned (OpenSpec.ofChange fnExactPrependWrong)

/-- 'laws.FnExactWithComm': WHATEVER THE INPUT: true; the input reads as it did. -/
def fnExactWithCommSpec : ChangeSpec := { name := "fnExactWithComm", fn := fun _ => fun
  | [d1, d2] => { results := [.lit (.bool true)], args := [d1, d2] }
  | _ => none }
def fnExactWithCommRow : OpenClaim := { program := "ytnobdcikkejeiaa", sum := "340aeff20c14680a45d6da16b043cbae9bd7548b04690cc687fdafbd90f17295", func := "loop.example/g00557/laws.FnExactWithComm", spec := "fnExactWithComm", apart := false }
def FnExactWithCommSaid : Prop := fnExactWithCommRow.holds Try.pinned (OpenSpec.ofChange fnExactWithCommSpec)

/-- ITS FALSE NEIGHBOUR: 'it returns false'. Refute it at one input. -/
def fnExactWithCommWrong : ChangeSpec := { name := "fnExactWithComm", fn := fun _ => fun
  | [d1, d2] => { results := [.lit (.bool false)], args := [d1, d2] }
  | _ => none }
def FnExactWithCommWrongFalsely : Prop := fnExactWithCommRow.holds Try.pinned (OpenSpec.ofChange fnExactWithCommWrong)

/-- 'laws.FnExactShut': WHATEVER THE INPUT: true; the input reads as it did. -/
def fnExactShutSpec : ChangeSpec := { name := "fnExactShut", fn := fun _ => fun
  | [d] => { results := [.lit (.bool true)], args := [d] }
  | _ => none }
def fnExactShutRow : OpenClaim := { program := "ytnobdcikkejeiaa", sum := "340aeff20c14680a45d6da16b043cbae9bd7548b04690cc687fdafbd90f17295", func := "loop.example/g00557/laws.FnExactShut", spec := "fnExactShut", apart := false }
def FnExactShutSaid : Prop := fnExactShutRow.holds Try.pinned (OpenSpec.ofChange fnExactShutSpec)

/-- ITS FALSE NEIGHBOUR: 'it returns false'. Refute it at one input. -/
def fnExactShutWrong : ChangeSpec := { name := "fnExactShut", fn := fun _ => fun
  | [d] => { results := [.lit (.bool false)], args := [d] }
  | _ => none }
def FnExactShutWrongFalsely : Prop := fnExactShutRow.holds Try.pinned (OpenSpec.ofChange fnExactShutWrong)

/-- 'laws.FnExactAttrCmp': WHATEVER THE INPUT: true; the input reads as it did. -/
def fnExactAttrCmpSpec : ChangeSpec := { name := "fnExactAttrCmp", fn := fun _ => fun
  | [d1, d2] => { results := [.lit (.bool true)], args := [d1, d2] }
  | _ => none }
def fnExactAttrCmpRow : OpenClaim := { program := "ytnobdcikkejeiaa", sum := "340aeff20c14680a45d6da16b043cbae9bd7548b04690cc687fdafbd90f17295", func := "loop.example/g00557/laws.FnExactAttrCmp", spec := "fnExactAttrCmp", unfollowed := true, recurses := true, apart := false }
def FnExactAttrCmpSaid : Prop := fnExactAttrCmpRow.holds Try.pinned (OpenSpec.ofChange fnExactAttrCmpSpec)

/-- ITS FALSE NEIGHBOUR: 'it returns false'. Refute it at one input. -/
def fnExactAttrCmpWrong : ChangeSpec := { name := "fnExactAttrCmp", fn := fun _ => fun
  | [d1, d2] => { results := [.lit (.bool false)], args := [d1, d2] }
  | _ => none }
def FnExactAttrCmpWrongFalsely : Prop := fnExactAttrCmpRow.holds Try.pinned (OpenSpec.ofChange fnExactAttrCmpWrong)

/-- 'laws.FnExactBetter': WHATEVER THE INPUT: true; the input reads as it did. -/
def fnExactBetterSpec : ChangeSpec := { name := "fnExactBetter", fn := fun _ => fun
  | [d1, d2] => { results := [.lit (.bool true)], args := [d1, d2] }
  | _ => none }
def fnExactBetterRow : OpenClaim := { program := "ytnobdcikkejeiaa", sum := "340aeff20c14680a45d6da16b043cbae9bd7548b04690cc687fdafbd90f17295", func := "loop.example/g00557/laws.FnExactBetter", spec := "fnExactBetter", unfollowed := true, recurses := true, apart := false }
def FnExactBetterSaid : Prop := fnExactBetterRow.holds Try.pinned (OpenSpec.ofChange fnExactBetterSpec)

/-- ITS FALSE NEIGHBOUR: 'it returns false'. Refute it at one input. -/
def fnExactBetterWrong : ChangeSpec := { name := "fnExactBetter", fn := fun _ => fun
  | [d1, d2] => { results := [.lit (.bool false)], args := [d1, d2] }
  | _ => none }
def FnExactBetterWrongFalsely : Prop := fnExactBetterRow.holds Try.pinned (OpenSpec.ofChange fnExactBetterWrong)

/-- 'laws.FnExactEqual': WHATEVER THE INPUT: true; the input reads as it did. -/
def fnExactEqualSpec : ChangeSpec := { name := "fnExactEqual", fn := fun _ => fun
  | [d1, d2] => { results := [.lit (.bool true)], args := [d1, d2] }
  | _ => none }
def fnExactEqualRow : OpenClaim := { program := "ytnobdcikkejeiaa", sum := "340aeff20c14680a45d6da16b043cbae9bd7548b04690cc687fdafbd90f17295", func := "loop.example/g00557/laws.FnExactEqual", spec := "fnExactEqual", unfollowed := true, recurses := true, apart := false }
def FnExactEqualSaid : Prop := fnExactEqualRow.holds Try.pinned (OpenSpec.ofChange fnExactEqualSpec)

/-- ITS FALSE NEIGHBOUR: 'it returns false'. Refute it at one input. -/
def fnExactEqualWrong : ChangeSpec := { name := "fnExactEqual", fn := fun _ => fun
  | [d1, d2] => { results := [.lit (.bool false)], args := [d1, d2] }
  | _ => none }
def FnExactEqualWrongFalsely : Prop := fnExactEqualRow.holds Try.pinned (OpenSpec.ofChange fnExactEqualWrong)

/- THE SECOND FORM. 'bulk': how many values and letters a reading holds, each counted each time it is reached (what is shared counts as often as it is met; a slice's spare places count too). A statement '..UptoSaid' is the law's where the arguments, and the package variables that the reading takes, are together of bulk at most 1048576: NARROWER than '..Said'. Prove '..Said' where nothing that the law and all that it calls make is longer than what came in: it says more and counts as full. Else prove '..UptoSaid'. A law counts once. -/
mutual
def uptoBulk {H : Type} : DataW H → Nat
  | .lit (.string bytes) => bytes.length + 1
  | .lit _ => 1
  | .nil => 1
  | .ptr d => uptoBulk d + 1
  | .slice elems spare => uptoBulkAll elems + uptoBulkAll spare + 1
  | .agg parts => uptoBulkAll parts + 1
  | .iface _ d => uptoBulk d + 1
  | .map entries => uptoBulkEntries entries + 1
  | .held _ => 1
def uptoBulkAll {H : Type} : List (DataW H) → Nat
  | [] => 0
  | d :: r => uptoBulk d + uptoBulkAll r
def uptoBulkEntries {H : Type} : List (Lit × DataW H) → Nat
  | [] => 0
  | x :: r => uptoBulkEntry x + uptoBulkEntries r
def uptoBulkEntry {H : Type} : Lit × DataW H → Nat
  | (.string bytes, d) => bytes.length + uptoBulk d + 1
  | (_, d) => uptoBulk d + 1
 end
def uptoSmall : (H : Type) → List (DataW H) → Bool := fun _ ds => decide (uptoBulkAll ds ≤ 1048576)
def OpenSpec.upto (s : _root_.Go.ChangeSpec) : _root_.Go.OpenSpec := { _root_.Go.OpenSpec.ofChange s with cond := some uptoSmall }

/-- 'laws.FnExactAttrOk', WHERE WHAT IT READS IS OF BULK AT MOST 1048576: true; the input reads as it did. -/
def fnExactAttrOkUptoRow : OpenClaim := { program := "ytnobdcikkejeiaa", sum := "340aeff20c14680a45d6da16b043cbae9bd7548b04690cc687fdafbd90f17295", func := "loop.example/g00557/laws.FnExactAttrOk", spec := "fnExactAttrOk", apart := false, narrowed := true }
def FnExactAttrOkUptoSaid : Prop := fnExactAttrOkUptoRow.holds Try.pinned (OpenSpec.upto fnExactAttrOkSpec)

/-- 'laws.FnExactPathHas', WHERE WHAT IT READS IS OF BULK AT MOST 1048576: true; the input reads as it did. -/
def fnExactPathHasUptoRow : OpenClaim := { program := "ytnobdcikkejeiaa", sum := "340aeff20c14680a45d6da16b043cbae9bd7548b04690cc687fdafbd90f17295", func := "loop.example/g00557/laws.FnExactPathHas", spec := "fnExactPathHas", apart := false, narrowed := true }
def FnExactPathHasUptoSaid : Prop := fnExactPathHasUptoRow.holds Try.pinned (OpenSpec.upto fnExactPathHasSpec)

/-- 'laws.FnExactPrepend', WHERE WHAT IT READS IS OF BULK AT MOST 1048576: true; the input reads as it did. -/
def fnExactPrependUptoRow : OpenClaim := { program := "ytnobdcikkejeiaa", sum := "340aeff20c14680a45d6da16b043cbae9bd7548b04690cc687fdafbd90f17295", func := "loop.example/g00557/laws.FnExactPrepend", spec := "fnExactPrepend", inPlace := ["slices.overlaps[int]"], apart := false, narrowed := true }
def FnExactPrependUptoSaid : Prop := fnExactPrependUptoRow.holds Try.pinned (OpenSpec.upto fnExactPrependSpec)

/-- 'laws.FnExactWithComm', WHERE WHAT IT READS IS OF BULK AT MOST 1048576: true; the input reads as it did. -/
def fnExactWithCommUptoRow : OpenClaim := { program := "ytnobdcikkejeiaa", sum := "340aeff20c14680a45d6da16b043cbae9bd7548b04690cc687fdafbd90f17295", func := "loop.example/g00557/laws.FnExactWithComm", spec := "fnExactWithComm", apart := false, narrowed := true }
def FnExactWithCommUptoSaid : Prop := fnExactWithCommUptoRow.holds Try.pinned (OpenSpec.upto fnExactWithCommSpec)

/-- 'laws.FnExactShut', WHERE WHAT IT READS IS OF BULK AT MOST 1048576: true; the input reads as it did. -/
def fnExactShutUptoRow : OpenClaim := { program := "ytnobdcikkejeiaa", sum := "340aeff20c14680a45d6da16b043cbae9bd7548b04690cc687fdafbd90f17295", func := "loop.example/g00557/laws.FnExactShut", spec := "fnExactShut", apart := false, narrowed := true }
def FnExactShutUptoSaid : Prop := fnExactShutUptoRow.holds Try.pinned (OpenSpec.upto fnExactShutSpec)

/-- 'laws.FnExactAttrCmp', WHERE WHAT IT READS IS OF BULK AT MOST 1048576: true; the input reads as it did. -/
def fnExactAttrCmpUptoRow : OpenClaim := { program := "ytnobdcikkejeiaa", sum := "340aeff20c14680a45d6da16b043cbae9bd7548b04690cc687fdafbd90f17295", func := "loop.example/g00557/laws.FnExactAttrCmp", spec := "fnExactAttrCmp", unfollowed := true, recurses := true, apart := false, narrowed := true }
def FnExactAttrCmpUptoSaid : Prop := fnExactAttrCmpUptoRow.holds Try.pinned (OpenSpec.upto fnExactAttrCmpSpec)

/-- 'laws.FnExactBetter', WHERE WHAT IT READS IS OF BULK AT MOST 1048576: true; the input reads as it did. -/
def fnExactBetterUptoRow : OpenClaim := { program := "ytnobdcikkejeiaa", sum := "340aeff20c14680a45d6da16b043cbae9bd7548b04690cc687fdafbd90f17295", func := "loop.example/g00557/laws.FnExactBetter", spec := "fnExactBetter", unfollowed := true, recurses := true, apart := false, narrowed := true }
def FnExactBetterUptoSaid : Prop := fnExactBetterUptoRow.holds Try.pinned (OpenSpec.upto fnExactBetterSpec)

/-- 'laws.FnExactEqual', WHERE WHAT IT READS IS OF BULK AT MOST 1048576: true; the input reads as it did. -/
def fnExactEqualUptoRow : OpenClaim := { program := "ytnobdcikkejeiaa", sum := "340aeff20c14680a45d6da16b043cbae9bd7548b04690cc687fdafbd90f17295", func := "loop.example/g00557/laws.FnExactEqual", spec := "fnExactEqual", unfollowed := true, recurses := true, apart := false, narrowed := true }
def FnExactEqualUptoSaid : Prop := fnExactEqualUptoRow.holds Try.pinned (OpenSpec.upto fnExactEqualSpec)

end Rows
end Go.Proofs.Ytnobdcikkejeiaa
