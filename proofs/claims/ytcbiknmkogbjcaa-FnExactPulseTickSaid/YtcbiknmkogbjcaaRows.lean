/-
  No cell of these rows narrows 'for every input' (looked for: loops, veiled, ifaces, maps, wideKeys, modest, calm, conditions, laid).
  DERIVED. THE GIVEN ROWS OF THIS SEAT. 7 by the template 'for every input the law returns true; each argument reads behind the call as it read before'; 0 by the template 'total and deterministic' (their statements: YtcbiknmkogbjcaaTotals.lean).
  GIVEN WITH THE SEED: the statements are not yours to turn. If you find one false, say at which input.
  Laid BY PROGRAM, IN A SANDBOX (cutbox-rows.mjs): the forced cells as the released guide's own fill.sh prints them over the translation 623007257d2e5565… (all of the seat's roots in one cut). By AI agents, Wed Nov 11 2026. No macro, syntax, notation, axiom, sorry.
-/
import Derived.Test.YtcbiknmkogbjcaaChecked
import GoSem.Claim
import GoSem.ClaimJoined
import GoSem.ClaimMapViews
import Derived.JoinedTies
import Derived.KernelRfl
namespace Go.Proofs.Ytcbiknmkogbjcaa
/- THE CELL 'sum', in the pinned program and in every row, IS THE sha256 OF THE DUMP (.gsa) THAT YtcbiknmkogbjcaaProg.lean LOADS. Nothing in Lean hashes anything: it is a label: what it is worth is what the hold of that sum in a sandbox is worth. -/
noncomputable def Try.pinned : Pinned := { name := "ytcbiknmkogbjcaa", sum := "623007257d2e556545c314ce6d84253172eadb9b4957dddc2033f32f6d394adb", checked := Try.checked }
namespace Rows
def none {H : Type} : Left H := { results := [], args := [] }

/-- 'laws.FnExactPulseOk': WHATEVER THE INPUT: true; the input reads as it did. -/
def fnExactPulseOkSpec : ChangeSpec := { name := "fnExactPulseOk", fn := fun _ => fun
  | [d] => { results := [.lit (.bool true)], args := [d] }
  | _ => none }
def fnExactPulseOkRow : OpenClaim := { program := "ytcbiknmkogbjcaa", sum := "623007257d2e556545c314ce6d84253172eadb9b4957dddc2033f32f6d394adb", func := "loop.example/g00557/laws.FnExactPulseOk", spec := "fnExactPulseOk", apart := false }
def FnExactPulseOkSaid : Prop := fnExactPulseOkRow.holds Try.pinned (OpenSpec.ofChange fnExactPulseOkSpec)

/-- ITS FALSE NEIGHBOUR: 'it returns false'. Refute it at one input. -/
def fnExactPulseOkWrong : ChangeSpec := { name := "fnExactPulseOk", fn := fun _ => fun
  | [d] => { results := [.lit (.bool false)], args := [d] }
  | _ => none }
def FnExactPulseOkWrongFalsely : Prop := fnExactPulseOkRow.holds Try.pinned (OpenSpec.ofChange fnExactPulseOkWrong)

/-- 'laws.FnExactBeatOk': WHATEVER THE INPUT: true; the input reads as it did. -/
def fnExactBeatOkSpec : ChangeSpec := { name := "fnExactBeatOk", fn := fun _ => fun
  | [d] => { results := [.lit (.bool true)], args := [d] }
  | _ => none }
def fnExactBeatOkRow : OpenClaim := { program := "ytcbiknmkogbjcaa", sum := "623007257d2e556545c314ce6d84253172eadb9b4957dddc2033f32f6d394adb", func := "loop.example/g00557/laws.FnExactBeatOk", spec := "fnExactBeatOk", apart := false }
def FnExactBeatOkSaid : Prop := fnExactBeatOkRow.holds Try.pinned (OpenSpec.ofChange fnExactBeatOkSpec)

/-- ITS FALSE NEIGHBOUR: 'it returns false'. Refute it at one input. -/
def fnExactBeatOkWrong : ChangeSpec := { name := "fnExactBeatOk", fn := fun _ => fun
  | [d] => { results := [.lit (.bool false)], args := [d] }
  | _ => none }
def FnExactBeatOkWrongFalsely : Prop := fnExactBeatOkRow.holds Try.pinned (OpenSpec.ofChange fnExactBeatOkWrong)

/-- 'laws.FnExactPulseNew': WHATEVER THE INPUT: true; the input reads as it did. -/
def fnExactPulseNewSpec : ChangeSpec := { name := "fnExactPulseNew", fn := fun _ => fun
  | [d1, d2] => { results := [.lit (.bool true)], args := [d1, d2] }
  | _ => none }
def fnExactPulseNewRow : OpenClaim := { program := "ytcbiknmkogbjcaa", sum := "623007257d2e556545c314ce6d84253172eadb9b4957dddc2033f32f6d394adb", func := "loop.example/g00557/laws.FnExactPulseNew", spec := "fnExactPulseNew", apart := false }
def FnExactPulseNewSaid : Prop := fnExactPulseNewRow.holds Try.pinned (OpenSpec.ofChange fnExactPulseNewSpec)

/-- ITS FALSE NEIGHBOUR: 'it returns false'. Refute it at one input. -/
def fnExactPulseNewWrong : ChangeSpec := { name := "fnExactPulseNew", fn := fun _ => fun
  | [d1, d2] => { results := [.lit (.bool false)], args := [d1, d2] }
  | _ => none }
def FnExactPulseNewWrongFalsely : Prop := fnExactPulseNewRow.holds Try.pinned (OpenSpec.ofChange fnExactPulseNewWrong)

/-- 'laws.FnExactBeatOf': WHATEVER THE INPUT: true; the input reads as it did. -/
def fnExactBeatOfSpec : ChangeSpec := { name := "fnExactBeatOf", fn := fun _ => fun
  | [d] => { results := [.lit (.bool true)], args := [d] }
  | _ => none }
def fnExactBeatOfRow : OpenClaim := { program := "ytcbiknmkogbjcaa", sum := "623007257d2e556545c314ce6d84253172eadb9b4957dddc2033f32f6d394adb", func := "loop.example/g00557/laws.FnExactBeatOf", spec := "fnExactBeatOf", apart := false }
def FnExactBeatOfSaid : Prop := fnExactBeatOfRow.holds Try.pinned (OpenSpec.ofChange fnExactBeatOfSpec)

/-- ITS FALSE NEIGHBOUR: 'it returns false'. Refute it at one input. -/
def fnExactBeatOfWrong : ChangeSpec := { name := "fnExactBeatOf", fn := fun _ => fun
  | [d] => { results := [.lit (.bool false)], args := [d] }
  | _ => none }
def FnExactBeatOfWrongFalsely : Prop := fnExactBeatOfRow.holds Try.pinned (OpenSpec.ofChange fnExactBeatOfWrong)

/-- 'laws.FnExactPulseTick': WHATEVER THE INPUT: true; the input reads as it did. -/
def fnExactPulseTickSpec : ChangeSpec := { name := "fnExactPulseTick", fn := fun _ => fun
  | [d] => { results := [.lit (.bool true)], args := [d] }
  | _ => none }
def fnExactPulseTickRow : OpenClaim := { program := "ytcbiknmkogbjcaa", sum := "623007257d2e556545c314ce6d84253172eadb9b4957dddc2033f32f6d394adb", func := "loop.example/g00557/laws.FnExactPulseTick", spec := "fnExactPulseTick", apart := false }
def FnExactPulseTickSaid : Prop := fnExactPulseTickRow.holds Try.pinned (OpenSpec.ofChange fnExactPulseTickSpec)

/-- ITS FALSE NEIGHBOUR: 'it returns false'. Refute it at one input. -/
def fnExactPulseTickWrong : ChangeSpec := { name := "fnExactPulseTick", fn := fun _ => fun
  | [d] => { results := [.lit (.bool false)], args := [d] }
  | _ => none }
def FnExactPulseTickWrongFalsely : Prop := fnExactPulseTickRow.holds Try.pinned (OpenSpec.ofChange fnExactPulseTickWrong)

/-- 'laws.FnExactAdmin': WHATEVER THE INPUT: true; the input reads as it did. -/
def fnExactAdminSpec : ChangeSpec := { name := "fnExactAdmin", fn := fun _ => fun
  | [d1, d2] => { results := [.lit (.bool true)], args := [d1, d2] }
  | _ => none }
def fnExactAdminRow : OpenClaim := { program := "ytcbiknmkogbjcaa", sum := "623007257d2e556545c314ce6d84253172eadb9b4957dddc2033f32f6d394adb", func := "loop.example/g00557/laws.FnExactAdmin", spec := "fnExactAdmin", apart := false }
def FnExactAdminSaid : Prop := fnExactAdminRow.holds Try.pinned (OpenSpec.ofChange fnExactAdminSpec)

/-- ITS FALSE NEIGHBOUR: 'it returns false'. Refute it at one input. -/
def fnExactAdminWrong : ChangeSpec := { name := "fnExactAdmin", fn := fun _ => fun
  | [d1, d2] => { results := [.lit (.bool false)], args := [d1, d2] }
  | _ => none }
def FnExactAdminWrongFalsely : Prop := fnExactAdminRow.holds Try.pinned (OpenSpec.ofChange fnExactAdminWrong)

/-- 'laws.FnExactMsgRead': WHATEVER THE INPUT: true; the input reads as it did. -/
def fnExactMsgReadSpec : ChangeSpec := { name := "fnExactMsgRead", fn := fun _ => fun
  | [d] => { results := [.lit (.bool true)], args := [d] }
  | _ => none }
def fnExactMsgReadRow : OpenClaim := { program := "ytcbiknmkogbjcaa", sum := "623007257d2e556545c314ce6d84253172eadb9b4957dddc2033f32f6d394adb", func := "loop.example/g00557/laws.FnExactMsgRead", spec := "fnExactMsgRead", unfollowed := true, recurses := true, apart := false }
def FnExactMsgReadSaid : Prop := fnExactMsgReadRow.holds Try.pinned (OpenSpec.ofChange fnExactMsgReadSpec)

/-- ITS FALSE NEIGHBOUR: 'it returns false'. Refute it at one input. -/
def fnExactMsgReadWrong : ChangeSpec := { name := "fnExactMsgRead", fn := fun _ => fun
  | [d] => { results := [.lit (.bool false)], args := [d] }
  | _ => none }
def FnExactMsgReadWrongFalsely : Prop := fnExactMsgReadRow.holds Try.pinned (OpenSpec.ofChange fnExactMsgReadWrong)

/- THE SECOND FORM. 'bulk': how many values and letters a reading holds, each counted each time it is reached (what is shared counts as often as it is met; a slice's spare places count too). A statement '..UptoSaid' is the law's where the arguments, and the package variables that the reading takes, are together of bulk at most 1048576: NARROWER than '..Said'. Prove '..Said' where nothing that the law and all that it calls make is longer than what came in: it says more and counts as full. Else prove '..UptoSaid'. A law counts once. -/
mutual
def uptoBulk {H : Type} : DataW H → Nat
  | .lit (.string bytes) => bytes.length + 1
  | .lit _ => 1
  | .nil => 1
  | .ptr d => uptoBulk d + 1
  | .slice elems spare => uptoBulkAll elems + uptoBulkAll spare + 1
  | .agg parts => uptoBulkAll parts + 1
  | .iface _ d => uptoBulk d + 1
  | .map entries => uptoBulkEntries entries + 1
  | .held _ => 1
def uptoBulkAll {H : Type} : List (DataW H) → Nat
  | [] => 0
  | d :: r => uptoBulk d + uptoBulkAll r
def uptoBulkEntries {H : Type} : List (Lit × DataW H) → Nat
  | [] => 0
  | x :: r => uptoBulkEntry x + uptoBulkEntries r
def uptoBulkEntry {H : Type} : Lit × DataW H → Nat
  | (.string bytes, d) => bytes.length + uptoBulk d + 1
  | (_, d) => uptoBulk d + 1
 end
def uptoSmall : (H : Type) → List (DataW H) → Bool := fun _ ds => decide (uptoBulkAll ds ≤ 1048576)
def OpenSpec.upto (s : _root_.Go.ChangeSpec) : _root_.Go.OpenSpec := { _root_.Go.OpenSpec.ofChange s with cond := some uptoSmall }

/-- 'laws.FnExactPulseOk', WHERE WHAT IT READS IS OF BULK AT MOST 1048576: true; the input reads as it did. -/
def fnExactPulseOkUptoRow : OpenClaim := { program := "ytcbiknmkogbjcaa", sum := "623007257d2e556545c314ce6d84253172eadb9b4957dddc2033f32f6d394adb", func := "loop.example/g00557/laws.FnExactPulseOk", spec := "fnExactPulseOk", apart := false, narrowed := true }
def FnExactPulseOkUptoSaid : Prop := fnExactPulseOkUptoRow.holds Try.pinned (OpenSpec.upto fnExactPulseOkSpec)

/-- 'laws.FnExactBeatOk', WHERE WHAT IT READS IS OF BULK AT MOST 1048576: true; the input reads as it did. -/
def fnExactBeatOkUptoRow : OpenClaim := { program := "ytcbiknmkogbjcaa", sum := "623007257d2e556545c314ce6d84253172eadb9b4957dddc2033f32f6d394adb", func := "loop.example/g00557/laws.FnExactBeatOk", spec := "fnExactBeatOk", apart := false, narrowed := true }
def FnExactBeatOkUptoSaid : Prop := fnExactBeatOkUptoRow.holds Try.pinned (OpenSpec.upto fnExactBeatOkSpec)

/-- 'laws.FnExactPulseNew', WHERE WHAT IT READS IS OF BULK AT MOST 1048576: true; the input reads as it did. -/
def fnExactPulseNewUptoRow : OpenClaim := { program := "ytcbiknmkogbjcaa", sum := "623007257d2e556545c314ce6d84253172eadb9b4957dddc2033f32f6d394adb", func := "loop.example/g00557/laws.FnExactPulseNew", spec := "fnExactPulseNew", apart := false, narrowed := true }
def FnExactPulseNewUptoSaid : Prop := fnExactPulseNewUptoRow.holds Try.pinned (OpenSpec.upto fnExactPulseNewSpec)

/-- 'laws.FnExactBeatOf', WHERE WHAT IT READS IS OF BULK AT MOST 1048576: true; the input reads as it did. -/
def fnExactBeatOfUptoRow : OpenClaim := { program := "ytcbiknmkogbjcaa", sum := "623007257d2e556545c314ce6d84253172eadb9b4957dddc2033f32f6d394adb", func := "loop.example/g00557/laws.FnExactBeatOf", spec := "fnExactBeatOf", apart := false, narrowed := true }
def FnExactBeatOfUptoSaid : Prop := fnExactBeatOfUptoRow.holds Try.pinned (OpenSpec.upto fnExactBeatOfSpec)

/-- 'laws.FnExactPulseTick', WHERE WHAT IT READS IS OF BULK AT MOST 1048576: true; the input reads as it did. -/
def fnExactPulseTickUptoRow : OpenClaim := { program := "ytcbiknmkogbjcaa", sum := "623007257d2e556545c314ce6d84253172eadb9b4957dddc2033f32f6d394adb", func := "loop.example/g00557/laws.FnExactPulseTick", spec := "fnExactPulseTick", apart := false, narrowed := true }
def FnExactPulseTickUptoSaid : Prop := fnExactPulseTickUptoRow.holds Try.pinned (OpenSpec.upto fnExactPulseTickSpec)

/-- 'laws.FnExactAdmin', WHERE WHAT IT READS IS OF BULK AT MOST 1048576: true; the input reads as it did. -/
def fnExactAdminUptoRow : OpenClaim := { program := "ytcbiknmkogbjcaa", sum := "623007257d2e556545c314ce6d84253172eadb9b4957dddc2033f32f6d394adb", func := "loop.example/g00557/laws.FnExactAdmin", spec := "fnExactAdmin", apart := false, narrowed := true }
def FnExactAdminUptoSaid : Prop := fnExactAdminUptoRow.holds Try.pinned (OpenSpec.upto fnExactAdminSpec)

/-- 'laws.FnExactMsgRead', WHERE WHAT IT READS IS OF BULK AT MOST 1048576: true; the input reads as it did. -/
def fnExactMsgReadUptoRow : OpenClaim := { program := "ytcbiknmkogbjcaa", sum := "623007257d2e556545c314ce6d84253172eadb9b4957dddc2033f32f6d394adb", func := "loop.example/g00557/laws.FnExactMsgRead", spec := "fnExactMsgRead", unfollowed := true, recurses := true, apart := false, narrowed := true }
def FnExactMsgReadUptoSaid : Prop := fnExactMsgReadUptoRow.holds Try.pinned (OpenSpec.upto fnExactMsgReadSpec)

end Rows
end Go.Proofs.Ytcbiknmkogbjcaa
