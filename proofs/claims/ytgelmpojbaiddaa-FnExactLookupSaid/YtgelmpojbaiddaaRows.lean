/-
  No cell of these rows narrows 'for every input' (looked for: loops, veiled, ifaces, maps, wideKeys, modest, calm, conditions, laid).
  DERIVED. THE GIVEN ROWS OF THIS SEAT. 7 by the template 'for every input the law returns true; each argument reads behind the call as it read before'; 0 by the template 'total and deterministic' (their statements: YtgelmpojbaiddaaTotals.lean).
  GIVEN WITH THE SEED: the statements are not yours to turn. If you find one false, say at which input.
  Laid BY PROGRAM, IN A SANDBOX (cutbox-rows.mjs): the forced cells as the released guide's own fill.sh prints them over the translation f8d2974cb6a32310… (all of the seat's roots in one cut). By AI agents, Wed Nov 11 2026. No macro, syntax, notation, axiom, sorry.
-/
import Derived.Test.YtgelmpojbaiddaaChecked
import GoSem.Claim
import GoSem.ClaimJoined
import GoSem.ClaimMapViews
import Derived.JoinedTies
import Derived.KernelRfl
namespace Go.Proofs.Ytgelmpojbaiddaa
/- THE CELL 'sum', in the pinned program and in every row, IS THE sha256 OF THE DUMP (.gsa) THAT YtgelmpojbaiddaaProg.lean LOADS. Nothing in Lean hashes anything: it is a label: what it is worth is what the hold of that sum in a sandbox is worth. -/
noncomputable def Try.pinned : Pinned := { name := "ytgelmpojbaiddaa", sum := "f8d2974cb6a32310d8aadfe5415523309b5b3fefae69149290c9e608e39cfb9e", checked := Try.checked }
namespace Rows
def none {H : Type} : Left H := { results := [], args := [] }

/-- 'laws.FnExactGroupOk': WHATEVER THE INPUT: true; the input reads as it did. -/
def fnExactGroupOkSpec : ChangeSpec := { name := "fnExactGroupOk", fn := fun _ => fun
  | [d] => { results := [.lit (.bool true)], args := [d] }
  | _ => none }
def fnExactGroupOkRow : OpenClaim := { program := "ytgelmpojbaiddaa", sum := "f8d2974cb6a32310d8aadfe5415523309b5b3fefae69149290c9e608e39cfb9e", func := "loop.example/g00557/laws.FnExactGroupOk", spec := "fnExactGroupOk", unfollowed := true, recurses := true, apart := false }
def FnExactGroupOkSaid : Prop := fnExactGroupOkRow.holds Try.pinned (OpenSpec.ofChange fnExactGroupOkSpec)

/-- ITS FALSE NEIGHBOUR: 'it returns false'. Refute it at one input. -/
def fnExactGroupOkWrong : ChangeSpec := { name := "fnExactGroupOk", fn := fun _ => fun
  | [d] => { results := [.lit (.bool false)], args := [d] }
  | _ => none }
def FnExactGroupOkWrongFalsely : Prop := fnExactGroupOkRow.holds Try.pinned (OpenSpec.ofChange fnExactGroupOkWrong)

/-- 'laws.FnExactFibOk': WHATEVER THE INPUT: true; the input reads as it did. -/
def fnExactFibOkSpec : ChangeSpec := { name := "fnExactFibOk", fn := fun _ => fun
  | [d] => { results := [.lit (.bool true)], args := [d] }
  | _ => none }
def fnExactFibOkRow : OpenClaim := { program := "ytgelmpojbaiddaa", sum := "f8d2974cb6a32310d8aadfe5415523309b5b3fefae69149290c9e608e39cfb9e", func := "loop.example/g00557/laws.FnExactFibOk", spec := "fnExactFibOk", unfollowed := true, recurses := true, apart := false }
def FnExactFibOkSaid : Prop := fnExactFibOkRow.holds Try.pinned (OpenSpec.ofChange fnExactFibOkSpec)

/-- ITS FALSE NEIGHBOUR: 'it returns false'. Refute it at one input. -/
def fnExactFibOkWrong : ChangeSpec := { name := "fnExactFibOk", fn := fun _ => fun
  | [d] => { results := [.lit (.bool false)], args := [d] }
  | _ => none }
def FnExactFibOkWrongFalsely : Prop := fnExactFibOkRow.holds Try.pinned (OpenSpec.ofChange fnExactFibOkWrong)

/-- 'laws.FnExactWeights': WHATEVER THE INPUT: true; the input reads as it did. -/
def fnExactWeightsSpec : ChangeSpec := { name := "fnExactWeights", fn := fun _ => fun
  | [d] => { results := [.lit (.bool true)], args := [d] }
  | _ => none }
def fnExactWeightsRow : OpenClaim := { program := "ytgelmpojbaiddaa", sum := "f8d2974cb6a32310d8aadfe5415523309b5b3fefae69149290c9e608e39cfb9e", func := "loop.example/g00557/laws.FnExactWeights", spec := "fnExactWeights", apart := false }
def FnExactWeightsSaid : Prop := fnExactWeightsRow.holds Try.pinned (OpenSpec.ofChange fnExactWeightsSpec)

/-- ITS FALSE NEIGHBOUR: 'it returns false'. Refute it at one input. -/
def fnExactWeightsWrong : ChangeSpec := { name := "fnExactWeights", fn := fun _ => fun
  | [d] => { results := [.lit (.bool false)], args := [d] }
  | _ => none }
def FnExactWeightsWrongFalsely : Prop := fnExactWeightsRow.holds Try.pinned (OpenSpec.ofChange fnExactWeightsWrong)

/-- 'laws.FnWeights': WHATEVER THE INPUT: true; the input reads as it did. -/
def fnWeightsSpec : ChangeSpec := { name := "fnWeights", fn := fun _ => fun
  | [d] => { results := [.lit (.bool true)], args := [d] }
  | _ => none }
def fnWeightsRow : OpenClaim := { program := "ytgelmpojbaiddaa", sum := "f8d2974cb6a32310d8aadfe5415523309b5b3fefae69149290c9e608e39cfb9e", func := "loop.example/g00557/laws.FnWeights", spec := "fnWeights", apart := false }
def FnWeightsSaid : Prop := fnWeightsRow.holds Try.pinned (OpenSpec.ofChange fnWeightsSpec)

/-- ITS FALSE NEIGHBOUR: 'it returns false'. Refute it at one input. -/
def fnWeightsWrong : ChangeSpec := { name := "fnWeights", fn := fun _ => fun
  | [d] => { results := [.lit (.bool false)], args := [d] }
  | _ => none }
def FnWeightsWrongFalsely : Prop := fnWeightsRow.holds Try.pinned (OpenSpec.ofChange fnWeightsWrong)

/-- 'laws.FnExactLookup': WHATEVER THE INPUT: true; the input reads as it did. -/
def fnExactLookupSpec : ChangeSpec := { name := "fnExactLookup", fn := fun _ => fun
  | [d1, d2] => { results := [.lit (.bool true)], args := [d1, d2] }
  | _ => none }
def fnExactLookupRow : OpenClaim := { program := "ytgelmpojbaiddaa", sum := "f8d2974cb6a32310d8aadfe5415523309b5b3fefae69149290c9e608e39cfb9e", func := "loop.example/g00557/laws.FnExactLookup", spec := "fnExactLookup", unfollowed := true, recurses := true, apart := false }
def FnExactLookupSaid : Prop := fnExactLookupRow.holds Try.pinned (OpenSpec.ofChange fnExactLookupSpec)

/-- ITS FALSE NEIGHBOUR: 'it returns false'. Refute it at one input. -/
def fnExactLookupWrong : ChangeSpec := { name := "fnExactLookup", fn := fun _ => fun
  | [d1, d2] => { results := [.lit (.bool false)], args := [d1, d2] }
  | _ => none }
def FnExactLookupWrongFalsely : Prop := fnExactLookupRow.holds Try.pinned (OpenSpec.ofChange fnExactLookupWrong)

/-- 'laws.FnExactDelta': WHATEVER THE INPUT: true; the input reads as it did. -/
def fnExactDeltaSpec : ChangeSpec := { name := "fnExactDelta", fn := fun _ => fun
  | [d1, d2] => { results := [.lit (.bool true)], args := [d1, d2] }
  | _ => none }
def fnExactDeltaRow : OpenClaim := { program := "ytgelmpojbaiddaa", sum := "f8d2974cb6a32310d8aadfe5415523309b5b3fefae69149290c9e608e39cfb9e", func := "loop.example/g00557/laws.FnExactDelta", spec := "fnExactDelta", unfollowed := true, recurses := true, apart := false }
def FnExactDeltaSaid : Prop := fnExactDeltaRow.holds Try.pinned (OpenSpec.ofChange fnExactDeltaSpec)

/-- ITS FALSE NEIGHBOUR: 'it returns false'. Refute it at one input. -/
def fnExactDeltaWrong : ChangeSpec := { name := "fnExactDelta", fn := fun _ => fun
  | [d1, d2] => { results := [.lit (.bool false)], args := [d1, d2] }
  | _ => none }
def FnExactDeltaWrongFalsely : Prop := fnExactDeltaRow.holds Try.pinned (OpenSpec.ofChange fnExactDeltaWrong)

/-- 'laws.FnExactProgram': WHATEVER THE INPUT: true; the input reads as it did. -/
def fnExactProgramSpec : ChangeSpec := { name := "fnExactProgram", fn := fun _ => fun
  | [d1, d2, d3] => { results := [.lit (.bool true)], args := [d1, d2, d3] }
  | _ => none }
def fnExactProgramRow : OpenClaim := { program := "ytgelmpojbaiddaa", sum := "f8d2974cb6a32310d8aadfe5415523309b5b3fefae69149290c9e608e39cfb9e", func := "loop.example/g00557/laws.FnExactProgram", spec := "fnExactProgram", inPlace := ["slices.overlaps[loop.example/g00557/impl.Group]"], unfollowed := true, recurses := true, apart := false }
def FnExactProgramSaid : Prop := fnExactProgramRow.holds Try.pinned (OpenSpec.ofChange fnExactProgramSpec)

/-- ITS FALSE NEIGHBOUR: 'it returns false'. Refute it at one input. -/
def fnExactProgramWrong : ChangeSpec := { name := "fnExactProgram", fn := fun _ => fun
  | [d1, d2, d3] => { results := [.lit (.bool false)], args := [d1, d2, d3] }
  | _ => none }
def FnExactProgramWrongFalsely : Prop := fnExactProgramRow.holds Try.pinned (OpenSpec.ofChange fnExactProgramWrong)

/- THE SECOND FORM. 'bulk': how many values and letters a reading holds, each counted each time it is reached (what is shared counts as often as it is met; a slice's spare places count too). A statement '..UptoSaid' is the law's where the arguments, and the package variables that the reading takes, are together of bulk at most 1048576: NARROWER than '..Said'. Prove '..Said' where nothing that the law and all that it calls make is longer than what came in: it says more and counts as full. Else prove '..UptoSaid'. A law counts once. -/
mutual
def uptoBulk {H : Type} : DataW H → Nat
  | .lit (.string bytes) => bytes.length + 1
  | .lit _ => 1
  | .nil => 1
  | .ptr d => uptoBulk d + 1
  | .slice elems spare => uptoBulkAll elems + uptoBulkAll spare + 1
  | .agg parts => uptoBulkAll parts + 1
  | .iface _ d => uptoBulk d + 1
  | .map entries => uptoBulkEntries entries + 1
  | .held _ => 1
def uptoBulkAll {H : Type} : List (DataW H) → Nat
  | [] => 0
  | d :: r => uptoBulk d + uptoBulkAll r
def uptoBulkEntries {H : Type} : List (Lit × DataW H) → Nat
  | [] => 0
  | x :: r => uptoBulkEntry x + uptoBulkEntries r
def uptoBulkEntry {H : Type} : Lit × DataW H → Nat
  | (.string bytes, d) => bytes.length + uptoBulk d + 1
  | (_, d) => uptoBulk d + 1
 end
def uptoSmall : (H : Type) → List (DataW H) → Bool := fun _ ds => decide (uptoBulkAll ds ≤ 1048576)
def OpenSpec.upto (s : _root_.Go.ChangeSpec) : _root_.Go.OpenSpec := { _root_.Go.OpenSpec.ofChange s with cond := some uptoSmall }

/-- 'laws.FnExactGroupOk', WHERE WHAT IT READS IS OF BULK AT MOST 1048576: true; the input reads as it did. -/
def fnExactGroupOkUptoRow : OpenClaim := { program := "ytgelmpojbaiddaa", sum := "f8d2974cb6a32310d8aadfe5415523309b5b3fefae69149290c9e608e39cfb9e", func := "loop.example/g00557/laws.FnExactGroupOk", spec := "fnExactGroupOk", unfollowed := true, recurses := true, apart := false, narrowed := true }
def FnExactGroupOkUptoSaid : Prop := fnExactGroupOkUptoRow.holds Try.pinned (OpenSpec.upto fnExactGroupOkSpec)

/-- 'laws.FnExactFibOk', WHERE WHAT IT READS IS OF BULK AT MOST 1048576: true; the input reads as it did. -/
def fnExactFibOkUptoRow : OpenClaim := { program := "ytgelmpojbaiddaa", sum := "f8d2974cb6a32310d8aadfe5415523309b5b3fefae69149290c9e608e39cfb9e", func := "loop.example/g00557/laws.FnExactFibOk", spec := "fnExactFibOk", unfollowed := true, recurses := true, apart := false, narrowed := true }
def FnExactFibOkUptoSaid : Prop := fnExactFibOkUptoRow.holds Try.pinned (OpenSpec.upto fnExactFibOkSpec)

/-- 'laws.FnExactWeights', WHERE WHAT IT READS IS OF BULK AT MOST 1048576: true; the input reads as it did. -/
def fnExactWeightsUptoRow : OpenClaim := { program := "ytgelmpojbaiddaa", sum := "f8d2974cb6a32310d8aadfe5415523309b5b3fefae69149290c9e608e39cfb9e", func := "loop.example/g00557/laws.FnExactWeights", spec := "fnExactWeights", apart := false, narrowed := true }
def FnExactWeightsUptoSaid : Prop := fnExactWeightsUptoRow.holds Try.pinned (OpenSpec.upto fnExactWeightsSpec)

/-- 'laws.FnWeights', WHERE WHAT IT READS IS OF BULK AT MOST 1048576: true; the input reads as it did. -/
def fnWeightsUptoRow : OpenClaim := { program := "ytgelmpojbaiddaa", sum := "f8d2974cb6a32310d8aadfe5415523309b5b3fefae69149290c9e608e39cfb9e", func := "loop.example/g00557/laws.FnWeights", spec := "fnWeights", apart := false, narrowed := true }
def FnWeightsUptoSaid : Prop := fnWeightsUptoRow.holds Try.pinned (OpenSpec.upto fnWeightsSpec)

/-- 'laws.FnExactLookup', WHERE WHAT IT READS IS OF BULK AT MOST 1048576: true; the input reads as it did. -/
def fnExactLookupUptoRow : OpenClaim := { program := "ytgelmpojbaiddaa", sum := "f8d2974cb6a32310d8aadfe5415523309b5b3fefae69149290c9e608e39cfb9e", func := "loop.example/g00557/laws.FnExactLookup", spec := "fnExactLookup", unfollowed := true, recurses := true, apart := false, narrowed := true }
def FnExactLookupUptoSaid : Prop := fnExactLookupUptoRow.holds Try.pinned (OpenSpec.upto fnExactLookupSpec)

/-- 'laws.FnExactDelta', WHERE WHAT IT READS IS OF BULK AT MOST 1048576: true; the input reads as it did. -/
def fnExactDeltaUptoRow : OpenClaim := { program := "ytgelmpojbaiddaa", sum := "f8d2974cb6a32310d8aadfe5415523309b5b3fefae69149290c9e608e39cfb9e", func := "loop.example/g00557/laws.FnExactDelta", spec := "fnExactDelta", unfollowed := true, recurses := true, apart := false, narrowed := true }
def FnExactDeltaUptoSaid : Prop := fnExactDeltaUptoRow.holds Try.pinned (OpenSpec.upto fnExactDeltaSpec)

/-- 'laws.FnExactProgram', WHERE WHAT IT READS IS OF BULK AT MOST 1048576: true; the input reads as it did. -/
def fnExactProgramUptoRow : OpenClaim := { program := "ytgelmpojbaiddaa", sum := "f8d2974cb6a32310d8aadfe5415523309b5b3fefae69149290c9e608e39cfb9e", func := "loop.example/g00557/laws.FnExactProgram", spec := "fnExactProgram", inPlace := ["slices.overlaps[loop.example/g00557/impl.Group]"], unfollowed := true, recurses := true, apart := false, narrowed := true }
def FnExactProgramUptoSaid : Prop := fnExactProgramUptoRow.holds Try.pinned (OpenSpec.upto fnExactProgramSpec)

end Rows
end Go.Proofs.Ytgelmpojbaiddaa
