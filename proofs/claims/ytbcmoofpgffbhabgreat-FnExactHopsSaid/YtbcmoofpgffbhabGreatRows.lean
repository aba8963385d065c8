/-
  No cell of these rows narrows 'for every input' (looked for: loops, veiled, ifaces, maps, wideKeys, modest, calm, conditions, laid).
  DERIVED. THE GIVEN ROWS OF THIS SEAT. 6 by the template 'for every input the law returns true; each argument reads behind the call as it read before'; 0 by the template 'total and deterministic' (their statements: YtbcmoofpgffbhabGreatTotals.lean).
  GIVEN WITH THE SEED: the statements are not yours to turn. If you find one false, say at which input.
  Laid BY PROGRAM, IN A SANDBOX (cutbox-rows.mjs): the forced cells as the released guide's own fill.sh prints them over the translation 847b5df286e9a6e2… (all of the seat's roots in one cut). By AI agents, Wed Nov 11 2026. No macro, syntax, notation, axiom, sorry.
-/
import Derived.Test.YtbcmoofpgffbhabGreatChecked
import GoSem.Claim
import GoSem.ClaimJoined
import GoSem.ClaimMapViews
import Derived.JoinedTies
import Derived.KernelRfl
namespace Go.Proofs.YtbcmoofpgffbhabGreat
/- THE CELL 'sum', in the pinned program and in every row, IS THE sha256 OF THE DUMP (.gsa) THAT YtbcmoofpgffbhabGreatProg.lean LOADS. Nothing in Lean hashes anything: it is a label: what it is worth is what the hold of that sum in a sandbox is worth. -/
noncomputable def Tryz.pinned : Pinned := { name := "ytbcmoofpgffbhabgreat", sum := "847b5df286e9a6e2b10f086eb81639b6b457c8b252c0c9cb6d71fa930ba01f48", checked := Tryz.checked }
namespace Rows
def none {H : Type} : Left H := { results := [], args := [] }

/-- 'laws.FnExactWants': WHATEVER THE INPUT: true; the input reads as it did. -/
def fnExactWantsSpec : ChangeSpec := { name := "fnExactWants", fn := fun _ => fun
  | [d1, d2] => { results := [.lit (.bool true)], args := [d1, d2] }
  | _ => none }
def fnExactWantsRow : OpenClaim := { program := "ytbcmoofpgffbhabgreat", sum := "847b5df286e9a6e2b10f086eb81639b6b457c8b252c0c9cb6d71fa930ba01f48", func := "loop.example/g00557/laws.FnExactWants", spec := "fnExactWants", inPlace := ["slices.overlaps[int]"], unfollowed := true, recurses := true, plainKeys := false, apart := false }
def FnExactWantsSaid : Prop := fnExactWantsRow.holds Tryz.pinned (OpenSpec.ofChange fnExactWantsSpec)

/-- ITS FALSE NEIGHBOUR: 'it returns false'. Refute it at one input. -/
def fnExactWantsWrong : ChangeSpec := { name := "fnExactWants", fn := fun _ => fun
  | [d1, d2] => { results := [.lit (.bool false)], args := [d1, d2] }
  | _ => none }
def FnExactWantsWrongFalsely : Prop := fnExactWantsRow.holds Tryz.pinned (OpenSpec.ofChange fnExactWantsWrong)

/-- 'laws.FnExactNodeHear': WHATEVER THE INPUT: true; the input reads as it did. -/
def fnExactNodeHearSpec : ChangeSpec := { name := "fnExactNodeHear", fn := fun _ => fun
  | [d1, d2, d3] => { results := [.lit (.bool true)], args := [d1, d2, d3] }
  | _ => none }
def fnExactNodeHearRow : OpenClaim := { program := "ytbcmoofpgffbhabgreat", sum := "847b5df286e9a6e2b10f086eb81639b6b457c8b252c0c9cb6d71fa930ba01f48", func := "loop.example/g00557/laws.FnExactNodeHear", spec := "fnExactNodeHear", inPlace := ["slices.overlaps[loop.example/g00557/impl.Entry]"], unfollowed := true, recurses := true, plainKeys := false, apart := false }
def FnExactNodeHearSaid : Prop := fnExactNodeHearRow.holds Tryz.pinned (OpenSpec.ofChange fnExactNodeHearSpec)

/-- ITS FALSE NEIGHBOUR: 'it returns false'. Refute it at one input. -/
def fnExactNodeHearWrong : ChangeSpec := { name := "fnExactNodeHear", fn := fun _ => fun
  | [d1, d2, d3] => { results := [.lit (.bool false)], args := [d1, d2, d3] }
  | _ => none }
def FnExactNodeHearWrongFalsely : Prop := fnExactNodeHearRow.holds Tryz.pinned (OpenSpec.ofChange fnExactNodeHearWrong)

/-- 'laws.FnExactClos': WHATEVER THE INPUT: true; the input reads as it did. -/
def fnExactClosSpec : ChangeSpec := { name := "fnExactClos", fn := fun _ => fun
  | [d1, d2, d3] => { results := [.lit (.bool true)], args := [d1, d2, d3] }
  | _ => none }
def fnExactClosRow : OpenClaim := { program := "ytbcmoofpgffbhabgreat", sum := "847b5df286e9a6e2b10f086eb81639b6b457c8b252c0c9cb6d71fa930ba01f48", func := "loop.example/g00557/laws.FnExactClos", spec := "fnExactClos", unfollowed := true, recurses := true, plainKeys := false, apart := false }
def FnExactClosSaid : Prop := fnExactClosRow.holds Tryz.pinned (OpenSpec.ofChange fnExactClosSpec)

/-- ITS FALSE NEIGHBOUR: 'it returns false'. Refute it at one input. -/
def fnExactClosWrong : ChangeSpec := { name := "fnExactClos", fn := fun _ => fun
  | [d1, d2, d3] => { results := [.lit (.bool false)], args := [d1, d2, d3] }
  | _ => none }
def FnExactClosWrongFalsely : Prop := fnExactClosRow.holds Tryz.pinned (OpenSpec.ofChange fnExactClosWrong)

/-- 'laws.FnExactFibAt': WHATEVER THE INPUT: true; the input reads as it did. -/
def fnExactFibAtSpec : ChangeSpec := { name := "fnExactFibAt", fn := fun _ => fun
  | [d1, d2] => { results := [.lit (.bool true)], args := [d1, d2] }
  | _ => none }
def fnExactFibAtRow : OpenClaim := { program := "ytbcmoofpgffbhabgreat", sum := "847b5df286e9a6e2b10f086eb81639b6b457c8b252c0c9cb6d71fa930ba01f48", func := "loop.example/g00557/laws.FnExactFibAt", spec := "fnExactFibAt", unfollowed := true, recurses := true, plainKeys := false, apart := false }
def FnExactFibAtSaid : Prop := fnExactFibAtRow.holds Tryz.pinned (OpenSpec.ofChange fnExactFibAtSpec)

/-- ITS FALSE NEIGHBOUR: 'it returns false'. Refute it at one input. -/
def fnExactFibAtWrong : ChangeSpec := { name := "fnExactFibAt", fn := fun _ => fun
  | [d1, d2] => { results := [.lit (.bool false)], args := [d1, d2] }
  | _ => none }
def FnExactFibAtWrongFalsely : Prop := fnExactFibAtRow.holds Tryz.pinned (OpenSpec.ofChange fnExactFibAtWrong)

/-- 'laws.FnExactHops': WHATEVER THE INPUT: true; the input reads as it did. -/
def fnExactHopsSpec : ChangeSpec := { name := "fnExactHops", fn := fun _ => fun
  | [d1, d2, d3] => { results := [.lit (.bool true)], args := [d1, d2, d3] }
  | _ => none }
def fnExactHopsRow : OpenClaim := { program := "ytbcmoofpgffbhabgreat", sum := "847b5df286e9a6e2b10f086eb81639b6b457c8b252c0c9cb6d71fa930ba01f48", func := "loop.example/g00557/laws.FnExactHops", spec := "fnExactHops", unfollowed := true, recurses := true, plainKeys := false, apart := false }
def FnExactHopsSaid : Prop := fnExactHopsRow.holds Tryz.pinned (OpenSpec.ofChange fnExactHopsSpec)

/-- ITS FALSE NEIGHBOUR: 'it returns false'. Refute it at one input. -/
def fnExactHopsWrong : ChangeSpec := { name := "fnExactHops", fn := fun _ => fun
  | [d1, d2, d3] => { results := [.lit (.bool false)], args := [d1, d2, d3] }
  | _ => none }
def FnExactHopsWrongFalsely : Prop := fnExactHopsRow.holds Tryz.pinned (OpenSpec.ofChange fnExactHopsWrong)

/-- 'laws.FnExactSynced': WHATEVER THE INPUT: true; the input reads as it did. -/
def fnExactSyncedSpec : ChangeSpec := { name := "fnExactSynced", fn := fun _ => fun
  | [d] => { results := [.lit (.bool true)], args := [d] }
  | _ => none }
def fnExactSyncedRow : OpenClaim := { program := "ytbcmoofpgffbhabgreat", sum := "847b5df286e9a6e2b10f086eb81639b6b457c8b252c0c9cb6d71fa930ba01f48", func := "loop.example/g00557/laws.FnExactSynced", spec := "fnExactSynced", unfollowed := true, recurses := true, plainKeys := false, apart := false }
def FnExactSyncedSaid : Prop := fnExactSyncedRow.holds Tryz.pinned (OpenSpec.ofChange fnExactSyncedSpec)

/-- ITS FALSE NEIGHBOUR: 'it returns false'. Refute it at one input. -/
def fnExactSyncedWrong : ChangeSpec := { name := "fnExactSynced", fn := fun _ => fun
  | [d] => { results := [.lit (.bool false)], args := [d] }
  | _ => none }
def FnExactSyncedWrongFalsely : Prop := fnExactSyncedRow.holds Tryz.pinned (OpenSpec.ofChange fnExactSyncedWrong)

/- THE SECOND FORM. 'bulk': how many values and letters a reading holds, each counted each time it is reached (what is shared counts as often as it is met; a slice's spare places count too). A statement '..UptoSaid' is the law's where the arguments, and the package variables that the reading takes, are together of bulk at most 1048576: NARROWER than '..Said'. Prove '..Said' where nothing that the law and all that it calls make is longer than what came in: it says more and counts as full. Else prove '..UptoSaid'. A law counts once. -/
mutual
def uptoBulk {H : Type} : DataW H → Nat
  | .lit (.string bytes) => bytes.length + 1
  | .lit _ => 1
  | .nil => 1
  | .ptr d => uptoBulk d + 1
  | .slice elems spare => uptoBulkAll elems + uptoBulkAll spare + 1
  | .agg parts => uptoBulkAll parts + 1
  | .iface _ d => uptoBulk d + 1
  | .map entries => uptoBulkEntries entries + 1
  | .held _ => 1
def uptoBulkAll {H : Type} : List (DataW H) → Nat
  | [] => 0
  | d :: r => uptoBulk d + uptoBulkAll r
def uptoBulkEntries {H : Type} : List (Lit × DataW H) → Nat
  | [] => 0
  | x :: r => uptoBulkEntry x + uptoBulkEntries r
def uptoBulkEntry {H : Type} : Lit × DataW H → Nat
  | (.string bytes, d) => bytes.length + uptoBulk d + 1
  | (_, d) => uptoBulk d + 1
 end
def uptoSmall : (H : Type) → List (DataW H) → Bool := fun _ ds => decide (uptoBulkAll ds ≤ 1048576)
def OpenSpec.upto (s : _root_.Go.ChangeSpec) : _root_.Go.OpenSpec := { _root_.Go.OpenSpec.ofChange s with cond := some uptoSmall }

/-- 'laws.FnExactWants', WHERE WHAT IT READS IS OF BULK AT MOST 1048576: true; the input reads as it did. -/
def fnExactWantsUptoRow : OpenClaim := { program := "ytbcmoofpgffbhabgreat", sum := "847b5df286e9a6e2b10f086eb81639b6b457c8b252c0c9cb6d71fa930ba01f48", func := "loop.example/g00557/laws.FnExactWants", spec := "fnExactWants", inPlace := ["slices.overlaps[int]"], unfollowed := true, recurses := true, plainKeys := false, apart := false, narrowed := true }
def FnExactWantsUptoSaid : Prop := fnExactWantsUptoRow.holds Tryz.pinned (OpenSpec.upto fnExactWantsSpec)

/-- 'laws.FnExactNodeHear', WHERE WHAT IT READS IS OF BULK AT MOST 1048576: true; the input reads as it did. -/
def fnExactNodeHearUptoRow : OpenClaim := { program := "ytbcmoofpgffbhabgreat", sum := "847b5df286e9a6e2b10f086eb81639b6b457c8b252c0c9cb6d71fa930ba01f48", func := "loop.example/g00557/laws.FnExactNodeHear", spec := "fnExactNodeHear", inPlace := ["slices.overlaps[loop.example/g00557/impl.Entry]"], unfollowed := true, recurses := true, plainKeys := false, apart := false, narrowed := true }
def FnExactNodeHearUptoSaid : Prop := fnExactNodeHearUptoRow.holds Tryz.pinned (OpenSpec.upto fnExactNodeHearSpec)

/-- 'laws.FnExactClos', WHERE WHAT IT READS IS OF BULK AT MOST 1048576: true; the input reads as it did. -/
def fnExactClosUptoRow : OpenClaim := { program := "ytbcmoofpgffbhabgreat", sum := "847b5df286e9a6e2b10f086eb81639b6b457c8b252c0c9cb6d71fa930ba01f48", func := "loop.example/g00557/laws.FnExactClos", spec := "fnExactClos", unfollowed := true, recurses := true, plainKeys := false, apart := false, narrowed := true }
def FnExactClosUptoSaid : Prop := fnExactClosUptoRow.holds Tryz.pinned (OpenSpec.upto fnExactClosSpec)

/-- 'laws.FnExactFibAt', WHERE WHAT IT READS IS OF BULK AT MOST 1048576: true; the input reads as it did. -/
def fnExactFibAtUptoRow : OpenClaim := { program := "ytbcmoofpgffbhabgreat", sum := "847b5df286e9a6e2b10f086eb81639b6b457c8b252c0c9cb6d71fa930ba01f48", func := "loop.example/g00557/laws.FnExactFibAt", spec := "fnExactFibAt", unfollowed := true, recurses := true, plainKeys := false, apart := false, narrowed := true }
def FnExactFibAtUptoSaid : Prop := fnExactFibAtUptoRow.holds Tryz.pinned (OpenSpec.upto fnExactFibAtSpec)

/-- 'laws.FnExactHops', WHERE WHAT IT READS IS OF BULK AT MOST 1048576: true; the input reads as it did. -/
def fnExactHopsUptoRow : OpenClaim := { program := "ytbcmoofpgffbhabgreat", sum := "847b5df286e9a6e2b10f086eb81639b6b457c8b252c0c9cb6d71fa930ba01f48", func := "loop.example/g00557/laws.FnExactHops", spec := "fnExactHops", unfollowed := true, recurses := true, plainKeys := false, apart := false, narrowed := true }
def FnExactHopsUptoSaid : Prop := fnExactHopsUptoRow.holds Tryz.pinned (OpenSpec.upto fnExactHopsSpec)

/-- 'laws.FnExactSynced', WHERE WHAT IT READS IS OF BULK AT MOST 1048576: true; the input reads as it did. -/
def fnExactSyncedUptoRow : OpenClaim := { program := "ytbcmoofpgffbhabgreat", sum := "847b5df286e9a6e2b10f086eb81639b6b457c8b252c0c9cb6d71fa930ba01f48", func := "loop.example/g00557/laws.FnExactSynced", spec := "fnExactSynced", unfollowed := true, recurses := true, plainKeys := false, apart := false, narrowed := true }
def FnExactSyncedUptoSaid : Prop := fnExactSyncedUptoRow.holds Tryz.pinned (OpenSpec.upto fnExactSyncedSpec)

end Rows
end Go.Proofs.YtbcmoofpgffbhabGreat
