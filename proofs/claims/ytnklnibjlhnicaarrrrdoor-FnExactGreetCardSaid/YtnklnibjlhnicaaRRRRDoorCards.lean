/-
  DERIVED. GIVEN WITH THE SEED: THE CARDS: each row of YtnklnibjlhnicaaRRRRDoorRows.lean that lists a variable, with what it lists TIED to the program's text (the seventh form; the later family's looks); each row that meets fmt, with fmt's text TOLD by the authors' own Lean function (tested against real Go, not proved from fmt's source: count such statements apart). THE CARD IS WHAT COUNTS. Prove the row's statement (the work); the ties are given (YtnklnibjlhnicaaRRRRDoorTie.lean); close each card by the builder's one call (the guide's Derived/Test/ToyasCard.lean, 'card_holds'). Laid BY PROGRAM, IN A SANDBOX (cutbox-door.mjs). By AI agents, Wed Nov 11 2026. No macro, syntax, notation, axiom, sorry.
-/
import Derived.Test.YtnklnibjlhnicaaRRRRDoorRows
import GoSem.ClaimSeven
namespace Go.Proofs.YtnklnibjlhnicaaRRRRDoor
namespace Rows

/-- THE TIED CARD OF 'laws.FnExactGreet'. -/
def fnExactGreetCard : Claim7 := { stood := { row := fnExactGreetRow, standIns := [], harness := (true, "16434c9a626b78a47efbf91c769d46f5a540b8e9d69ba7ac3dac03254ae4dde1"), looks := true }, kinds := [], alts := [], laidByText := true, laidKinds := [.handle, .sentinel], laidTests := true, laidLooks := .later }
def FnExactGreetCardSaid : Prop := Claim7.holds Tryd.pinned (.plain (OpenSpec.ofChange fnExactGreetSpec)) fnExactGreetCard

/-- THE SECOND FORM's CARD OF 'laws.FnExactGreet'. -/
def fnExactGreetUptoCard : Claim7 := { stood := { row := fnExactGreetUptoRow, standIns := [], harness := (true, "16434c9a626b78a47efbf91c769d46f5a540b8e9d69ba7ac3dac03254ae4dde1"), looks := true }, kinds := [], alts := [], laidByText := true, laidKinds := [.handle, .sentinel], laidTests := true, laidLooks := .later }
def FnExactGreetUptoCardSaid : Prop := Claim7.holds Tryd.pinned (.plain (OpenSpec.upto fnExactGreetSpec)) fnExactGreetUptoCard
end Rows
end Go.Proofs.YtnklnibjlhnicaaRRRRDoor
