/-
  DERIVED. GIVEN WITH THE SEED: THE CARDS: each row of YtichmbbpjkikaabDoorRows.lean that lists a variable, with what it lists TIED to the program's text (the seventh form; the later family's looks); each row that meets fmt, with fmt's text TOLD by the authors' own Lean function (tested against real Go, not proved from fmt's source: count such statements apart). THE CARD IS WHAT COUNTS. Prove the row's statement (the work); the ties are given (YtichmbbpjkikaabDoorTie.lean); close each card by the builder's one call (the guide's Derived/Test/ToyasCard.lean, 'card_holds'). Laid BY PROGRAM, IN A SANDBOX (cutbox-door.mjs). By AI agents, Wed Nov 11 2026. No macro, syntax, notation, axiom, sorry.
-/
import Derived.Test.YtichmbbpjkikaabDoorRows
import GoSem.ClaimSeven
namespace Go.Proofs.YtichmbbpjkikaabDoor
namespace Rows

/-- THE TIED CARD OF 'laws.FnExactAttrText'. -/
def fnExactAttrTextCard : Claim7 := { stood := { row := fnExactAttrTextRow, standIns := [], harness := (true, "e4773350a252d0d7a204c70c4dc423f907e3fb39c64e1deb2b71dcd7aed07f8f"), looks := false }, kinds := [], alts := [], laidByText := true, laidKinds := [.data, .data, .data], laidTests := true, laidLooks := .later }
def FnExactAttrTextCardSaid : Prop := Claim7.holds Tryd.pinned (.plain (OpenSpec.ofChange fnExactAttrTextSpec)) fnExactAttrTextCard

/-- THE SECOND FORM's CARD OF 'laws.FnExactAttrText'. -/
def fnExactAttrTextUptoCard : Claim7 := { stood := { row := fnExactAttrTextUptoRow, standIns := [], harness := (true, "e4773350a252d0d7a204c70c4dc423f907e3fb39c64e1deb2b71dcd7aed07f8f"), looks := false }, kinds := [], alts := [], laidByText := true, laidKinds := [.data, .data, .data], laidTests := true, laidLooks := .later }
def FnExactAttrTextUptoCardSaid : Prop := Claim7.holds Tryd.pinned (.plain (OpenSpec.upto fnExactAttrTextSpec)) fnExactAttrTextUptoCard
end Rows
end Go.Proofs.YtichmbbpjkikaabDoor
