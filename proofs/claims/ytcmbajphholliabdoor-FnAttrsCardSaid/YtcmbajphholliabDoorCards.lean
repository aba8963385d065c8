/-
  DERIVED. GIVEN WITH THE SEED: THE CARDS: each row of YtcmbajphholliabDoorRows.lean that lists a variable, with what it lists TIED to the program's text (the seventh form; the later family's looks); each row that meets fmt, with fmt's text TOLD by the authors' own Lean function (tested against real Go, not proved from fmt's source: count such statements apart). THE CARD IS WHAT COUNTS. Prove the row's statement (the work); the ties are given (YtcmbajphholliabDoorTie.lean); close each card by the builder's one call (the guide's Derived/Test/ToyasCard.lean, 'card_holds'). Laid BY PROGRAM, IN A SANDBOX (cutbox-door.mjs). By AI agents, Wed Nov 11 2026. No macro, syntax, notation, axiom, sorry.
-/
import Derived.Test.YtcmbajphholliabDoorRows
import GoSem.ClaimSeven
namespace Go.Proofs.YtcmbajphholliabDoor
namespace Rows

/-- THE TIED CARD OF 'laws.FnGreets'. -/
def fnGreetsCard : Claim7 := { stood := { row := fnGreetsRow, standIns := [], harness := (true, "af1424fc30e5cacf8567ff6df44c928c5e79cac68c172c65263d4d65ba7afadb"), looks := true }, kinds := [], alts := [], laidByText := true, laidKinds := [.handle, .sentinel], laidTests := true, laidLooks := .later }
def FnGreetsCardSaid : Prop := Claim7.holds Tryd.pinned (.plain (OpenSpec.ofChange fnGreetsSpec)) fnGreetsCard

/-- THE TIED CARD OF 'laws.FnTalks'. -/
def fnTalksCard : Claim7 := { stood := { row := fnTalksRow, standIns := [], harness := (true, "af1424fc30e5cacf8567ff6df44c928c5e79cac68c172c65263d4d65ba7afadb"), looks := true }, kinds := [], alts := [], laidByText := true, laidKinds := [.handle, .sentinel], laidTests := true, laidLooks := .later }
def FnTalksCardSaid : Prop := Claim7.holds Tryd.pinned (.plain (OpenSpec.ofChange fnTalksSpec)) fnTalksCard

/-- THE TIED CARD OF 'laws.FnAttrs'. -/
def fnAttrsCard : Claim7 := { stood := { row := fnAttrsRow, standIns := [], harness := (true, "af1424fc30e5cacf8567ff6df44c928c5e79cac68c172c65263d4d65ba7afadb"), looks := true }, kinds := [], alts := [], laidByText := true, laidKinds := [.data, .data, .data], laidTests := true, laidLooks := .later }
def FnAttrsCardSaid : Prop := Claim7.holds Tryd.pinned (.plain (OpenSpec.ofChange fnAttrsSpec)) fnAttrsCard

/-- THE SECOND FORM's CARD OF 'laws.FnGreets'. -/
def fnGreetsUptoCard : Claim7 := { stood := { row := fnGreetsUptoRow, standIns := [], harness := (true, "af1424fc30e5cacf8567ff6df44c928c5e79cac68c172c65263d4d65ba7afadb"), looks := true }, kinds := [], alts := [], laidByText := true, laidKinds := [.handle, .sentinel], laidTests := true, laidLooks := .later }
def FnGreetsUptoCardSaid : Prop := Claim7.holds Tryd.pinned (.plain (OpenSpec.upto fnGreetsSpec)) fnGreetsUptoCard

/-- THE SECOND FORM's CARD OF 'laws.FnTalks'. -/
def fnTalksUptoCard : Claim7 := { stood := { row := fnTalksUptoRow, standIns := [], harness := (true, "af1424fc30e5cacf8567ff6df44c928c5e79cac68c172c65263d4d65ba7afadb"), looks := true }, kinds := [], alts := [], laidByText := true, laidKinds := [.handle, .sentinel], laidTests := true, laidLooks := .later }
def FnTalksUptoCardSaid : Prop := Claim7.holds Tryd.pinned (.plain (OpenSpec.upto fnTalksSpec)) fnTalksUptoCard

/-- THE SECOND FORM's CARD OF 'laws.FnAttrs'. -/
def fnAttrsUptoCard : Claim7 := { stood := { row := fnAttrsUptoRow, standIns := [], harness := (true, "af1424fc30e5cacf8567ff6df44c928c5e79cac68c172c65263d4d65ba7afadb"), looks := true }, kinds := [], alts := [], laidByText := true, laidKinds := [.data, .data, .data], laidTests := true, laidLooks := .later }
def FnAttrsUptoCardSaid : Prop := Claim7.holds Tryd.pinned (.plain (OpenSpec.upto fnAttrsSpec)) fnAttrsUptoCard
end Rows
end Go.Proofs.YtcmbajphholliabDoor
