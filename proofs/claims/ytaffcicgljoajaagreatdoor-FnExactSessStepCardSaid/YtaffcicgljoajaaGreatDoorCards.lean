/-
  DERIVED. GIVEN WITH THE SEED: THE CARDS: each row of YtaffcicgljoajaaGreatDoorRows.lean that lists a variable, with what it lists TIED to the program's text (the seventh form; the later family's looks); each row that meets fmt, with fmt's text TOLD by the authors' own Lean function (tested against real Go, not proved from fmt's source: count such statements apart). THE CARD IS WHAT COUNTS. Prove the row's statement (the work); the ties are given (YtaffcicgljoajaaGreatDoorTie.lean); close each card by the builder's one call (the guide's Derived/Test/ToyasCard.lean, 'card_holds'). Laid BY PROGRAM, IN A SANDBOX (cutbox-door.mjs). By AI agents, Wed Nov 11 2026. No macro, syntax, notation, axiom, sorry.
-/
import Derived.Test.YtaffcicgljoajaaGreatDoorRows
import GoSem.ClaimSeven
namespace Go.Proofs.YtaffcicgljoajaaGreatDoor
namespace Rows

/-- THE TIED CARD OF 'laws.FnSteps'. -/
def fnStepsCard : Claim7 := { stood := { row := fnStepsRow, standIns := [], harness := (true, "49e5f7b04cf27fa67d8c99ab6cfb018cb26babc30678d4f87d0d4907a19b4184"), looks := true }, kinds := [], alts := [], laidByText := true, laidKinds := [.handle, .sentinel], laidTests := true, laidLooks := .later }
def FnStepsCardSaid : Prop := Claim7.holds Tryz.pinned (.plain (OpenSpec.ofChange fnStepsSpec)) fnStepsCard

/-- THE TIED CARD OF 'laws.FnSilence'. -/
def fnSilenceCard : Claim7 := { stood := { row := fnSilenceRow, standIns := [], harness := (true, "49e5f7b04cf27fa67d8c99ab6cfb018cb26babc30678d4f87d0d4907a19b4184"), looks := true }, kinds := [], alts := [], laidByText := true, laidKinds := [.handle, .sentinel], laidTests := true, laidLooks := .later }
def FnSilenceCardSaid : Prop := Claim7.holds Tryz.pinned (.plain (OpenSpec.ofChange fnSilenceSpec)) fnSilenceCard

/-- THE TIED CARD OF 'laws.FnExactSessStep'. -/
def fnExactSessStepCard : Claim7 := { stood := { row := fnExactSessStepRow, standIns := [], harness := (true, "49e5f7b04cf27fa67d8c99ab6cfb018cb26babc30678d4f87d0d4907a19b4184"), looks := true }, kinds := [], alts := [], laidByText := true, laidKinds := [.handle, .sentinel], laidTests := true, laidLooks := .later }
def FnExactSessStepCardSaid : Prop := Claim7.holds Tryz.pinned (.plain (OpenSpec.ofChange fnExactSessStepSpec)) fnExactSessStepCard

/-- THE SECOND FORM's CARD OF 'laws.FnSteps'. -/
def fnStepsUptoCard : Claim7 := { stood := { row := fnStepsUptoRow, standIns := [], harness := (true, "49e5f7b04cf27fa67d8c99ab6cfb018cb26babc30678d4f87d0d4907a19b4184"), looks := true }, kinds := [], alts := [], laidByText := true, laidKinds := [.handle, .sentinel], laidTests := true, laidLooks := .later }
def FnStepsUptoCardSaid : Prop := Claim7.holds Tryz.pinned (.plain (OpenSpec.upto fnStepsSpec)) fnStepsUptoCard

/-- THE SECOND FORM's CARD OF 'laws.FnSilence'. -/
def fnSilenceUptoCard : Claim7 := { stood := { row := fnSilenceUptoRow, standIns := [], harness := (true, "49e5f7b04cf27fa67d8c99ab6cfb018cb26babc30678d4f87d0d4907a19b4184"), looks := true }, kinds := [], alts := [], laidByText := true, laidKinds := [.handle, .sentinel], laidTests := true, laidLooks := .later }
def FnSilenceUptoCardSaid : Prop := Claim7.holds Tryz.pinned (.plain (OpenSpec.upto fnSilenceSpec)) fnSilenceUptoCard

/-- THE SECOND FORM's CARD OF 'laws.FnExactSessStep'. -/
def fnExactSessStepUptoCard : Claim7 := { stood := { row := fnExactSessStepUptoRow, standIns := [], harness := (true, "49e5f7b04cf27fa67d8c99ab6cfb018cb26babc30678d4f87d0d4907a19b4184"), looks := true }, kinds := [], alts := [], laidByText := true, laidKinds := [.handle, .sentinel], laidTests := true, laidLooks := .later }
def FnExactSessStepUptoCardSaid : Prop := Claim7.holds Tryz.pinned (.plain (OpenSpec.upto fnExactSessStepSpec)) fnExactSessStepUptoCard
end Rows
end Go.Proofs.YtaffcicgljoajaaGreatDoor
