/-
  DERIVED. GIVEN WITH THE SEED: THE CARDS: each row of YtpkbgkoocijegaaGreatDoorRows.lean that lists a variable, with what it lists TIED to the program's text (the seventh form; the later family's looks); each row that meets fmt, with fmt's text TOLD by the authors' own Lean function (tested against real Go, not proved from fmt's source: count such statements apart). THE CARD IS WHAT COUNTS. Prove the row's statement (the work); the ties are given (YtpkbgkoocijegaaGreatDoorTie.lean); close each card by the builder's one call (the guide's Derived/Test/ToyasCard.lean, 'card_holds'). Laid BY PROGRAM, IN A SANDBOX (cutbox-door.mjs). By AI agents, Wed Nov 11 2026. No macro, syntax, notation, axiom, sorry.
-/
import Derived.Test.YtpkbgkoocijegaaGreatDoorRows
import GoSem.ClaimSeven
namespace Go.Proofs.YtpkbgkoocijegaaGreatDoor
namespace Rows

/-- THE TIED CARD OF 'bothylaw21.ModsApply'. -/
def modsApplyCard : Claim7 := { stood := { row := modsApplyRow, standIns := [], harness := (true, "41e8fd4d29d8c5f385b95ce86a55a3adc0a8c2436bba9aebf1dda9e33e3a9a70"), looks := true }, kinds := [], alts := [], laidByText := true, laidKinds := [.data, .data, .data, .data, .sentinel, .sentinel, .pinned], laidTests := true, laidLooks := .later }
def ModsApplyCardSaid : Prop := Claim7.holds Tryz.pinned (.plain (OpenSpec.ofChange modsApplySpec)) modsApplyCard

/-- THE TIED CARD OF 'bothylaw21.ModsBack'. -/
def modsBackCard : Claim7 := { stood := { row := modsBackRow, standIns := [], harness := (true, "41e8fd4d29d8c5f385b95ce86a55a3adc0a8c2436bba9aebf1dda9e33e3a9a70"), looks := true }, kinds := [], alts := [], laidByText := true, laidKinds := [.data, .data, .data, .data, .sentinel, .sentinel, .pinned], laidTests := true, laidLooks := .later }
def ModsBackCardSaid : Prop := Claim7.holds Tryz.pinned (.plain (OpenSpec.ofChange modsBackSpec)) modsBackCard

/-- THE TIED CARD OF 'bothylaw20.DitPlays'. -/
def ditPlaysCard : Claim7 := { stood := { row := ditPlaysRow, standIns := [], harness := (true, "41e8fd4d29d8c5f385b95ce86a55a3adc0a8c2436bba9aebf1dda9e33e3a9a70"), looks := true }, kinds := [], alts := [], laidByText := true, laidKinds := [.data, .data, .data, .data, .sentinel, .sentinel, .pinned], laidTests := true, laidLooks := .later }
def DitPlaysCardSaid : Prop := Claim7.holds Tryz.pinned (.plain (OpenSpec.ofChange ditPlaysSpec)) ditPlaysCard

/-- THE TIED CARD OF 'bothylaw20.DitBack'. -/
def ditBackCard : Claim7 := { stood := { row := ditBackRow, standIns := [], harness := (true, "41e8fd4d29d8c5f385b95ce86a55a3adc0a8c2436bba9aebf1dda9e33e3a9a70"), looks := true }, kinds := [], alts := [], laidByText := true, laidKinds := [.data, .data, .data, .data, .sentinel, .sentinel, .pinned], laidTests := true, laidLooks := .later }
def DitBackCardSaid : Prop := Claim7.holds Tryz.pinned (.plain (OpenSpec.ofChange ditBackSpec)) ditBackCard

/-- THE SECOND FORM's CARD OF 'bothylaw21.ModsApply'. -/
def modsApplyUptoCard : Claim7 := { stood := { row := modsApplyUptoRow, standIns := [], harness := (true, "41e8fd4d29d8c5f385b95ce86a55a3adc0a8c2436bba9aebf1dda9e33e3a9a70"), looks := true }, kinds := [], alts := [], laidByText := true, laidKinds := [.data, .data, .data, .data, .sentinel, .sentinel, .pinned], laidTests := true, laidLooks := .later }
def ModsApplyUptoCardSaid : Prop := Claim7.holds Tryz.pinned (.plain (OpenSpec.upto modsApplySpec)) modsApplyUptoCard

/-- THE SECOND FORM's CARD OF 'bothylaw21.ModsBack'. -/
def modsBackUptoCard : Claim7 := { stood := { row := modsBackUptoRow, standIns := [], harness := (true, "41e8fd4d29d8c5f385b95ce86a55a3adc0a8c2436bba9aebf1dda9e33e3a9a70"), looks := true }, kinds := [], alts := [], laidByText := true, laidKinds := [.data, .data, .data, .data, .sentinel, .sentinel, .pinned], laidTests := true, laidLooks := .later }
def ModsBackUptoCardSaid : Prop := Claim7.holds Tryz.pinned (.plain (OpenSpec.upto modsBackSpec)) modsBackUptoCard

/-- THE SECOND FORM's CARD OF 'bothylaw20.DitPlays'. -/
def ditPlaysUptoCard : Claim7 := { stood := { row := ditPlaysUptoRow, standIns := [], harness := (true, "41e8fd4d29d8c5f385b95ce86a55a3adc0a8c2436bba9aebf1dda9e33e3a9a70"), looks := true }, kinds := [], alts := [], laidByText := true, laidKinds := [.data, .data, .data, .data, .sentinel, .sentinel, .pinned], laidTests := true, laidLooks := .later }
def DitPlaysUptoCardSaid : Prop := Claim7.holds Tryz.pinned (.plain (OpenSpec.upto ditPlaysSpec)) ditPlaysUptoCard

/-- THE SECOND FORM's CARD OF 'bothylaw20.DitBack'. -/
def ditBackUptoCard : Claim7 := { stood := { row := ditBackUptoRow, standIns := [], harness := (true, "41e8fd4d29d8c5f385b95ce86a55a3adc0a8c2436bba9aebf1dda9e33e3a9a70"), looks := true }, kinds := [], alts := [], laidByText := true, laidKinds := [.data, .data, .data, .data, .sentinel, .sentinel, .pinned], laidTests := true, laidLooks := .later }
def DitBackUptoCardSaid : Prop := Claim7.holds Tryz.pinned (.plain (OpenSpec.upto ditBackSpec)) ditBackUptoCard
end Rows
end Go.Proofs.YtpkbgkoocijegaaGreatDoor
