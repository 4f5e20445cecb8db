/-
  DERIVED. GIVEN WITH THE SEED: THE CARDS: each row of YtijglbolppkefaaGreatDoorRows.lean that lists a variable, with what it lists TIED to the program's text (the seventh form; the later family's looks); each row that meets fmt, with fmt's text TOLD by the authors' own Lean function (tested against real Go, not proved from fmt's source: count such statements apart). THE CARD IS WHAT COUNTS. Prove the row's statement (the work); the ties are given (YtijglbolppkefaaGreatDoorTie.lean); close each card by the builder's one call (the guide's Derived/Test/ToyasCard.lean, 'card_holds'). Laid BY PROGRAM, IN A SANDBOX (cutbox-door.mjs). By AI agents, Wed Nov 11 2026. No macro, syntax, notation, axiom, sorry.
-/
import Derived.Test.YtijglbolppkefaaGreatDoorRows
import GoSem.ClaimSeven
namespace Go.Proofs.YtijglbolppkefaaGreatDoor
namespace Rows

/-- THE TIED CARD OF 'bothylaw20.DitPlays'. -/
def ditPlaysCard : Claim7 := { stood := { row := ditPlaysRow, standIns := [], harness := (true, "d38011d1035d5f686acd52a6ed46b63520df83d001976658f370f35e49a1ce79"), looks := true }, kinds := [], alts := [], laidByText := true, laidKinds := [.data, .data, .data, .data, .sentinel, .sentinel, .pinned], laidTests := true, laidLooks := .later }
def DitPlaysCardSaid : Prop := Claim7.holds Tryz.pinned (.plain (OpenSpec.ofChange ditPlaysSpec)) ditPlaysCard

/-- THE TIED CARD OF 'bothylaw20.DitBack'. -/
def ditBackCard : Claim7 := { stood := { row := ditBackRow, standIns := [], harness := (true, "d38011d1035d5f686acd52a6ed46b63520df83d001976658f370f35e49a1ce79"), looks := true }, kinds := [], alts := [], laidByText := true, laidKinds := [.data, .data, .data, .data, .sentinel, .sentinel, .pinned], laidTests := true, laidLooks := .later }
def DitBackCardSaid : Prop := Claim7.holds Tryz.pinned (.plain (OpenSpec.ofChange ditBackSpec)) ditBackCard

/-- THE SECOND FORM's CARD OF 'bothylaw20.DitPlays'. -/
def ditPlaysUptoCard : Claim7 := { stood := { row := ditPlaysUptoRow, standIns := [], harness := (true, "d38011d1035d5f686acd52a6ed46b63520df83d001976658f370f35e49a1ce79"), looks := true }, kinds := [], alts := [], laidByText := true, laidKinds := [.data, .data, .data, .data, .sentinel, .sentinel, .pinned], laidTests := true, laidLooks := .later }
def DitPlaysUptoCardSaid : Prop := Claim7.holds Tryz.pinned (.plain (OpenSpec.upto ditPlaysSpec)) ditPlaysUptoCard

/-- THE SECOND FORM's CARD OF 'bothylaw20.DitBack'. -/
def ditBackUptoCard : Claim7 := { stood := { row := ditBackUptoRow, standIns := [], harness := (true, "d38011d1035d5f686acd52a6ed46b63520df83d001976658f370f35e49a1ce79"), looks := true }, kinds := [], alts := [], laidByText := true, laidKinds := [.data, .data, .data, .data, .sentinel, .sentinel, .pinned], laidTests := true, laidLooks := .later }
def DitBackUptoCardSaid : Prop := Claim7.holds Tryz.pinned (.plain (OpenSpec.upto ditBackSpec)) ditBackUptoCard
end Rows
end Go.Proofs.YtijglbolppkefaaGreatDoor
