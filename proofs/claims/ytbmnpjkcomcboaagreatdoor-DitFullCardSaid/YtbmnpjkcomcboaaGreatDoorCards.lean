/-
  DERIVED. GIVEN WITH THE SEED: THE CARDS: each row of YtbmnpjkcomcboaaGreatDoorRows.lean that lists a variable, with what it lists TIED to the program's text (the seventh form; the later family's looks); each row that meets fmt, with fmt's text TOLD by the authors' own Lean function (tested against real Go, not proved from fmt's source: count such statements apart). THE CARD IS WHAT COUNTS. Prove the row's statement (the work); the ties are given (YtbmnpjkcomcboaaGreatDoorTie.lean); close each card by the builder's one call (the guide's Derived/Test/ToyasCard.lean, 'card_holds'). Laid BY PROGRAM, IN A SANDBOX (cutbox-door.mjs). By AI agents, Wed Nov 11 2026. No macro, syntax, notation, axiom, sorry.
-/
import Derived.Test.YtbmnpjkcomcboaaGreatDoorRows
import GoSem.ClaimSeven
namespace Go.Proofs.YtbmnpjkcomcboaaGreatDoor
namespace Rows

/-- THE TIED CARD OF 'bothylaw20.DitPlays'. -/
def ditPlaysCard : Claim7 := { stood := { row := ditPlaysRow, standIns := [], harness := (true, "629ed8517098f29367855c91ce5970936e6775471eaf4a742661335f33a00a71"), looks := true }, kinds := [], alts := [], laidByText := true, laidKinds := [.data, .data, .data, .data, .sentinel, .sentinel, .pinned], laidTests := true, laidLooks := .later }
def DitPlaysCardSaid : Prop := Claim7.holds Tryz.pinned (.plain (OpenSpec.ofChange ditPlaysSpec)) ditPlaysCard

/-- THE TIED CARD OF 'bothylaw20.DitTree'. -/
def ditTreeCard : Claim7 := { stood := { row := ditTreeRow, standIns := [], harness := (true, "629ed8517098f29367855c91ce5970936e6775471eaf4a742661335f33a00a71"), looks := true }, kinds := [], alts := [], laidByText := true, laidKinds := [.data, .data, .data, .data, .sentinel, .sentinel, .pinned], laidTests := true, laidLooks := .later }
def DitTreeCardSaid : Prop := Claim7.holds Tryz.pinned (.plain (OpenSpec.ofChange ditTreeSpec)) ditTreeCard

/-- THE TIED CARD OF 'bothylaw20.DitNone'. -/
def ditNoneCard : Claim7 := { stood := { row := ditNoneRow, standIns := [], harness := (true, "629ed8517098f29367855c91ce5970936e6775471eaf4a742661335f33a00a71"), looks := true }, kinds := [], alts := [], laidByText := true, laidKinds := [.data, .data, .data, .data, .sentinel, .sentinel, .pinned], laidTests := true, laidLooks := .later }
def DitNoneCardSaid : Prop := Claim7.holds Tryz.pinned (.plain (OpenSpec.ofChange ditNoneSpec)) ditNoneCard

/-- THE TIED CARD OF 'bothylaw20.DitBack'. -/
def ditBackCard : Claim7 := { stood := { row := ditBackRow, standIns := [], harness := (true, "629ed8517098f29367855c91ce5970936e6775471eaf4a742661335f33a00a71"), looks := true }, kinds := [], alts := [], laidByText := true, laidKinds := [.data, .data, .data, .data, .sentinel, .sentinel, .pinned], laidTests := true, laidLooks := .later }
def DitBackCardSaid : Prop := Claim7.holds Tryz.pinned (.plain (OpenSpec.ofChange ditBackSpec)) ditBackCard

/-- THE TIED CARD OF 'bothylaw20.DitFull'. -/
def ditFullCard : Claim7 := { stood := { row := ditFullRow, standIns := [], harness := (true, "629ed8517098f29367855c91ce5970936e6775471eaf4a742661335f33a00a71"), looks := true }, kinds := [], alts := [], laidByText := true, laidKinds := [.data, .data, .data, .data, .sentinel, .sentinel, .pinned], laidTests := true, laidLooks := .later }
def DitFullCardSaid : Prop := Claim7.holds Tryz.pinned (.plain (OpenSpec.ofChange ditFullSpec)) ditFullCard

/-- THE SECOND FORM's CARD OF 'bothylaw20.DitPlays'. -/
def ditPlaysUptoCard : Claim7 := { stood := { row := ditPlaysUptoRow, standIns := [], harness := (true, "629ed8517098f29367855c91ce5970936e6775471eaf4a742661335f33a00a71"), looks := true }, kinds := [], alts := [], laidByText := true, laidKinds := [.data, .data, .data, .data, .sentinel, .sentinel, .pinned], laidTests := true, laidLooks := .later }
def DitPlaysUptoCardSaid : Prop := Claim7.holds Tryz.pinned (.plain (OpenSpec.upto ditPlaysSpec)) ditPlaysUptoCard

/-- THE SECOND FORM's CARD OF 'bothylaw20.DitTree'. -/
def ditTreeUptoCard : Claim7 := { stood := { row := ditTreeUptoRow, standIns := [], harness := (true, "629ed8517098f29367855c91ce5970936e6775471eaf4a742661335f33a00a71"), looks := true }, kinds := [], alts := [], laidByText := true, laidKinds := [.data, .data, .data, .data, .sentinel, .sentinel, .pinned], laidTests := true, laidLooks := .later }
def DitTreeUptoCardSaid : Prop := Claim7.holds Tryz.pinned (.plain (OpenSpec.upto ditTreeSpec)) ditTreeUptoCard

/-- THE SECOND FORM's CARD OF 'bothylaw20.DitNone'. -/
def ditNoneUptoCard : Claim7 := { stood := { row := ditNoneUptoRow, standIns := [], harness := (true, "629ed8517098f29367855c91ce5970936e6775471eaf4a742661335f33a00a71"), looks := true }, kinds := [], alts := [], laidByText := true, laidKinds := [.data, .data, .data, .data, .sentinel, .sentinel, .pinned], laidTests := true, laidLooks := .later }
def DitNoneUptoCardSaid : Prop := Claim7.holds Tryz.pinned (.plain (OpenSpec.upto ditNoneSpec)) ditNoneUptoCard

/-- THE SECOND FORM's CARD OF 'bothylaw20.DitBack'. -/
def ditBackUptoCard : Claim7 := { stood := { row := ditBackUptoRow, standIns := [], harness := (true, "629ed8517098f29367855c91ce5970936e6775471eaf4a742661335f33a00a71"), looks := true }, kinds := [], alts := [], laidByText := true, laidKinds := [.data, .data, .data, .data, .sentinel, .sentinel, .pinned], laidTests := true, laidLooks := .later }
def DitBackUptoCardSaid : Prop := Claim7.holds Tryz.pinned (.plain (OpenSpec.upto ditBackSpec)) ditBackUptoCard

/-- THE SECOND FORM's CARD OF 'bothylaw20.DitFull'. -/
def ditFullUptoCard : Claim7 := { stood := { row := ditFullUptoRow, standIns := [], harness := (true, "629ed8517098f29367855c91ce5970936e6775471eaf4a742661335f33a00a71"), looks := true }, kinds := [], alts := [], laidByText := true, laidKinds := [.data, .data, .data, .data, .sentinel, .sentinel, .pinned], laidTests := true, laidLooks := .later }
def DitFullUptoCardSaid : Prop := Claim7.holds Tryz.pinned (.plain (OpenSpec.upto ditFullSpec)) ditFullUptoCard
end Rows
end Go.Proofs.YtbmnpjkcomcboaaGreatDoor
