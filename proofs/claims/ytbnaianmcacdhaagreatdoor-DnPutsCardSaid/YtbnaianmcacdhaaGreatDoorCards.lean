/-
  DERIVED. GIVEN WITH THE SEED: THE CARDS: each row of YtbnaianmcacdhaaGreatDoorRows.lean that lists a variable, with what it lists TIED to the program's text (the seventh form; the later family's looks); each row that meets fmt, with fmt's text TOLD by the authors' own Lean function (tested against real Go, not proved from fmt's source: count such statements apart). THE CARD IS WHAT COUNTS. Prove the row's statement (the work); the ties are given (YtbnaianmcacdhaaGreatDoorTie.lean); close each card by the builder's one call (the guide's Derived/Test/ToyasCard.lean, 'card_holds'). Laid BY PROGRAM, IN A SANDBOX (cutbox-door.mjs). By AI agents, Wed Nov 11 2026. No macro, syntax, notation, axiom, sorry.
-/
import Derived.Test.YtbnaianmcacdhaaGreatDoorRows
import GoSem.ClaimSeven
namespace Go.Proofs.YtbnaianmcacdhaaGreatDoor
namespace Rows

/-- THE TIED CARD OF 'bothylaw06.DnPuts'. -/
def dnPutsCard : Claim7 := { stood := { row := dnPutsRow, standIns := [], harness := (true, "83d2948a3ebfa7949756c2436760f0d5562da103806f7958df73217b0a11b6b4"), looks := true }, kinds := [], alts := [], laidByText := true, laidKinds := [.data, .data, .data, .data, .sentinel, .sentinel, .pinned], laidTests := true, laidLooks := .later }
def DnPutsCardSaid : Prop := Claim7.holds Tryz.pinned (.plain (OpenSpec.ofChange dnPutsSpec)) dnPutsCard

/-- THE TIED CARD OF 'bothylaw06.DnEscapes'. -/
def dnEscapesCard : Claim7 := { stood := { row := dnEscapesRow, standIns := [], harness := (true, "83d2948a3ebfa7949756c2436760f0d5562da103806f7958df73217b0a11b6b4"), looks := true }, kinds := [], alts := [], laidByText := true, laidKinds := [.data, .data, .data, .data, .sentinel, .sentinel, .pinned], laidTests := true, laidLooks := .later }
def DnEscapesCardSaid : Prop := Claim7.holds Tryz.pinned (.plain (OpenSpec.ofChange dnEscapesSpec)) dnEscapesCard

/-- THE SECOND FORM's CARD OF 'bothylaw06.DnPuts'. -/
def dnPutsUptoCard : Claim7 := { stood := { row := dnPutsUptoRow, standIns := [], harness := (true, "83d2948a3ebfa7949756c2436760f0d5562da103806f7958df73217b0a11b6b4"), looks := true }, kinds := [], alts := [], laidByText := true, laidKinds := [.data, .data, .data, .data, .sentinel, .sentinel, .pinned], laidTests := true, laidLooks := .later }
def DnPutsUptoCardSaid : Prop := Claim7.holds Tryz.pinned (.plain (OpenSpec.upto dnPutsSpec)) dnPutsUptoCard

/-- THE SECOND FORM's CARD OF 'bothylaw06.DnEscapes'. -/
def dnEscapesUptoCard : Claim7 := { stood := { row := dnEscapesUptoRow, standIns := [], harness := (true, "83d2948a3ebfa7949756c2436760f0d5562da103806f7958df73217b0a11b6b4"), looks := true }, kinds := [], alts := [], laidByText := true, laidKinds := [.data, .data, .data, .data, .sentinel, .sentinel, .pinned], laidTests := true, laidLooks := .later }
def DnEscapesUptoCardSaid : Prop := Claim7.holds Tryz.pinned (.plain (OpenSpec.upto dnEscapesSpec)) dnEscapesUptoCard
end Rows
end Go.Proofs.YtbnaianmcacdhaaGreatDoor
