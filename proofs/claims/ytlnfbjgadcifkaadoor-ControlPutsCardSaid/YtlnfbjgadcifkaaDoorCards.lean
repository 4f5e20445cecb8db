/-
  DERIVED. GIVEN WITH THE SEED: THE CARDS: each row of YtlnfbjgadcifkaaDoorRows.lean that lists a variable, with what it lists TIED to the program's text (the seventh form; the later family's looks); each row that meets fmt, with fmt's text TOLD by the authors' own Lean function (tested against real Go, not proved from fmt's source: count such statements apart). THE CARD IS WHAT COUNTS. Prove the row's statement (the work); the ties are given (YtlnfbjgadcifkaaDoorTie.lean); close each card by the builder's one call (the guide's Derived/Test/ToyasCard.lean, 'card_holds'). Laid BY PROGRAM, IN A SANDBOX (cutbox-door.mjs). By AI agents, Wed Nov 11 2026. No macro, syntax, notation, axiom, sorry.
-/
import Derived.Test.YtlnfbjgadcifkaaDoorRows
import GoSem.ClaimSeven
namespace Go.Proofs.YtlnfbjgadcifkaaDoor
namespace Rows

/-- THE TIED CARD OF 'bothylaw18.ControlPuts'. -/
def controlPutsCard : Claim7 := { stood := { row := controlPutsRow, standIns := [], harness := (true, "ceb05d6ac60bb880777fd09ef8e284273a331a5b3e160ff964751ee52005d990"), looks := false }, kinds := [], alts := [], laidByText := true, laidKinds := [.data, .pinned], laidTests := true, laidLooks := .later }
def ControlPutsCardSaid : Prop := Claim7.holds Tryd.pinned (.plain (OpenSpec.ofChange controlPutsSpec)) controlPutsCard

/-- THE TIED CARD OF 'bothylaw18.ControlReads'. -/
def controlReadsCard : Claim7 := { stood := { row := controlReadsRow, standIns := [], harness := (true, "ceb05d6ac60bb880777fd09ef8e284273a331a5b3e160ff964751ee52005d990"), looks := false }, kinds := [], alts := [], laidByText := true, laidKinds := [.data, .pinned], laidTests := true, laidLooks := .later }
def ControlReadsCardSaid : Prop := Claim7.holds Tryd.pinned (.plain (OpenSpec.ofChange controlReadsSpec)) controlReadsCard

/-- THE TIED CARD OF 'bothylaw18.ControlFinds'. -/
def controlFindsCard : Claim7 := { stood := { row := controlFindsRow, standIns := [], harness := (true, "ceb05d6ac60bb880777fd09ef8e284273a331a5b3e160ff964751ee52005d990"), looks := false }, kinds := [], alts := [], laidByText := true, laidKinds := [.data, .pinned], laidTests := true, laidLooks := .later }
def ControlFindsCardSaid : Prop := Claim7.holds Tryd.pinned (.plain (OpenSpec.ofChange controlFindsSpec)) controlFindsCard

/-- THE SECOND FORM's CARD OF 'bothylaw18.ControlPuts'. -/
def controlPutsUptoCard : Claim7 := { stood := { row := controlPutsUptoRow, standIns := [], harness := (true, "ceb05d6ac60bb880777fd09ef8e284273a331a5b3e160ff964751ee52005d990"), looks := false }, kinds := [], alts := [], laidByText := true, laidKinds := [.data, .pinned], laidTests := true, laidLooks := .later }
def ControlPutsUptoCardSaid : Prop := Claim7.holds Tryd.pinned (.plain (OpenSpec.upto controlPutsSpec)) controlPutsUptoCard

/-- THE SECOND FORM's CARD OF 'bothylaw18.ControlReads'. -/
def controlReadsUptoCard : Claim7 := { stood := { row := controlReadsUptoRow, standIns := [], harness := (true, "ceb05d6ac60bb880777fd09ef8e284273a331a5b3e160ff964751ee52005d990"), looks := false }, kinds := [], alts := [], laidByText := true, laidKinds := [.data, .pinned], laidTests := true, laidLooks := .later }
def ControlReadsUptoCardSaid : Prop := Claim7.holds Tryd.pinned (.plain (OpenSpec.upto controlReadsSpec)) controlReadsUptoCard

/-- THE SECOND FORM's CARD OF 'bothylaw18.ControlFinds'. -/
def controlFindsUptoCard : Claim7 := { stood := { row := controlFindsUptoRow, standIns := [], harness := (true, "ceb05d6ac60bb880777fd09ef8e284273a331a5b3e160ff964751ee52005d990"), looks := false }, kinds := [], alts := [], laidByText := true, laidKinds := [.data, .pinned], laidTests := true, laidLooks := .later }
def ControlFindsUptoCardSaid : Prop := Claim7.holds Tryd.pinned (.plain (OpenSpec.upto controlFindsSpec)) controlFindsUptoCard
end Rows
end Go.Proofs.YtlnfbjgadcifkaaDoor
