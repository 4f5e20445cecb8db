/-
  DERIVED. GIVEN WITH THE SEED: THE CARDS: each row of YtjbdldbjefmnjaaGreatDoorRows.lean that lists a variable, with what it lists TIED to the program's text (the seventh form; the later family's looks); each row that meets fmt, with fmt's text TOLD by the authors' own Lean function (tested against real Go, not proved from fmt's source: count such statements apart). THE CARD IS WHAT COUNTS. Prove the row's statement (the work); the ties are given (YtjbdldbjefmnjaaGreatDoorTie.lean); close each card by the builder's one call (the guide's Derived/Test/ToyasCard.lean, 'card_holds'). Laid BY PROGRAM, IN A SANDBOX (cutbox-door.mjs). By AI agents, Wed Nov 11 2026. No macro, syntax, notation, axiom, sorry.
-/
import Derived.Test.YtjbdldbjefmnjaaGreatDoorRows
import GoSem.ClaimSeven
namespace Go.Proofs.YtjbdldbjefmnjaaGreatDoor
namespace Rows

/-- THE TIED CARD OF 'bothylaw10.EntrySelects'. -/
def entrySelectsCard : Claim7 := { stood := { row := entrySelectsRow, standIns := [], harness := (true, "a8e69990723fe3f9974ddc0eece1ad385a5552d9d3e1e9b7bb51dafffaa03c51"), looks := true }, kinds := [], alts := [], laidByText := true, laidKinds := [.data, .data, .data, .data, .sentinel, .sentinel, .pinned], laidTests := true, laidLooks := .later }
def EntrySelectsCardSaid : Prop := Claim7.holds Tryz.pinned (.plain (OpenSpec.ofChange entrySelectsSpec)) entrySelectsCard

/-- THE TIED CARD OF 'bothylaw10.EntryOnce'. -/
def entryOnceCard : Claim7 := { stood := { row := entryOnceRow, standIns := [], harness := (true, "a8e69990723fe3f9974ddc0eece1ad385a5552d9d3e1e9b7bb51dafffaa03c51"), looks := true }, kinds := [], alts := [], laidByText := true, laidKinds := [.data, .data, .data, .data, .sentinel, .sentinel, .pinned], laidTests := true, laidLooks := .later }
def EntryOnceCardSaid : Prop := Claim7.holds Tryz.pinned (.plain (OpenSpec.ofChange entryOnceSpec)) entryOnceCard

/-- THE SECOND FORM's CARD OF 'bothylaw10.EntrySelects'. -/
def entrySelectsUptoCard : Claim7 := { stood := { row := entrySelectsUptoRow, standIns := [], harness := (true, "a8e69990723fe3f9974ddc0eece1ad385a5552d9d3e1e9b7bb51dafffaa03c51"), looks := true }, kinds := [], alts := [], laidByText := true, laidKinds := [.data, .data, .data, .data, .sentinel, .sentinel, .pinned], laidTests := true, laidLooks := .later }
def EntrySelectsUptoCardSaid : Prop := Claim7.holds Tryz.pinned (.plain (OpenSpec.upto entrySelectsSpec)) entrySelectsUptoCard

/-- THE SECOND FORM's CARD OF 'bothylaw10.EntryOnce'. -/
def entryOnceUptoCard : Claim7 := { stood := { row := entryOnceUptoRow, standIns := [], harness := (true, "a8e69990723fe3f9974ddc0eece1ad385a5552d9d3e1e9b7bb51dafffaa03c51"), looks := true }, kinds := [], alts := [], laidByText := true, laidKinds := [.data, .data, .data, .data, .sentinel, .sentinel, .pinned], laidTests := true, laidLooks := .later }
def EntryOnceUptoCardSaid : Prop := Claim7.holds Tryz.pinned (.plain (OpenSpec.upto entryOnceSpec)) entryOnceUptoCard
end Rows
end Go.Proofs.YtjbdldbjefmnjaaGreatDoor
