/-
  DERIVED. GIVEN WITH THE SEED: THE CARDS: each row of YtcfckgpjdaadeaaGreatDoorRows.lean that lists a variable, with what it lists TIED to the program's text (the seventh form; the later family's looks); each row that meets fmt, with fmt's text TOLD by the authors' own Lean function (tested against real Go, not proved from fmt's source: count such statements apart). THE CARD IS WHAT COUNTS. Prove the row's statement (the work); the ties are given (YtcfckgpjdaadeaaGreatDoorTie.lean); close each card by the builder's one call (the guide's Derived/Test/ToyasCard.lean, 'card_holds'). Laid BY PROGRAM, IN A SANDBOX (cutbox-door.mjs). By AI agents, Wed Nov 11 2026. No macro, syntax, notation, axiom, sorry.
-/
import Derived.Test.YtcfckgpjdaadeaaGreatDoorRows
import GoSem.ClaimSeven
namespace Go.Proofs.YtcfckgpjdaadeaaGreatDoor
namespace Rows

/-- THE TIED CARD OF 'bothylaw09.SchemaPlain'. -/
def schemaPlainCard : Claim7 := { stood := { row := schemaPlainRow, standIns := [], harness := (true, "497a1f8bc6a332198051fe7b0cd9927c5dea5958a149c3ccf677bba60ab7aa18"), looks := true }, kinds := [], alts := [], laidByText := true, laidKinds := [.data, .data, .data, .data, .sentinel, .sentinel, .pinned], laidTests := true, laidLooks := .later }
def SchemaPlainCardSaid : Prop := Claim7.holds Tryz.pinned (.plain (OpenSpec.ofChange schemaPlainSpec)) schemaPlainCard

/-- THE TIED CARD OF 'bothylaw09.SchemaNew'. -/
def schemaNewCard : Claim7 := { stood := { row := schemaNewRow, standIns := [], harness := (true, "497a1f8bc6a332198051fe7b0cd9927c5dea5958a149c3ccf677bba60ab7aa18"), looks := true }, kinds := [], alts := [], laidByText := true, laidKinds := [.data, .data, .data, .data, .sentinel, .sentinel, .pinned], laidTests := true, laidLooks := .later }
def SchemaNewCardSaid : Prop := Claim7.holds Tryz.pinned (.plain (OpenSpec.ofChange schemaNewSpec)) schemaNewCard

/-- THE TIED CARD OF 'bothylaw09.SchemaNone'. -/
def schemaNoneCard : Claim7 := { stood := { row := schemaNoneRow, standIns := [], harness := (true, "497a1f8bc6a332198051fe7b0cd9927c5dea5958a149c3ccf677bba60ab7aa18"), looks := true }, kinds := [], alts := [], laidByText := true, laidKinds := [.data, .data, .data, .data, .sentinel, .sentinel, .pinned], laidTests := true, laidLooks := .later }
def SchemaNoneCardSaid : Prop := Claim7.holds Tryz.pinned (.plain (OpenSpec.ofChange schemaNoneSpec)) schemaNoneCard

/-- THE TIED CARD OF 'bothylaw10.EntrySelects'. -/
def entrySelectsCard : Claim7 := { stood := { row := entrySelectsRow, standIns := [], harness := (true, "497a1f8bc6a332198051fe7b0cd9927c5dea5958a149c3ccf677bba60ab7aa18"), looks := true }, kinds := [], alts := [], laidByText := true, laidKinds := [.data, .data, .data, .data, .sentinel, .sentinel, .pinned], laidTests := true, laidLooks := .later }
def EntrySelectsCardSaid : Prop := Claim7.holds Tryz.pinned (.plain (OpenSpec.ofChange entrySelectsSpec)) entrySelectsCard

/-- THE TIED CARD OF 'bothylaw10.EntryOnce'. -/
def entryOnceCard : Claim7 := { stood := { row := entryOnceRow, standIns := [], harness := (true, "497a1f8bc6a332198051fe7b0cd9927c5dea5958a149c3ccf677bba60ab7aa18"), looks := true }, kinds := [], alts := [], laidByText := true, laidKinds := [.data, .data, .data, .data, .sentinel, .sentinel, .pinned], laidTests := true, laidLooks := .later }
def EntryOnceCardSaid : Prop := Claim7.holds Tryz.pinned (.plain (OpenSpec.ofChange entryOnceSpec)) entryOnceCard

/-- THE SECOND FORM's CARD OF 'bothylaw09.SchemaPlain'. -/
def schemaPlainUptoCard : Claim7 := { stood := { row := schemaPlainUptoRow, standIns := [], harness := (true, "497a1f8bc6a332198051fe7b0cd9927c5dea5958a149c3ccf677bba60ab7aa18"), looks := true }, kinds := [], alts := [], laidByText := true, laidKinds := [.data, .data, .data, .data, .sentinel, .sentinel, .pinned], laidTests := true, laidLooks := .later }
def SchemaPlainUptoCardSaid : Prop := Claim7.holds Tryz.pinned (.plain (OpenSpec.upto schemaPlainSpec)) schemaPlainUptoCard

/-- THE SECOND FORM's CARD OF 'bothylaw09.SchemaNew'. -/
def schemaNewUptoCard : Claim7 := { stood := { row := schemaNewUptoRow, standIns := [], harness := (true, "497a1f8bc6a332198051fe7b0cd9927c5dea5958a149c3ccf677bba60ab7aa18"), looks := true }, kinds := [], alts := [], laidByText := true, laidKinds := [.data, .data, .data, .data, .sentinel, .sentinel, .pinned], laidTests := true, laidLooks := .later }
def SchemaNewUptoCardSaid : Prop := Claim7.holds Tryz.pinned (.plain (OpenSpec.upto schemaNewSpec)) schemaNewUptoCard

/-- THE SECOND FORM's CARD OF 'bothylaw09.SchemaNone'. -/
def schemaNoneUptoCard : Claim7 := { stood := { row := schemaNoneUptoRow, standIns := [], harness := (true, "497a1f8bc6a332198051fe7b0cd9927c5dea5958a149c3ccf677bba60ab7aa18"), looks := true }, kinds := [], alts := [], laidByText := true, laidKinds := [.data, .data, .data, .data, .sentinel, .sentinel, .pinned], laidTests := true, laidLooks := .later }
def SchemaNoneUptoCardSaid : Prop := Claim7.holds Tryz.pinned (.plain (OpenSpec.upto schemaNoneSpec)) schemaNoneUptoCard

/-- THE SECOND FORM's CARD OF 'bothylaw10.EntrySelects'. -/
def entrySelectsUptoCard : Claim7 := { stood := { row := entrySelectsUptoRow, standIns := [], harness := (true, "497a1f8bc6a332198051fe7b0cd9927c5dea5958a149c3ccf677bba60ab7aa18"), looks := true }, kinds := [], alts := [], laidByText := true, laidKinds := [.data, .data, .data, .data, .sentinel, .sentinel, .pinned], laidTests := true, laidLooks := .later }
def EntrySelectsUptoCardSaid : Prop := Claim7.holds Tryz.pinned (.plain (OpenSpec.upto entrySelectsSpec)) entrySelectsUptoCard

/-- THE SECOND FORM's CARD OF 'bothylaw10.EntryOnce'. -/
def entryOnceUptoCard : Claim7 := { stood := { row := entryOnceUptoRow, standIns := [], harness := (true, "497a1f8bc6a332198051fe7b0cd9927c5dea5958a149c3ccf677bba60ab7aa18"), looks := true }, kinds := [], alts := [], laidByText := true, laidKinds := [.data, .data, .data, .data, .sentinel, .sentinel, .pinned], laidTests := true, laidLooks := .later }
def EntryOnceUptoCardSaid : Prop := Claim7.holds Tryz.pinned (.plain (OpenSpec.upto entryOnceSpec)) entryOnceUptoCard
end Rows
end Go.Proofs.YtcfckgpjdaadeaaGreatDoor
