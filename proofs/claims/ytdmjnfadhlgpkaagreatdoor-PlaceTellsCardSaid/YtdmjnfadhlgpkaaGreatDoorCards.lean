/-
  DERIVED. GIVEN WITH THE SEED: THE CARDS: each row of YtdmjnfadhlgpkaaGreatDoorRows.lean that lists a variable, with what it lists TIED to the program's text (the seventh form; the later family's looks); each row that meets fmt, with fmt's text TOLD by the authors' own Lean function (tested against real Go, not proved from fmt's source: count such statements apart). THE CARD IS WHAT COUNTS. Prove the row's statement (the work); the ties are given (YtdmjnfadhlgpkaaGreatDoorTie.lean); close each card by the builder's one call (the guide's Derived/Test/ToyasCard.lean, 'card_holds'). Laid BY PROGRAM, IN A SANDBOX (cutbox-door.mjs). By AI agents, Wed Nov 11 2026. No macro, syntax, notation, axiom, sorry.
-/
import Derived.Test.YtdmjnfadhlgpkaaGreatDoorRows
import GoSem.ClaimSeven
namespace Go.Proofs.YtdmjnfadhlgpkaaGreatDoor
namespace Rows

/-- THE TIED CARD OF 'bothylaw07.PlaceTells'. -/
def placeTellsCard : Claim7 := { stood := { row := placeTellsRow, standIns := [], harness := (true, "9e2073c4b485a403a17d7e0d415a5da5f7acf2997edc28bbea831bc1d6491086"), looks := true }, kinds := [], alts := [], laidByText := true, laidKinds := [.data, .data, .data, .data, .sentinel, .sentinel, .pinned], laidTests := true, laidLooks := .later }
def PlaceTellsCardSaid : Prop := Claim7.holds Tryz.pinned (.plain (OpenSpec.ofChange placeTellsSpec)) placeTellsCard

/-- THE TIED CARD OF 'bothylaw07.PlaceTree'. -/
def placeTreeCard : Claim7 := { stood := { row := placeTreeRow, standIns := [], harness := (true, "9e2073c4b485a403a17d7e0d415a5da5f7acf2997edc28bbea831bc1d6491086"), looks := true }, kinds := [], alts := [], laidByText := true, laidKinds := [.data, .data, .data, .data, .sentinel, .sentinel, .pinned], laidTests := true, laidLooks := .later }
def PlaceTreeCardSaid : Prop := Claim7.holds Tryz.pinned (.plain (OpenSpec.ofChange placeTreeSpec)) placeTreeCard

/-- THE TIED CARD OF 'bothylaw07.PlaceJoins'. -/
def placeJoinsCard : Claim7 := { stood := { row := placeJoinsRow, standIns := [], harness := (true, "9e2073c4b485a403a17d7e0d415a5da5f7acf2997edc28bbea831bc1d6491086"), looks := true }, kinds := [], alts := [], laidByText := true, laidKinds := [.data, .data, .data, .data, .sentinel, .sentinel, .pinned], laidTests := true, laidLooks := .later }
def PlaceJoinsCardSaid : Prop := Claim7.holds Tryz.pinned (.plain (OpenSpec.ofChange placeJoinsSpec)) placeJoinsCard

/-- THE SECOND FORM's CARD OF 'bothylaw07.PlaceTells'. -/
def placeTellsUptoCard : Claim7 := { stood := { row := placeTellsUptoRow, standIns := [], harness := (true, "9e2073c4b485a403a17d7e0d415a5da5f7acf2997edc28bbea831bc1d6491086"), looks := true }, kinds := [], alts := [], laidByText := true, laidKinds := [.data, .data, .data, .data, .sentinel, .sentinel, .pinned], laidTests := true, laidLooks := .later }
def PlaceTellsUptoCardSaid : Prop := Claim7.holds Tryz.pinned (.plain (OpenSpec.upto placeTellsSpec)) placeTellsUptoCard

/-- THE SECOND FORM's CARD OF 'bothylaw07.PlaceTree'. -/
def placeTreeUptoCard : Claim7 := { stood := { row := placeTreeUptoRow, standIns := [], harness := (true, "9e2073c4b485a403a17d7e0d415a5da5f7acf2997edc28bbea831bc1d6491086"), looks := true }, kinds := [], alts := [], laidByText := true, laidKinds := [.data, .data, .data, .data, .sentinel, .sentinel, .pinned], laidTests := true, laidLooks := .later }
def PlaceTreeUptoCardSaid : Prop := Claim7.holds Tryz.pinned (.plain (OpenSpec.upto placeTreeSpec)) placeTreeUptoCard

/-- THE SECOND FORM's CARD OF 'bothylaw07.PlaceJoins'. -/
def placeJoinsUptoCard : Claim7 := { stood := { row := placeJoinsUptoRow, standIns := [], harness := (true, "9e2073c4b485a403a17d7e0d415a5da5f7acf2997edc28bbea831bc1d6491086"), looks := true }, kinds := [], alts := [], laidByText := true, laidKinds := [.data, .data, .data, .data, .sentinel, .sentinel, .pinned], laidTests := true, laidLooks := .later }
def PlaceJoinsUptoCardSaid : Prop := Claim7.holds Tryz.pinned (.plain (OpenSpec.upto placeJoinsSpec)) placeJoinsUptoCard
end Rows
end Go.Proofs.YtdmjnfadhlgpkaaGreatDoor
