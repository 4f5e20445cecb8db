/-
  DERIVED. GIVEN WITH THE SEED: THE CARDS: each row of YtbihhdkmmlldnaaGreatDoorRows.lean that lists a variable, with what it lists TIED to the program's text (the seventh form; the later family's looks); each row that meets fmt, with fmt's text TOLD by the authors' own Lean function (tested against real Go, not proved from fmt's source: count such statements apart). THE CARD IS WHAT COUNTS. Prove the row's statement (the work); the ties are given (YtbihhdkmmlldnaaGreatDoorTie.lean); close each card by the builder's one call (the guide's Derived/Test/ToyasCard.lean, 'card_holds'). Laid BY PROGRAM, IN A SANDBOX (cutbox-door.mjs). By AI agents, Wed Nov 11 2026. No macro, syntax, notation, axiom, sorry.
-/
import Derived.Test.YtbihhdkmmlldnaaGreatDoorRows
import GoSem.ClaimSeven
namespace Go.Proofs.YtbihhdkmmlldnaaGreatDoor
namespace Rows

/-- THE TIED CARD OF 'bothylaw16.AclTells'. -/
def aclTellsCard : Claim7 := { stood := { row := aclTellsRow, standIns := [], harness := (true, "da7ef07a06558e2ec268174d23b64e94ce2371271b4836da6752e38825a50bf4"), looks := true }, kinds := [], alts := [], laidByText := true, laidKinds := [.data, .data, .data, .data, .sentinel, .sentinel, .pinned], laidTests := true, laidLooks := .later }
def AclTellsCardSaid : Prop := Claim7.holds Tryz.pinned (.plain (OpenSpec.ofChange aclTellsSpec)) aclTellsCard

/-- THE TIED CARD OF 'bothylaw16.AclFirst'. -/
def aclFirstCard : Claim7 := { stood := { row := aclFirstRow, standIns := [], harness := (true, "da7ef07a06558e2ec268174d23b64e94ce2371271b4836da6752e38825a50bf4"), looks := true }, kinds := [], alts := [], laidByText := true, laidKinds := [.data, .data, .data, .data, .sentinel, .sentinel, .pinned], laidTests := true, laidLooks := .later }
def AclFirstCardSaid : Prop := Claim7.holds Tryz.pinned (.plain (OpenSpec.ofChange aclFirstSpec)) aclFirstCard

/-- THE TIED CARD OF 'bothylaw16.AclBelow'. -/
def aclBelowCard : Claim7 := { stood := { row := aclBelowRow, standIns := [], harness := (true, "da7ef07a06558e2ec268174d23b64e94ce2371271b4836da6752e38825a50bf4"), looks := true }, kinds := [], alts := [], laidByText := true, laidKinds := [.data, .data, .data, .data, .sentinel, .sentinel, .pinned], laidTests := true, laidLooks := .later }
def AclBelowCardSaid : Prop := Claim7.holds Tryz.pinned (.plain (OpenSpec.ofChange aclBelowSpec)) aclBelowCard

/-- THE TIED CARD OF 'bothylaw17.ViewTells'. -/
def viewTellsCard : Claim7 := { stood := { row := viewTellsRow, standIns := [], harness := (true, "da7ef07a06558e2ec268174d23b64e94ce2371271b4836da6752e38825a50bf4"), looks := true }, kinds := [], alts := [], laidByText := true, laidKinds := [.data, .data, .data, .data, .sentinel, .sentinel, .pinned], laidTests := true, laidLooks := .later }
def ViewTellsCardSaid : Prop := Claim7.holds Tryz.pinned (.plain (OpenSpec.ofChange viewTellsSpec)) viewTellsCard

/-- THE TIED CARD OF 'bothylaw17.ViewBlind'. -/
def viewBlindCard : Claim7 := { stood := { row := viewBlindRow, standIns := [], harness := (true, "da7ef07a06558e2ec268174d23b64e94ce2371271b4836da6752e38825a50bf4"), looks := true }, kinds := [], alts := [], laidByText := true, laidKinds := [.data, .data, .data, .data, .sentinel, .sentinel, .pinned], laidTests := true, laidLooks := .later }
def ViewBlindCardSaid : Prop := Claim7.holds Tryz.pinned (.plain (OpenSpec.ofChange viewBlindSpec)) viewBlindCard

/-- THE TIED CARD OF 'bothylaw17.ViewLess'. -/
def viewLessCard : Claim7 := { stood := { row := viewLessRow, standIns := [], harness := (true, "da7ef07a06558e2ec268174d23b64e94ce2371271b4836da6752e38825a50bf4"), looks := true }, kinds := [], alts := [], laidByText := true, laidKinds := [.data, .data, .data, .data, .sentinel, .sentinel, .pinned], laidTests := true, laidLooks := .later }
def ViewLessCardSaid : Prop := Claim7.holds Tryz.pinned (.plain (OpenSpec.ofChange viewLessSpec)) viewLessCard

/-- THE SECOND FORM's CARD OF 'bothylaw16.AclTells'. -/
def aclTellsUptoCard : Claim7 := { stood := { row := aclTellsUptoRow, standIns := [], harness := (true, "da7ef07a06558e2ec268174d23b64e94ce2371271b4836da6752e38825a50bf4"), looks := true }, kinds := [], alts := [], laidByText := true, laidKinds := [.data, .data, .data, .data, .sentinel, .sentinel, .pinned], laidTests := true, laidLooks := .later }
def AclTellsUptoCardSaid : Prop := Claim7.holds Tryz.pinned (.plain (OpenSpec.upto aclTellsSpec)) aclTellsUptoCard

/-- THE SECOND FORM's CARD OF 'bothylaw16.AclFirst'. -/
def aclFirstUptoCard : Claim7 := { stood := { row := aclFirstUptoRow, standIns := [], harness := (true, "da7ef07a06558e2ec268174d23b64e94ce2371271b4836da6752e38825a50bf4"), looks := true }, kinds := [], alts := [], laidByText := true, laidKinds := [.data, .data, .data, .data, .sentinel, .sentinel, .pinned], laidTests := true, laidLooks := .later }
def AclFirstUptoCardSaid : Prop := Claim7.holds Tryz.pinned (.plain (OpenSpec.upto aclFirstSpec)) aclFirstUptoCard

/-- THE SECOND FORM's CARD OF 'bothylaw16.AclBelow'. -/
def aclBelowUptoCard : Claim7 := { stood := { row := aclBelowUptoRow, standIns := [], harness := (true, "da7ef07a06558e2ec268174d23b64e94ce2371271b4836da6752e38825a50bf4"), looks := true }, kinds := [], alts := [], laidByText := true, laidKinds := [.data, .data, .data, .data, .sentinel, .sentinel, .pinned], laidTests := true, laidLooks := .later }
def AclBelowUptoCardSaid : Prop := Claim7.holds Tryz.pinned (.plain (OpenSpec.upto aclBelowSpec)) aclBelowUptoCard

/-- THE SECOND FORM's CARD OF 'bothylaw17.ViewTells'. -/
def viewTellsUptoCard : Claim7 := { stood := { row := viewTellsUptoRow, standIns := [], harness := (true, "da7ef07a06558e2ec268174d23b64e94ce2371271b4836da6752e38825a50bf4"), looks := true }, kinds := [], alts := [], laidByText := true, laidKinds := [.data, .data, .data, .data, .sentinel, .sentinel, .pinned], laidTests := true, laidLooks := .later }
def ViewTellsUptoCardSaid : Prop := Claim7.holds Tryz.pinned (.plain (OpenSpec.upto viewTellsSpec)) viewTellsUptoCard

/-- THE SECOND FORM's CARD OF 'bothylaw17.ViewBlind'. -/
def viewBlindUptoCard : Claim7 := { stood := { row := viewBlindUptoRow, standIns := [], harness := (true, "da7ef07a06558e2ec268174d23b64e94ce2371271b4836da6752e38825a50bf4"), looks := true }, kinds := [], alts := [], laidByText := true, laidKinds := [.data, .data, .data, .data, .sentinel, .sentinel, .pinned], laidTests := true, laidLooks := .later }
def ViewBlindUptoCardSaid : Prop := Claim7.holds Tryz.pinned (.plain (OpenSpec.upto viewBlindSpec)) viewBlindUptoCard

/-- THE SECOND FORM's CARD OF 'bothylaw17.ViewLess'. -/
def viewLessUptoCard : Claim7 := { stood := { row := viewLessUptoRow, standIns := [], harness := (true, "da7ef07a06558e2ec268174d23b64e94ce2371271b4836da6752e38825a50bf4"), looks := true }, kinds := [], alts := [], laidByText := true, laidKinds := [.data, .data, .data, .data, .sentinel, .sentinel, .pinned], laidTests := true, laidLooks := .later }
def ViewLessUptoCardSaid : Prop := Claim7.holds Tryz.pinned (.plain (OpenSpec.upto viewLessSpec)) viewLessUptoCard
end Rows
end Go.Proofs.YtbihhdkmmlldnaaGreatDoor
