/-
  DERIVED. GIVEN WITH THE SEED: THE CARDS: each row of YtgkpnkbigniaoaaGreatDoorRows.lean that lists a variable, with what it lists TIED to the program's text (the seventh form; the later family's looks); each row that meets fmt, with fmt's text TOLD by the authors' own Lean function (tested against real Go, not proved from fmt's source: count such statements apart). THE CARD IS WHAT COUNTS. Prove the row's statement (the work); the ties are given (YtgkpnkbigniaoaaGreatDoorTie.lean); close each card by the builder's one call (the guide's Derived/Test/ToyasCard.lean, 'card_holds'). Laid BY PROGRAM, IN A SANDBOX (cutbox-door.mjs). By AI agents, Wed Nov 11 2026. No macro, syntax, notation, axiom, sorry.
-/
import Derived.Test.YtgkpnkbigniaoaaGreatDoorRows
import GoSem.ClaimSeven
namespace Go.Proofs.YtgkpnkbigniaoaaGreatDoor
namespace Rows

/-- THE TIED CARD OF 'cloakroomlaw21.HouseNames'. -/
def houseNamesCard : Claim7 := { stood := { row := houseNamesRow, standIns := [], harness := (true, "c7899b6d5a889e86639b25edcfc6c5b1700e3af0b67d2a0f4bc2c07ed2dc85b4"), looks := false }, kinds := [], alts := [], laidByText := true, laidKinds := [.data, .data], laidTests := true, laidLooks := .later }
def HouseNamesCardSaid : Prop := Claim7.holds Tryz.pinned (.plain (OpenSpec.ofChange houseNamesSpec)) houseNamesCard

/-- THE SECOND FORM's CARD OF 'cloakroomlaw21.HouseNames'. -/
def houseNamesUptoCard : Claim7 := { stood := { row := houseNamesUptoRow, standIns := [], harness := (true, "c7899b6d5a889e86639b25edcfc6c5b1700e3af0b67d2a0f4bc2c07ed2dc85b4"), looks := false }, kinds := [], alts := [], laidByText := true, laidKinds := [.data, .data], laidTests := true, laidLooks := .later }
def HouseNamesUptoCardSaid : Prop := Claim7.holds Tryz.pinned (.plain (OpenSpec.upto houseNamesSpec)) houseNamesUptoCard
end Rows
end Go.Proofs.YtgkpnkbigniaoaaGreatDoor
