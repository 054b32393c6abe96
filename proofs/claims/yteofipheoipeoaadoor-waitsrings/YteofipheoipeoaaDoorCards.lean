/-
  DERIVED. GIVEN WITH THE SEED: THE CARDS: each row of YteofipheoipeoaaDoorRows.lean that lists a variable, with what it lists TIED to the program's text (the seventh form; the later family's looks); each row that meets fmt, with fmt's text TOLD by the authors' own Lean function (tested against real Go, not proved from fmt's source: count such statements apart). THE CARD IS WHAT COUNTS. Prove the row's statement (the work); the ties are given (YteofipheoipeoaaDoorTie.lean); close each card by the builder's one call (the guide's Derived/Test/ToyasCard.lean, 'card_holds'). Laid BY PROGRAM, IN A SANDBOX (cutbox-door.mjs). By AI agents, Wed Nov 11 2026. No macro, syntax, notation, axiom, sorry.
-/
import Derived.Test.YteofipheoipeoaaDoorRows
import GoSem.ClaimSeven
namespace Go.Proofs.YteofipheoipeoaaDoor
namespace Rows

/-- THE TIED CARD OF 'cloakroomlaw13.WaitsNames'. -/
def waitsNamesCard : Claim7 := { stood := { row := waitsNamesRow, standIns := [], harness := (true, "c8c4cbb8833ac934ea3d5d5b67d70dcaf94e7e29e88af8b32bc331c988aa0e2f"), looks := false }, kinds := [], alts := [], laidByText := true, laidKinds := [.data, .data], laidTests := true, laidLooks := .later }
def WaitsNamesCardSaid : Prop := Claim7.holds Tryd.pinned (.plain (OpenSpec.ofChange waitsNamesSpec)) waitsNamesCard

/-- THE TIED CARD OF 'cloakroomlaw13.WaitsTells'. -/
def waitsTellsCard : Claim7 := { stood := { row := waitsTellsRow, standIns := [], harness := (true, "c8c4cbb8833ac934ea3d5d5b67d70dcaf94e7e29e88af8b32bc331c988aa0e2f"), looks := false }, kinds := [], alts := [], laidByText := true, laidKinds := [.data, .data], laidTests := true, laidLooks := .later }
def WaitsTellsCardSaid : Prop := Claim7.holds Tryd.pinned (.plain (OpenSpec.ofChange waitsTellsSpec)) waitsTellsCard

/-- THE TIED CARD OF 'cloakroomlaw13.WaitsEnds'. -/
def waitsEndsCard : Claim7 := { stood := { row := waitsEndsRow, standIns := [], harness := (true, "c8c4cbb8833ac934ea3d5d5b67d70dcaf94e7e29e88af8b32bc331c988aa0e2f"), looks := false }, kinds := [], alts := [], laidByText := true, laidKinds := [.data, .data], laidTests := true, laidLooks := .later }
def WaitsEndsCardSaid : Prop := Claim7.holds Tryd.pinned (.plain (OpenSpec.ofChange waitsEndsSpec)) waitsEndsCard

/-- THE TIED CARD OF 'cloakroomlaw13.WaitsMore'. -/
def waitsMoreCard : Claim7 := { stood := { row := waitsMoreRow, standIns := [], harness := (true, "c8c4cbb8833ac934ea3d5d5b67d70dcaf94e7e29e88af8b32bc331c988aa0e2f"), looks := false }, kinds := [], alts := [], laidByText := true, laidKinds := [.data, .data], laidTests := true, laidLooks := .later }
def WaitsMoreCardSaid : Prop := Claim7.holds Tryd.pinned (.plain (OpenSpec.ofChange waitsMoreSpec)) waitsMoreCard

/-- THE TIED CARD OF 'cloakroomlaw13.WaitsRings'. -/
def waitsRingsCard : Claim7 := { stood := { row := waitsRingsRow, standIns := [], harness := (true, "c8c4cbb8833ac934ea3d5d5b67d70dcaf94e7e29e88af8b32bc331c988aa0e2f"), looks := false }, kinds := [], alts := [], laidByText := true, laidKinds := [.data, .data], laidTests := true, laidLooks := .later }
def WaitsRingsCardSaid : Prop := Claim7.holds Tryd.pinned (.plain (OpenSpec.ofChange waitsRingsSpec)) waitsRingsCard

/-- THE TIED CARD OF 'cloakroomlaw13.WaitsTrees'. -/
def waitsTreesCard : Claim7 := { stood := { row := waitsTreesRow, standIns := [], harness := (true, "c8c4cbb8833ac934ea3d5d5b67d70dcaf94e7e29e88af8b32bc331c988aa0e2f"), looks := false }, kinds := [], alts := [], laidByText := true, laidKinds := [.data, .data], laidTests := true, laidLooks := .later }
def WaitsTreesCardSaid : Prop := Claim7.holds Tryd.pinned (.plain (OpenSpec.ofChange waitsTreesSpec)) waitsTreesCard

/-- THE SECOND FORM's CARD OF 'cloakroomlaw13.WaitsNames'. -/
def waitsNamesUptoCard : Claim7 := { stood := { row := waitsNamesUptoRow, standIns := [], harness := (true, "c8c4cbb8833ac934ea3d5d5b67d70dcaf94e7e29e88af8b32bc331c988aa0e2f"), looks := false }, kinds := [], alts := [], laidByText := true, laidKinds := [.data, .data], laidTests := true, laidLooks := .later }
def WaitsNamesUptoCardSaid : Prop := Claim7.holds Tryd.pinned (.plain (OpenSpec.upto waitsNamesSpec)) waitsNamesUptoCard

/-- THE SECOND FORM's CARD OF 'cloakroomlaw13.WaitsTells'. -/
def waitsTellsUptoCard : Claim7 := { stood := { row := waitsTellsUptoRow, standIns := [], harness := (true, "c8c4cbb8833ac934ea3d5d5b67d70dcaf94e7e29e88af8b32bc331c988aa0e2f"), looks := false }, kinds := [], alts := [], laidByText := true, laidKinds := [.data, .data], laidTests := true, laidLooks := .later }
def WaitsTellsUptoCardSaid : Prop := Claim7.holds Tryd.pinned (.plain (OpenSpec.upto waitsTellsSpec)) waitsTellsUptoCard

/-- THE SECOND FORM's CARD OF 'cloakroomlaw13.WaitsEnds'. -/
def waitsEndsUptoCard : Claim7 := { stood := { row := waitsEndsUptoRow, standIns := [], harness := (true, "c8c4cbb8833ac934ea3d5d5b67d70dcaf94e7e29e88af8b32bc331c988aa0e2f"), looks := false }, kinds := [], alts := [], laidByText := true, laidKinds := [.data, .data], laidTests := true, laidLooks := .later }
def WaitsEndsUptoCardSaid : Prop := Claim7.holds Tryd.pinned (.plain (OpenSpec.upto waitsEndsSpec)) waitsEndsUptoCard

/-- THE SECOND FORM's CARD OF 'cloakroomlaw13.WaitsMore'. -/
def waitsMoreUptoCard : Claim7 := { stood := { row := waitsMoreUptoRow, standIns := [], harness := (true, "c8c4cbb8833ac934ea3d5d5b67d70dcaf94e7e29e88af8b32bc331c988aa0e2f"), looks := false }, kinds := [], alts := [], laidByText := true, laidKinds := [.data, .data], laidTests := true, laidLooks := .later }
def WaitsMoreUptoCardSaid : Prop := Claim7.holds Tryd.pinned (.plain (OpenSpec.upto waitsMoreSpec)) waitsMoreUptoCard

/-- THE SECOND FORM's CARD OF 'cloakroomlaw13.WaitsRings'. -/
def waitsRingsUptoCard : Claim7 := { stood := { row := waitsRingsUptoRow, standIns := [], harness := (true, "c8c4cbb8833ac934ea3d5d5b67d70dcaf94e7e29e88af8b32bc331c988aa0e2f"), looks := false }, kinds := [], alts := [], laidByText := true, laidKinds := [.data, .data], laidTests := true, laidLooks := .later }
def WaitsRingsUptoCardSaid : Prop := Claim7.holds Tryd.pinned (.plain (OpenSpec.upto waitsRingsSpec)) waitsRingsUptoCard

/-- THE SECOND FORM's CARD OF 'cloakroomlaw13.WaitsTrees'. -/
def waitsTreesUptoCard : Claim7 := { stood := { row := waitsTreesUptoRow, standIns := [], harness := (true, "c8c4cbb8833ac934ea3d5d5b67d70dcaf94e7e29e88af8b32bc331c988aa0e2f"), looks := false }, kinds := [], alts := [], laidByText := true, laidKinds := [.data, .data], laidTests := true, laidLooks := .later }
def WaitsTreesUptoCardSaid : Prop := Claim7.holds Tryd.pinned (.plain (OpenSpec.upto waitsTreesSpec)) waitsTreesUptoCard
end Rows
end Go.Proofs.YteofipheoipeoaaDoor
