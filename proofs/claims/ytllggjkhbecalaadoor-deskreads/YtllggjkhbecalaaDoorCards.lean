/-
  DERIVED. GIVEN WITH THE SEED: THE CARDS: each row of YtllggjkhbecalaaDoorRows.lean that lists a variable, with what it lists TIED to the program's text (the seventh form; the later family's looks); each row that meets fmt, with fmt's text TOLD by the authors' own Lean function (tested against real Go, not proved from fmt's source: count such statements apart). THE CARD IS WHAT COUNTS. Prove the row's statement (the work); the ties are given (YtllggjkhbecalaaDoorTie.lean); close each card by the builder's one call (the guide's Derived/Test/ToyasCard.lean, 'card_holds'). Laid BY PROGRAM, IN A SANDBOX (cutbox-door.mjs). By AI agents, Wed Nov 11 2026. No macro, syntax, notation, axiom, sorry.
-/
import Derived.Test.YtllggjkhbecalaaDoorRows
import GoSem.ClaimSeven
namespace Go.Proofs.YtllggjkhbecalaaDoor
namespace Rows

/-- THE TIED CARD OF 'cloakroomlaw15.DeskNames'. -/
def deskNamesCard : Claim7 := { stood := { row := deskNamesRow, standIns := [], harness := (true, "7f807703e1124b2fc3e6a2a315c537839f665f01f5cd9c6ac8cd9fceb9bea458"), looks := false }, kinds := [], alts := [], laidByText := true, laidKinds := [.data, .data], laidTests := true, laidLooks := .later }
def DeskNamesCardSaid : Prop := Claim7.holds Tryd.pinned (.plain (OpenSpec.ofChange deskNamesSpec)) deskNamesCard

/-- THE TIED CARD OF 'cloakroomlaw15.DeskReads'. -/
def deskReadsCard : Claim7 := { stood := { row := deskReadsRow, standIns := [], harness := (true, "7f807703e1124b2fc3e6a2a315c537839f665f01f5cd9c6ac8cd9fceb9bea458"), looks := false }, kinds := [], alts := [], laidByText := true, laidKinds := [.data, .data], laidTests := true, laidLooks := .later }
def DeskReadsCardSaid : Prop := Claim7.holds Tryd.pinned (.plain (OpenSpec.ofChange deskReadsSpec)) deskReadsCard

/-- THE SECOND FORM's CARD OF 'cloakroomlaw15.DeskNames'. -/
def deskNamesUptoCard : Claim7 := { stood := { row := deskNamesUptoRow, standIns := [], harness := (true, "7f807703e1124b2fc3e6a2a315c537839f665f01f5cd9c6ac8cd9fceb9bea458"), looks := false }, kinds := [], alts := [], laidByText := true, laidKinds := [.data, .data], laidTests := true, laidLooks := .later }
def DeskNamesUptoCardSaid : Prop := Claim7.holds Tryd.pinned (.plain (OpenSpec.upto deskNamesSpec)) deskNamesUptoCard

/-- THE SECOND FORM's CARD OF 'cloakroomlaw15.DeskReads'. -/
def deskReadsUptoCard : Claim7 := { stood := { row := deskReadsUptoRow, standIns := [], harness := (true, "7f807703e1124b2fc3e6a2a315c537839f665f01f5cd9c6ac8cd9fceb9bea458"), looks := false }, kinds := [], alts := [], laidByText := true, laidKinds := [.data, .data], laidTests := true, laidLooks := .later }
def DeskReadsUptoCardSaid : Prop := Claim7.holds Tryd.pinned (.plain (OpenSpec.upto deskReadsSpec)) deskReadsUptoCard
end Rows
end Go.Proofs.YtllggjkhbecalaaDoor
