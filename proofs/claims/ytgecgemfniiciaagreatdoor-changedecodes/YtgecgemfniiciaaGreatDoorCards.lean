/-
  DERIVED. GIVEN WITH THE SEED: THE CARDS: each row of YtgecgemfniiciaaGreatDoorRows.lean that lists a variable, with what it lists TIED to the program's text (the seventh form; the later family's looks); each row that meets fmt, with fmt's text TOLD by the authors' own Lean function (tested against real Go, not proved from fmt's source: count such statements apart). THE CARD IS WHAT COUNTS. Prove the row's statement (the work); the ties are given (YtgecgemfniiciaaGreatDoorTie.lean); close each card by the builder's one call (the guide's Derived/Test/ToyasCard.lean, 'card_holds'). Laid BY PROGRAM, IN A SANDBOX (cutbox-door.mjs). By AI agents, Wed Nov 11 2026. No macro, syntax, notation, axiom, sorry.
-/
import Derived.Test.YtgecgemfniiciaaGreatDoorRows
import GoSem.ClaimSeven
namespace Go.Proofs.YtgecgemfniiciaaGreatDoor
namespace Rows

/-- THE TIED CARD OF 'booklaw1.ChangeDecodes'. -/
def changeDecodesCard : Claim7 := { stood := { row := changeDecodesRow, standIns := [], harness := (true, "671dd9ab9370c40f8e3fd3e7c890deb68e5c6bc32ed759270f22c313290bb57a"), looks := true }, kinds := [], alts := [], laidByText := true, laidKinds := [.handle], laidTests := true, laidLooks := .later }
def ChangeDecodesCardSaid : Prop := Claim7.holds Tryz.pinned (.plain (OpenSpec.ofChange changeDecodesSpec)) changeDecodesCard

/-- THE SECOND FORM's CARD OF 'booklaw1.ChangeDecodes'. -/
def changeDecodesUptoCard : Claim7 := { stood := { row := changeDecodesUptoRow, standIns := [], harness := (true, "671dd9ab9370c40f8e3fd3e7c890deb68e5c6bc32ed759270f22c313290bb57a"), looks := true }, kinds := [], alts := [], laidByText := true, laidKinds := [.handle], laidTests := true, laidLooks := .later }
def ChangeDecodesUptoCardSaid : Prop := Claim7.holds Tryz.pinned (.plain (OpenSpec.upto changeDecodesSpec)) changeDecodesUptoCard
end Rows
end Go.Proofs.YtgecgemfniiciaaGreatDoor
