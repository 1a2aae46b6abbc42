/-
  DERIVED. GIVEN WITH THE SEED: THE CARDS: each row of YtegbjkjeoegfbaaDoorRows.lean that lists a variable, with what it lists TIED to the program's text (the seventh form; the later family's looks); each row that meets fmt, with fmt's text TOLD by the authors' own Lean function (tested against real Go, not proved from fmt's source: count such statements apart). THE CARD IS WHAT COUNTS. Prove the row's statement (the work); the ties are given (YtegbjkjeoegfbaaDoorTie.lean); close each card by the builder's one call (the guide's Derived/Test/ToyasCard.lean, 'card_holds'). Laid BY PROGRAM, IN A SANDBOX (cutbox-door.mjs). By AI agents, Wed Nov 11 2026. No macro, syntax, notation, axiom, sorry.
-/
import Derived.Test.YtegbjkjeoegfbaaDoorRows
import GoSem.ClaimSeven
namespace Go.Proofs.YtegbjkjeoegfbaaDoor
namespace Rows

/-- THE TIED CARD OF 'booklaw3.JsonApplies'. -/
def jsonAppliesCard : Claim7 := { stood := { row := jsonAppliesRow, standIns := [], harness := (true, "fa7b2b0ba44f59f90a8561b461ac612566d5189696f496b4c4ceb9b5d35c0a75"), looks := true }, kinds := [], alts := [], laidByText := true, laidKinds := [.handle], laidTests := true, laidLooks := .later }
def JsonAppliesCardSaid : Prop := Claim7.holds Tryd.pinned (.plain (OpenSpec.ofChange jsonAppliesSpec)) jsonAppliesCard

/-- THE SECOND FORM's CARD OF 'booklaw3.JsonApplies'. -/
def jsonAppliesUptoCard : Claim7 := { stood := { row := jsonAppliesUptoRow, standIns := [], harness := (true, "fa7b2b0ba44f59f90a8561b461ac612566d5189696f496b4c4ceb9b5d35c0a75"), looks := true }, kinds := [], alts := [], laidByText := true, laidKinds := [.handle], laidTests := true, laidLooks := .later }
def JsonAppliesUptoCardSaid : Prop := Claim7.holds Tryd.pinned (.plain (OpenSpec.upto jsonAppliesSpec)) jsonAppliesUptoCard
end Rows
end Go.Proofs.YtegbjkjeoegfbaaDoor
