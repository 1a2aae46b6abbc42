/-
  DERIVED. GIVEN WITH THE SEED: THE CARDS: each row of YtgiggobpbddlbaaDoorRows.lean that lists a variable, with what it lists TIED to the program's text (the seventh form; the later family's looks); each row that meets fmt, with fmt's text TOLD by the authors' own Lean function (tested against real Go, not proved from fmt's source: count such statements apart). THE CARD IS WHAT COUNTS. Prove the row's statement (the work); the ties are given (YtgiggobpbddlbaaDoorTie.lean); close each card by the builder's one call (the guide's Derived/Test/ToyasCard.lean, 'card_holds'). Laid BY PROGRAM, IN A SANDBOX (cutbox-door.mjs). By AI agents, Wed Nov 11 2026. No macro, syntax, notation, axiom, sorry.
-/
import Derived.Test.YtgiggobpbddlbaaDoorRows
import GoSem.ClaimSeven
namespace Go.Proofs.YtgiggobpbddlbaaDoor
namespace Rows

/-- THE TIED CARD OF 'booklaw1.IdNames'. -/
def idNamesCard : Claim7 := { stood := { row := idNamesRow, standIns := [], harness := (true, "7b6f743312c90c3fbc12f787597941ba417cdbde247d217ca8c3767f485aa0ee"), looks := true }, kinds := [], alts := [], laidByText := true, laidKinds := [.data, .data, .data, .handle, .sentinel, .sentinel], laidTests := true, laidLooks := .later }
def IdNamesCardSaid : Prop := Claim7.holds Tryd.pinned (.plain (OpenSpec.ofChange idNamesSpec)) idNamesCard

/-- THE TIED CARD OF 'booklaw6.IdRow'. -/
def idRowCard : Claim7 := { stood := { row := idRowRow, standIns := [], harness := (true, "7b6f743312c90c3fbc12f787597941ba417cdbde247d217ca8c3767f485aa0ee"), looks := true }, kinds := [], alts := [], laidByText := true, laidKinds := [.data, .data, .data, .sentinel, .sentinel], laidTests := true, laidLooks := .later }
def IdRowCardSaid : Prop := Claim7.holds Tryd.pinned (.plain (OpenSpec.ofChange idRowSpec)) idRowCard

/-- THE SECOND FORM's CARD OF 'booklaw1.IdNames'. -/
def idNamesUptoCard : Claim7 := { stood := { row := idNamesUptoRow, standIns := [], harness := (true, "7b6f743312c90c3fbc12f787597941ba417cdbde247d217ca8c3767f485aa0ee"), looks := true }, kinds := [], alts := [], laidByText := true, laidKinds := [.data, .data, .data, .handle, .sentinel, .sentinel], laidTests := true, laidLooks := .later }
def IdNamesUptoCardSaid : Prop := Claim7.holds Tryd.pinned (.plain (OpenSpec.upto idNamesSpec)) idNamesUptoCard

/-- THE SECOND FORM's CARD OF 'booklaw6.IdRow'. -/
def idRowUptoCard : Claim7 := { stood := { row := idRowUptoRow, standIns := [], harness := (true, "7b6f743312c90c3fbc12f787597941ba417cdbde247d217ca8c3767f485aa0ee"), looks := true }, kinds := [], alts := [], laidByText := true, laidKinds := [.data, .data, .data, .sentinel, .sentinel], laidTests := true, laidLooks := .later }
def IdRowUptoCardSaid : Prop := Claim7.holds Tryd.pinned (.plain (OpenSpec.upto idRowSpec)) idRowUptoCard
end Rows
end Go.Proofs.YtgiggobpbddlbaaDoor
