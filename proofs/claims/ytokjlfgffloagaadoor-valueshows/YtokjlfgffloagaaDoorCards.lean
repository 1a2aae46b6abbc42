/-
  DERIVED. GIVEN WITH THE SEED: THE CARDS: each row of YtokjlfgffloagaaDoorRows.lean that lists a variable, with what it lists TIED to the program's text (the seventh form; the later family's looks); each row that meets fmt, with fmt's text TOLD by the authors' own Lean function (tested against real Go, not proved from fmt's source: count such statements apart). THE CARD IS WHAT COUNTS. Prove the row's statement (the work); the ties are given (YtokjlfgffloagaaDoorTie.lean); close each card by the builder's one call (the guide's Derived/Test/ToyasCard.lean, 'card_holds'). Laid BY PROGRAM, IN A SANDBOX (cutbox-door.mjs). By AI agents, Wed Nov 11 2026. No macro, syntax, notation, axiom, sorry.
-/
import Derived.Test.YtokjlfgffloagaaDoorRows
import GoSem.ClaimSeven
namespace Go.Proofs.YtokjlfgffloagaaDoor
namespace Rows

/-- THE TIED CARD OF 'booklaw1.IdNames'. -/
def idNamesCard : Claim7 := { stood := { row := idNamesRow, standIns := [], harness := (true, "366148daf478c22cc2a0b3a9acf7fa2d95264a5d8422526e8ffe97bce784471c"), looks := true }, kinds := [], alts := [], laidByText := true, laidKinds := [.data, .data, .data, .handle, .sentinel, .sentinel], laidTests := true, laidLooks := .later }
def IdNamesCardSaid : Prop := Claim7.holds Tryd.pinned (.plain (OpenSpec.ofChange idNamesSpec)) idNamesCard

/-- THE TIED CARD OF 'booklaw6.IdRow'. -/
def idRowCard : Claim7 := { stood := { row := idRowRow, standIns := [], harness := (true, "366148daf478c22cc2a0b3a9acf7fa2d95264a5d8422526e8ffe97bce784471c"), looks := true }, kinds := [], alts := [], laidByText := true, laidKinds := [.data, .data, .data, .sentinel, .sentinel], laidTests := true, laidLooks := .later }
def IdRowCardSaid : Prop := Claim7.holds Tryd.pinned (.plain (OpenSpec.ofChange idRowSpec)) idRowCard

/-- THE TIED CARD OF 'booklaw1.ValueShows'. -/
def valueShowsCard : Claim7 := { stood := { row := valueShowsRow, standIns := [], harness := (true, "366148daf478c22cc2a0b3a9acf7fa2d95264a5d8422526e8ffe97bce784471c"), looks := true }, kinds := [], alts := [], laidByText := true, laidKinds := [.data, .data, .data, .handle], laidTests := true, laidLooks := .later }
def ValueShowsCardSaid : Prop := Claim7.holds Tryd.pinned (.plain (OpenSpec.ofChange valueShowsSpec)) valueShowsCard

/-- THE SECOND FORM's CARD OF 'booklaw1.IdNames'. -/
def idNamesUptoCard : Claim7 := { stood := { row := idNamesUptoRow, standIns := [], harness := (true, "366148daf478c22cc2a0b3a9acf7fa2d95264a5d8422526e8ffe97bce784471c"), looks := true }, kinds := [], alts := [], laidByText := true, laidKinds := [.data, .data, .data, .handle, .sentinel, .sentinel], laidTests := true, laidLooks := .later }
def IdNamesUptoCardSaid : Prop := Claim7.holds Tryd.pinned (.plain (OpenSpec.upto idNamesSpec)) idNamesUptoCard

/-- THE SECOND FORM's CARD OF 'booklaw6.IdRow'. -/
def idRowUptoCard : Claim7 := { stood := { row := idRowUptoRow, standIns := [], harness := (true, "366148daf478c22cc2a0b3a9acf7fa2d95264a5d8422526e8ffe97bce784471c"), looks := true }, kinds := [], alts := [], laidByText := true, laidKinds := [.data, .data, .data, .sentinel, .sentinel], laidTests := true, laidLooks := .later }
def IdRowUptoCardSaid : Prop := Claim7.holds Tryd.pinned (.plain (OpenSpec.upto idRowSpec)) idRowUptoCard

/-- THE SECOND FORM's CARD OF 'booklaw1.ValueShows'. -/
def valueShowsUptoCard : Claim7 := { stood := { row := valueShowsUptoRow, standIns := [], harness := (true, "366148daf478c22cc2a0b3a9acf7fa2d95264a5d8422526e8ffe97bce784471c"), looks := true }, kinds := [], alts := [], laidByText := true, laidKinds := [.data, .data, .data, .handle], laidTests := true, laidLooks := .later }
def ValueShowsUptoCardSaid : Prop := Claim7.holds Tryd.pinned (.plain (OpenSpec.upto valueShowsSpec)) valueShowsUptoCard
end Rows
end Go.Proofs.YtokjlfgffloagaaDoor
