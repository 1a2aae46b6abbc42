/-
  DERIVED. GIVEN WITH THE SEED: THE CARDS: each row of YtjmepegckahnfaaDoorRows.lean that lists a variable, with what it lists TIED to the program's text (the seventh form; the later family's looks); each row that meets fmt, with fmt's text TOLD by the authors' own Lean function (tested against real Go, not proved from fmt's source: count such statements apart). THE CARD IS WHAT COUNTS. Prove the row's statement (the work); the ties are given (YtjmepegckahnfaaDoorTie.lean); close each card by the builder's one call (the guide's Derived/Test/ToyasCard.lean, 'card_holds'). Laid BY PROGRAM, IN A SANDBOX (cutbox-door.mjs). By AI agents, Wed Nov 11 2026. No macro, syntax, notation, axiom, sorry.
-/
import Derived.Test.YtjmepegckahnfaaDoorRows
import GoSem.ClaimSeven
namespace Go.Proofs.YtjmepegckahnfaaDoor
namespace Rows

/-- THE TIED CARD OF 'booklaw3.JsonPaths'. -/
def jsonPathsCard : Claim7 := { stood := { row := jsonPathsRow, standIns := [], harness := (true, "50b72c86b9ae8ada3fa6d3242b1940c738f031e78b88dace4ee43b6873b87cc6"), looks := true }, kinds := [], alts := [], laidByText := true, laidKinds := [.handle], laidTests := true, laidLooks := .later }
def JsonPathsCardSaid : Prop := Claim7.holds Tryd.pinned (.plain (OpenSpec.ofChange jsonPathsSpec)) jsonPathsCard

/-- THE SECOND FORM's CARD OF 'booklaw3.JsonPaths'. -/
def jsonPathsUptoCard : Claim7 := { stood := { row := jsonPathsUptoRow, standIns := [], harness := (true, "50b72c86b9ae8ada3fa6d3242b1940c738f031e78b88dace4ee43b6873b87cc6"), looks := true }, kinds := [], alts := [], laidByText := true, laidKinds := [.handle], laidTests := true, laidLooks := .later }
def JsonPathsUptoCardSaid : Prop := Claim7.holds Tryd.pinned (.plain (OpenSpec.upto jsonPathsSpec)) jsonPathsUptoCard
end Rows
end Go.Proofs.YtjmepegckahnfaaDoor
