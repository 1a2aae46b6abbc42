/-
  DERIVED. GIVEN WITH THE SEED: THE CARDS: each row of YtejfemdkommfhaaGreatDoorRows.lean that lists a variable, with what it lists TIED to the program's text (the seventh form; the later family's looks); each row that meets fmt, with fmt's text TOLD by the authors' own Lean function (tested against real Go, not proved from fmt's source: count such statements apart). THE CARD IS WHAT COUNTS. Prove the row's statement (the work); the ties are given (YtejfemdkommfhaaGreatDoorTie.lean); close each card by the builder's one call (the guide's Derived/Test/ToyasCard.lean, 'card_holds'). Laid BY PROGRAM, IN A SANDBOX (cutbox-door.mjs). By AI agents, Wed Nov 11 2026. No macro, syntax, notation, axiom, sorry.
-/
import Derived.Test.YtejfemdkommfhaaGreatDoorRows
import GoSem.ClaimSeven
namespace Go.Proofs.YtejfemdkommfhaaGreatDoor
namespace Rows

/-- THE TIED CARD OF 'booklaw2.DagAsks'. -/
def dagAsksCard : Claim7 := { stood := { row := dagAsksRow, standIns := [], harness := (true, "d9dae4d58b568c96fff80cf3f73c323dcc4a5c33b3f4345dff68606a8ce0e11b"), looks := true }, kinds := [], alts := [], laidByText := true, laidKinds := [.handle], laidTests := true, laidLooks := .later }
def DagAsksCardSaid : Prop := Claim7.holds Tryz.pinned (.plain (OpenSpec.ofChange dagAsksSpec)) dagAsksCard

/-- THE SECOND FORM's CARD OF 'booklaw2.DagAsks'. -/
def dagAsksUptoCard : Claim7 := { stood := { row := dagAsksUptoRow, standIns := [], harness := (true, "d9dae4d58b568c96fff80cf3f73c323dcc4a5c33b3f4345dff68606a8ce0e11b"), looks := true }, kinds := [], alts := [], laidByText := true, laidKinds := [.handle], laidTests := true, laidLooks := .later }
def DagAsksUptoCardSaid : Prop := Claim7.holds Tryz.pinned (.plain (OpenSpec.upto dagAsksSpec)) dagAsksUptoCard
end Rows
end Go.Proofs.YtejfemdkommfhaaGreatDoor
