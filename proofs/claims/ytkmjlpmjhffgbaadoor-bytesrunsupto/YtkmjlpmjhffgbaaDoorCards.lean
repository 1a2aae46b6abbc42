/-
  DERIVED. GIVEN WITH THE SEED: THE CARDS: each row of YtkmjlpmjhffgbaaDoorRows.lean that lists a variable, with what it lists TIED to the program's text (the seventh form; the later family's looks); each row that meets fmt, with fmt's text TOLD by the authors' own Lean function (tested against real Go, not proved from fmt's source: count such statements apart). THE CARD IS WHAT COUNTS. Prove the row's statement (the work); the ties are given (YtkmjlpmjhffgbaaDoorTie.lean); close each card by the builder's one call (the guide's Derived/Test/ToyasCard.lean, 'card_holds'). Laid BY PROGRAM, IN A SANDBOX (cutbox-door.mjs). By AI agents, Wed Nov 11 2026. No macro, syntax, notation, axiom, sorry.
-/
import Derived.Test.YtkmjlpmjhffgbaaDoorRows
import GoSem.ClaimSeven
namespace Go.Proofs.YtkmjlpmjhffgbaaDoor
namespace Rows

/-- THE TIED CARD OF 'booklaw1.BytesPut'. -/
def bytesPutCard : Claim7 := { stood := { row := bytesPutRow, standIns := [], harness := (true, "51d69fabd6e89d1e3d7579e35a566b6490baedfe2582713667733b48b5235278"), looks := true }, kinds := [], alts := [], laidByText := true, laidKinds := [.handle], laidTests := true, laidLooks := .later }
def BytesPutCardSaid : Prop := Claim7.holds Tryd.pinned (.plain (OpenSpec.ofChange bytesPutSpec)) bytesPutCard

/-- THE TIED CARD OF 'booklaw1.BytesRuns'. -/
def bytesRunsCard : Claim7 := { stood := { row := bytesRunsRow, standIns := [], harness := (true, "51d69fabd6e89d1e3d7579e35a566b6490baedfe2582713667733b48b5235278"), looks := true }, kinds := [], alts := [], laidByText := true, laidKinds := [.handle], laidTests := true, laidLooks := .later }
def BytesRunsCardSaid : Prop := Claim7.holds Tryd.pinned (.plain (OpenSpec.ofChange bytesRunsSpec)) bytesRunsCard

/-- THE TIED CARD OF 'booklaw1.BytesPack'. -/
def bytesPackCard : Claim7 := { stood := { row := bytesPackRow, standIns := [], harness := (true, "51d69fabd6e89d1e3d7579e35a566b6490baedfe2582713667733b48b5235278"), looks := true }, kinds := [], alts := [], laidByText := true, laidKinds := [.handle], laidTests := true, laidLooks := .later }
def BytesPackCardSaid : Prop := Claim7.holds Tryd.pinned (.plain (OpenSpec.ofChange bytesPackSpec)) bytesPackCard

/-- THE SECOND FORM's CARD OF 'booklaw1.BytesPut'. -/
def bytesPutUptoCard : Claim7 := { stood := { row := bytesPutUptoRow, standIns := [], harness := (true, "51d69fabd6e89d1e3d7579e35a566b6490baedfe2582713667733b48b5235278"), looks := true }, kinds := [], alts := [], laidByText := true, laidKinds := [.handle], laidTests := true, laidLooks := .later }
def BytesPutUptoCardSaid : Prop := Claim7.holds Tryd.pinned (.plain (OpenSpec.upto bytesPutSpec)) bytesPutUptoCard

/-- THE SECOND FORM's CARD OF 'booklaw1.BytesRuns'. -/
def bytesRunsUptoCard : Claim7 := { stood := { row := bytesRunsUptoRow, standIns := [], harness := (true, "51d69fabd6e89d1e3d7579e35a566b6490baedfe2582713667733b48b5235278"), looks := true }, kinds := [], alts := [], laidByText := true, laidKinds := [.handle], laidTests := true, laidLooks := .later }
def BytesRunsUptoCardSaid : Prop := Claim7.holds Tryd.pinned (.plain (OpenSpec.upto bytesRunsSpec)) bytesRunsUptoCard

/-- THE SECOND FORM's CARD OF 'booklaw1.BytesPack'. -/
def bytesPackUptoCard : Claim7 := { stood := { row := bytesPackUptoRow, standIns := [], harness := (true, "51d69fabd6e89d1e3d7579e35a566b6490baedfe2582713667733b48b5235278"), looks := true }, kinds := [], alts := [], laidByText := true, laidKinds := [.handle], laidTests := true, laidLooks := .later }
def BytesPackUptoCardSaid : Prop := Claim7.holds Tryd.pinned (.plain (OpenSpec.upto bytesPackSpec)) bytesPackUptoCard
end Rows
end Go.Proofs.YtkmjlpmjhffgbaaDoor
