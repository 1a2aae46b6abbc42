/-
  DERIVED. GIVEN WITH THE SEED: THE CARDS: each row of YtgbhhnfnfldbmaaDoorRows.lean that lists a variable, with what it lists TIED to the program's text (the seventh form; the later family's looks); each row that meets fmt, with fmt's text TOLD by the authors' own Lean function (tested against real Go, not proved from fmt's source: count such statements apart). THE CARD IS WHAT COUNTS. Prove the row's statement (the work); the ties are given (YtgbhhnfnfldbmaaDoorTie.lean); close each card by the builder's one call (the guide's Derived/Test/ToyasCard.lean, 'card_holds'). Laid BY PROGRAM, IN A SANDBOX (cutbox-door.mjs). By AI agents, Wed Nov 11 2026. No macro, syntax, notation, axiom, sorry.
-/
import Derived.Test.YtgbhhnfnfldbmaaDoorRows
import GoSem.ClaimSeven
namespace Go.Proofs.YtgbhhnfnfldbmaaDoor
namespace Rows

/-- THE TIED CARD OF 'booklaw5.WordsConverts'. -/
def wordsConvertsCard : Claim7 := { stood := { row := wordsConvertsRow, standIns := [], harness := (true, "5d560c7e7f59b8d45186d9670ffad7b8da6615b9dc623fa51720adc3a95ac7fd"), looks := true }, kinds := [], alts := [], laidByText := true, laidKinds := [.data, .handle, .pinned], laidTests := true, laidLooks := .later }
def WordsConvertsCardSaid : Prop := Claim7.holds Tryd.pinned (.plain (OpenSpec.ofChange wordsConvertsSpec)) wordsConvertsCard

/-- THE TIED CARD OF 'booklaw5.WordsThere'. -/
def wordsThereCard : Claim7 := { stood := { row := wordsThereRow, standIns := [], harness := (true, "5d560c7e7f59b8d45186d9670ffad7b8da6615b9dc623fa51720adc3a95ac7fd"), looks := true }, kinds := [], alts := [], laidByText := true, laidKinds := [.data, .pinned], laidTests := true, laidLooks := .later }
def WordsThereCardSaid : Prop := Claim7.holds Tryd.pinned (.plain (OpenSpec.ofChange wordsThereSpec)) wordsThereCard

/-- THE SECOND FORM's CARD OF 'booklaw5.WordsConverts'. -/
def wordsConvertsUptoCard : Claim7 := { stood := { row := wordsConvertsUptoRow, standIns := [], harness := (true, "5d560c7e7f59b8d45186d9670ffad7b8da6615b9dc623fa51720adc3a95ac7fd"), looks := true }, kinds := [], alts := [], laidByText := true, laidKinds := [.data, .handle, .pinned], laidTests := true, laidLooks := .later }
def WordsConvertsUptoCardSaid : Prop := Claim7.holds Tryd.pinned (.plain (OpenSpec.upto wordsConvertsSpec)) wordsConvertsUptoCard

/-- THE SECOND FORM's CARD OF 'booklaw5.WordsThere'. -/
def wordsThereUptoCard : Claim7 := { stood := { row := wordsThereUptoRow, standIns := [], harness := (true, "5d560c7e7f59b8d45186d9670ffad7b8da6615b9dc623fa51720adc3a95ac7fd"), looks := true }, kinds := [], alts := [], laidByText := true, laidKinds := [.data, .pinned], laidTests := true, laidLooks := .later }
def WordsThereUptoCardSaid : Prop := Claim7.holds Tryd.pinned (.plain (OpenSpec.upto wordsThereSpec)) wordsThereUptoCard
end Rows
end Go.Proofs.YtgbhhnfnfldbmaaDoor
