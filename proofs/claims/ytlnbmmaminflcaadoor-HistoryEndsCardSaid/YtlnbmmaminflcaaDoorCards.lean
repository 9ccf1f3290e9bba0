/-
  DERIVED. GIVEN WITH THE SEED: THE CARDS: each row of YtlnbmmaminflcaaDoorRows.lean that lists a variable, with what it lists TIED to the program's text (the seventh form; the later family's looks); each row that meets fmt, with fmt's text TOLD by the authors' own Lean function (tested against real Go, not proved from fmt's source: count such statements apart). THE CARD IS WHAT COUNTS. Prove the row's statement (the work); the ties are given (YtlnbmmaminflcaaDoorTie.lean); close each card by the builder's one call (the guide's Derived/Test/ToyasCard.lean, 'card_holds'). Laid BY PROGRAM, IN A SANDBOX (cutbox-door.mjs). By AI agents, Wed Nov 11 2026. No macro, syntax, notation, axiom, sorry.
-/
import Derived.Test.YtlnbmmaminflcaaDoorRows
import GoSem.ClaimSeven
namespace Go.Proofs.YtlnbmmaminflcaaDoor
namespace Rows

/-- THE TIED CARD OF 'yardarmlaw11.HistoryAnew'. -/
def historyAnewCard : Claim7 := { stood := { row := historyAnewRow, standIns := [], harness := (true, "950a4ee211baf71f3f5fc0cd03b0e70cdf2d1bd7460a6ec159115176e79ff43d"), looks := false }, kinds := [], alts := [], laidByText := true, laidKinds := [.data, .data], laidTests := true, laidLooks := .later }
def HistoryAnewCardSaid : Prop := Claim7.holds Tryd.pinned (.plain (OpenSpec.ofChange historyAnewSpec)) historyAnewCard

/-- THE TIED CARD OF 'yardarmlaw11.HistoryEnds'. -/
def historyEndsCard : Claim7 := { stood := { row := historyEndsRow, standIns := [], harness := (true, "950a4ee211baf71f3f5fc0cd03b0e70cdf2d1bd7460a6ec159115176e79ff43d"), looks := false }, kinds := [], alts := [], laidByText := true, laidKinds := [.data, .data], laidTests := true, laidLooks := .later }
def HistoryEndsCardSaid : Prop := Claim7.holds Tryd.pinned (.plain (OpenSpec.ofChange historyEndsSpec)) historyEndsCard

/-- THE SECOND FORM's CARD OF 'yardarmlaw11.HistoryAnew'. -/
def historyAnewUptoCard : Claim7 := { stood := { row := historyAnewUptoRow, standIns := [], harness := (true, "950a4ee211baf71f3f5fc0cd03b0e70cdf2d1bd7460a6ec159115176e79ff43d"), looks := false }, kinds := [], alts := [], laidByText := true, laidKinds := [.data, .data], laidTests := true, laidLooks := .later }
def HistoryAnewUptoCardSaid : Prop := Claim7.holds Tryd.pinned (.plain (OpenSpec.upto historyAnewSpec)) historyAnewUptoCard

/-- THE SECOND FORM's CARD OF 'yardarmlaw11.HistoryEnds'. -/
def historyEndsUptoCard : Claim7 := { stood := { row := historyEndsUptoRow, standIns := [], harness := (true, "950a4ee211baf71f3f5fc0cd03b0e70cdf2d1bd7460a6ec159115176e79ff43d"), looks := false }, kinds := [], alts := [], laidByText := true, laidKinds := [.data, .data], laidTests := true, laidLooks := .later }
def HistoryEndsUptoCardSaid : Prop := Claim7.holds Tryd.pinned (.plain (OpenSpec.upto historyEndsSpec)) historyEndsUptoCard
end Rows
end Go.Proofs.YtlnbmmaminflcaaDoor
