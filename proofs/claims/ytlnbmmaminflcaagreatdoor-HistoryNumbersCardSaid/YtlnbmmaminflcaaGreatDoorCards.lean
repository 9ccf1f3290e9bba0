/-
  DERIVED. GIVEN WITH THE SEED: THE CARDS: each row of YtlnbmmaminflcaaGreatDoorRows.lean that lists a variable, with what it lists TIED to the program's text (the seventh form; the later family's looks); each row that meets fmt, with fmt's text TOLD by the authors' own Lean function (tested against real Go, not proved from fmt's source: count such statements apart). THE CARD IS WHAT COUNTS. Prove the row's statement (the work); the ties are given (YtlnbmmaminflcaaGreatDoorTie.lean); close each card by the builder's one call (the guide's Derived/Test/ToyasCard.lean, 'card_holds'). Laid BY PROGRAM, IN A SANDBOX (cutbox-door.mjs). By AI agents, Wed Nov 11 2026. No macro, syntax, notation, axiom, sorry.
-/
import Derived.Test.YtlnbmmaminflcaaGreatDoorRows
import GoSem.ClaimSeven
namespace Go.Proofs.YtlnbmmaminflcaaGreatDoor
namespace Rows

/-- THE TIED CARD OF 'yardarmlaw11.HistoryMay'. -/
def historyMayCard : Claim7 := { stood := { row := historyMayRow, standIns := [], harness := (true, "07b144fabb433007d1114ee770f0c8201ad1f372cedbaae527aa7e1a02f6f808"), looks := false }, kinds := [], alts := [], laidByText := true, laidKinds := [.data, .data], laidTests := true, laidLooks := .later }
def HistoryMayCardSaid : Prop := Claim7.holds Tryz.pinned (.plain (OpenSpec.ofChange historyMaySpec)) historyMayCard

/-- THE TIED CARD OF 'yardarmlaw11.HistoryNumbers'. -/
def historyNumbersCard : Claim7 := { stood := { row := historyNumbersRow, standIns := [], harness := (true, "07b144fabb433007d1114ee770f0c8201ad1f372cedbaae527aa7e1a02f6f808"), looks := false }, kinds := [], alts := [], laidByText := true, laidKinds := [.data, .data], laidTests := true, laidLooks := .later }
def HistoryNumbersCardSaid : Prop := Claim7.holds Tryz.pinned (.plain (OpenSpec.ofChange historyNumbersSpec)) historyNumbersCard

/-- THE TIED CARD OF 'yardarmlaw11.HistoryCompletes'. -/
def historyCompletesCard : Claim7 := { stood := { row := historyCompletesRow, standIns := [], harness := (true, "07b144fabb433007d1114ee770f0c8201ad1f372cedbaae527aa7e1a02f6f808"), looks := false }, kinds := [], alts := [], laidByText := true, laidKinds := [.data, .data], laidTests := true, laidLooks := .later }
def HistoryCompletesCardSaid : Prop := Claim7.holds Tryz.pinned (.plain (OpenSpec.ofChange historyCompletesSpec)) historyCompletesCard

/-- THE TIED CARD OF 'yardarmlaw11.HistoryParts'. -/
def historyPartsCard : Claim7 := { stood := { row := historyPartsRow, standIns := [], harness := (true, "07b144fabb433007d1114ee770f0c8201ad1f372cedbaae527aa7e1a02f6f808"), looks := false }, kinds := [], alts := [], laidByText := true, laidKinds := [.data, .data], laidTests := true, laidLooks := .later }
def HistoryPartsCardSaid : Prop := Claim7.holds Tryz.pinned (.plain (OpenSpec.ofChange historyPartsSpec)) historyPartsCard

/-- THE SECOND FORM's CARD OF 'yardarmlaw11.HistoryMay'. -/
def historyMayUptoCard : Claim7 := { stood := { row := historyMayUptoRow, standIns := [], harness := (true, "07b144fabb433007d1114ee770f0c8201ad1f372cedbaae527aa7e1a02f6f808"), looks := false }, kinds := [], alts := [], laidByText := true, laidKinds := [.data, .data], laidTests := true, laidLooks := .later }
def HistoryMayUptoCardSaid : Prop := Claim7.holds Tryz.pinned (.plain (OpenSpec.upto historyMaySpec)) historyMayUptoCard

/-- THE SECOND FORM's CARD OF 'yardarmlaw11.HistoryNumbers'. -/
def historyNumbersUptoCard : Claim7 := { stood := { row := historyNumbersUptoRow, standIns := [], harness := (true, "07b144fabb433007d1114ee770f0c8201ad1f372cedbaae527aa7e1a02f6f808"), looks := false }, kinds := [], alts := [], laidByText := true, laidKinds := [.data, .data], laidTests := true, laidLooks := .later }
def HistoryNumbersUptoCardSaid : Prop := Claim7.holds Tryz.pinned (.plain (OpenSpec.upto historyNumbersSpec)) historyNumbersUptoCard

/-- THE SECOND FORM's CARD OF 'yardarmlaw11.HistoryCompletes'. -/
def historyCompletesUptoCard : Claim7 := { stood := { row := historyCompletesUptoRow, standIns := [], harness := (true, "07b144fabb433007d1114ee770f0c8201ad1f372cedbaae527aa7e1a02f6f808"), looks := false }, kinds := [], alts := [], laidByText := true, laidKinds := [.data, .data], laidTests := true, laidLooks := .later }
def HistoryCompletesUptoCardSaid : Prop := Claim7.holds Tryz.pinned (.plain (OpenSpec.upto historyCompletesSpec)) historyCompletesUptoCard

/-- THE SECOND FORM's CARD OF 'yardarmlaw11.HistoryParts'. -/
def historyPartsUptoCard : Claim7 := { stood := { row := historyPartsUptoRow, standIns := [], harness := (true, "07b144fabb433007d1114ee770f0c8201ad1f372cedbaae527aa7e1a02f6f808"), looks := false }, kinds := [], alts := [], laidByText := true, laidKinds := [.data, .data], laidTests := true, laidLooks := .later }
def HistoryPartsUptoCardSaid : Prop := Claim7.holds Tryz.pinned (.plain (OpenSpec.upto historyPartsSpec)) historyPartsUptoCard
end Rows
end Go.Proofs.YtlnbmmaminflcaaGreatDoor
