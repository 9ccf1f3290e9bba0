/-
  DERIVED. GIVEN WITH THE SEED: THE CARDS: each row of YtfbbjfjckaojeaaDoorRows.lean that lists a variable, with what it lists TIED to the program's text (the seventh form; the later family's looks); each row that meets fmt, with fmt's text TOLD by the authors' own Lean function (tested against real Go, not proved from fmt's source: count such statements apart). THE CARD IS WHAT COUNTS. Prove the row's statement (the work); the ties are given (YtfbbjfjckaojeaaDoorTie.lean); close each card by the builder's one call (the guide's Derived/Test/ToyasCard.lean, 'card_holds'). Laid BY PROGRAM, IN A SANDBOX (cutbox-door.mjs). By AI agents, Wed Nov 11 2026. No macro, syntax, notation, axiom, sorry.
-/
import Derived.Test.YtfbbjfjckaojeaaDoorRows
import GoSem.ClaimSeven
namespace Go.Proofs.YtfbbjfjckaojeaaDoor
namespace Rows

/-- THE TIED CARD OF 'yardarmlaw01.DigitReads'. -/
def digitReadsCard : Claim7 := { stood := { row := digitReadsRow, standIns := [], harness := (true, "4218792e38f7a973f12612a77218fa3a394acb8a07b1631ce6a21971b78db498"), looks := false }, kinds := [], alts := [], laidByText := true, laidKinds := [.data, .data, .data], laidTests := true, laidLooks := .later }
def DigitReadsCardSaid : Prop := Claim7.holds Tryd.pinned (.plain (OpenSpec.ofChange digitReadsSpec)) digitReadsCard

/-- THE TIED CARD OF 'yardarmlaw01.DigitReckons'. -/
def digitReckonsCard : Claim7 := { stood := { row := digitReckonsRow, standIns := [], harness := (true, "4218792e38f7a973f12612a77218fa3a394acb8a07b1631ce6a21971b78db498"), looks := false }, kinds := [], alts := [], laidByText := true, laidKinds := [.data, .data, .data], laidTests := true, laidLooks := .later }
def DigitReckonsCardSaid : Prop := Claim7.holds Tryd.pinned (.plain (OpenSpec.ofChange digitReckonsSpec)) digitReckonsCard

/-- THE TIED CARD OF 'yardarmlaw01.DigitBack'. -/
def digitBackCard : Claim7 := { stood := { row := digitBackRow, standIns := [], harness := (true, "4218792e38f7a973f12612a77218fa3a394acb8a07b1631ce6a21971b78db498"), looks := false }, kinds := [], alts := [], laidByText := true, laidKinds := [.data, .data, .data], laidTests := true, laidLooks := .later }
def DigitBackCardSaid : Prop := Claim7.holds Tryd.pinned (.plain (OpenSpec.ofChange digitBackSpec)) digitBackCard

/-- THE TIED CARD OF 'yardarmlaw01.DigitOrder'. -/
def digitOrderCard : Claim7 := { stood := { row := digitOrderRow, standIns := [], harness := (true, "4218792e38f7a973f12612a77218fa3a394acb8a07b1631ce6a21971b78db498"), looks := false }, kinds := [], alts := [], laidByText := true, laidKinds := [.data, .data, .data], laidTests := true, laidLooks := .later }
def DigitOrderCardSaid : Prop := Claim7.holds Tryd.pinned (.plain (OpenSpec.ofChange digitOrderSpec)) digitOrderCard

/-- THE TIED CARD OF 'yardarmlaw01.DigitSum'. -/
def digitSumCard : Claim7 := { stood := { row := digitSumRow, standIns := [], harness := (true, "4218792e38f7a973f12612a77218fa3a394acb8a07b1631ce6a21971b78db498"), looks := false }, kinds := [], alts := [], laidByText := true, laidKinds := [.data, .data, .data], laidTests := true, laidLooks := .later }
def DigitSumCardSaid : Prop := Claim7.holds Tryd.pinned (.plain (OpenSpec.ofChange digitSumSpec)) digitSumCard

/-- THE SECOND FORM's CARD OF 'yardarmlaw01.DigitReads'. -/
def digitReadsUptoCard : Claim7 := { stood := { row := digitReadsUptoRow, standIns := [], harness := (true, "4218792e38f7a973f12612a77218fa3a394acb8a07b1631ce6a21971b78db498"), looks := false }, kinds := [], alts := [], laidByText := true, laidKinds := [.data, .data, .data], laidTests := true, laidLooks := .later }
def DigitReadsUptoCardSaid : Prop := Claim7.holds Tryd.pinned (.plain (OpenSpec.upto digitReadsSpec)) digitReadsUptoCard

/-- THE SECOND FORM's CARD OF 'yardarmlaw01.DigitReckons'. -/
def digitReckonsUptoCard : Claim7 := { stood := { row := digitReckonsUptoRow, standIns := [], harness := (true, "4218792e38f7a973f12612a77218fa3a394acb8a07b1631ce6a21971b78db498"), looks := false }, kinds := [], alts := [], laidByText := true, laidKinds := [.data, .data, .data], laidTests := true, laidLooks := .later }
def DigitReckonsUptoCardSaid : Prop := Claim7.holds Tryd.pinned (.plain (OpenSpec.upto digitReckonsSpec)) digitReckonsUptoCard

/-- THE SECOND FORM's CARD OF 'yardarmlaw01.DigitBack'. -/
def digitBackUptoCard : Claim7 := { stood := { row := digitBackUptoRow, standIns := [], harness := (true, "4218792e38f7a973f12612a77218fa3a394acb8a07b1631ce6a21971b78db498"), looks := false }, kinds := [], alts := [], laidByText := true, laidKinds := [.data, .data, .data], laidTests := true, laidLooks := .later }
def DigitBackUptoCardSaid : Prop := Claim7.holds Tryd.pinned (.plain (OpenSpec.upto digitBackSpec)) digitBackUptoCard

/-- THE SECOND FORM's CARD OF 'yardarmlaw01.DigitOrder'. -/
def digitOrderUptoCard : Claim7 := { stood := { row := digitOrderUptoRow, standIns := [], harness := (true, "4218792e38f7a973f12612a77218fa3a394acb8a07b1631ce6a21971b78db498"), looks := false }, kinds := [], alts := [], laidByText := true, laidKinds := [.data, .data, .data], laidTests := true, laidLooks := .later }
def DigitOrderUptoCardSaid : Prop := Claim7.holds Tryd.pinned (.plain (OpenSpec.upto digitOrderSpec)) digitOrderUptoCard

/-- THE SECOND FORM's CARD OF 'yardarmlaw01.DigitSum'. -/
def digitSumUptoCard : Claim7 := { stood := { row := digitSumUptoRow, standIns := [], harness := (true, "4218792e38f7a973f12612a77218fa3a394acb8a07b1631ce6a21971b78db498"), looks := false }, kinds := [], alts := [], laidByText := true, laidKinds := [.data, .data, .data], laidTests := true, laidLooks := .later }
def DigitSumUptoCardSaid : Prop := Claim7.holds Tryd.pinned (.plain (OpenSpec.upto digitSumSpec)) digitSumUptoCard
end Rows
end Go.Proofs.YtfbbjfjckaojeaaDoor
