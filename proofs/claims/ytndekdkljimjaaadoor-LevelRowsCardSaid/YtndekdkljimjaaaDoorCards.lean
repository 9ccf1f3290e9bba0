/-
  DERIVED. GIVEN WITH THE SEED: THE CARDS: each row of YtndekdkljimjaaaDoorRows.lean that lists a variable, with what it lists TIED to the program's text (the seventh form; the later family's looks); each row that meets fmt, with fmt's text TOLD by the authors' own Lean function (tested against real Go, not proved from fmt's source: count such statements apart). THE CARD IS WHAT COUNTS. Prove the row's statement (the work); the ties are given (YtndekdkljimjaaaDoorTie.lean); close each card by the builder's one call (the guide's Derived/Test/ToyasCard.lean, 'card_holds'). Laid BY PROGRAM, IN A SANDBOX (cutbox-door.mjs). By AI agents, Wed Nov 11 2026. No macro, syntax, notation, axiom, sorry.
-/
import Derived.Test.YtndekdkljimjaaaDoorRows
import GoSem.ClaimSeven
namespace Go.Proofs.YtndekdkljimjaaaDoor
namespace Rows

/-- THE TIED CARD OF 'yardarmlaw09.LevelTexts'. -/
def levelTextsCard : Claim7 := { stood := { row := levelTextsRow, standIns := [], harness := (true, "2f7d9e4cb6137a8461bb93c0304f26c706dd557c14a5f13e4e39c1040afdd15b"), looks := false }, kinds := [], alts := [], laidByText := true, laidKinds := [.data, .data], laidTests := true, laidLooks := .later }
def LevelTextsCardSaid : Prop := Claim7.holds Tryd.pinned (.plain (OpenSpec.ofChange levelTextsSpec)) levelTextsCard

/-- THE TIED CARD OF 'yardarmlaw09.LevelRows'. -/
def levelRowsCard : Claim7 := { stood := { row := levelRowsRow, standIns := [], harness := (true, "2f7d9e4cb6137a8461bb93c0304f26c706dd557c14a5f13e4e39c1040afdd15b"), looks := false }, kinds := [], alts := [], laidByText := true, laidKinds := [.data, .data], laidTests := true, laidLooks := .later }
def LevelRowsCardSaid : Prop := Claim7.holds Tryd.pinned (.plain (OpenSpec.ofChange levelRowsSpec)) levelRowsCard

/-- THE TIED CARD OF 'yardarmlaw09.LevelBack'. -/
def levelBackCard : Claim7 := { stood := { row := levelBackRow, standIns := [], harness := (true, "2f7d9e4cb6137a8461bb93c0304f26c706dd557c14a5f13e4e39c1040afdd15b"), looks := false }, kinds := [], alts := [], laidByText := true, laidKinds := [.data, .data], laidTests := true, laidLooks := .later }
def LevelBackCardSaid : Prop := Claim7.holds Tryd.pinned (.plain (OpenSpec.ofChange levelBackSpec)) levelBackCard

/-- THE TIED CARD OF 'yardarmlaw09.LevelLattice'. -/
def levelLatticeCard : Claim7 := { stood := { row := levelLatticeRow, standIns := [], harness := (true, "2f7d9e4cb6137a8461bb93c0304f26c706dd557c14a5f13e4e39c1040afdd15b"), looks := false }, kinds := [], alts := [], laidByText := true, laidKinds := [.data, .data], laidTests := true, laidLooks := .later }
def LevelLatticeCardSaid : Prop := Claim7.holds Tryd.pinned (.plain (OpenSpec.ofChange levelLatticeSpec)) levelLatticeCard

/-- THE TIED CARD OF 'yardarmlaw09.LevelUniform'. -/
def levelUniformCard : Claim7 := { stood := { row := levelUniformRow, standIns := [], harness := (true, "2f7d9e4cb6137a8461bb93c0304f26c706dd557c14a5f13e4e39c1040afdd15b"), looks := false }, kinds := [], alts := [], laidByText := true, laidKinds := [.data, .data], laidTests := true, laidLooks := .later }
def LevelUniformCardSaid : Prop := Claim7.holds Tryd.pinned (.plain (OpenSpec.ofChange levelUniformSpec)) levelUniformCard

/-- THE SECOND FORM's CARD OF 'yardarmlaw09.LevelTexts'. -/
def levelTextsUptoCard : Claim7 := { stood := { row := levelTextsUptoRow, standIns := [], harness := (true, "2f7d9e4cb6137a8461bb93c0304f26c706dd557c14a5f13e4e39c1040afdd15b"), looks := false }, kinds := [], alts := [], laidByText := true, laidKinds := [.data, .data], laidTests := true, laidLooks := .later }
def LevelTextsUptoCardSaid : Prop := Claim7.holds Tryd.pinned (.plain (OpenSpec.upto levelTextsSpec)) levelTextsUptoCard

/-- THE SECOND FORM's CARD OF 'yardarmlaw09.LevelRows'. -/
def levelRowsUptoCard : Claim7 := { stood := { row := levelRowsUptoRow, standIns := [], harness := (true, "2f7d9e4cb6137a8461bb93c0304f26c706dd557c14a5f13e4e39c1040afdd15b"), looks := false }, kinds := [], alts := [], laidByText := true, laidKinds := [.data, .data], laidTests := true, laidLooks := .later }
def LevelRowsUptoCardSaid : Prop := Claim7.holds Tryd.pinned (.plain (OpenSpec.upto levelRowsSpec)) levelRowsUptoCard

/-- THE SECOND FORM's CARD OF 'yardarmlaw09.LevelBack'. -/
def levelBackUptoCard : Claim7 := { stood := { row := levelBackUptoRow, standIns := [], harness := (true, "2f7d9e4cb6137a8461bb93c0304f26c706dd557c14a5f13e4e39c1040afdd15b"), looks := false }, kinds := [], alts := [], laidByText := true, laidKinds := [.data, .data], laidTests := true, laidLooks := .later }
def LevelBackUptoCardSaid : Prop := Claim7.holds Tryd.pinned (.plain (OpenSpec.upto levelBackSpec)) levelBackUptoCard

/-- THE SECOND FORM's CARD OF 'yardarmlaw09.LevelLattice'. -/
def levelLatticeUptoCard : Claim7 := { stood := { row := levelLatticeUptoRow, standIns := [], harness := (true, "2f7d9e4cb6137a8461bb93c0304f26c706dd557c14a5f13e4e39c1040afdd15b"), looks := false }, kinds := [], alts := [], laidByText := true, laidKinds := [.data, .data], laidTests := true, laidLooks := .later }
def LevelLatticeUptoCardSaid : Prop := Claim7.holds Tryd.pinned (.plain (OpenSpec.upto levelLatticeSpec)) levelLatticeUptoCard

/-- THE SECOND FORM's CARD OF 'yardarmlaw09.LevelUniform'. -/
def levelUniformUptoCard : Claim7 := { stood := { row := levelUniformUptoRow, standIns := [], harness := (true, "2f7d9e4cb6137a8461bb93c0304f26c706dd557c14a5f13e4e39c1040afdd15b"), looks := false }, kinds := [], alts := [], laidByText := true, laidKinds := [.data, .data], laidTests := true, laidLooks := .later }
def LevelUniformUptoCardSaid : Prop := Claim7.holds Tryd.pinned (.plain (OpenSpec.upto levelUniformSpec)) levelUniformUptoCard
end Rows
end Go.Proofs.YtndekdkljimjaaaDoor
