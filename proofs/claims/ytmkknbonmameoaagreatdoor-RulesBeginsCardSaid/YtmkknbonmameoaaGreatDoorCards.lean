/-
  DERIVED. GIVEN WITH THE SEED: THE CARDS: each row of YtmkknbonmameoaaGreatDoorRows.lean that lists a variable, with what it lists TIED to the program's text (the seventh form; the later family's looks); each row that meets fmt, with fmt's text TOLD by the authors' own Lean function (tested against real Go, not proved from fmt's source: count such statements apart). THE CARD IS WHAT COUNTS. Prove the row's statement (the work); the ties are given (YtmkknbonmameoaaGreatDoorTie.lean); close each card by the builder's one call (the guide's Derived/Test/ToyasCard.lean, 'card_holds'). Laid BY PROGRAM, IN A SANDBOX (cutbox-door.mjs). By AI agents, Wed Nov 11 2026. No macro, syntax, notation, axiom, sorry.
-/
import Derived.Test.YtmkknbonmameoaaGreatDoorRows
import GoSem.ClaimSeven
namespace Go.Proofs.YtmkknbonmameoaaGreatDoor
namespace Rows

/-- THE TIED CARD OF 'yardarmlaw15.RulesFirst'. -/
def rulesFirstCard : Claim7 := { stood := { row := rulesFirstRow, standIns := [], harness := (true, "f8cdfe85df5dc4a34dce3cefaaf941834cc571c182e068df3c1293eb0109007e"), looks := false }, kinds := [], alts := [], laidByText := true, laidKinds := [.data, .data], laidTests := true, laidLooks := .later }
def RulesFirstCardSaid : Prop := Claim7.holds Tryz.pinned (.plain (OpenSpec.ofChange rulesFirstSpec)) rulesFirstCard

/-- THE TIED CARD OF 'yardarmlaw15.RulesPlaces'. -/
def rulesPlacesCard : Claim7 := { stood := { row := rulesPlacesRow, standIns := [], harness := (true, "f8cdfe85df5dc4a34dce3cefaaf941834cc571c182e068df3c1293eb0109007e"), looks := false }, kinds := [], alts := [], laidByText := true, laidKinds := [.data, .data], laidTests := true, laidLooks := .later }
def RulesPlacesCardSaid : Prop := Claim7.holds Tryz.pinned (.plain (OpenSpec.ofChange rulesPlacesSpec)) rulesPlacesCard

/-- THE TIED CARD OF 'yardarmlaw15.RulesOrder'. -/
def rulesOrderCard : Claim7 := { stood := { row := rulesOrderRow, standIns := [], harness := (true, "f8cdfe85df5dc4a34dce3cefaaf941834cc571c182e068df3c1293eb0109007e"), looks := false }, kinds := [], alts := [], laidByText := true, laidKinds := [.data, .data], laidTests := true, laidLooks := .later }
def RulesOrderCardSaid : Prop := Claim7.holds Tryz.pinned (.plain (OpenSpec.ofChange rulesOrderSpec)) rulesOrderCard

/-- THE TIED CARD OF 'yardarmlaw15.RulesEnds'. -/
def rulesEndsCard : Claim7 := { stood := { row := rulesEndsRow, standIns := [], harness := (true, "f8cdfe85df5dc4a34dce3cefaaf941834cc571c182e068df3c1293eb0109007e"), looks := false }, kinds := [], alts := [], laidByText := true, laidKinds := [.data, .data], laidTests := true, laidLooks := .later }
def RulesEndsCardSaid : Prop := Claim7.holds Tryz.pinned (.plain (OpenSpec.ofChange rulesEndsSpec)) rulesEndsCard

/-- THE TIED CARD OF 'yardarmlaw15.RulesBegins'. -/
def rulesBeginsCard : Claim7 := { stood := { row := rulesBeginsRow, standIns := [], harness := (true, "f8cdfe85df5dc4a34dce3cefaaf941834cc571c182e068df3c1293eb0109007e"), looks := false }, kinds := [], alts := [], laidByText := true, laidKinds := [.data, .data], laidTests := true, laidLooks := .later }
def RulesBeginsCardSaid : Prop := Claim7.holds Tryz.pinned (.plain (OpenSpec.ofChange rulesBeginsSpec)) rulesBeginsCard

/-- THE SECOND FORM's CARD OF 'yardarmlaw15.RulesFirst'. -/
def rulesFirstUptoCard : Claim7 := { stood := { row := rulesFirstUptoRow, standIns := [], harness := (true, "f8cdfe85df5dc4a34dce3cefaaf941834cc571c182e068df3c1293eb0109007e"), looks := false }, kinds := [], alts := [], laidByText := true, laidKinds := [.data, .data], laidTests := true, laidLooks := .later }
def RulesFirstUptoCardSaid : Prop := Claim7.holds Tryz.pinned (.plain (OpenSpec.upto rulesFirstSpec)) rulesFirstUptoCard

/-- THE SECOND FORM's CARD OF 'yardarmlaw15.RulesPlaces'. -/
def rulesPlacesUptoCard : Claim7 := { stood := { row := rulesPlacesUptoRow, standIns := [], harness := (true, "f8cdfe85df5dc4a34dce3cefaaf941834cc571c182e068df3c1293eb0109007e"), looks := false }, kinds := [], alts := [], laidByText := true, laidKinds := [.data, .data], laidTests := true, laidLooks := .later }
def RulesPlacesUptoCardSaid : Prop := Claim7.holds Tryz.pinned (.plain (OpenSpec.upto rulesPlacesSpec)) rulesPlacesUptoCard

/-- THE SECOND FORM's CARD OF 'yardarmlaw15.RulesOrder'. -/
def rulesOrderUptoCard : Claim7 := { stood := { row := rulesOrderUptoRow, standIns := [], harness := (true, "f8cdfe85df5dc4a34dce3cefaaf941834cc571c182e068df3c1293eb0109007e"), looks := false }, kinds := [], alts := [], laidByText := true, laidKinds := [.data, .data], laidTests := true, laidLooks := .later }
def RulesOrderUptoCardSaid : Prop := Claim7.holds Tryz.pinned (.plain (OpenSpec.upto rulesOrderSpec)) rulesOrderUptoCard

/-- THE SECOND FORM's CARD OF 'yardarmlaw15.RulesEnds'. -/
def rulesEndsUptoCard : Claim7 := { stood := { row := rulesEndsUptoRow, standIns := [], harness := (true, "f8cdfe85df5dc4a34dce3cefaaf941834cc571c182e068df3c1293eb0109007e"), looks := false }, kinds := [], alts := [], laidByText := true, laidKinds := [.data, .data], laidTests := true, laidLooks := .later }
def RulesEndsUptoCardSaid : Prop := Claim7.holds Tryz.pinned (.plain (OpenSpec.upto rulesEndsSpec)) rulesEndsUptoCard

/-- THE SECOND FORM's CARD OF 'yardarmlaw15.RulesBegins'. -/
def rulesBeginsUptoCard : Claim7 := { stood := { row := rulesBeginsUptoRow, standIns := [], harness := (true, "f8cdfe85df5dc4a34dce3cefaaf941834cc571c182e068df3c1293eb0109007e"), looks := false }, kinds := [], alts := [], laidByText := true, laidKinds := [.data, .data], laidTests := true, laidLooks := .later }
def RulesBeginsUptoCardSaid : Prop := Claim7.holds Tryz.pinned (.plain (OpenSpec.upto rulesBeginsSpec)) rulesBeginsUptoCard
end Rows
end Go.Proofs.YtmkknbonmameoaaGreatDoor
