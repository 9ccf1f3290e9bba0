/-
  NARROWER THAN 'FOR EVERY INPUT', by the rows' own cells (each row's printed sentence says how): RulesFirst: laid · RulesPlaces: laid · RulesOrder: laid · RulesEnds: laid · RulesBegins: laid.
  DERIVED. THE GIVEN ROWS OF THIS SEAT. 5 by the template 'for every input the law returns true; each argument reads behind the call as it read before'; 0 by the template 'total and deterministic' (their statements: YtmkknbonmameoaaGreatDoorTotals.lean).
  GIVEN WITH THE SEED: the statements are not yours to turn. If you find one false, say at which input.
  Laid BY PROGRAM, IN A SANDBOX (cutbox-rows.mjs): the forced cells as the released guide's own fill.sh prints them over the translation 55b1570745cc878e… (all of the seat's roots in one cut). By AI agents, Wed Nov 11 2026. No macro, syntax, notation, axiom, sorry.
-/
import Derived.Test.YtmkknbonmameoaaGreatDoorChecked
import GoSem.Claim
import GoSem.ClaimJoined
import GoSem.ClaimMapViews
import Derived.JoinedTies
import Derived.KernelRfl
namespace Go.Proofs.YtmkknbonmameoaaGreatDoor
/- THE CELL 'sum', in the pinned program and in every row, IS THE sha256 OF THE DUMP (.gsa) THAT YtmkknbonmameoaaGreatDoorProg.lean LOADS. Nothing in Lean hashes anything: it is a label: what it is worth is what the hold of that sum in a sandbox is worth. -/
noncomputable def Tryz.pinned : Pinned := { name := "ytmkknbonmameoaagreatdoor", sum := "55b1570745cc878e082ade0b0ea6a93f849305cc2bf69533054c9787f0e2ccc0", checked := Tryz.checked }
namespace Rows
def none {H : Type} : Left H := { results := [], args := [] }

/- WHAT THE LISTED PACKAGE-LEVEL VARIABLES READ AS WHEN THE CALL BEGINS. Each datum BY PROGRAM (the guide's laid-datum.mjs) off the statement by which the dump's own 'gosem.cut.vars' lays the variable. In a bare row this is a premise. The card (YtmkknbonmameoaaGreatDoorCards.lean) ties it to the program's text. -/
def laid_yardarm_level_words {H : Type} : DataW H := .agg [.lit (.string [114, 121, 119]), .lit (.string [109, 114]), .lit (.string [109, 119]), .lit (.string [119, 102, 114])]
def laid_yardarm_history_most {H : Type} : DataW H := .agg [.lit (.int .i64 300), .lit (.int .i64 60), .lit (.int .i64 300), .lit (.int .i64 60)]

/-- 'yardarmlaw15.RulesFirst': WHATEVER THE INPUT: true; the input reads as it did. -/
def rulesFirstSpec : ChangeSpec := { name := "rulesFirst", fn := fun _ => fun
  | [d] => { results := [.lit (.bool true)], args := [d] }
  | _ => none }
def rulesFirstRow : OpenClaim := { program := "ytmkknbonmameoaagreatdoor", sum := "55b1570745cc878e082ade0b0ea6a93f849305cc2bf69533054c9787f0e2ccc0", func := "yardarm/yardarmlaw15.RulesFirst", spec := "rulesFirst", inPlace := ["internal/abi.NoEscape", "internal/bytealg.MakeNoZero"], unfollowed := true, recurses := true, named := ["yardarm/history.most", "yardarm/level.words"], plainKeys := false, apart := false, laid := [("yardarm/level.words", laid_yardarm_level_words), ("yardarm/history.most", laid_yardarm_history_most)] }
def RulesFirstSaid : Prop := rulesFirstRow.holds Tryz.pinned (OpenSpec.ofChange rulesFirstSpec)

/-- ITS FALSE NEIGHBOUR: 'it returns false'. Refute it at one input. -/
def rulesFirstWrong : ChangeSpec := { name := "rulesFirst", fn := fun _ => fun
  | [d] => { results := [.lit (.bool false)], args := [d] }
  | _ => none }
def RulesFirstWrongFalsely : Prop := rulesFirstRow.holds Tryz.pinned (OpenSpec.ofChange rulesFirstWrong)

/-- 'yardarmlaw15.RulesPlaces': WHATEVER THE INPUT: true; the input reads as it did. -/
def rulesPlacesSpec : ChangeSpec := { name := "rulesPlaces", fn := fun _ => fun
  | [d1, d2] => { results := [.lit (.bool true)], args := [d1, d2] }
  | _ => none }
def rulesPlacesRow : OpenClaim := { program := "ytmkknbonmameoaagreatdoor", sum := "55b1570745cc878e082ade0b0ea6a93f849305cc2bf69533054c9787f0e2ccc0", func := "yardarm/yardarmlaw15.RulesPlaces", spec := "rulesPlaces", inPlace := ["internal/abi.NoEscape", "internal/bytealg.MakeNoZero"], unfollowed := true, recurses := true, named := ["yardarm/history.most", "yardarm/level.words"], plainKeys := false, apart := false, laid := [("yardarm/level.words", laid_yardarm_level_words), ("yardarm/history.most", laid_yardarm_history_most)] }
def RulesPlacesSaid : Prop := rulesPlacesRow.holds Tryz.pinned (OpenSpec.ofChange rulesPlacesSpec)

/-- ITS FALSE NEIGHBOUR: 'it returns false'. Refute it at one input. -/
def rulesPlacesWrong : ChangeSpec := { name := "rulesPlaces", fn := fun _ => fun
  | [d1, d2] => { results := [.lit (.bool false)], args := [d1, d2] }
  | _ => none }
def RulesPlacesWrongFalsely : Prop := rulesPlacesRow.holds Tryz.pinned (OpenSpec.ofChange rulesPlacesWrong)

/-- 'yardarmlaw15.RulesOrder': WHATEVER THE INPUT: true; the input reads as it did. -/
def rulesOrderSpec : ChangeSpec := { name := "rulesOrder", fn := fun _ => fun
  | [d] => { results := [.lit (.bool true)], args := [d] }
  | _ => none }
def rulesOrderRow : OpenClaim := { program := "ytmkknbonmameoaagreatdoor", sum := "55b1570745cc878e082ade0b0ea6a93f849305cc2bf69533054c9787f0e2ccc0", func := "yardarm/yardarmlaw15.RulesOrder", spec := "rulesOrder", inPlace := ["internal/abi.NoEscape", "internal/bytealg.MakeNoZero"], unfollowed := true, recurses := true, named := ["yardarm/history.most", "yardarm/level.words"], plainKeys := false, apart := false, laid := [("yardarm/level.words", laid_yardarm_level_words), ("yardarm/history.most", laid_yardarm_history_most)] }
def RulesOrderSaid : Prop := rulesOrderRow.holds Tryz.pinned (OpenSpec.ofChange rulesOrderSpec)

/-- ITS FALSE NEIGHBOUR: 'it returns false'. Refute it at one input. -/
def rulesOrderWrong : ChangeSpec := { name := "rulesOrder", fn := fun _ => fun
  | [d] => { results := [.lit (.bool false)], args := [d] }
  | _ => none }
def RulesOrderWrongFalsely : Prop := rulesOrderRow.holds Tryz.pinned (OpenSpec.ofChange rulesOrderWrong)

/-- 'yardarmlaw15.RulesEnds': WHATEVER THE INPUT: true; the input reads as it did. -/
def rulesEndsSpec : ChangeSpec := { name := "rulesEnds", fn := fun _ => fun
  | [d] => { results := [.lit (.bool true)], args := [d] }
  | _ => none }
def rulesEndsRow : OpenClaim := { program := "ytmkknbonmameoaagreatdoor", sum := "55b1570745cc878e082ade0b0ea6a93f849305cc2bf69533054c9787f0e2ccc0", func := "yardarm/yardarmlaw15.RulesEnds", spec := "rulesEnds", inPlace := ["internal/abi.NoEscape", "internal/bytealg.MakeNoZero"], unfollowed := true, recurses := true, named := ["yardarm/history.most", "yardarm/level.words"], plainKeys := false, apart := false, laid := [("yardarm/level.words", laid_yardarm_level_words), ("yardarm/history.most", laid_yardarm_history_most)] }
def RulesEndsSaid : Prop := rulesEndsRow.holds Tryz.pinned (OpenSpec.ofChange rulesEndsSpec)

/-- ITS FALSE NEIGHBOUR: 'it returns false'. Refute it at one input. -/
def rulesEndsWrong : ChangeSpec := { name := "rulesEnds", fn := fun _ => fun
  | [d] => { results := [.lit (.bool false)], args := [d] }
  | _ => none }
def RulesEndsWrongFalsely : Prop := rulesEndsRow.holds Tryz.pinned (OpenSpec.ofChange rulesEndsWrong)

/-- 'yardarmlaw15.RulesBegins': WHATEVER THE INPUT: true; the input reads as it did. -/
def rulesBeginsSpec : ChangeSpec := { name := "rulesBegins", fn := fun _ => fun
  | [d1, d2] => { results := [.lit (.bool true)], args := [d1, d2] }
  | _ => none }
def rulesBeginsRow : OpenClaim := { program := "ytmkknbonmameoaagreatdoor", sum := "55b1570745cc878e082ade0b0ea6a93f849305cc2bf69533054c9787f0e2ccc0", func := "yardarm/yardarmlaw15.RulesBegins", spec := "rulesBegins", inPlace := ["internal/abi.NoEscape", "internal/bytealg.MakeNoZero"], unfollowed := true, recurses := true, named := ["yardarm/history.most", "yardarm/level.words"], plainKeys := false, apart := false, laid := [("yardarm/level.words", laid_yardarm_level_words), ("yardarm/history.most", laid_yardarm_history_most)] }
def RulesBeginsSaid : Prop := rulesBeginsRow.holds Tryz.pinned (OpenSpec.ofChange rulesBeginsSpec)

/-- ITS FALSE NEIGHBOUR: 'it returns false'. Refute it at one input. -/
def rulesBeginsWrong : ChangeSpec := { name := "rulesBegins", fn := fun _ => fun
  | [d1, d2] => { results := [.lit (.bool false)], args := [d1, d2] }
  | _ => none }
def RulesBeginsWrongFalsely : Prop := rulesBeginsRow.holds Tryz.pinned (OpenSpec.ofChange rulesBeginsWrong)

/- THE SECOND FORM. 'bulk': how many values and letters a reading holds, each counted each time it is reached (what is shared counts as often as it is met; a slice's spare places count too). A statement '..UptoSaid' is the law's where the arguments, and the package variables that the reading takes, are together of bulk at most 1048576: NARROWER than '..Said'. Prove '..Said' where nothing that the law and all that it calls make is longer than what came in: it says more and counts as full. Else prove '..UptoSaid'. A law counts once. -/
mutual
def uptoBulk {H : Type} : DataW H → Nat
  | .lit (.string bytes) => bytes.length + 1
  | .lit _ => 1
  | .nil => 1
  | .ptr d => uptoBulk d + 1
  | .slice elems spare => uptoBulkAll elems + uptoBulkAll spare + 1
  | .agg parts => uptoBulkAll parts + 1
  | .iface _ d => uptoBulk d + 1
  | .map entries => uptoBulkEntries entries + 1
  | .held _ => 1
def uptoBulkAll {H : Type} : List (DataW H) → Nat
  | [] => 0
  | d :: r => uptoBulk d + uptoBulkAll r
def uptoBulkEntries {H : Type} : List (Lit × DataW H) → Nat
  | [] => 0
  | x :: r => uptoBulkEntry x + uptoBulkEntries r
def uptoBulkEntry {H : Type} : Lit × DataW H → Nat
  | (.string bytes, d) => bytes.length + uptoBulk d + 1
  | (_, d) => uptoBulk d + 1
 end
def uptoSmall : (H : Type) → List (DataW H) → Bool := fun _ ds => decide (uptoBulkAll ds ≤ 1048576)
def OpenSpec.upto (s : _root_.Go.ChangeSpec) : _root_.Go.OpenSpec := { _root_.Go.OpenSpec.ofChange s with cond := some uptoSmall }

/-- 'yardarmlaw15.RulesFirst', WHERE WHAT IT READS IS OF BULK AT MOST 1048576: true; the input reads as it did. -/
def rulesFirstUptoRow : OpenClaim := { program := "ytmkknbonmameoaagreatdoor", sum := "55b1570745cc878e082ade0b0ea6a93f849305cc2bf69533054c9787f0e2ccc0", func := "yardarm/yardarmlaw15.RulesFirst", spec := "rulesFirst", inPlace := ["internal/abi.NoEscape", "internal/bytealg.MakeNoZero"], unfollowed := true, recurses := true, named := ["yardarm/history.most", "yardarm/level.words"], plainKeys := false, apart := false, laid := [("yardarm/level.words", laid_yardarm_level_words), ("yardarm/history.most", laid_yardarm_history_most)], narrowed := true }
def RulesFirstUptoSaid : Prop := rulesFirstUptoRow.holds Tryz.pinned (OpenSpec.upto rulesFirstSpec)

/-- 'yardarmlaw15.RulesPlaces', WHERE WHAT IT READS IS OF BULK AT MOST 1048576: true; the input reads as it did. -/
def rulesPlacesUptoRow : OpenClaim := { program := "ytmkknbonmameoaagreatdoor", sum := "55b1570745cc878e082ade0b0ea6a93f849305cc2bf69533054c9787f0e2ccc0", func := "yardarm/yardarmlaw15.RulesPlaces", spec := "rulesPlaces", inPlace := ["internal/abi.NoEscape", "internal/bytealg.MakeNoZero"], unfollowed := true, recurses := true, named := ["yardarm/history.most", "yardarm/level.words"], plainKeys := false, apart := false, laid := [("yardarm/level.words", laid_yardarm_level_words), ("yardarm/history.most", laid_yardarm_history_most)], narrowed := true }
def RulesPlacesUptoSaid : Prop := rulesPlacesUptoRow.holds Tryz.pinned (OpenSpec.upto rulesPlacesSpec)

/-- 'yardarmlaw15.RulesOrder', WHERE WHAT IT READS IS OF BULK AT MOST 1048576: true; the input reads as it did. -/
def rulesOrderUptoRow : OpenClaim := { program := "ytmkknbonmameoaagreatdoor", sum := "55b1570745cc878e082ade0b0ea6a93f849305cc2bf69533054c9787f0e2ccc0", func := "yardarm/yardarmlaw15.RulesOrder", spec := "rulesOrder", inPlace := ["internal/abi.NoEscape", "internal/bytealg.MakeNoZero"], unfollowed := true, recurses := true, named := ["yardarm/history.most", "yardarm/level.words"], plainKeys := false, apart := false, laid := [("yardarm/level.words", laid_yardarm_level_words), ("yardarm/history.most", laid_yardarm_history_most)], narrowed := true }
def RulesOrderUptoSaid : Prop := rulesOrderUptoRow.holds Tryz.pinned (OpenSpec.upto rulesOrderSpec)

/-- 'yardarmlaw15.RulesEnds', WHERE WHAT IT READS IS OF BULK AT MOST 1048576: true; the input reads as it did. -/
def rulesEndsUptoRow : OpenClaim := { program := "ytmkknbonmameoaagreatdoor", sum := "55b1570745cc878e082ade0b0ea6a93f849305cc2bf69533054c9787f0e2ccc0", func := "yardarm/yardarmlaw15.RulesEnds", spec := "rulesEnds", inPlace := ["internal/abi.NoEscape", "internal/bytealg.MakeNoZero"], unfollowed := true, recurses := true, named := ["yardarm/history.most", "yardarm/level.words"], plainKeys := false, apart := false, laid := [("yardarm/level.words", laid_yardarm_level_words), ("yardarm/history.most", laid_yardarm_history_most)], narrowed := true }
def RulesEndsUptoSaid : Prop := rulesEndsUptoRow.holds Tryz.pinned (OpenSpec.upto rulesEndsSpec)

/-- 'yardarmlaw15.RulesBegins', WHERE WHAT IT READS IS OF BULK AT MOST 1048576: true; the input reads as it did. -/
def rulesBeginsUptoRow : OpenClaim := { program := "ytmkknbonmameoaagreatdoor", sum := "55b1570745cc878e082ade0b0ea6a93f849305cc2bf69533054c9787f0e2ccc0", func := "yardarm/yardarmlaw15.RulesBegins", spec := "rulesBegins", inPlace := ["internal/abi.NoEscape", "internal/bytealg.MakeNoZero"], unfollowed := true, recurses := true, named := ["yardarm/history.most", "yardarm/level.words"], plainKeys := false, apart := false, laid := [("yardarm/level.words", laid_yardarm_level_words), ("yardarm/history.most", laid_yardarm_history_most)], narrowed := true }
def RulesBeginsUptoSaid : Prop := rulesBeginsUptoRow.holds Tryz.pinned (OpenSpec.upto rulesBeginsSpec)

end Rows
end Go.Proofs.YtmkknbonmameoaaGreatDoor
