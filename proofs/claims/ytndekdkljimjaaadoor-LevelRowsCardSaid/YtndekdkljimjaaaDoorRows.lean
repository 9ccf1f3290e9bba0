/-
  NARROWER THAN 'FOR EVERY INPUT', by the rows' own cells (each row's printed sentence says how): LevelTexts: laid · LevelRows: laid · LevelBack: laid · LevelLattice: laid · LevelUniform: laid.
  DERIVED. THE GIVEN ROWS OF THIS SEAT. 5 by the template 'for every input the law returns true; each argument reads behind the call as it read before'; 0 by the template 'total and deterministic' (their statements: YtndekdkljimjaaaDoorTotals.lean).
  GIVEN WITH THE SEED: the statements are not yours to turn. If you find one false, say at which input.
  Laid BY PROGRAM, IN A SANDBOX (cutbox-rows.mjs): the forced cells as the released guide's own fill.sh prints them over the translation f2e83794cf9a1951… (all of the seat's roots in one cut). By AI agents, Wed Nov 11 2026. No macro, syntax, notation, axiom, sorry.
-/
import Derived.Test.YtndekdkljimjaaaDoorChecked
import GoSem.Claim
import GoSem.ClaimJoined
import GoSem.ClaimMapViews
import Derived.JoinedTies
import Derived.KernelRfl
namespace Go.Proofs.YtndekdkljimjaaaDoor
/- THE CELL 'sum', in the pinned program and in every row, IS THE sha256 OF THE DUMP (.gsa) THAT YtndekdkljimjaaaDoorProg.lean LOADS. Nothing in Lean hashes anything: it is a label: what it is worth is what the hold of that sum in a sandbox is worth. -/
noncomputable def Tryd.pinned : Pinned := { name := "ytndekdkljimjaaadoor", sum := "f2e83794cf9a1951033e46702cb0a9559dfcddd8ee48dee2f961f9887d96b031", checked := Tryd.checked }
namespace Rows
def none {H : Type} : Left H := { results := [], args := [] }

/- WHAT THE LISTED PACKAGE-LEVEL VARIABLES READ AS WHEN THE CALL BEGINS. Each datum BY PROGRAM (the guide's laid-datum.mjs) off the statement by which the dump's own 'gosem.cut.vars' lays the variable. In a bare row this is a premise. The card (YtndekdkljimjaaaDoorCards.lean) ties it to the program's text. -/
def laid_yardarm_level_texts {H : Type} : DataW H := .agg [.lit (.string [49]), .lit (.string [50]), .lit (.string [50, 46, 57, 57]), .lit (.string [51])]
def laid_yardarm_level_words {H : Type} : DataW H := .agg [.lit (.string [114, 121, 119]), .lit (.string [109, 114]), .lit (.string [109, 119]), .lit (.string [119, 102, 114])]

/-- 'yardarmlaw09.LevelTexts': WHATEVER THE INPUT: true; the input reads as it did. -/
def levelTextsSpec : ChangeSpec := { name := "levelTexts", fn := fun _ => fun
  | [d1, d2] => { results := [.lit (.bool true)], args := [d1, d2] }
  | _ => none }
def levelTextsRow : OpenClaim := { program := "ytndekdkljimjaaadoor", sum := "f2e83794cf9a1951033e46702cb0a9559dfcddd8ee48dee2f961f9887d96b031", func := "yardarm/yardarmlaw09.LevelTexts", spec := "levelTexts", inPlace := ["internal/abi.NoEscape", "internal/bytealg.MakeNoZero"], unfollowed := true, recurses := true, named := ["yardarm/level.texts", "yardarm/level.words"], apart := false, laid := [("yardarm/level.texts", laid_yardarm_level_texts), ("yardarm/level.words", laid_yardarm_level_words)] }
def LevelTextsSaid : Prop := levelTextsRow.holds Tryd.pinned (OpenSpec.ofChange levelTextsSpec)

/-- ITS FALSE NEIGHBOUR: 'it returns false'. Refute it at one input. -/
def levelTextsWrong : ChangeSpec := { name := "levelTexts", fn := fun _ => fun
  | [d1, d2] => { results := [.lit (.bool false)], args := [d1, d2] }
  | _ => none }
def LevelTextsWrongFalsely : Prop := levelTextsRow.holds Tryd.pinned (OpenSpec.ofChange levelTextsWrong)

/-- 'yardarmlaw09.LevelRows': WHATEVER THE INPUT: true; the input reads as it did. -/
def levelRowsSpec : ChangeSpec := { name := "levelRows", fn := fun _ => fun
  | [d1, d2, d3] => { results := [.lit (.bool true)], args := [d1, d2, d3] }
  | _ => none }
def levelRowsRow : OpenClaim := { program := "ytndekdkljimjaaadoor", sum := "f2e83794cf9a1951033e46702cb0a9559dfcddd8ee48dee2f961f9887d96b031", func := "yardarm/yardarmlaw09.LevelRows", spec := "levelRows", inPlace := ["internal/abi.NoEscape", "internal/bytealg.MakeNoZero"], unfollowed := true, recurses := true, named := ["yardarm/level.texts", "yardarm/level.words"], apart := false, laid := [("yardarm/level.texts", laid_yardarm_level_texts), ("yardarm/level.words", laid_yardarm_level_words)] }
def LevelRowsSaid : Prop := levelRowsRow.holds Tryd.pinned (OpenSpec.ofChange levelRowsSpec)

/-- ITS FALSE NEIGHBOUR: 'it returns false'. Refute it at one input. -/
def levelRowsWrong : ChangeSpec := { name := "levelRows", fn := fun _ => fun
  | [d1, d2, d3] => { results := [.lit (.bool false)], args := [d1, d2, d3] }
  | _ => none }
def LevelRowsWrongFalsely : Prop := levelRowsRow.holds Tryd.pinned (OpenSpec.ofChange levelRowsWrong)

/-- 'yardarmlaw09.LevelBack': WHATEVER THE INPUT: true; the input reads as it did. -/
def levelBackSpec : ChangeSpec := { name := "levelBack", fn := fun _ => fun
  | [d1, d2] => { results := [.lit (.bool true)], args := [d1, d2] }
  | _ => none }
def levelBackRow : OpenClaim := { program := "ytndekdkljimjaaadoor", sum := "f2e83794cf9a1951033e46702cb0a9559dfcddd8ee48dee2f961f9887d96b031", func := "yardarm/yardarmlaw09.LevelBack", spec := "levelBack", inPlace := ["internal/abi.NoEscape", "internal/bytealg.MakeNoZero"], unfollowed := true, recurses := true, named := ["yardarm/level.texts", "yardarm/level.words"], apart := false, laid := [("yardarm/level.texts", laid_yardarm_level_texts), ("yardarm/level.words", laid_yardarm_level_words)] }
def LevelBackSaid : Prop := levelBackRow.holds Tryd.pinned (OpenSpec.ofChange levelBackSpec)

/-- ITS FALSE NEIGHBOUR: 'it returns false'. Refute it at one input. -/
def levelBackWrong : ChangeSpec := { name := "levelBack", fn := fun _ => fun
  | [d1, d2] => { results := [.lit (.bool false)], args := [d1, d2] }
  | _ => none }
def LevelBackWrongFalsely : Prop := levelBackRow.holds Tryd.pinned (OpenSpec.ofChange levelBackWrong)

/-- 'yardarmlaw09.LevelLattice': WHATEVER THE INPUT: true; the input reads as it did. -/
def levelLatticeSpec : ChangeSpec := { name := "levelLattice", fn := fun _ => fun
  | [d1, d2, d3] => { results := [.lit (.bool true)], args := [d1, d2, d3] }
  | _ => none }
def levelLatticeRow : OpenClaim := { program := "ytndekdkljimjaaadoor", sum := "f2e83794cf9a1951033e46702cb0a9559dfcddd8ee48dee2f961f9887d96b031", func := "yardarm/yardarmlaw09.LevelLattice", spec := "levelLattice", inPlace := ["internal/abi.NoEscape", "internal/bytealg.MakeNoZero"], unfollowed := true, recurses := true, named := ["yardarm/level.texts", "yardarm/level.words"], apart := false, laid := [("yardarm/level.texts", laid_yardarm_level_texts), ("yardarm/level.words", laid_yardarm_level_words)] }
def LevelLatticeSaid : Prop := levelLatticeRow.holds Tryd.pinned (OpenSpec.ofChange levelLatticeSpec)

/-- ITS FALSE NEIGHBOUR: 'it returns false'. Refute it at one input. -/
def levelLatticeWrong : ChangeSpec := { name := "levelLattice", fn := fun _ => fun
  | [d1, d2, d3] => { results := [.lit (.bool false)], args := [d1, d2, d3] }
  | _ => none }
def LevelLatticeWrongFalsely : Prop := levelLatticeRow.holds Tryd.pinned (OpenSpec.ofChange levelLatticeWrong)

/-- 'yardarmlaw09.LevelUniform': WHATEVER THE INPUT: true; the input reads as it did. -/
def levelUniformSpec : ChangeSpec := { name := "levelUniform", fn := fun _ => fun
  | [d1, d2, d3] => { results := [.lit (.bool true)], args := [d1, d2, d3] }
  | _ => none }
def levelUniformRow : OpenClaim := { program := "ytndekdkljimjaaadoor", sum := "f2e83794cf9a1951033e46702cb0a9559dfcddd8ee48dee2f961f9887d96b031", func := "yardarm/yardarmlaw09.LevelUniform", spec := "levelUniform", inPlace := ["internal/abi.NoEscape", "internal/bytealg.MakeNoZero"], unfollowed := true, recurses := true, named := ["yardarm/level.texts", "yardarm/level.words"], apart := false, laid := [("yardarm/level.texts", laid_yardarm_level_texts), ("yardarm/level.words", laid_yardarm_level_words)] }
def LevelUniformSaid : Prop := levelUniformRow.holds Tryd.pinned (OpenSpec.ofChange levelUniformSpec)

/-- ITS FALSE NEIGHBOUR: 'it returns false'. Refute it at one input. -/
def levelUniformWrong : ChangeSpec := { name := "levelUniform", fn := fun _ => fun
  | [d1, d2, d3] => { results := [.lit (.bool false)], args := [d1, d2, d3] }
  | _ => none }
def LevelUniformWrongFalsely : Prop := levelUniformRow.holds Tryd.pinned (OpenSpec.ofChange levelUniformWrong)

/- THE SECOND FORM. 'bulk': how many values and letters a reading holds, each counted each time it is reached (what is shared counts as often as it is met; a slice's spare places count too). A statement '..UptoSaid' is the law's where the arguments, and the package variables that the reading takes, are together of bulk at most 1048576: NARROWER than '..Said'. Prove '..Said' where nothing that the law and all that it calls make is longer than what came in: it says more and counts as full. Else prove '..UptoSaid'. A law counts once. -/
mutual
def uptoBulk {H : Type} : DataW H → Nat
  | .lit (.string bytes) => bytes.length + 1
  | .lit _ => 1
  | .nil => 1
  | .ptr d => uptoBulk d + 1
  | .slice elems spare => uptoBulkAll elems + uptoBulkAll spare + 1
  | .agg parts => uptoBulkAll parts + 1
  | .iface _ d => uptoBulk d + 1
  | .map entries => uptoBulkEntries entries + 1
  | .held _ => 1
def uptoBulkAll {H : Type} : List (DataW H) → Nat
  | [] => 0
  | d :: r => uptoBulk d + uptoBulkAll r
def uptoBulkEntries {H : Type} : List (Lit × DataW H) → Nat
  | [] => 0
  | x :: r => uptoBulkEntry x + uptoBulkEntries r
def uptoBulkEntry {H : Type} : Lit × DataW H → Nat
  | (.string bytes, d) => bytes.length + uptoBulk d + 1
  | (_, d) => uptoBulk d + 1
 end
def uptoSmall : (H : Type) → List (DataW H) → Bool := fun _ ds => decide (uptoBulkAll ds ≤ 1048576)
def OpenSpec.upto (s : _root_.Go.ChangeSpec) : _root_.Go.OpenSpec := { _root_.Go.OpenSpec.ofChange s with cond := some uptoSmall }

/-- 'yardarmlaw09.LevelTexts', WHERE WHAT IT READS IS OF BULK AT MOST 1048576: true; the input reads as it did. -/
def levelTextsUptoRow : OpenClaim := { program := "ytndekdkljimjaaadoor", sum := "f2e83794cf9a1951033e46702cb0a9559dfcddd8ee48dee2f961f9887d96b031", func := "yardarm/yardarmlaw09.LevelTexts", spec := "levelTexts", inPlace := ["internal/abi.NoEscape", "internal/bytealg.MakeNoZero"], unfollowed := true, recurses := true, named := ["yardarm/level.texts", "yardarm/level.words"], apart := false, laid := [("yardarm/level.texts", laid_yardarm_level_texts), ("yardarm/level.words", laid_yardarm_level_words)], narrowed := true }
def LevelTextsUptoSaid : Prop := levelTextsUptoRow.holds Tryd.pinned (OpenSpec.upto levelTextsSpec)

/-- 'yardarmlaw09.LevelRows', WHERE WHAT IT READS IS OF BULK AT MOST 1048576: true; the input reads as it did. -/
def levelRowsUptoRow : OpenClaim := { program := "ytndekdkljimjaaadoor", sum := "f2e83794cf9a1951033e46702cb0a9559dfcddd8ee48dee2f961f9887d96b031", func := "yardarm/yardarmlaw09.LevelRows", spec := "levelRows", inPlace := ["internal/abi.NoEscape", "internal/bytealg.MakeNoZero"], unfollowed := true, recurses := true, named := ["yardarm/level.texts", "yardarm/level.words"], apart := false, laid := [("yardarm/level.texts", laid_yardarm_level_texts), ("yardarm/level.words", laid_yardarm_level_words)], narrowed := true }
def LevelRowsUptoSaid : Prop := levelRowsUptoRow.holds Tryd.pinned (OpenSpec.upto levelRowsSpec)

/-- 'yardarmlaw09.LevelBack', WHERE WHAT IT READS IS OF BULK AT MOST 1048576: true; the input reads as it did. -/
def levelBackUptoRow : OpenClaim := { program := "ytndekdkljimjaaadoor", sum := "f2e83794cf9a1951033e46702cb0a9559dfcddd8ee48dee2f961f9887d96b031", func := "yardarm/yardarmlaw09.LevelBack", spec := "levelBack", inPlace := ["internal/abi.NoEscape", "internal/bytealg.MakeNoZero"], unfollowed := true, recurses := true, named := ["yardarm/level.texts", "yardarm/level.words"], apart := false, laid := [("yardarm/level.texts", laid_yardarm_level_texts), ("yardarm/level.words", laid_yardarm_level_words)], narrowed := true }
def LevelBackUptoSaid : Prop := levelBackUptoRow.holds Tryd.pinned (OpenSpec.upto levelBackSpec)

/-- 'yardarmlaw09.LevelLattice', WHERE WHAT IT READS IS OF BULK AT MOST 1048576: true; the input reads as it did. -/
def levelLatticeUptoRow : OpenClaim := { program := "ytndekdkljimjaaadoor", sum := "f2e83794cf9a1951033e46702cb0a9559dfcddd8ee48dee2f961f9887d96b031", func := "yardarm/yardarmlaw09.LevelLattice", spec := "levelLattice", inPlace := ["internal/abi.NoEscape", "internal/bytealg.MakeNoZero"], unfollowed := true, recurses := true, named := ["yardarm/level.texts", "yardarm/level.words"], apart := false, laid := [("yardarm/level.texts", laid_yardarm_level_texts), ("yardarm/level.words", laid_yardarm_level_words)], narrowed := true }
def LevelLatticeUptoSaid : Prop := levelLatticeUptoRow.holds Tryd.pinned (OpenSpec.upto levelLatticeSpec)

/-- 'yardarmlaw09.LevelUniform', WHERE WHAT IT READS IS OF BULK AT MOST 1048576: true; the input reads as it did. -/
def levelUniformUptoRow : OpenClaim := { program := "ytndekdkljimjaaadoor", sum := "f2e83794cf9a1951033e46702cb0a9559dfcddd8ee48dee2f961f9887d96b031", func := "yardarm/yardarmlaw09.LevelUniform", spec := "levelUniform", inPlace := ["internal/abi.NoEscape", "internal/bytealg.MakeNoZero"], unfollowed := true, recurses := true, named := ["yardarm/level.texts", "yardarm/level.words"], apart := false, laid := [("yardarm/level.texts", laid_yardarm_level_texts), ("yardarm/level.words", laid_yardarm_level_words)], narrowed := true }
def LevelUniformUptoSaid : Prop := levelUniformUptoRow.holds Tryd.pinned (OpenSpec.upto levelUniformSpec)

end Rows
end Go.Proofs.YtndekdkljimjaaaDoor
