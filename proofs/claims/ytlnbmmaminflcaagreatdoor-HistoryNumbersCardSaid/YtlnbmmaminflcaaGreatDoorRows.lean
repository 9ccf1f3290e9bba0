/-
  NARROWER THAN 'FOR EVERY INPUT', by the rows' own cells (each row's printed sentence says how): HistoryMay: laid · HistoryNumbers: laid · HistoryCompletes: laid · HistoryParts: laid.
  DERIVED. THE GIVEN ROWS OF THIS SEAT. 4 by the template 'for every input the law returns true; each argument reads behind the call as it read before'; 0 by the template 'total and deterministic' (their statements: YtlnbmmaminflcaaGreatDoorTotals.lean).
  GIVEN WITH THE SEED: the statements are not yours to turn. If you find one false, say at which input.
  Laid BY PROGRAM, IN A SANDBOX (cutbox-rows.mjs): the forced cells as the released guide's own fill.sh prints them over the translation 50bef2b14ce0059c… (all of the seat's roots in one cut). By AI agents, Wed Nov 11 2026. No macro, syntax, notation, axiom, sorry.
-/
import Derived.Test.YtlnbmmaminflcaaGreatDoorChecked
import GoSem.Claim
import GoSem.ClaimJoined
import GoSem.ClaimMapViews
import Derived.JoinedTies
import Derived.KernelRfl
namespace Go.Proofs.YtlnbmmaminflcaaGreatDoor
/- THE CELL 'sum', in the pinned program and in every row, IS THE sha256 OF THE DUMP (.gsa) THAT YtlnbmmaminflcaaGreatDoorProg.lean LOADS. Nothing in Lean hashes anything: it is a label: what it is worth is what the hold of that sum in a sandbox is worth. -/
noncomputable def Tryz.pinned : Pinned := { name := "ytlnbmmaminflcaagreatdoor", sum := "50bef2b14ce0059c7e55f22b6b70941359d63886c2caddd9e2bff86748d26cea", checked := Tryz.checked }
namespace Rows
def none {H : Type} : Left H := { results := [], args := [] }

/- WHAT THE LISTED PACKAGE-LEVEL VARIABLES READ AS WHEN THE CALL BEGINS. Each datum BY PROGRAM (the guide's laid-datum.mjs) off the statement by which the dump's own 'gosem.cut.vars' lays the variable. In a bare row this is a premise. The card (YtlnbmmaminflcaaGreatDoorCards.lean) ties it to the program's text. -/
def laid_yardarm_level_words {H : Type} : DataW H := .agg [.lit (.string [114, 121, 119]), .lit (.string [109, 114]), .lit (.string [109, 119]), .lit (.string [119, 102, 114])]
def laid_yardarm_history_most {H : Type} : DataW H := .agg [.lit (.int .i64 300), .lit (.int .i64 60), .lit (.int .i64 300), .lit (.int .i64 60)]

/-- 'yardarmlaw11.HistoryMay': WHATEVER THE INPUT: true; the input reads as it did. -/
def historyMaySpec : ChangeSpec := { name := "historyMay", fn := fun _ => fun
  | [d1, d2] => { results := [.lit (.bool true)], args := [d1, d2] }
  | _ => none }
def historyMayRow : OpenClaim := { program := "ytlnbmmaminflcaagreatdoor", sum := "50bef2b14ce0059c7e55f22b6b70941359d63886c2caddd9e2bff86748d26cea", func := "yardarm/yardarmlaw11.HistoryMay", spec := "historyMay", inPlace := ["internal/abi.NoEscape", "internal/bytealg.MakeNoZero"], unfollowed := true, recurses := true, named := ["yardarm/history.most", "yardarm/level.words"], plainKeys := false, apart := false, laid := [("yardarm/level.words", laid_yardarm_level_words), ("yardarm/history.most", laid_yardarm_history_most)] }
def HistoryMaySaid : Prop := historyMayRow.holds Tryz.pinned (OpenSpec.ofChange historyMaySpec)

/-- ITS FALSE NEIGHBOUR: 'it returns false'. Refute it at one input. -/
def historyMayWrong : ChangeSpec := { name := "historyMay", fn := fun _ => fun
  | [d1, d2] => { results := [.lit (.bool false)], args := [d1, d2] }
  | _ => none }
def HistoryMayWrongFalsely : Prop := historyMayRow.holds Tryz.pinned (OpenSpec.ofChange historyMayWrong)

/-- 'yardarmlaw11.HistoryNumbers': WHATEVER THE INPUT: true; the input reads as it did. -/
def historyNumbersSpec : ChangeSpec := { name := "historyNumbers", fn := fun _ => fun
  | [d] => { results := [.lit (.bool true)], args := [d] }
  | _ => none }
def historyNumbersRow : OpenClaim := { program := "ytlnbmmaminflcaagreatdoor", sum := "50bef2b14ce0059c7e55f22b6b70941359d63886c2caddd9e2bff86748d26cea", func := "yardarm/yardarmlaw11.HistoryNumbers", spec := "historyNumbers", inPlace := ["internal/abi.NoEscape", "internal/bytealg.MakeNoZero"], unfollowed := true, recurses := true, named := ["yardarm/history.most", "yardarm/level.words"], plainKeys := false, apart := false, laid := [("yardarm/level.words", laid_yardarm_level_words), ("yardarm/history.most", laid_yardarm_history_most)] }
def HistoryNumbersSaid : Prop := historyNumbersRow.holds Tryz.pinned (OpenSpec.ofChange historyNumbersSpec)

/-- ITS FALSE NEIGHBOUR: 'it returns false'. Refute it at one input. -/
def historyNumbersWrong : ChangeSpec := { name := "historyNumbers", fn := fun _ => fun
  | [d] => { results := [.lit (.bool false)], args := [d] }
  | _ => none }
def HistoryNumbersWrongFalsely : Prop := historyNumbersRow.holds Tryz.pinned (OpenSpec.ofChange historyNumbersWrong)

/-- 'yardarmlaw11.HistoryCompletes': WHATEVER THE INPUT: true; the input reads as it did. -/
def historyCompletesSpec : ChangeSpec := { name := "historyCompletes", fn := fun _ => fun
  | [d1, d2] => { results := [.lit (.bool true)], args := [d1, d2] }
  | _ => none }
def historyCompletesRow : OpenClaim := { program := "ytlnbmmaminflcaagreatdoor", sum := "50bef2b14ce0059c7e55f22b6b70941359d63886c2caddd9e2bff86748d26cea", func := "yardarm/yardarmlaw11.HistoryCompletes", spec := "historyCompletes", inPlace := ["internal/abi.NoEscape", "internal/bytealg.MakeNoZero"], unfollowed := true, recurses := true, named := ["yardarm/history.most", "yardarm/level.words"], plainKeys := false, apart := false, laid := [("yardarm/level.words", laid_yardarm_level_words), ("yardarm/history.most", laid_yardarm_history_most)] }
def HistoryCompletesSaid : Prop := historyCompletesRow.holds Tryz.pinned (OpenSpec.ofChange historyCompletesSpec)

/-- ITS FALSE NEIGHBOUR: 'it returns false'. Refute it at one input. -/
def historyCompletesWrong : ChangeSpec := { name := "historyCompletes", fn := fun _ => fun
  | [d1, d2] => { results := [.lit (.bool false)], args := [d1, d2] }
  | _ => none }
def HistoryCompletesWrongFalsely : Prop := historyCompletesRow.holds Tryz.pinned (OpenSpec.ofChange historyCompletesWrong)

/-- 'yardarmlaw11.HistoryParts': WHATEVER THE INPUT: true; the input reads as it did. -/
def historyPartsSpec : ChangeSpec := { name := "historyParts", fn := fun _ => fun
  | [d] => { results := [.lit (.bool true)], args := [d] }
  | _ => none }
def historyPartsRow : OpenClaim := { program := "ytlnbmmaminflcaagreatdoor", sum := "50bef2b14ce0059c7e55f22b6b70941359d63886c2caddd9e2bff86748d26cea", func := "yardarm/yardarmlaw11.HistoryParts", spec := "historyParts", inPlace := ["internal/abi.NoEscape", "internal/bytealg.MakeNoZero"], unfollowed := true, recurses := true, named := ["yardarm/history.most", "yardarm/level.words"], plainKeys := false, apart := false, laid := [("yardarm/level.words", laid_yardarm_level_words), ("yardarm/history.most", laid_yardarm_history_most)] }
def HistoryPartsSaid : Prop := historyPartsRow.holds Tryz.pinned (OpenSpec.ofChange historyPartsSpec)

/-- ITS FALSE NEIGHBOUR: 'it returns false'. Refute it at one input. -/
def historyPartsWrong : ChangeSpec := { name := "historyParts", fn := fun _ => fun
  | [d] => { results := [.lit (.bool false)], args := [d] }
  | _ => none }
def HistoryPartsWrongFalsely : Prop := historyPartsRow.holds Tryz.pinned (OpenSpec.ofChange historyPartsWrong)

/- THE SECOND FORM. 'bulk': how many values and letters a reading holds, each counted each time it is reached (what is shared counts as often as it is met; a slice's spare places count too). A statement '..UptoSaid' is the law's where the arguments, and the package variables that the reading takes, are together of bulk at most 1048576: NARROWER than '..Said'. Prove '..Said' where nothing that the law and all that it calls make is longer than what came in: it says more and counts as full. Else prove '..UptoSaid'. A law counts once. -/
mutual
def uptoBulk {H : Type} : DataW H → Nat
  | .lit (.string bytes) => bytes.length + 1
  | .lit _ => 1
  | .nil => 1
  | .ptr d => uptoBulk d + 1
  | .slice elems spare => uptoBulkAll elems + uptoBulkAll spare + 1
  | .agg parts => uptoBulkAll parts + 1
  | .iface _ d => uptoBulk d + 1
  | .map entries => uptoBulkEntries entries + 1
  | .held _ => 1
def uptoBulkAll {H : Type} : List (DataW H) → Nat
  | [] => 0
  | d :: r => uptoBulk d + uptoBulkAll r
def uptoBulkEntries {H : Type} : List (Lit × DataW H) → Nat
  | [] => 0
  | x :: r => uptoBulkEntry x + uptoBulkEntries r
def uptoBulkEntry {H : Type} : Lit × DataW H → Nat
  | (.string bytes, d) => bytes.length + uptoBulk d + 1
  | (_, d) => uptoBulk d + 1
 end
def uptoSmall : (H : Type) → List (DataW H) → Bool := fun _ ds => decide (uptoBulkAll ds ≤ 1048576)
def OpenSpec.upto (s : _root_.Go.ChangeSpec) : _root_.Go.OpenSpec := { _root_.Go.OpenSpec.ofChange s with cond := some uptoSmall }

/-- 'yardarmlaw11.HistoryMay', WHERE WHAT IT READS IS OF BULK AT MOST 1048576: true; the input reads as it did. -/
def historyMayUptoRow : OpenClaim := { program := "ytlnbmmaminflcaagreatdoor", sum := "50bef2b14ce0059c7e55f22b6b70941359d63886c2caddd9e2bff86748d26cea", func := "yardarm/yardarmlaw11.HistoryMay", spec := "historyMay", inPlace := ["internal/abi.NoEscape", "internal/bytealg.MakeNoZero"], unfollowed := true, recurses := true, named := ["yardarm/history.most", "yardarm/level.words"], plainKeys := false, apart := false, laid := [("yardarm/level.words", laid_yardarm_level_words), ("yardarm/history.most", laid_yardarm_history_most)], narrowed := true }
def HistoryMayUptoSaid : Prop := historyMayUptoRow.holds Tryz.pinned (OpenSpec.upto historyMaySpec)

/-- 'yardarmlaw11.HistoryNumbers', WHERE WHAT IT READS IS OF BULK AT MOST 1048576: true; the input reads as it did. -/
def historyNumbersUptoRow : OpenClaim := { program := "ytlnbmmaminflcaagreatdoor", sum := "50bef2b14ce0059c7e55f22b6b70941359d63886c2caddd9e2bff86748d26cea", func := "yardarm/yardarmlaw11.HistoryNumbers", spec := "historyNumbers", inPlace := ["internal/abi.NoEscape", "internal/bytealg.MakeNoZero"], unfollowed := true, recurses := true, named := ["yardarm/history.most", "yardarm/level.words"], plainKeys := false, apart := false, laid := [("yardarm/level.words", laid_yardarm_level_words), ("yardarm/history.most", laid_yardarm_history_most)], narrowed := true }
def HistoryNumbersUptoSaid : Prop := historyNumbersUptoRow.holds Tryz.pinned (OpenSpec.upto historyNumbersSpec)

/-- 'yardarmlaw11.HistoryCompletes', WHERE WHAT IT READS IS OF BULK AT MOST 1048576: true; the input reads as it did. -/
def historyCompletesUptoRow : OpenClaim := { program := "ytlnbmmaminflcaagreatdoor", sum := "50bef2b14ce0059c7e55f22b6b70941359d63886c2caddd9e2bff86748d26cea", func := "yardarm/yardarmlaw11.HistoryCompletes", spec := "historyCompletes", inPlace := ["internal/abi.NoEscape", "internal/bytealg.MakeNoZero"], unfollowed := true, recurses := true, named := ["yardarm/history.most", "yardarm/level.words"], plainKeys := false, apart := false, laid := [("yardarm/level.words", laid_yardarm_level_words), ("yardarm/history.most", laid_yardarm_history_most)], narrowed := true }
def HistoryCompletesUptoSaid : Prop := historyCompletesUptoRow.holds Tryz.pinned (OpenSpec.upto historyCompletesSpec)

/-- 'yardarmlaw11.HistoryParts', WHERE WHAT IT READS IS OF BULK AT MOST 1048576: true; the input reads as it did. -/
def historyPartsUptoRow : OpenClaim := { program := "ytlnbmmaminflcaagreatdoor", sum := "50bef2b14ce0059c7e55f22b6b70941359d63886c2caddd9e2bff86748d26cea", func := "yardarm/yardarmlaw11.HistoryParts", spec := "historyParts", inPlace := ["internal/abi.NoEscape", "internal/bytealg.MakeNoZero"], unfollowed := true, recurses := true, named := ["yardarm/history.most", "yardarm/level.words"], plainKeys := false, apart := false, laid := [("yardarm/level.words", laid_yardarm_level_words), ("yardarm/history.most", laid_yardarm_history_most)], narrowed := true }
def HistoryPartsUptoSaid : Prop := historyPartsUptoRow.holds Tryz.pinned (OpenSpec.upto historyPartsSpec)

end Rows
end Go.Proofs.YtlnbmmaminflcaaGreatDoor
