/-
  NARROWER THAN 'FOR EVERY INPUT', by the rows' own cells (each row's printed sentence says how): HistoryAnew: laid · HistoryEnds: laid.
  DERIVED. THE GIVEN ROWS OF THIS SEAT. 2 by the template 'for every input the law returns true; each argument reads behind the call as it read before'; 0 by the template 'total and deterministic' (their statements: YtlnbmmaminflcaaDoorTotals.lean).
  GIVEN WITH THE SEED: the statements are not yours to turn. If you find one false, say at which input.
  Laid BY PROGRAM, IN A SANDBOX (cutbox-rows.mjs): the forced cells as the released guide's own fill.sh prints them over the translation 429b21aa543cd81b… (all of the seat's roots in one cut). By AI agents, Wed Nov 11 2026. No macro, syntax, notation, axiom, sorry.
-/
import Derived.Test.YtlnbmmaminflcaaDoorChecked
import GoSem.Claim
import GoSem.ClaimJoined
import GoSem.ClaimMapViews
import Derived.JoinedTies
import Derived.KernelRfl
namespace Go.Proofs.YtlnbmmaminflcaaDoor
/- THE CELL 'sum', in the pinned program and in every row, IS THE sha256 OF THE DUMP (.gsa) THAT YtlnbmmaminflcaaDoorProg.lean LOADS. Nothing in Lean hashes anything: it is a label: what it is worth is what the hold of that sum in a sandbox is worth. -/
noncomputable def Tryd.pinned : Pinned := { name := "ytlnbmmaminflcaadoor", sum := "429b21aa543cd81bee482fa91c99c464e6b61b7a2be367ac9a17d48c8c8f4b71", checked := Tryd.checked }
namespace Rows
def none {H : Type} : Left H := { results := [], args := [] }

/- WHAT THE LISTED PACKAGE-LEVEL VARIABLES READ AS WHEN THE CALL BEGINS. Each datum BY PROGRAM (the guide's laid-datum.mjs) off the statement by which the dump's own 'gosem.cut.vars' lays the variable. In a bare row this is a premise. The card (YtlnbmmaminflcaaDoorCards.lean) ties it to the program's text. -/
def laid_yardarm_level_words {H : Type} : DataW H := .agg [.lit (.string [114, 121, 119]), .lit (.string [109, 114]), .lit (.string [109, 119]), .lit (.string [119, 102, 114])]
def laid_yardarm_history_most {H : Type} : DataW H := .agg [.lit (.int .i64 300), .lit (.int .i64 60), .lit (.int .i64 300), .lit (.int .i64 60)]

/-- 'yardarmlaw11.HistoryAnew': WHATEVER THE INPUT: true; the input reads as it did. -/
def historyAnewSpec : ChangeSpec := { name := "historyAnew", fn := fun _ => fun
  | [d] => { results := [.lit (.bool true)], args := [d] }
  | _ => none }
def historyAnewRow : OpenClaim := { program := "ytlnbmmaminflcaadoor", sum := "429b21aa543cd81bee482fa91c99c464e6b61b7a2be367ac9a17d48c8c8f4b71", func := "yardarm/yardarmlaw11.HistoryAnew", spec := "historyAnew", inPlace := ["internal/abi.NoEscape", "internal/bytealg.MakeNoZero"], unfollowed := true, recurses := true, named := ["yardarm/history.most", "yardarm/level.words"], plainKeys := false, apart := false, laid := [("yardarm/level.words", laid_yardarm_level_words), ("yardarm/history.most", laid_yardarm_history_most)] }
def HistoryAnewSaid : Prop := historyAnewRow.holds Tryd.pinned (OpenSpec.ofChange historyAnewSpec)

/-- ITS FALSE NEIGHBOUR: 'it returns false'. Refute it at one input. -/
def historyAnewWrong : ChangeSpec := { name := "historyAnew", fn := fun _ => fun
  | [d] => { results := [.lit (.bool false)], args := [d] }
  | _ => none }
def HistoryAnewWrongFalsely : Prop := historyAnewRow.holds Tryd.pinned (OpenSpec.ofChange historyAnewWrong)

/-- 'yardarmlaw11.HistoryEnds': WHATEVER THE INPUT: true; the input reads as it did. -/
def historyEndsSpec : ChangeSpec := { name := "historyEnds", fn := fun _ => fun
  | [d] => { results := [.lit (.bool true)], args := [d] }
  | _ => none }
def historyEndsRow : OpenClaim := { program := "ytlnbmmaminflcaadoor", sum := "429b21aa543cd81bee482fa91c99c464e6b61b7a2be367ac9a17d48c8c8f4b71", func := "yardarm/yardarmlaw11.HistoryEnds", spec := "historyEnds", inPlace := ["internal/abi.NoEscape", "internal/bytealg.MakeNoZero"], unfollowed := true, recurses := true, named := ["yardarm/history.most", "yardarm/level.words"], plainKeys := false, apart := false, laid := [("yardarm/level.words", laid_yardarm_level_words), ("yardarm/history.most", laid_yardarm_history_most)] }
def HistoryEndsSaid : Prop := historyEndsRow.holds Tryd.pinned (OpenSpec.ofChange historyEndsSpec)

/-- ITS FALSE NEIGHBOUR: 'it returns false'. Refute it at one input. -/
def historyEndsWrong : ChangeSpec := { name := "historyEnds", fn := fun _ => fun
  | [d] => { results := [.lit (.bool false)], args := [d] }
  | _ => none }
def HistoryEndsWrongFalsely : Prop := historyEndsRow.holds Tryd.pinned (OpenSpec.ofChange historyEndsWrong)

/- THE SECOND FORM. 'bulk': how many values and letters a reading holds, each counted each time it is reached (what is shared counts as often as it is met; a slice's spare places count too). A statement '..UptoSaid' is the law's where the arguments, and the package variables that the reading takes, are together of bulk at most 1048576: NARROWER than '..Said'. Prove '..Said' where nothing that the law and all that it calls make is longer than what came in: it says more and counts as full. Else prove '..UptoSaid'. A law counts once. -/
mutual
def uptoBulk {H : Type} : DataW H → Nat
  | .lit (.string bytes) => bytes.length + 1
  | .lit _ => 1
  | .nil => 1
  | .ptr d => uptoBulk d + 1
  | .slice elems spare => uptoBulkAll elems + uptoBulkAll spare + 1
  | .agg parts => uptoBulkAll parts + 1
  | .iface _ d => uptoBulk d + 1
  | .map entries => uptoBulkEntries entries + 1
  | .held _ => 1
def uptoBulkAll {H : Type} : List (DataW H) → Nat
  | [] => 0
  | d :: r => uptoBulk d + uptoBulkAll r
def uptoBulkEntries {H : Type} : List (Lit × DataW H) → Nat
  | [] => 0
  | x :: r => uptoBulkEntry x + uptoBulkEntries r
def uptoBulkEntry {H : Type} : Lit × DataW H → Nat
  | (.string bytes, d) => bytes.length + uptoBulk d + 1
  | (_, d) => uptoBulk d + 1
 end
def uptoSmall : (H : Type) → List (DataW H) → Bool := fun _ ds => decide (uptoBulkAll ds ≤ 1048576)
def OpenSpec.upto (s : _root_.Go.ChangeSpec) : _root_.Go.OpenSpec := { _root_.Go.OpenSpec.ofChange s with cond := some uptoSmall }

/-- 'yardarmlaw11.HistoryAnew', WHERE WHAT IT READS IS OF BULK AT MOST 1048576: true; the input reads as it did. -/
def historyAnewUptoRow : OpenClaim := { program := "ytlnbmmaminflcaadoor", sum := "429b21aa543cd81bee482fa91c99c464e6b61b7a2be367ac9a17d48c8c8f4b71", func := "yardarm/yardarmlaw11.HistoryAnew", spec := "historyAnew", inPlace := ["internal/abi.NoEscape", "internal/bytealg.MakeNoZero"], unfollowed := true, recurses := true, named := ["yardarm/history.most", "yardarm/level.words"], plainKeys := false, apart := false, laid := [("yardarm/level.words", laid_yardarm_level_words), ("yardarm/history.most", laid_yardarm_history_most)], narrowed := true }
def HistoryAnewUptoSaid : Prop := historyAnewUptoRow.holds Tryd.pinned (OpenSpec.upto historyAnewSpec)

/-- 'yardarmlaw11.HistoryEnds', WHERE WHAT IT READS IS OF BULK AT MOST 1048576: true; the input reads as it did. -/
def historyEndsUptoRow : OpenClaim := { program := "ytlnbmmaminflcaadoor", sum := "429b21aa543cd81bee482fa91c99c464e6b61b7a2be367ac9a17d48c8c8f4b71", func := "yardarm/yardarmlaw11.HistoryEnds", spec := "historyEnds", inPlace := ["internal/abi.NoEscape", "internal/bytealg.MakeNoZero"], unfollowed := true, recurses := true, named := ["yardarm/history.most", "yardarm/level.words"], plainKeys := false, apart := false, laid := [("yardarm/level.words", laid_yardarm_level_words), ("yardarm/history.most", laid_yardarm_history_most)], narrowed := true }
def HistoryEndsUptoSaid : Prop := historyEndsUptoRow.holds Tryd.pinned (OpenSpec.upto historyEndsSpec)

end Rows
end Go.Proofs.YtlnbmmaminflcaaDoor
