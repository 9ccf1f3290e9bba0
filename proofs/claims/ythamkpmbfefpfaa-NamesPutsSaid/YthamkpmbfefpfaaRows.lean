/-
  No cell of these rows narrows 'for every input' (looked for: loops, veiled, ifaces, maps, wideKeys, modest, calm, conditions, laid).
  DERIVED. THE GIVEN ROWS OF THIS SEAT. 5 by the template 'for every input the law returns true; each argument reads behind the call as it read before'; 0 by the template 'total and deterministic' (their statements: YthamkpmbfefpfaaTotals.lean).
  GIVEN WITH THE SEED: the statements are not yours to turn. If you find one false, say at which input.
  Laid BY PROGRAM, IN A SANDBOX (cutbox-rows.mjs): the forced cells as the released guide's own fill.sh prints them over the translation 82ee262e49b282cd… (all of the seat's roots in one cut). By AI agents, Wed Nov 11 2026. No macro, syntax, notation, axiom, sorry.
-/
import Derived.Test.YthamkpmbfefpfaaChecked
import GoSem.Claim
import GoSem.ClaimJoined
import GoSem.ClaimMapViews
import Derived.JoinedTies
import Derived.KernelRfl
namespace Go.Proofs.Ythamkpmbfefpfaa
/- THE CELL 'sum', in the pinned program and in every row, IS THE sha256 OF THE DUMP (.gsa) THAT YthamkpmbfefpfaaProg.lean LOADS. Nothing in Lean hashes anything: it is a label: what it is worth is what the hold of that sum in a sandbox is worth. -/
noncomputable def Try.pinned : Pinned := { name := "ythamkpmbfefpfaa", sum := "82ee262e49b282cd905d40a61f689c5f1c00ca72eb1a5a9f596703922ec1bd00", checked := Try.checked }
namespace Rows
def none {H : Type} : Left H := { results := [], args := [] }

/-- 'yardarmlaw10.NamesMay': WHATEVER THE INPUT: true; the input reads as it did. -/
def namesMaySpec : ChangeSpec := { name := "namesMay", fn := fun _ => fun
  | [d1, d2, d3] => { results := [.lit (.bool true)], args := [d1, d2, d3] }
  | _ => none }
def namesMayRow : OpenClaim := { program := "ythamkpmbfefpfaa", sum := "82ee262e49b282cd905d40a61f689c5f1c00ca72eb1a5a9f596703922ec1bd00", func := "yardarm/yardarmlaw10.NamesMay", spec := "namesMay", unfollowed := true, recurses := true, apart := false }
def NamesMaySaid : Prop := namesMayRow.holds Try.pinned (OpenSpec.ofChange namesMaySpec)

/-- ITS FALSE NEIGHBOUR: 'it returns false'. Refute it at one input. -/
def namesMayWrong : ChangeSpec := { name := "namesMay", fn := fun _ => fun
  | [d1, d2, d3] => { results := [.lit (.bool false)], args := [d1, d2, d3] }
  | _ => none }
def NamesMayWrongFalsely : Prop := namesMayRow.holds Try.pinned (OpenSpec.ofChange namesMayWrong)

/-- 'yardarmlaw10.NamesPuts': WHATEVER THE INPUT: true; the input reads as it did. -/
def namesPutsSpec : ChangeSpec := { name := "namesPuts", fn := fun _ => fun
  | [d1, d2, d3] => { results := [.lit (.bool true)], args := [d1, d2, d3] }
  | _ => none }
def namesPutsRow : OpenClaim := { program := "ythamkpmbfefpfaa", sum := "82ee262e49b282cd905d40a61f689c5f1c00ca72eb1a5a9f596703922ec1bd00", func := "yardarm/yardarmlaw10.NamesPuts", spec := "namesPuts", unfollowed := true, recurses := true, apart := false }
def NamesPutsSaid : Prop := namesPutsRow.holds Try.pinned (OpenSpec.ofChange namesPutsSpec)

/-- ITS FALSE NEIGHBOUR: 'it returns false'. Refute it at one input. -/
def namesPutsWrong : ChangeSpec := { name := "namesPuts", fn := fun _ => fun
  | [d1, d2, d3] => { results := [.lit (.bool false)], args := [d1, d2, d3] }
  | _ => none }
def NamesPutsWrongFalsely : Prop := namesPutsRow.holds Try.pinned (OpenSpec.ofChange namesPutsWrong)

/-- 'yardarmlaw10.NamesAll': WHATEVER THE INPUT: true; the input reads as it did. -/
def namesAllSpec : ChangeSpec := { name := "namesAll", fn := fun _ => fun
  | [d] => { results := [.lit (.bool true)], args := [d] }
  | _ => none }
def namesAllRow : OpenClaim := { program := "ythamkpmbfefpfaa", sum := "82ee262e49b282cd905d40a61f689c5f1c00ca72eb1a5a9f596703922ec1bd00", func := "yardarm/yardarmlaw10.NamesAll", spec := "namesAll", unfollowed := true, recurses := true, apart := false }
def NamesAllSaid : Prop := namesAllRow.holds Try.pinned (OpenSpec.ofChange namesAllSpec)

/-- ITS FALSE NEIGHBOUR: 'it returns false'. Refute it at one input. -/
def namesAllWrong : ChangeSpec := { name := "namesAll", fn := fun _ => fun
  | [d] => { results := [.lit (.bool false)], args := [d] }
  | _ => none }
def NamesAllWrongFalsely : Prop := namesAllRow.holds Try.pinned (OpenSpec.ofChange namesAllWrong)

/-- 'yardarmlaw10.NamesBack': WHATEVER THE INPUT: true; the input reads as it did. -/
def namesBackSpec : ChangeSpec := { name := "namesBack", fn := fun _ => fun
  | [d1, d2] => { results := [.lit (.bool true)], args := [d1, d2] }
  | _ => none }
def namesBackRow : OpenClaim := { program := "ythamkpmbfefpfaa", sum := "82ee262e49b282cd905d40a61f689c5f1c00ca72eb1a5a9f596703922ec1bd00", func := "yardarm/yardarmlaw10.NamesBack", spec := "namesBack", unfollowed := true, recurses := true, apart := false }
def NamesBackSaid : Prop := namesBackRow.holds Try.pinned (OpenSpec.ofChange namesBackSpec)

/-- ITS FALSE NEIGHBOUR: 'it returns false'. Refute it at one input. -/
def namesBackWrong : ChangeSpec := { name := "namesBack", fn := fun _ => fun
  | [d1, d2] => { results := [.lit (.bool false)], args := [d1, d2] }
  | _ => none }
def NamesBackWrongFalsely : Prop := namesBackRow.holds Try.pinned (OpenSpec.ofChange namesBackWrong)

/-- 'yardarmlaw10.NamesMoves': WHATEVER THE INPUT: true; the input reads as it did. -/
def namesMovesSpec : ChangeSpec := { name := "namesMoves", fn := fun _ => fun
  | [d1, d2, d3] => { results := [.lit (.bool true)], args := [d1, d2, d3] }
  | _ => none }
def namesMovesRow : OpenClaim := { program := "ythamkpmbfefpfaa", sum := "82ee262e49b282cd905d40a61f689c5f1c00ca72eb1a5a9f596703922ec1bd00", func := "yardarm/yardarmlaw10.NamesMoves", spec := "namesMoves", unfollowed := true, recurses := true, apart := false }
def NamesMovesSaid : Prop := namesMovesRow.holds Try.pinned (OpenSpec.ofChange namesMovesSpec)

/-- ITS FALSE NEIGHBOUR: 'it returns false'. Refute it at one input. -/
def namesMovesWrong : ChangeSpec := { name := "namesMoves", fn := fun _ => fun
  | [d1, d2, d3] => { results := [.lit (.bool false)], args := [d1, d2, d3] }
  | _ => none }
def NamesMovesWrongFalsely : Prop := namesMovesRow.holds Try.pinned (OpenSpec.ofChange namesMovesWrong)

/- THE SECOND FORM. 'bulk': how many values and letters a reading holds, each counted each time it is reached (what is shared counts as often as it is met; a slice's spare places count too). A statement '..UptoSaid' is the law's where the arguments, and the package variables that the reading takes, are together of bulk at most 1048576: NARROWER than '..Said'. Prove '..Said' where nothing that the law and all that it calls make is longer than what came in: it says more and counts as full. Else prove '..UptoSaid'. A law counts once. -/
mutual
def uptoBulk {H : Type} : DataW H → Nat
  | .lit (.string bytes) => bytes.length + 1
  | .lit _ => 1
  | .nil => 1
  | .ptr d => uptoBulk d + 1
  | .slice elems spare => uptoBulkAll elems + uptoBulkAll spare + 1
  | .agg parts => uptoBulkAll parts + 1
  | .iface _ d => uptoBulk d + 1
  | .map entries => uptoBulkEntries entries + 1
  | .held _ => 1
def uptoBulkAll {H : Type} : List (DataW H) → Nat
  | [] => 0
  | d :: r => uptoBulk d + uptoBulkAll r
def uptoBulkEntries {H : Type} : List (Lit × DataW H) → Nat
  | [] => 0
  | x :: r => uptoBulkEntry x + uptoBulkEntries r
def uptoBulkEntry {H : Type} : Lit × DataW H → Nat
  | (.string bytes, d) => bytes.length + uptoBulk d + 1
  | (_, d) => uptoBulk d + 1
 end
def uptoSmall : (H : Type) → List (DataW H) → Bool := fun _ ds => decide (uptoBulkAll ds ≤ 1048576)
def OpenSpec.upto (s : _root_.Go.ChangeSpec) : _root_.Go.OpenSpec := { _root_.Go.OpenSpec.ofChange s with cond := some uptoSmall }

/-- 'yardarmlaw10.NamesMay', WHERE WHAT IT READS IS OF BULK AT MOST 1048576: true; the input reads as it did. -/
def namesMayUptoRow : OpenClaim := { program := "ythamkpmbfefpfaa", sum := "82ee262e49b282cd905d40a61f689c5f1c00ca72eb1a5a9f596703922ec1bd00", func := "yardarm/yardarmlaw10.NamesMay", spec := "namesMay", unfollowed := true, recurses := true, apart := false, narrowed := true }
def NamesMayUptoSaid : Prop := namesMayUptoRow.holds Try.pinned (OpenSpec.upto namesMaySpec)

/-- 'yardarmlaw10.NamesPuts', WHERE WHAT IT READS IS OF BULK AT MOST 1048576: true; the input reads as it did. -/
def namesPutsUptoRow : OpenClaim := { program := "ythamkpmbfefpfaa", sum := "82ee262e49b282cd905d40a61f689c5f1c00ca72eb1a5a9f596703922ec1bd00", func := "yardarm/yardarmlaw10.NamesPuts", spec := "namesPuts", unfollowed := true, recurses := true, apart := false, narrowed := true }
def NamesPutsUptoSaid : Prop := namesPutsUptoRow.holds Try.pinned (OpenSpec.upto namesPutsSpec)

/-- 'yardarmlaw10.NamesAll', WHERE WHAT IT READS IS OF BULK AT MOST 1048576: true; the input reads as it did. -/
def namesAllUptoRow : OpenClaim := { program := "ythamkpmbfefpfaa", sum := "82ee262e49b282cd905d40a61f689c5f1c00ca72eb1a5a9f596703922ec1bd00", func := "yardarm/yardarmlaw10.NamesAll", spec := "namesAll", unfollowed := true, recurses := true, apart := false, narrowed := true }
def NamesAllUptoSaid : Prop := namesAllUptoRow.holds Try.pinned (OpenSpec.upto namesAllSpec)

/-- 'yardarmlaw10.NamesBack', WHERE WHAT IT READS IS OF BULK AT MOST 1048576: true; the input reads as it did. -/
def namesBackUptoRow : OpenClaim := { program := "ythamkpmbfefpfaa", sum := "82ee262e49b282cd905d40a61f689c5f1c00ca72eb1a5a9f596703922ec1bd00", func := "yardarm/yardarmlaw10.NamesBack", spec := "namesBack", unfollowed := true, recurses := true, apart := false, narrowed := true }
def NamesBackUptoSaid : Prop := namesBackUptoRow.holds Try.pinned (OpenSpec.upto namesBackSpec)

/-- 'yardarmlaw10.NamesMoves', WHERE WHAT IT READS IS OF BULK AT MOST 1048576: true; the input reads as it did. -/
def namesMovesUptoRow : OpenClaim := { program := "ythamkpmbfefpfaa", sum := "82ee262e49b282cd905d40a61f689c5f1c00ca72eb1a5a9f596703922ec1bd00", func := "yardarm/yardarmlaw10.NamesMoves", spec := "namesMoves", unfollowed := true, recurses := true, apart := false, narrowed := true }
def NamesMovesUptoSaid : Prop := namesMovesUptoRow.holds Try.pinned (OpenSpec.upto namesMovesSpec)

end Rows
end Go.Proofs.Ythamkpmbfefpfaa
