/- The rows' common frame where the table of bits is listed: what the listed table gives. -/
import Derived.Lib.LaidTab
import Derived.Lib.SmallJoins
import Derived.Lay
import Derived.Test.YtgbpaiffnhpafaaDoorCards
import Derived.Test.YtgbpaiffnhpafaaDoorTie
import Derived.Test.YtgbpaiffnhpafaaDoorM1
import Derived.Test.YtgbpaiffnhpafaaDoorM27
import Derived.Test.YtgbpaiffnhpafaaDoorM20
-- holds: YtgbpaiffnhpafaaDoorKp
namespace Go.Proofs.YtgbpaiffnhpafaaDoor
open Go.ChangeShapes Go.WideShapes Go.ChangeAt Go.RowKit Go.Joins Go.Deep

theorem gTab : Tryd.prog.globalNamed "math/bits.deBruijn64tab" = some 0 := by kernel_rfl
theorem gTabType : (Tryd.prog.globals[0]?).map (·.type) = some 144 := by kernel_rfl
theorem cellsTab : Tryd.prog.cellsOf 144 = 64 := by kernel_rfl
theorem cellsU8 : Tryd.prog.cellsOf 5 = 1 := by kernel_rfl

/-- What the rows list. -/
def laids : List (String × DataW Unit) := [("math/bits.deBruijn64tab", Rows.laid_math_bits_deBruijn64tab)]
def tab64 : List Int := Lib.deBruijn64tab.map fun x : Nat => (x : Int)
theorem laids_eq : laids = [("math/bits.deBruijn64tab", Lib.tabData .u8 tab64)] := by
  unfold laids
  rw [show (Rows.laid_math_bits_deBruijn64tab : DataW Unit) = Lib.tabData .u8 tab64 by kernel_rfl]
theorem tab_of {W : World} (h : laidMetH Tryd.prog laids W) : Bit.Tab W := by
  rw [MakeChecks.laidMetH_plain _ _ _ (by kernel_rfl), laids_eq] at h
  have ht := Lib.tabIs_of_head gTab gTabType Tryd.underlying144 Tryd.underlying5 cellsU8 cellsTab h
  unfold Lib.TabIs World.var? at ht
  rw [gTab, Option.bind_some] at ht
  have hlt : 0 < W.heap.size := by
    rcases Nat.lt_or_ge 0 W.heap.size with h' | h'
    · exact h'
    · rw [Array.getElem?_eq_none h'] at ht; simp at ht
  refine ⟨hlt, fun j hj => ?_⟩
  unfold World.cell?
  have hl : Lib.deBruijn64tab.length = 64 := by decide
  have htl : (tab64.map fun z => Value.int .u8 z).length = 64 := by unfold tab64; simp [hl]
  split at ht
  · rename_i cs t f hh
    cases ht
    simp only [hh]
    have hv : (tab64.map fun z => Value.int .u8 z)[j]? = some (.int .u8 (Lib.deBruijn64tab.getD j 0)) := by
      unfold tab64
      rw [List.map_map, List.getElem?_map, List.getD_eq_getElem?_getD, List.getElem?_eq_getElem hj]
      rfl
    simp [hv]
  · cases ht

end Go.Proofs.YtgbpaiffnhpafaaDoor
