/- Rows of numbers as the library's sorts leave them: numbers sorted; rows sorted by their first numbers. -/
import Derived.Sort.OwnSortedInts
import Derived.Shelf.SlSortCmp.Whole1
import Derived.Ground.SlsfProg
import Derived.Shelf.Lay
import Derived.Test.YtpjbgbgahjggiaaGreatMS13
import Derived.Test.YtpjbgbgahjggiaaGreatMS5
-- holds: YtpjbgbgahjggiaaGreatCze
namespace Go.Proofs
shelf_lay_g SlLaysF.n6 Slsf 6 at Tryz 27 as Tryz.sortRows
end Go.Proofs
namespace Go.Proofs.YtpjbgbgahjggiaaGreat
open Go.RowKit Go.Shelf Go.Sort

section
variable {α : Type} [Inhabited α]
theorem heap_sortedA (enc : α → Value) {w : World} {g n : Nat} {os : Array Obj} {cur : Array Value} {e : TypeId} (d : Array α) (hb : Blk w g e cur) :
    Blk (grow (putRow enc (Sort.ahead w n) g 0 d) os) g e (putCells enc 0 d cur) := by
  have hg : g < w.heap.size := hb.lt
  unfold Blk at hb ⊢
  rw [heap_grow_old _ _ (by simpa [putRow, mapBlock, Sort.ahead] using hg)]
  simp [putRow, mapBlock, Sort.ahead, Array.getElem?_modify, hb, onCells]
theorem grownBy_sortedA (enc : α → Value) {w : World} {g n : Nat} {os : Array Obj} (d : Array α) : w.grownBy (grow (putRow enc (Sort.ahead w n) g 0 d) os) (some g) := by
  refine ⟨rfl, rfl, rfl, by simp [grow, putRow, mapBlock, Sort.ahead], fun k hk hne => ?_⟩
  rw [heap_grow_old _ _ (by simpa [putRow, mapBlock, Sort.ahead] using hk)]
  have : g ≠ k := fun e => hne (by rw [e])
  simp [putRow, mapBlock, Sort.ahead, Array.getElem?_modify, this]
theorem take_putCellsA (enc : α → Value) (cur : Array Value) (d : Array α) (h : d.size ≤ cur.size) : (putCells enc 0 d cur).toList.take d.size = d.toList.map enc := by
  apply List.ext_getElem?
  intro j
  by_cases hj : j < d.size
  · rw [List.getElem?_take_of_lt hj, Array.getElem?_toList]
    simp [putCells, hj, show j < cur.size by omega]
  · rw [List.getElem?_take_eq_none (by omega), List.getElem?_eq_none (by simp; omega)]
end

/-- Numbers in a block of one's own, sorted by the library. -/
theorem isort_any {g cap : Nat} {c : List Int} {W : World} (hb : Blk W g 3 (ints c).toArray) (hl : c.length ≤ 1000) :
    Calls Tryz.prog 26 #[.slice (some ⟨g, 0, none⟩) c.length cap] W fun e W' => e = .returned (.tuple #[]) ∧ Blk W' g 3 (ints (srtI c)).toArray ∧ W.grownBy W' (some g) := by
  refine (Tryz.slices_Sort_int g 0 cap c W (holds_of_blockI hb (by rw [List.take_of_length_le (show (ints c).toArray.toList.length ≤ c.length by simp [ints])]; rfl)) hb.lt (by omega)).mono ?_
  rintro e W' ⟨rfl, n, os, rfl⟩
  refine ⟨rfl, ?_, grownBy_sortedA _ _⟩
  have h1 := heap_sortedA (n := n) (os := os) (Value.int .i64) (srtI c).toArray hb
  have hl2 : (srtI c).length = c.length := List.length_mergeSort _
  have e1 : putCells (Value.int .i64) 0 (srtI c).toArray (ints c).toArray = (ints (srtI c)).toArray := by
    have h2 := take_putCellsA (Value.int .i64) (ints c).toArray (srtI c).toArray (by simp [ints, hl2])
    have h3 : (putCells (Value.int .i64) 0 (srtI c).toArray (ints c).toArray).toList.length = (srtI c).toArray.size := by simp [putCells, ints, hl2]
    rw [← h3, List.take_length] at h2
    rw [← Array.toArray_toList (xs := putCells _ _ _ _), h2]
    rfl
  rw [e1] at h1
  exact h1
end Go.Proofs.YtpjbgbgahjggiaaGreat
