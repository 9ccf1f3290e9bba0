/- Layer digit: plus and narrow, spelled as they stand in calls. -/
import Derived.Test.YthccgpjbchlocaaDoorDa
namespace Go.Proofs.YthccgpjbchlocaaDoor
open Go.RowKit

theorem plus_raw (x y : Int) (w : World) :
    Calls Tryd.prog 74 #[.agg #[.int .u64 (lo64 (hi64 x)), .int .u64 (lo64 x)], .agg #[.int .u64 (lo64 (hi64 y)), .int .u64 (lo64 y)]] w fun e w' => e = .returned (.agg #[.int .u64 (lo64 (hi64 (x + y))), .int .u64 (lo64 (x + y))]) ∧ Below w.heap.size w w' := plus_wide x y w
theorem narrow_raw (z : Int) (hz : in128 z) (w : World) :
    Calls Tryd.prog 72 #[.agg #[.int .u64 (lo64 (hi64 z)), .int .u64 (lo64 z)]] w fun e w' => e = .returned (.tuple #[.int .i64 (fitN z), .bool (fitB z)]) ∧ Below w.heap.size w w' := narrow_wide z hz w

def sumE (z : Int) : Int := if fitB z = true then 0 else 111

theorem sum_step (l : List Int) (k : Nat) (h : k < l.length) : (l.take (k + 1)).sum = (l.take k).sum + l.getD k 0 := by
  rw [List.take_succ_eq_append_getElem h, List.sum_append]
  simp [h]

theorem two_cells (w : World) (n : Nat) (x y : Value) {p q : Value} (e0 : w.cell? ⟨n, 0, none⟩ = some p) (e1 : w.cell? ⟨n, 1, none⟩ = some q) :
    ((w.setCell ⟨n, 0, none⟩ x).setCell ⟨n, 1, none⟩ y).cell? ⟨n, 0, none⟩ = some x ∧ ((w.setCell ⟨n, 0, none⟩ x).setCell ⟨n, 1, none⟩ y).cell? ⟨n, 1, none⟩ = some y := by
  refine ⟨?_, ?_⟩
  · rw [World.cell?_setCell_other _ _ _ _ (by simp)]
    exact World.cell?_setCell_same _ _ _ e0
  · exact World.cell?_setCell_same _ _ _ ((World.cell?_setCell_other _ _ _ _ (by simp)).trans e1)

end Go.Proofs.YthccgpjbchlocaaDoor
