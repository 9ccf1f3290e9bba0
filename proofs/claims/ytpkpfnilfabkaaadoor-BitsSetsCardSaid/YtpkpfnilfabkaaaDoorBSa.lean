/- Layer bits: slices.Grow at rows of numbers: the shelf's contract laid at this program. -/
import Derived.Shelf.Spec.SlicesGrow
import Derived.Test.YtpkpfnilfabkaaaDoorBMa
namespace Go.Proofs
open Go.Shelf
shelf_lay_g Lays8.n4 Nm8 4 at Tryd 56 as Tryd.growI
namespace YtpkpfnilfabkaaaDoor
open Go.RowKit

theorem below_alloc_drew (w : World) (o : Obj) : Below w.heap.size w (w.drew.alloc o) := (below_drew' (Below.refl w.heap.size w)).alloc (Nat.le_refl _) o
theorem grow_nil (n : Nat) (hn : 0 < n) (hm : n ≤ 100000) (w : World) :
    Calls Tryd.prog 56 #[.slice none 0 0, .int .i64 n] w fun e w' => ∃ c, e = .returned (.slice (some ⟨w.heap.size, 0, none⟩) 0 c) ∧ w'.ownsRow w.heap.size 3 1 (.slice (some ⟨w.heap.size, 0, none⟩) 0 c) 0 [] ∧ Below w.heap.size w w' := by
  obtain ⟨i0, hi, hz0, hz1, hz2⟩ := info_parts i64_info
  refine (Any8.slices_Grow_grow Tryd.growI i0 (.int .i64 0) hi hz0 (by omega) none 0 0 n [] w (Nat.le_refl _) (by omega) (by rw [hz2]; omega) (by omega) (by simp) (fun _ => rfl) (fun _ h => by cases h)).mono fun e w' h => ?_
  obtain ⟨rfl, rfl⟩ := h
  refine ⟨_, rfl, ⟨by simp, Or.inr ⟨w.heap.size, _, _, rfl, Nat.le_refl _, (show (w.drew.alloc _).heap[w.heap.size]? = _ from Blk.new w.drew _ _), Nat.zero_le _, grownCap_le_maxLen w _ 0 _ (by unfold maxLen; omega), ?_, by simp⟩⟩, below_alloc_drew w _⟩
  have hge := grownCap_ge w n 0 (Tryd.growI_ren.t 25)
  simp only [Array.size_append, size_zeroCells, List.size_toArray, List.length_nil, Value.cells, Nat.mul_one]
  simp
  omega
end YtpkpfnilfabkaaaDoor
end Go.Proofs
