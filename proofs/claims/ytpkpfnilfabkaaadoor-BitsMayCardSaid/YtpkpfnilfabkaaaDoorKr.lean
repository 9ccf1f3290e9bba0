/- The rows' frame: an argument of rows of numbers. -/
import Derived.Test.YtpkpfnilfabkaaaDoorKb
import Derived.Test.YtpkpfnilfabkaaaDoorBMa
import Derived.Deep.Matrix
namespace Go.Proofs.YtpkpfnilfabkaaaDoor
open Go.ChangeShapes Go.WideShapes Go.ChangeAt Go.RowKit Go.Joins Go.Deep

theorem cellsRow : Tryd.prog.cellsOf 28 = 1 := by kernel_rfl
theorem cellsInt : Tryd.prog.cellsOf 3 = 1 := by kernel_rfl
theorem open_rows {H : Type} {enc : TypeId × Value → H} {W : World} {base : Nat} {v : Value} {d : DataW H} {p : List MemPlace}
    (hv : Value.okWide Tryd.prog W .any base 25 v) (h : DataW.Trod enc Tryd.prog W 0 (fun _ => true) true 25 v d p) :
    ∃ (A : Option Addr) (n c : Nat) (rs : List Row), v = .slice A n c ∧ True ∧ RowsAt W W.heap.size A n rs ∧ n ≤ c ∧ c ≤ 9223372036854775807 := by
  obtain ⟨a0, len, cap, rfl⟩ := okWide_slice Tryd.underlying25 hv
  obtain ⟨fuel, hf⟩ := h
  rcases open_int_rows Tryd.underlying25 Tryd.underlying28 Tryd.underlying3 cellsRow cellsInt hf with ⟨hcs, hx⟩ | ⟨a, len', cap', A, L, C, Z, hcs, _, hl, hm, hx, hrows⟩
  · injection hcs with hcs
    injection hcs with h1 h2 h3
    subst h1; subst h2; subst h3
    exact ⟨none, 0, 0, [], rfl, trivial, ⟨Reads.none_, fun r hr => by simp at hr⟩, Nat.le_refl _, by decide⟩
  · injection hcs with hcs
    injection hcs with h1 h2 h3
    subst h1; subst h2; subst h3
    refine ⟨some a, len, cap, (List.range len).map fun r => ⟨A r, L r, C r, (Z r).take (L r)⟩, rfl, trivial, ⟨⟨by unfold rowCells; simp, fun h0 => ⟨a, rfl, ?_, fun j u hu => ?_⟩⟩, fun r hr => ?_⟩, hl, hm⟩
    · have := cell_lt (hrows 0 (by omega)).1
      rwa [block_of_add] at this
    · have hj : j < len := by
        have := (List.getElem?_eq_some_iff.1 hu).1
        unfold rowCells at this
        simpa using this
      rw [(hrows j (by omega)).1, ← hu]
      unfold rowCells
      rw [List.map_map, List.getElem?_map, List.getElem?_range hj]
      rfl
    · obtain ⟨q, hq, rfl⟩ := List.mem_map.1 hr
      have hq' : q < len := by simpa using hq
      obtain ⟨_, hLC, hCm, hZ, hwf, hnone, hcells⟩ := hrows q (by omega)
      refine ⟨⟨by rw [ints_length, List.length_take, Nat.min_eq_left (by omega)]; exact (Nat.mul_one _).symm, fun h0 => ?_⟩, hLC, hCm, fun z hz => bounds_i64 (hwf z (List.mem_of_mem_take hz))⟩
      have h0' : 0 < L q := h0
      cases hAq : A q with
      | none => have := hnone hAq; omega
      | some a' =>
        have hcl := (hcells a' hAq).2
        refine ⟨a', rfl, ?_, fun j u hu => ?_⟩
        · have := cell_lt (hcl 0 (by omega))
          rwa [block_of_add] at this
        · have hj : j < L q := by
            have := (List.getElem?_eq_some_iff.1 hu).1
            rw [ints_length, List.length_take] at this
            omega
          rw [hcl j (by omega), ← hu]
          simp [ints, hj, List.getElem?_eq_getElem (show j < (Z q).length by omega)]
end Go.Proofs.YtpkpfnilfabkaaaDoor
