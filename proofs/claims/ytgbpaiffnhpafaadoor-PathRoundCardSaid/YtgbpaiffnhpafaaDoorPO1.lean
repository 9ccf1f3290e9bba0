/- An argument of rows of numbers, and how rows are cut. -/
import Derived.Deep.Matrix
import Derived.Test.YtgbpaiffnhpafaaDoorU3
import Derived.Test.YtgbpaiffnhpafaaDoorM1
import Derived.Test.YtgbpaiffnhpafaaDoorM7
-- holds: YtgbpaiffnhpafaaDoorKs
namespace Go.Proofs.YtgbpaiffnhpafaaDoor
open Go.ChangeShapes Go.WideShapes Go.ChangeAt Go.RowKit Go.Deep

theorem t_elem_size (W : World) : (sizeOf (Tryd.prog.elem 30)).run Tryd.prog W = .ok 1 W := by kernel_rfl
theorem t_slice_h (A : Option Addr) (len cap h : Nat) (hh : h ≤ cap) (W : World) :
    (Instr.slice 30 (.slice A len cap) none (some (.int .i64 (h : Int))) none).run Tryd.prog W = .ok (.slice A h cap) W := by
  have e0 : Value.slice (if cap = 0 then A else A.map (·.add (0 * 1))) (h - 0) (cap - 0) = .slice A h cap := by
    have : (if cap = 0 then A else A.map (·.add (0 * 1))) = A := by
      split
      · rfl
      · cases A <;> simp [Addr.add]
    rw [this, Nat.sub_zero, Nat.sub_zero]
  rw [run_slice_h W 30 A len cap (show Tryd.prog.underlying 30 = some (.slice (Tryd.prog.elem 30)) by kernel_rfl) .i64 h (by omega) (by omega), t_elem_size]
  exact congrArg (fun v => Result.ok v W) e0
theorem reads_cut {w : World} {B n k : Nat} {A : Option Addr} {l : List Int} (h : Reads w B 1 A n (ints l)) (hk : k ≤ n) : Reads w B 1 A k (ints (l.take k)) := by
  have := reads_take h hk
  rwa [Nat.mul_one, show (ints l).take k = ints (l.take k) by simp [ints]] at this
/-- A row of rows of numbers. -/
structure Row7 where
  A : Option Addr
  n : Nat
  c : Nat
  l : List Int
def row7Cells (rs : List Row7) : List Value := rs.map fun r => .slice r.A r.n r.c
def Rows7 (w : World) (B : Nat) (A : Option Addr) (n : Nat) (rs : List Row7) : Prop :=
  Reads w B 1 A n (row7Cells rs) ∧ ∀ r ∈ rs, Reads w B 1 r.A r.n (ints r.l) ∧ r.n ≤ r.c ∧ r.c ≤ 9223372036854775807
theorem Rows7.below {w w' : World} {B n : Nat} {A : Option Addr} {rs : List Row7} (h : Rows7 w B A n rs) (hb : Below B w w') : Rows7 w' B A n rs :=
  ⟨Reads.below h.1 hb, fun r hr => ⟨(h.2 r hr).1.below hb, (h.2 r hr).2⟩⟩
theorem Rows7.len {w : World} {B n : Nat} {A : Option Addr} {rs : List Row7} (h : Rows7 w B A n rs) : rs.length = n := by
  have := h.1.1
  unfold row7Cells at this
  simp at this; omega
theorem Rows7.at_ {w : World} {B n k : Nat} {A : Option Addr} {rs : List Row7} (h : Rows7 w B A n rs) (hk : k < n) :
    ∃ (b o : Nat) (r : Row7), A = some ⟨b, o, none⟩ ∧ b < B ∧ w.cell? ⟨b, o + k, none⟩ = some (.slice r.A r.n r.c) ∧ Reads w B 1 r.A r.n (ints r.l) ∧ r.n ≤ r.c ∧ r.c ≤ 9223372036854775807 := by
  have hl := h.len
  obtain ⟨b, o, hA, hlt, hc⟩ := reads_plain h.1 (by omega)
  obtain ⟨r, hr⟩ : ∃ r, rs[k]? = some r := ⟨_, List.getElem?_eq_getElem (by omega)⟩
  have hcell := hc k (.slice r.A r.n r.c) (by unfold row7Cells; rw [List.getElem?_map, hr]; rfl)
  exact ⟨b, o, r, hA, hlt, hcell, h.2 r (List.mem_of_getElem? hr)⟩
theorem cellsRow7 : Tryd.prog.cellsOf 30 = 1 := by kernel_rfl
theorem cellsInt7 : Tryd.prog.cellsOf 3 = 1 := by kernel_rfl
set_option maxRecDepth 100000 in
theorem open_rows7 {H : Type} {enc : TypeId × Value → H} {W : World} {base : Nat} {v : Value} {d : DataW H} {p : List MemPlace}
    (hv : Value.okWide Tryd.prog W .any base 46 v) (h : DataW.Trod enc Tryd.prog W 0 (fun _ => true) true 46 v d p) :
    ∃ (A : Option Addr) (n c : Nat) (rs : List Row7), v = .slice A n c ∧ True ∧ Rows7 W W.heap.size A n rs ∧ n ≤ c ∧ c ≤ 9223372036854775807 := by
  obtain ⟨a0, len, cap, rfl⟩ := okWide_slice Tryd.underlying46 hv
  obtain ⟨fuel, hf⟩ := h
  rcases open_int_rows Tryd.underlying46 Tryd.underlying30 Tryd.underlying3 cellsRow7 cellsInt7 hf with ⟨hcs, hx⟩ | ⟨a, len', cap', A, L, C, Z, hcs, _, hl, hm, hx, hrows⟩
  · injection hcs with hcs
    injection hcs with h1 h2 h3
    subst h1; subst h2; subst h3
    exact ⟨none, 0, 0, [], rfl, trivial, ⟨Reads.none_, fun r hr => by simp at hr⟩, Nat.le_refl _, by decide⟩
  · injection hcs with hcs
    injection hcs with h1 h2 h3
    subst h1; subst h2; subst h3
    refine ⟨some a, len, cap, (List.range len).map fun r => ⟨A r, L r, C r, (Z r).take (L r)⟩, rfl, trivial, ⟨⟨by unfold row7Cells; simp, fun h0 => ⟨a, rfl, ?_, fun j u hu => ?_⟩⟩, fun r hr => ?_⟩, hl, hm⟩
    · have := cell_lt (hrows 0 (by omega)).1
      rwa [block_of_add] at this
    · have hj : j < len := by
        have := (List.getElem?_eq_some_iff.1 hu).1
        unfold row7Cells at this
        simpa using this
      rw [(hrows j (by omega)).1, ← hu]
      unfold row7Cells
      rw [List.map_map, List.getElem?_map, List.getElem?_range hj]
      rfl
    · obtain ⟨q, hq, rfl⟩ := List.mem_map.1 hr
      have hq' : q < len := by simpa using hq
      obtain ⟨_, hLC, hCm, hZ, hwf, hnone, hcells⟩ := hrows q (by omega)
      refine ⟨⟨by rw [ints_length, List.length_take, Nat.min_eq_left (by omega)]; exact (Nat.mul_one _).symm, fun h0 => ?_⟩, hLC, hCm⟩
      have h0' : 0 < L q := h0
      cases hAq : A q with
      | none => have := hnone hAq; omega
      | some a' =>
        have hcl := (hcells a' hAq).2
        refine ⟨a', rfl, ?_, fun j u hu => ?_⟩
        · have := cell_lt (hcl 0 (by omega))
          rwa [block_of_add] at this
        · have hj : j < L q := by
            have := (List.getElem?_eq_some_iff.1 hu).1
            rw [ints_length, List.length_take] at this
            omega
          rw [hcl j (by omega), ← hu]
          simp [ints, hj, List.getElem?_eq_getElem (show j < (Z q).length by omega)]
end Go.Proofs.YtgbpaiffnhpafaaDoor

namespace Go.Proofs.YtgbpaiffnhpafaaDoor
open Go.RowKit Go.Shelf

/-- A copy, in memory of its own. -/
def CopyI (xs : List Int) (w : World) (e : Ending) (w' : World) : Prop :=
  ∃ (A : Option Addr) (c : Nat), e = .returned (.slice A xs.length c) ∧ Reads w' w'.heap.size 1 A xs.length (ints xs) ∧ Below w.heap.size w w'
theorem clone7_any (A : Option Addr) (n c : Nat) (zs : List Int) (hn : n ≤ 1000000) (w : World) (hR : Reads w w.heap.size 1 A n (ints zs)) :
    Calls Tryd.prog 23 #[.slice A n c] w (CopyI zs w) := by
  have hl := ints_len hR
  rcases Nat.eq_zero_or_pos n with h | h
  · subst h
    obtain rfl : zs = [] := List.eq_nil_of_length_eq_zero hl
    cases A with
    | none =>
      refine (Tryd.slices_Clone_int_nil 0 c w).mono ?_
      rintro e w' ⟨rfl, rfl⟩
      exact ⟨none, 0, rfl, Reads.none_, Below.refl _ _⟩
    | some ad =>
      refine (Tryd.slices_Clone_int_zero ad c w).mono ?_
      rintro e w' ⟨v', rfl, ho, _, hb⟩
      obtain ⟨A', c', rfl, h1, h2⟩ := own_form2 ho
      exact ⟨A', c', rfl, Reads.of_own ho, hb⟩
  · obtain ⟨b, o, rfl, hb, hc⟩ := reads_plain hR h
    refine (Tryd.slices_Clone_int b o n c zs w (by omega) (by omega) (ints_get hc)).mono ?_
    rintro e w' ⟨v', rfl, ho, _, hb⟩
    rw [List.take_of_length_le (by omega)] at ho
    obtain ⟨A', c', rfl, h1, h2⟩ := own_form2 ho
    subst hl
    exact ⟨A', c', rfl, Reads.of_own ho, hb⟩

end Go.Proofs.YtgbpaiffnhpafaaDoor
