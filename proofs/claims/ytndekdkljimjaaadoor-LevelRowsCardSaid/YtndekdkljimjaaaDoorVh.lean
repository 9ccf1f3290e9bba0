/- Layer level: rows of numbers: the library's Equal and Clone at them, few: contracts. -/
import Derived.Test.YtndekdkljimjaaaDoorVe
import Derived.Test.YtndekdkljimjaaaDoorShelf
import Derived.Lib.SliceRun
import Derived.Deep.Matrix
namespace Go.Proofs.YtndekdkljimjaaaDoor
open Go.RowKit Go.Shelf

theorem eqi_any (A A2 : Option Addr) (n m c d : Nat) (xs ys : List Int) (hn : n ≤ 1000000) (hm : m ≤ 1000000) (w : World) (hR : Reads w w.heap.size 1 A n (ints xs)) (hR2 : Reads w w.heap.size 1 A2 m (ints ys)) :
    Calls Tryd.prog 21 #[.slice A n c, .slice A2 m d] w fun e w' => e = .returned (.bool (decide (xs = ys))) ∧ Below w.heap.size w w' := by
  have hl := ints_len hR
  have hl2 := ints_len hR2
  rcases Nat.eq_zero_or_pos n with h0 | h0
  · subst h0
    refine (Tryd.slices_Equal_int_empty A A2 c m d w (by omega)).mono ?_
    rintro e w' ⟨rfl, rfl⟩
    refine ⟨?_, Below.refl _ _⟩
    obtain rfl : xs = [] := List.eq_nil_of_length_eq_zero hl
    cases ys with
    | nil => simp at hl2; subst hl2; rfl
    | cons y ys => simp at hl2; have : ¬ m = 0 := by omega
                   simp [this]
  · by_cases hnm : n = m
    · subst hnm
      obtain ⟨b, o, rfl, hb, hc⟩ := reads_plain hR h0
      obtain ⟨b2, o2, rfl, hb2, hc2⟩ := reads_plain hR2 h0
      refine (Tryd.slices_Equal_int b o n c b2 o2 n d xs ys w (by omega) (by omega) (by omega) (by omega) (ints_get hc) (ints_get hc2)).mono ?_
      rintro e w' ⟨rfl, q, rfl⟩
      refine ⟨?_, below_drewN (Below.refl _ _) _⟩
      rw [List.take_of_length_le (by omega), List.take_of_length_le (by omega)]
      have : (xs == ys) = decide (xs = ys) := by rw [Bool.eq_iff_iff]; simp
      rw [this]
    · refine (Tryd.slices_Equal_int_lens A A2 n c m d w hnm).mono ?_
      rintro e w' ⟨rfl, rfl⟩
      refine ⟨?_, Below.refl _ _⟩
      have : ¬ xs = ys := fun e => hnm (by rw [← hl, ← hl2, e])
      simp [this]

theorem clone9_any (A : Option Addr) (n c : Nat) (zs : List Int) (hn : n ≤ 1000000) (w : World) (hR : Reads w w.heap.size 1 A n (ints zs)) :
    Calls Tryd.prog 31 #[.slice A n c] w (CopyE zs w) := by
  have hl := ints_len hR
  rcases Nat.eq_zero_or_pos n with h | h
  · subst h
    obtain rfl : zs = [] := List.eq_nil_of_length_eq_zero hl
    cases A with
    | none =>
      refine (Tryd.slices_Clone_int_nil 0 c w).mono ?_
      rintro e w' ⟨rfl, rfl⟩
      exact ⟨none, 0, 0, rfl, World.ownsRow_nil _ _ _ _, Below.refl _ _⟩
    | some ad =>
      refine (Tryd.slices_Clone_int_zero ad c w).mono ?_
      rintro e w' ⟨v', rfl, ho, _, hb⟩
      obtain ⟨A', c', rfl, h1, h2⟩ := own_form2 ho
      exact ⟨A', 0, c', rfl, ho, hb⟩
  · obtain ⟨b, o, rfl, hb, hc⟩ := reads_plain hR h
    refine (Tryd.slices_Clone_int b o n c zs w (by omega) (by omega) (ints_get hc)).mono ?_
    rintro e w' ⟨v', rfl, ho, _, hb⟩
    rw [List.take_of_length_le (by omega)] at ho
    obtain ⟨A', c', rfl, h1, h2⟩ := own_form2 ho
    exact ⟨A', n, c', rfl, ho, hb⟩

theorem elem9_size (W : World) : (sizeOf (Tryd.prog.elem 22)).run Tryd.prog W = .ok 1 W := by kernel_rfl
theorem slice9_h (A : Option Addr) (len cap h : Nat) (hh : h ≤ cap) (W : World) :
    (Instr.slice 22 (.slice A len cap) none (some (.int .i64 (h : Int))) none).run Tryd.prog W = .ok (.slice A h cap) W := by
  have e0 : Value.slice (if cap = 0 then A else A.map (·.add (0 * 1))) (h - 0) (cap - 0) = .slice A h cap := by
    have : (if cap = 0 then A else A.map (·.add (0 * 1))) = A := by
      split
      · rfl
      · cases A <;> simp [Addr.add]
    rw [this, Nat.sub_zero, Nat.sub_zero]
  rw [run_slice_h W 22 A len cap (show Tryd.prog.underlying 22 = some (.slice (Tryd.prog.elem 22)) by kernel_rfl) .i64 h (by omega) (by omega), elem9_size]
  exact congrArg (fun v => Result.ok v W) e0

set_option maxHeartbeats 1000000 in
theorem few_any (A : Option Addr) (n c : Nat) (zs : List Int) (hnc : n ≤ c) (hcm : c ≤ 9223372036854775807) (w : World) (hR : Reads w w.heap.size 1 A n (ints zs)) :
    Calls Tryd.prog 19 #[.slice A n c] w (CopyE (zs.take 40) w) := by
  have hl := ints_len hR
  have hmin : min (n : Int) 40 = ((min n 40 : Nat) : Int) := by omega
  have hq : min n 40 ≤ n ∧ min n 40 ≤ 40 := by omega
  have HC := Lib.hid (clone9_any A (min n 40) c (zs.take (min n 40)) (by omega) w (reads_cut hR hq.1))
  have e40 : zs.take (min n 40) = zs.take 40 := by
    rcases Nat.le_total n 40 with h | h
    · rw [Nat.min_eq_left h, List.take_of_length_le (by omega), List.take_of_length_le (by omega)]
    · rw [Nat.min_eq_right h]
  rw [e40] at HC
  have hsl := fun W => slice9_h A n c (min n 40) (by omega) W
  generalize min n 40 = q at *
  clear hR hl e40
  go_enter Tryd.func19, Tryd.ntmps19
  go_wp2_with fail
  refine HC.out.mono ?_
  rintro e w1 ⟨A1, n1, c1, rfl, h1⟩
  have HE := Lib.hid h1
  clear h1
  go_wp2_with fail
  go_ret
  exact ⟨A1, n1, c1, rfl, HE.out⟩
end Go.Proofs.YtndekdkljimjaaaDoor
