/- Layer digit: Sum of a slice that reads as a list; law DigitSum: its walk. -/
import Derived.Test.YtfbbjfjckaojeaaDoorDw
import Derived.Test.YtfbbjfjckaojeaaDoorWords
import Derived.OpenShut
namespace Go.Proofs.YtfbbjfjckaojeaaDoor
open Go.RowKit

/-- A list of numbers, as cells. -/
def ints (zs : List Int) : List Value := zs.map (Value.int .i64)
theorem ints_length (zs : List Int) : (ints zs).length = zs.length := by unfold ints; simp
def all64 (zs : List Int) : Prop := ∀ z ∈ zs, -9223372036854775808 ≤ z ∧ z ≤ 9223372036854775807

theorem sum_bd (zs : List Int) (h : all64 zs) : -(9223372036854775808 * (zs.length : Int)) ≤ zs.sum ∧ zs.sum ≤ 9223372036854775808 * (zs.length : Int) := by
  induction zs with
  | nil => simp
  | cons z zs ih =>
    have h1 := h z (by simp)
    have h2 := ih (fun y hy => h y (by simp [hy]))
    rw [List.sum_cons, List.length_cons]
    omega
theorem sum128 (zs : List Int) (h : all64 zs) (hl : zs.length ≤ 9223372036854775807) : in128 zs.sum := by
  have := sum_bd zs h
  unfold in128
  omega

theorem sumE_if (z : Int) : sumE z = if fitB z = true then 0 else 111 := rfl

theorem sum_reads (A : Option Addr) (n c : Nat) (zs : List Int) (h : all64 zs) (hn : n ≤ 9223372036854775807) (w : World) (hr : Reads w w.heap.size 1 A n (ints zs)) :
    Calls Tryd.prog 23 #[.slice A n c] w fun e w' => e = .returned (.tuple #[.int .i64 (fitN zs.sum), .int .i64 (sumE zs.sum)]) ∧ Below w.heap.size w w' := by
  have hl : zs.length = n := by have := hr.1; rw [ints_length] at this; omega
  rcases Nat.eq_zero_or_pos n with h0 | h0
  · subst h0
    have : zs = [] := List.eq_nil_of_length_eq_zero hl
    subst this
    exact sum_empty A c w
  · obtain ⟨ad, rfl, hb, hc⟩ := hr.2 h0
    have hc2 : ∀ i, i < zs.length → w.cell? (ad.add i) = some (.int .i64 (zs.getD i 0)) := fun i hi => hc i _ (by simp [ints, hi])
    obtain ⟨b, off, rfl, hc3⟩ := Go.ints_at hc2 (by omega)
    have := sum_at b off c zs (by omega) (fun i hi => by
      have hm : zs.getD i 0 ∈ zs := by simp [hi]
      exact h _ hm) w hb hc3 (fitB zs.sum) (sum128 zs h (by omega)) rfl
    rw [hl] at this
    exact this
end Go.Proofs.YtfbbjfjckaojeaaDoor
