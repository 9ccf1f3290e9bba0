/- The document's answers of layer digit (package yardarmref01): Fits, as a contract of the translated call. -/
import Derived.Test.YtfbbjfjckaojeaaDoorDad
namespace Go.Proofs.YtfbbjfjckaojeaaDoor
open Go.RowKit

def same5 (z n : Int) : Bool := dg n 0 == dg z 0 && (dg n 1 == dg z 1 && (dg n 2 == dg z 2 && (dg n 3 == dg z 3 && dg n 4 == dg z 4)))

set_option maxHeartbeats 1600000 in
theorem rfits_core (z n : Int) (b : Bool) (hn : wrap64 (dg z 1 * 4294967296 + dg z 0) = n) (hn0 : -9223372036854775808 ≤ n) (hn1 : n ≤ 9223372036854775807) (hb : Hid (same5 z n = b)) (w : World) :
    Calls Tryd.prog 20 #[.agg #[.int .u64 (dg z 0), .int .u64 (dg z 1), .int .u64 (dg z 2), .int .u64 (dg z 3), .int .u64 (dg z 4)]] w
      fun e w' => e = .returned (.tuple #[.int .i64 (if b = true then n else 0), .bool b]) ∧ Below w.heap.size w w' := by
  have HO := Lib.hid fun W => of_any n hn0 hn1 W
  have hz0 := dg_bd z 0
  have hz1 := dg_bd z 1
  have hq : ∀ W, (Op.equalIn 10000 38 (.agg #[.int .u64 (dg n 0), .int .u64 (dg n 1), .int .u64 (dg n 2), .int .u64 (dg n 3), .int .u64 (dg n 4)]) (.agg #[.int .u64 (dg z 0), .int .u64 (dg z 1), .int .u64 (dg z 2), .int .u64 (dg z 3), .int .u64 (dg z 4)])).run Tryd.prog W = .ok b W := fun W => by
    rw [run_eq5 9998]
    exact congrArg (fun x => Result.ok x W) hb.out
  clear hb
  go_enter Tryd.func20, Tryd.ntmps20
  go_wp2_with fail
  go_region_with (go_at_call 18; refine (HO.out _).mono ?_; rintro e w' ⟨rfl, hb⟩; obtain ⟨hc, hf⟩ := bcell hb)
  all_goals
    have hB : Below w.heap.size w w' := ((Below.refl _ _).alloc (Nat.le_refl _) _).drew.trans (hb.mono (by simp))
    clear hb hq
    cases b
    · go_wp2_with fail
      go_ret2
      exact ⟨rfl, hB⟩
    · go_wp2_with fail
      go_ret2
      exact ⟨rfl, hB⟩

theorem same5_fit {z : Int} (hz : in128 z) : same5 z (wrap64 (dg z 1 * 4294967296 + dg z 0)) = fitB z := by
  rw [low_two]
  have hz4 := fl4 hz.1 hz.2
  have hn0 : -9223372036854775808 ≤ wrap64 (z % 18446744073709551616) := by unfold wrap64; omega
  have hn1 : wrap64 (z % 18446744073709551616) ≤ 9223372036854775807 := by unfold wrap64; omega
  have hn4 := fl4 (z := wrap64 (z % 18446744073709551616)) (by omega) (by omega)
  cases hf : fitB z
  · have hne : wrap64 (z % 18446744073709551616) ≠ z := fun e => by
      rw [fitB_no] at hf
      rw [e] at hn0 hn1
      omega
    generalize wrap64 (z % 18446744073709551616) = n at *
    cases hs : same5 z n
    · rfl
    · unfold same5 at hs
      simp only [Bool.and_eq_true, beq_iff_eq] at hs
      exact absurd (dg_same hn4 hz4 hs.1 hs.2.1 hs.2.2.1 hs.2.2.2.1 hs.2.2.2.2) hne
  · have he : wrap64 (z % 18446744073709551616) = z := by
      rw [fitB_iff] at hf
      unfold wrap64
      omega
    rw [he]
    unfold same5
    simp

theorem rfits_any (z : Int) (hz : in128 z) (w : World) :
    Calls Tryd.prog 20 #[.agg #[.int .u64 (dg z 0), .int .u64 (dg z 1), .int .u64 (dg z 2), .int .u64 (dg z 3), .int .u64 (dg z 4)]] w
      fun e w' => e = .returned (.tuple #[.int .i64 (fitN z), .bool (fitB z)]) ∧ Below w.heap.size w w' := by
  have h := rfits_core z _ _ rfl (by unfold wrap64; omega) (by unfold wrap64; omega) (same5_fit hz) w
  cases hf : fitB z
  · rw [hf] at h
    rw [fitN_not hf]
    exact h
  · rw [hf] at h
    rw [fitN_of hf]
    have he : wrap64 (dg z 1 * 4294967296 + dg z 0) = z := by
      rw [low_two]
      rw [fitB_iff] at hf
      unfold wrap64
      omega
    rw [he] at h
    exact h
end Go.Proofs.YtfbbjfjckaojeaaDoor
