/- Layer digit: what Sum gives, as a contract of the translated call. -/
import Derived.Test.YtfbbjfjckaojeaaDoorDa
namespace Go.Proofs.YtfbbjfjckaojeaaDoor
open Go.RowKit

theorem plus_raw (x y : Int) (w : World) :
    Calls Tryd.prog 32 #[.agg #[.int .u64 (lo64 (hi64 x)), .int .u64 (lo64 x)], .agg #[.int .u64 (lo64 (hi64 y)), .int .u64 (lo64 y)]] w fun e w' => e = .returned (.agg #[.int .u64 (lo64 (hi64 (x + y))), .int .u64 (lo64 (x + y))]) ∧ Below w.heap.size w w' := plus_wide x y w
theorem narrow_raw (z : Int) (hz : in128 z) (w : World) :
    Calls Tryd.prog 33 #[.agg #[.int .u64 (lo64 (hi64 z)), .int .u64 (lo64 z)]] w fun e w' => e = .returned (.tuple #[.int .i64 (fitN z), .bool (fitB z)]) ∧ Below w.heap.size w w' := narrow_wide z hz w

def sumE (z : Int) : Int := if fitB z = true then 0 else 111

theorem sum_step (l : List Int) (k : Nat) (h : k < l.length) : (l.take (k + 1)).sum = (l.take k).sum + l.getD k 0 := by
  rw [List.take_succ_eq_append_getElem h, List.sum_append]
  simp [h]

theorem two_cells (w : World) (n : Nat) (x y : Value) {p q : Value} (e0 : w.cell? ⟨n, 0, none⟩ = some p) (e1 : w.cell? ⟨n, 1, none⟩ = some q) :
    ((w.setCell ⟨n, 0, none⟩ x).setCell ⟨n, 1, none⟩ y).cell? ⟨n, 0, none⟩ = some x ∧ ((w.setCell ⟨n, 0, none⟩ x).setCell ⟨n, 1, none⟩ y).cell? ⟨n, 1, none⟩ = some y := by
  refine ⟨?_, ?_⟩
  · rw [World.cell?_setCell_other _ _ _ _ (by simp)]
    exact World.cell?_setCell_same _ _ _ e0
  · exact World.cell?_setCell_same _ _ _ ((World.cell?_setCell_other _ _ _ _ (by simp)).trans e1)

set_option maxHeartbeats 400000 in
theorem sum_empty (p : Option Addr) (cap : Nat) (w : World) :
    Calls Tryd.prog 23 #[.slice p 0 cap] w fun e w' => e = .returned (.tuple #[.int .i64 (fitN 0), .int .i64 (sumE 0)]) ∧ Below w.heap.size w w' := by
  have H4 := Lib.hid fun W => narrow_raw 0 (by unfold in128; omega) W
  have hz : Value.agg #[.int .u64 (lo64 (hi64 0)), .int .u64 (lo64 0)] = .agg #[.int .u64 0, .int .u64 0] := rfl
  rw [hz] at H4
  clear hz
  have hp : Ending.returned (.tuple #[.int .i64 (fitN 0), .int .i64 (sumE 0)]) = .returned (.tuple #[.int .i64 0, .int .i64 0]) := rfl
  rw [hp]
  clear hp
  have hq : fitB 0 = true := rfl
  have hq2 : fitN 0 = 0 := rfl
  rw [hq, hq2] at H4
  clear hq hq2
  go_enter Tryd.func23, Tryd.ntmps23
  go_wp2_with fail
  go_loopw [12] (fun i wr => i = .int .i64 0 ∧ wr = w.alloc (.cells #[.int .u64 0, .int .u64 0] 58)) (fun i wr => 0)
  case atStart => exact ⟨rfl, rfl⟩
  case round =>
    obtain ⟨rfl, rfl⟩ := hrel
    go_wp2_with fail
    refine (H4.out _).mono ?_
    rintro e w4 ⟨rfl, b4⟩
    go_wp2_with fail
    go_ret2
    exact ⟨rfl, ((Below.refl _ _).alloc (Nat.le_refl _) _).trans (b4.mono (by simp))⟩

set_option maxHeartbeats 400000 in
theorem sum_at (b off cap : Nat) (zs : List Int) (hn : zs.length ≤ 9223372036854775807) (hb : ∀ i, i < zs.length → -9223372036854775808 ≤ zs.getD i 0 ∧ zs.getD i 0 ≤ 9223372036854775807)
    (w : World) (hlt : b < w.heap.size) (hc : ∀ i, i < zs.length → w.cell? ⟨b, off + i, none⟩ = some (.int .i64 (zs.getD i 0))) (bv : Bool) (hz : in128 zs.sum) (hbv : fitB zs.sum = bv) :
    Calls Tryd.prog 23 #[.slice (some ⟨b, off, none⟩) zs.length cap] w fun e w' => e = .returned (.tuple #[.int .i64 (fitN zs.sum), .int .i64 (if bv = true then 0 else 111)]) ∧ Below w.heap.size w w' := by
  have H2 := Lib.hid fun i hi W => widen_raw (zs.getD i 0) (hb i hi).1 (hb i hi).2 W
  have H3 := Lib.hid fun x y W => plus_raw x y W
  have H4 := Lib.hid fun W => narrow_raw zs.sum hz W
  have HC := Lib.hid hc
  rw [hbv] at H4
  have HF := Lib.hid fun h : bv = false => fitN_not (hbv.trans h)
  clear hz hc hb hbv
  go_enter Tryd.func23, Tryd.ntmps23
  go_wp2_with fail
  go_loopw [12] (fun i wr => ∃ k : Nat, k ≤ zs.length ∧ i = .int .i64 k ∧ Below w.heap.size w wr ∧ w.heap.size < wr.heap.size ∧
      wr.cell? ⟨w.heap.size, 0, none⟩ = some (.int .u64 (lo64 (hi64 (zs.take k).sum))) ∧ wr.cell? ⟨w.heap.size, 1, none⟩ = some (.int .u64 (lo64 (zs.take k).sum)) ∧
      wr.frozen? ⟨w.heap.size, 0, none⟩ = false ∧ wr.frozen? ⟨w.heap.size, 1, none⟩ = false) (fun i wr => zs.length - (intOf i).toNat)
  case atStart => exact ⟨0, Nat.zero_le _, rfl, (Below.refl _ _).alloc (Nat.le_refl _) _, by simp, by simp; rfl, by simp; rfl, by simp, by simp⟩
  case round =>
    obtain ⟨k, hk, rfl, hB, hsz, c0, c1, f0, f1⟩ := hrel
    by_cases hlt2 : k < zs.length
    · obtain ⟨x, hx⟩ : ∃ x, x = zs.getD k 0 := ⟨_, rfl⟩
      have hce : wr.cell? ⟨b, off + k, none⟩ = some (.int .i64 x) := by rw [hx]; exact (hB.cell (p := ⟨b, off + k, none⟩) hlt).trans (HC.out k hlt2)
      have W1 := Lib.hid (H2.out k hlt2)
      rw [← hx] at W1
      have hst : (zs.take (k + 1)).sum = (zs.take k).sum + x := by rw [hx]; exact sum_step zs k hlt2
      have HST := Lib.hid hst
      clear hst hx
      generalize (zs.take k).sum = s at *
      go_wp2_with fail
      go_region_with (first
        | (go_at_call 31; refine (W1.out _).mono ?_; rintro e w1 ⟨rfl, hb1⟩; obtain ⟨hc1, hf1⟩ := bcell hb1; have hs1 : w.heap.size < w1.heap.size := Nat.lt_of_lt_of_le hsz hb1.size; have d0 := (hc1 _ _ hsz).trans c0; have d1 := (hc1 _ _ hsz).trans c1; have g0 := (hf1 _ _ hsz).trans f0; have g1 := (hf1 _ _ hsz).trans f1; clear hc1 hf1)
        | (go_at_call 32; refine (H3.out _ _ _).mono ?_; rintro e w2 ⟨rfl, hb2⟩; obtain ⟨hc2, hf2⟩ := bcell hb2; have hs2 : w.heap.size < w2.heap.size := Nat.lt_of_lt_of_le hs1 hb2.size; have k0 := (hf2 _ _ hs1).trans g0; have k1 := (hf2 _ _ hs1).trans g1; have e0 := (hc2 _ _ hs1).trans d0; have e1 := (hc2 _ _ hs1).trans d1; clear hc2 hf2))
      all_goals
        have hB2 : Below w.heap.size w w2 := hB.drew.trans ((hb1.mono (Nat.le_of_lt hsz)).trans (hb2.mono (Nat.le_of_lt hs1)))
        clear hb1 hb2 c0 c1 f0 f1 d0 d1 g0 g1 hB
        go_wp2
        go_roundw
        case rel => exact ⟨k + 1, by omega, by go_num, (hB2.setCell (Nat.le_refl _) _).setCell (Nat.le_refl _) _, by simp; exact hs2, by rw [HST.out]; exact (two_cells w2 _ _ _ e0 e1).1, by rw [HST.out]; exact (two_cells w2 _ _ _ e0 e1).2, by simp [k0], by simp [k1]⟩
        case measure => simp [intOf]; omega
    · obtain rfl : k = zs.length := by omega
      rw [List.take_length] at c0 c1
      go_wp2_with fail
      refine (H4.out _).mono ?_
      rintro e w4 ⟨rfl, b4⟩
      cases bv
      · go_wp2_with fail
        go_ret2
        exact ⟨by rw [HF.out (by simp)]; rfl, hB.trans (b4.mono (Nat.le_of_lt hsz))⟩
      · go_wp2_with fail
        go_ret2
        exact ⟨rfl, hB.trans (b4.mono (Nat.le_of_lt hsz))⟩
end Go.Proofs.YtfbbjfjckaojeaaDoor
