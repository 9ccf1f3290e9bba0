/- The document's answers of layer digit (package yardarmref01): Of, as a contract of the translated call. -/
import Derived.Test.YtfbbjfjckaojeaaDoorDaa
import Derived.Test.YtfbbjfjckaojeaaDoorDab
namespace Go.Proofs.YtfbbjfjckaojeaaDoor
open Go.RowKit

theorem of_low (x : Int) : (IntKind.u64.wrap x).tmod 4294967296 = x % 4294967296 := by
  rw [wrap_lo]
  unfold lo64
  rw [Int.tmod_eq_emod_of_nonneg (by omega)]
  omega
theorem of_neg {x : Int} (h0 : -9223372036854775808 ≤ x) (h1 : x ≤ 9223372036854775807) (h : x.tmod 4294967296 < 0) : wrap64 (x.tdiv 4294967296 - 1) = x / 4294967296 := by
  have e := Int.mul_tdiv_add_tmod x 4294967296
  have b := Int.lt_tmod_of_pos x (b := 4294967296) (by decide)
  unfold wrap64
  omega
theorem of_pos {x : Int} (h : ¬ x.tmod 4294967296 < 0) : x.tdiv 4294967296 = x / 4294967296 := by
  have e := Int.mul_tdiv_add_tmod x 4294967296
  have b := Int.tmod_lt_of_pos x (b := 4294967296) (by decide)
  omega

set_option maxHeartbeats 1600000 in
theorem of_any (n : Int) (h0 : -9223372036854775808 ≤ n) (h1 : n ≤ 9223372036854775807) (w : World) :
    Calls Tryd.prog 18 #[.int .i64 n] w fun e w' => e = .returned (.agg #[.int .u64 (dg n 0), .int .u64 (dg n 1), .int .u64 (dg n 2), .int .u64 (dg n 3), .int .u64 (dg n 4)]) ∧ Below w.heap.size w w' := by
  go_enter Tryd.func18, Tryd.ntmps18
  go_wp2_with fail
  go_loopw [0, 6] (fun v i wr => ∃ (k : Nat) (x : Int), k ≤ 5 ∧ v = .int .i64 x ∧ i = .int .i64 k ∧ -9223372036854775808 ≤ x ∧ x ≤ 9223372036854775807 ∧ Hid (x = fl n k) ∧ Below w.heap.size w wr ∧
      Arr wr (w.heap.size + 1) (fun j => if j < k then dg n j else 0) ∧ Arr wr w.heap.size (fun _ => 0)) (fun v i wr => 5 - (intOf i).toNat)
  case atStart =>
    refine ⟨0, n, by omega, rfl, rfl, h0, h1, rfl, ((Below.refl _ _).alloc (Nat.le_refl _) _).alloc (by simp) _, ?_, ?_⟩
    · have := Arr.new (w.alloc (.cells #[.int .u64 0, .int .u64 0, .int .u64 0, .int .u64 0, .int .u64 0] 38)) 0 0 0 0 0 38
      rw [World.size_alloc] at this
      exact this.ext fun j hj => by rw [if_neg (by omega)]; match j, hj with | 0, _ => rfl | 1, _ => rfl | 2, _ => rfl | 3, _ => rfl | 4, _ => rfl
    · exact ((Arr.new w 0 0 0 0 0 38).alloc _).ext fun j hj => by match j, hj with | 0, _ => rfl | 1, _ => rfl | 2, _ => rfl | 3, _ => rfl | 4, _ => rfl
  case round =>
    obtain ⟨k, x, hk, rfl, rfl, hx0, hx1, hx, hB, ha, hb⟩ := hrel
    by_cases hlt : k < 5
    · obtain ⟨q0, q2⟩ := ha.2 k hlt
      have hlt' : (k : Int) < 5 := by omega
      have hlow := Lib.hid (of_low x)
      have hset : ∀ v, v = dg n k → Arr (wr.setCell ⟨w.heap.size + 1, k, none⟩ (.int .u64 v)) (w.heap.size + 1) (fun j => if j < k + 1 then dg n j else 0) := fun v hv => (ha.set hlt v).ext fun j hj => by
        unfold upd
        by_cases e : j = k
        · subst e; rw [if_pos rfl, if_pos (by omega), hv]
        · rw [if_neg e]
          show (if j < k then dg n j else 0) = _
          by_cases e2 : j < k
          · rw [if_pos e2, if_pos (by omega)]
          · rw [if_neg e2, if_neg (by omega)]
      have hdg : x % 4294967296 = dg n k := by rw [hx.out]; rfl
      have hfl : x / 4294967296 = fl n (k + 1) := by rw [hx.out]; rfl
      have HS := Lib.hid hset
      have HD := Lib.hid hdg
      have HFl := Lib.hid hfl
      have hq0 : -9223372036854775808 ≤ x / 4294967296 := by omega
      have hq1 : x / 4294967296 ≤ 9223372036854775807 := by omega
      clear hset hdg hfl
      by_cases hng : x.tmod 4294967296 < 0
      · have HN := Lib.hid (of_neg hx0 hx1 hng)
        clear hq0 hq1
        go_wp2_with fail
        go_roundw
        case rel =>
          have := HN.out
          refine ⟨k + 1, _, by omega, by rw [this], by go_num, by omega, by omega, HFl.out, hB.setCell (Nat.le_succ _) _, ?_, hb.far (by simp) _⟩
          exact HS.out _ (by rw [hlow.out]; exact HD.out)
        case measure => simp [intOf]; omega
      · have HN := Lib.hid (of_pos hng)
        clear hq0 hq1
        go_wp2_with fail
        go_roundw
        case rel =>
          have := HN.out
          refine ⟨k + 1, _, by omega, by rw [this], by go_num, by omega, by omega, HFl.out, hB.setCell (Nat.le_succ _) _, ?_, hb.far (by simp) _⟩
          exact HS.out _ (by rw [hlow.out]; exact HD.out)
        case measure => simp [intOf]; omega
    · have hge : ¬ (k : Int) < 5 := by omega
      obtain ⟨⟨a0, a1, a2, a3, a4⟩, _⟩ := (ha.ext (g := dg n) fun j hj => if_pos (by omega)).five
      obtain ⟨⟨b0, b1, b2, b3, b4⟩, f0, f1, f2, f3, f4⟩ := hb.five
      clear ha hb hx
      go_wp2_with fail
      exact bodyPost_ret (v := .agg #[.int .u64 (dg n 0), .int .u64 (dg n 1), .int .u64 (dg n 2), .int .u64 (dg n 3), .int .u64 (dg n 4)]) (by simp [results, Tryd.results18, go_sem, b0, b1, b2, b3, b4]) rfl
        ⟨rfl, ((((hB.setCell (Nat.le_refl _) _).setCell (Nat.le_refl _) _).setCell (Nat.le_refl _) _).setCell (Nat.le_refl _) _).setCell (Nat.le_refl _) _⟩
end Go.Proofs.YtfbbjfjckaojeaaDoor
