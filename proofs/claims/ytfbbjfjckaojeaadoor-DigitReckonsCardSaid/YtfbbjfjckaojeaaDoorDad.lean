/- The document's answers of layer digit (package yardarmref01): Plus, as a contract of the translated call. -/
import Derived.Test.YtfbbjfjckaojeaaDoorDac
namespace Go.Proofs.YtfbbjfjckaojeaaDoor
open Go.RowKit

/-- A number in five parts, as the program's array. -/
def fiveV (f : Nat → Int) : Value := .agg #[.int .u64 (f 0), .int .u64 (f 1), .int .u64 (f 2), .int .u64 (f 3), .int .u64 (f 4)]

set_option maxHeartbeats 1600000 in
theorem rplus_any (z y : Int) (w : World) :
    Calls Tryd.prog 17 #[.agg #[.int .u64 (dg z 0), .int .u64 (dg z 1), .int .u64 (dg z 2), .int .u64 (dg z 3), .int .u64 (dg z 4)], .agg #[.int .u64 (dg y 0), .int .u64 (dg y 1), .int .u64 (dg y 2), .int .u64 (dg y 3), .int .u64 (dg y 4)]] w
      fun e w' => e = .returned (.agg #[.int .u64 (dg (z + y) 0), .int .u64 (dg (z + y) 1), .int .u64 (dg (z + y) 2), .int .u64 (dg (z + y) 3), .int .u64 (dg (z + y) 4)]) ∧ Below w.heap.size w w' := by
  go_enter Tryd.func17, Tryd.ntmps17
  go_wp2_with fail
  go_loopw [5, 8] (fun v i wr => ∃ (k : Nat) (c : Int), k ≤ 5 ∧ v = .int .u64 c ∧ i = .int .i64 k ∧ Hid (c = cy z y k) ∧ Below w.heap.size w wr ∧
      Arr wr w.heap.size (fun j => if j < k then dg (z + y) j else dg z j) ∧ Arr wr (w.heap.size + 1) (dg y) ∧ Arr wr (w.heap.size + 1 + 1) (fun _ => 0)) (fun v i wr => 5 - (intOf i).toNat)
  case atStart =>
    refine ⟨0, 0, by omega, rfl, rfl, rfl, (((Below.refl _ _).alloc (Nat.le_refl _) _).alloc (by simp) _).alloc (by simp; omega) _, ?_, ?_, ?_⟩
    · exact (((Arr.new w (dg z 0) (dg z 1) (dg z 2) (dg z 3) (dg z 4) 38).alloc _).alloc _).ext fun j hj => by rw [if_neg (by omega)]; match j, hj with | 0, _ => rfl | 1, _ => rfl | 2, _ => rfl | 3, _ => rfl | 4, _ => rfl
    · have := (Arr.new (w.alloc (.cells #[.int .u64 (dg z 0), .int .u64 (dg z 1), .int .u64 (dg z 2), .int .u64 (dg z 3), .int .u64 (dg z 4)] 38)) (dg y 0) (dg y 1) (dg y 2) (dg y 3) (dg y 4) 38).alloc (.cells #[.int .u64 0, .int .u64 0, .int .u64 0, .int .u64 0, .int .u64 0] 38)
      rw [World.size_alloc] at this
      exact this.ext fun j hj => by match j, hj with | 0, _ => rfl | 1, _ => rfl | 2, _ => rfl | 3, _ => rfl | 4, _ => rfl
    · have := Arr.new ((w.alloc (.cells #[.int .u64 (dg z 0), .int .u64 (dg z 1), .int .u64 (dg z 2), .int .u64 (dg z 3), .int .u64 (dg z 4)] 38)).alloc (.cells #[.int .u64 (dg y 0), .int .u64 (dg y 1), .int .u64 (dg y 2), .int .u64 (dg y 3), .int .u64 (dg y 4)] 38)) 0 0 0 0 0 38
      rw [World.size_alloc, World.size_alloc] at this
      exact this.ext fun j hj => by match j, hj with | 0, _ => rfl | 1, _ => rfl | 2, _ => rfl | 3, _ => rfl | 4, _ => rfl
  case round =>
    obtain ⟨k, c, hk, rfl, rfl, hc, hB, ha, hb, hd⟩ := hrel
    by_cases hlt : k < 5
    · obtain ⟨q0, q2⟩ := ha.2 k hlt
      obtain ⟨q1, _⟩ := hb.2 k hlt
      simp only [Nat.lt_irrefl, if_false] at q0
      have hlt' : (k : Int) < 5 := by omega
      have hk0 : (0 : Int) ≤ (k : Int) := by omega
      have hpb := dg_bd z k
      have hqb := dg_bd y k
      have hcb := cy_bd z y k
      rw [← hc.out] at hcb
      have hsum : (dg z k + dg y k + c) % 4294967296 = dg (z + y) k := by rw [hc.out]; exact dg_add z y k
      have hcar : (dg z k + dg y k + c) / 4294967296 = cy z y (k + 1) := by rw [hc.out]; rfl
      have hset : ∀ W, Arr W w.heap.size (fun j => if j < k then dg (z + y) j else dg z j) → ∀ v, v = dg (z + y) k → Arr (W.setCell ⟨w.heap.size, k, none⟩ (.int .u64 v)) w.heap.size (fun j => if j < k + 1 then dg (z + y) j else dg z j) := fun W hW v hv => (hW.set hlt v).ext fun j hj => by
        unfold upd
        by_cases e : j = k
        · subst e; rw [if_pos rfl, if_pos (by omega), hv]
        · rw [if_neg e]
          show (if j < k then dg (z + y) j else dg z j) = _
          by_cases e2 : j < k
          · rw [if_pos e2, if_pos (by omega)]
          · rw [if_neg e2, if_neg (by omega)]
      have HS := Lib.hid hset
      have HSum := Lib.hid hsum
      have HCar := Lib.hid hcar
      clear hset hsum hcar
      generalize dg z k = p at *
      generalize dg y k = q at *
      have s1 : IntKind.u64.wrap (p + q) = p + q := by rw [wrap_lo]; unfold lo64; omega
      have s2 : IntKind.u64.wrap (p + q + c) = p + q + c := by rw [wrap_lo]; unfold lo64; omega
      have t0 : 0 ≤ p + q := by omega
      have t1 : 0 ≤ p + q + c := by omega
      have t2 : p + q + c ≤ 18446744073709551615 := by omega
      go_wp2_with fail
      go_quiet (fail)
      clear s1 s2
      go_wp2_with fail
      go_roundw
      case rel =>
        exact ⟨k + 1, _, by omega, rfl, by go_num, HCar.out, (drewN_below hB nq).setCell (Nat.le_refl _) _, HS.out _ (ha.drewN nq) _ HSum.out, (hb.drewN nq).far (by simp) _, (hd.drewN nq).far (by show w.heap.size ≠ w.heap.size + 1 + 1; omega) _⟩
      case measure => simp [intOf]; omega
    · have hge : ¬ (k : Int) < 5 := by omega
      obtain ⟨⟨a0, a1, a2, a3, a4⟩, _⟩ := (ha.ext (g := dg (z + y)) fun j hj => if_pos (by omega)).five
      obtain ⟨⟨b0, b1, b2, b3, b4⟩, f0, f1, f2, f3, f4⟩ := hd.five
      clear ha hb hd hc
      go_wp2_with fail
      exact bodyPost_ret (v := .agg #[.int .u64 (dg (z + y) 0), .int .u64 (dg (z + y) 1), .int .u64 (dg (z + y) 2), .int .u64 (dg (z + y) 3), .int .u64 (dg (z + y) 4)]) (by simp [results, Tryd.results17, go_sem, b0, b1, b2, b3, b4]) rfl
        ⟨rfl, ((((hB.setCell (by simp; omega) _).setCell (by simp; omega) _).setCell (by simp; omega) _).setCell (by simp; omega) _).setCell (by simp; omega) _⟩
end Go.Proofs.YtfbbjfjckaojeaaDoor
