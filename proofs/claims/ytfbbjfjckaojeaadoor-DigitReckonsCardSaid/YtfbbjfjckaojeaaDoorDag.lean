/- The document's answers of layer digit (package yardarmref01): Times, as a contract of the translated call. -/
import Derived.Test.YtfbbjfjckaojeaaDoorDae
import Derived.Test.YtfbbjfjckaojeaaDoorDaf
import Derived.Deep.RegionHeld3
namespace Go.Proofs.YtfbbjfjckaojeaaDoor
open Go.RowKit

theorem prod_bd {a b : Int} (ha : 0 ≤ a ∧ a ≤ 4294967295) (hb : 0 ≤ b ∧ b ≤ 4294967295) : 0 ≤ a * b ∧ a * b ≤ 18446744065119617025 :=
  ⟨Int.mul_nonneg ha.1 hb.1, Int.le_trans (Int.mul_le_mul ha.2 hb.2 hb.1 (by decide)) (by decide)⟩

/-- What stands at the head of a round: the parts o, of which V0 was the number when the row began. -/
structure InRound (z y : Int) (i k : Nat) (c V0 : Int) (o : Nat → Int) : Prop where
  parts : parts o
  carry : 0 ≤ c ∧ c ≤ 4294967296
  val : val5 o + c * pw (i + k) = V0 + acc (dg z i) (dg y) i k

theorem InRound.step {z y : Int} {i k : Nat} {c V0 p : Int} {o : Nat → Int} (h : InRound z y i k c V0 o) (hj : i + k < 5) (hp : dg z i * dg y k = p) :
    InRound z y i (k + 1) ((o (i + k) + p % 4294967296 + c) / 4294967296 + p / 4294967296) V0 (upd o (i + k) ((o (i + k) + p % 4294967296 + c) % 4294967296)) := by
  have hb := prod_bd (dg_bd z i) (dg_bd y k)
  rw [hp] at hb
  have ho := h.parts (i + k) hj
  have hc := h.carry
  refine ⟨fun j hj' => ?_, by omega, mul_step hj hp.symm h.val (fun n => rfl)⟩
  unfold upd
  split
  · omega
  · exact h.parts j hj'

theorem row_end {z y c : Int} {i k : Nat} {o q : Nat → Int} (hi : i < 5) (hk : i + k = 5) (ho : parts o ∧ ∃ t : Int, val5 o + t * pw 5 = low (dg z) i * low (dg y) 5) (hq : InRound z y i k c (val5 o) q) :
    parts q ∧ ∃ t : Int, val5 q + t * pw 5 = low (dg z) (i + 1) * low (dg y) 5 := by
  obtain ⟨_, t, ht⟩ := ho
  obtain ⟨s, hs⟩ := acc_all (dg z i) (dg y) i hi
  have hv := hq.val
  rw [hk, show k = 5 - i by omega] at hv
  refine ⟨hq.parts, c + s + t, ?_⟩
  show _ = (low (dg z) i + dg z i * pw i) * low (dg y) 5
  rw [Int.add_mul, Int.add_mul, Int.add_mul, hs]
  omega

set_option maxHeartbeats 3200000 in
theorem rtimes_any (z y : Int) (w : World) :
    Calls Tryd.prog 22 #[.agg #[.int .u64 (dg z 0), .int .u64 (dg z 1), .int .u64 (dg z 2), .int .u64 (dg z 3), .int .u64 (dg z 4)], .agg #[.int .u64 (dg y 0), .int .u64 (dg y 1), .int .u64 (dg y 2), .int .u64 (dg y 3), .int .u64 (dg y 4)]] w
      fun e w' => e = .returned (.agg #[.int .u64 (dg (z * y) 0), .int .u64 (dg (z * y) 1), .int .u64 (dg (z * y) 2), .int .u64 (dg (z * y) 3), .int .u64 (dg (z * y) 4)]) ∧ Below w.heap.size w w' := by
  go_enter Tryd.func22, Tryd.ntmps22
  go_wp2_with fail
  go_loopw [10] (fun v wr => ∃ (i : Nat) (o : Nat → Int), i ≤ 5 ∧ v = .int .i64 i ∧ Hid (parts o ∧ ∃ t : Int, val5 o + t * pw 5 = low (dg z) i * low (dg y) 5) ∧ Below w.heap.size w wr ∧
      Arr wr w.heap.size (dg z) ∧ Arr wr (w.heap.size + 1) (dg y) ∧ Arr wr (w.heap.size + 1 + 1) (fun _ => 0) ∧ Arr wr (w.heap.size + 1 + 1 + 1) o) (fun v wr => 5 - (intOf v).toNat)
  case atStart =>
    refine ⟨0, fun _ => 0, by omega, rfl, ⟨fun j _ => by show (0 : Int) ≤ 0 ∧ (0 : Int) ≤ 4294967295; omega, 0, by simp [val5, low]⟩, ((((Below.refl _ _).alloc (Nat.le_refl _) _).alloc (by simp) _).alloc (by simp; omega) _).alloc (by simp; omega) _, ?_, ?_, ?_, ?_⟩
    · exact ((((Arr.new w (dg z 0) (dg z 1) (dg z 2) (dg z 3) (dg z 4) 38).alloc _).alloc _).alloc _).ext fun j hj => by match j, hj with | 0, _ => rfl | 1, _ => rfl | 2, _ => rfl | 3, _ => rfl | 4, _ => rfl
    · have := ((Arr.new (w.alloc (.cells #[.int .u64 (dg z 0), .int .u64 (dg z 1), .int .u64 (dg z 2), .int .u64 (dg z 3), .int .u64 (dg z 4)] 38)) (dg y 0) (dg y 1) (dg y 2) (dg y 3) (dg y 4) 38).alloc (.cells #[.int .u64 0, .int .u64 0, .int .u64 0, .int .u64 0, .int .u64 0] 38)).alloc (.cells #[.int .u64 0, .int .u64 0, .int .u64 0, .int .u64 0, .int .u64 0] 38)
      rw [World.size_alloc] at this
      exact this.ext fun j hj => by match j, hj with | 0, _ => rfl | 1, _ => rfl | 2, _ => rfl | 3, _ => rfl | 4, _ => rfl
    · have := (Arr.new ((w.alloc (.cells #[.int .u64 (dg z 0), .int .u64 (dg z 1), .int .u64 (dg z 2), .int .u64 (dg z 3), .int .u64 (dg z 4)] 38)).alloc (.cells #[.int .u64 (dg y 0), .int .u64 (dg y 1), .int .u64 (dg y 2), .int .u64 (dg y 3), .int .u64 (dg y 4)] 38)) 0 0 0 0 0 38).alloc (.cells #[.int .u64 0, .int .u64 0, .int .u64 0, .int .u64 0, .int .u64 0] 38)
      rw [World.size_alloc, World.size_alloc] at this
      exact this.ext fun j hj => by match j, hj with | 0, _ => rfl | 1, _ => rfl | 2, _ => rfl | 3, _ => rfl | 4, _ => rfl
    · have := Arr.new (((w.alloc (.cells #[.int .u64 (dg z 0), .int .u64 (dg z 1), .int .u64 (dg z 2), .int .u64 (dg z 3), .int .u64 (dg z 4)] 38)).alloc (.cells #[.int .u64 (dg y 0), .int .u64 (dg y 1), .int .u64 (dg y 2), .int .u64 (dg y 3), .int .u64 (dg y 4)] 38)).alloc (.cells #[.int .u64 0, .int .u64 0, .int .u64 0, .int .u64 0, .int .u64 0] 38)) 0 0 0 0 0 38
      rw [World.size_alloc, World.size_alloc, World.size_alloc] at this
      exact this.ext fun j hj => by match j, hj with | 0, _ => rfl | 1, _ => rfl | 2, _ => rfl | 3, _ => rfl | 4, _ => rfl
  case round =>
    obtain ⟨i, o, hi, rfl, ho, hB, ha, hb, hd, he⟩ := hrel
    by_cases hlt : i < 5
    · have hlt' : (i : Int) < 5 := by omega
      have hi0 : (0 : Int) ≤ (i : Int) := by omega
      go_wp2_with fail
      obtain ⟨wo, rfl⟩ : ∃ wo : World, wo = wr := ⟨_, rfl⟩
      go_loopw [7, 15] (fun v u wr => ∃ (k : Nat) (c : Int) (q : Nat → Int), i + k ≤ 5 ∧ u = .int .i64 k ∧ v = .int .u64 c ∧ Hid (InRound z y i k c (val5 o) q) ∧ Below w.heap.size w wr ∧
          Arr wr w.heap.size (dg z) ∧ Arr wr (w.heap.size + 1) (dg y) ∧ Arr wr (w.heap.size + 1 + 1) (fun _ => 0) ∧ Arr wr (w.heap.size + 1 + 1 + 1) q) (fun v u wr => 5 - (intOf u).toNat)
      case atStart =>
        exact ⟨0, 0, o, by omega, rfl, rfl, ⟨ho.out.1, by omega, by show val5 o + 0 * _ = val5 o + 0; omega⟩, hB, ha, hb, hd, he⟩
      case round =>
        clear hB ha hb hd he
        obtain ⟨k, c, q, hk, rfl, rfl, hq, hB, ha, hb, hd, he⟩ := hrel
        by_cases hlk : i + k < 5
        · obtain ⟨q0, _⟩ := ha.2 i hlt
          obtain ⟨q1, _⟩ := hb.2 k (by omega)
          obtain ⟨q2, q3⟩ := he.2 (i + k) hlk
          have hk0 : (0 : Int) ≤ (k : Int) := by omega
          have hk5 : (k : Int) < 5 := by omega
          have hik : (k : Int) < 5 - (i : Int) := by omega
          have hs : (i : Int) + (k : Int) < 5 := by omega
          have hs0 : (0 : Int) ≤ (i : Int) + (k : Int) := by omega
          have hn : ((i : Int) + (k : Int)).toNat = i + k := by omega
          have hw : IntKind.i64.wrap ((i : Int) + (k : Int)) = (i : Int) + (k : Int) := IntWalk.i64_in _ (by omega)
          obtain ⟨p, hp⟩ : ∃ p, dg z i * dg y k = p := ⟨_, rfl⟩
          have hpb := prod_bd (dg_bd z i) (dg_bd y k)
          rw [hp] at hpb
          have hpw : IntKind.u64.wrap (dg z i * dg y k) = p := by rw [hp, wrap_lo]; unfold lo64; omega
          have HStep := Lib.hid (hq.out.step hlk hp)
          have hcb := hq.out.carry
          have hob := hq.out.parts (i + k) hlk
          obtain ⟨hp0, hp1⟩ := hpb
          obtain ⟨hc0, hc1⟩ := hcb
          obtain ⟨ho0, ho1⟩ := hob
          have HP := Lib.hid hp
          clear hp
          have s1 : IntKind.u64.wrap (q (i + k) + p % 4294967296) = q (i + k) + p % 4294967296 := by rw [wrap_lo]; unfold lo64; omega
          have s2 : IntKind.u64.wrap (q (i + k) + p % 4294967296 + c) = q (i + k) + p % 4294967296 + c := by rw [wrap_lo]; unfold lo64; omega
          have t0 : 0 ≤ q (i + k) + p % 4294967296 := by omega
          have t1 : 0 ≤ q (i + k) + p % 4294967296 + c := by omega
          go_wp2_with fail
          go_quiet (fail)
          have q0' := (ha.drewN nq).2 i hlt
          have q1' := (hb.drewN nq).2 k (by omega)
          have q2' := (he.drewN nq).2 (i + k) hlk
          have t2 : q (i + k) + p % 4294967296 + c ≤ 18446744073709551615 := by omega
          obtain ⟨wz, hwz⟩ : ∃ wz, wz = wr.drewN nq := ⟨_, rfl⟩
          rw [← hwz] at q0' q1' q2'
          rw [← hwz]
          have hBz : Below w.heap.size w wz := by rw [hwz]; exact drewN_below hB nq
          have haz : Arr wz w.heap.size (dg z) := by rw [hwz]; exact ha.drewN nq
          have hbz : Arr wz (w.heap.size + 1) (dg y) := by rw [hwz]; exact hb.drewN nq
          have hdz : Arr wz (w.heap.size + 1 + 1) (fun _ => 0) := by rw [hwz]; exact hd.drewN nq
          have hez : Arr wz (w.heap.size + 1 + 1 + 1) q := by rw [hwz]; exact he.drewN nq
          obtain ⟨q0', _⟩ := q0'
          obtain ⟨q1', _⟩ := q1'
          obtain ⟨q2', q3'⟩ := q2'
          clear hwz q0 q1 q2 q3 hB ha hb hd he s1 s2
          have hS1 : q (i + k) + p % 4294967296 + c ≤ 12884901888 := by omega
          generalize q (i + k) + p % 4294967296 + c = S at *
          have u0 : S.tmod 4294967296 = S % 4294967296 := Int.tmod_eq_emod_of_nonneg t1
          have u1 : S.tdiv 4294967296 = S / 4294967296 := Int.tdiv_eq_ediv_of_nonneg t1
          have u2 : p.tdiv 4294967296 = p / 4294967296 := Int.tdiv_eq_ediv_of_nonneg hp0
          have u3 : IntKind.u64.wrap (S / 4294967296 + p / 4294967296) = S / 4294967296 + p / 4294967296 := by rw [wrap_lo]; unfold lo64; omega
          have u4 : 0 ≤ S / 4294967296 := by omega
          have u5 : 0 ≤ p / 4294967296 := by omega
          have u6 : S / 4294967296 ≤ 3 := by omega
          have u7 : p / 4294967296 ≤ 4294967295 := by omega
          have u8 : IntKind.u64.wrap (S / 4294967296) = S / 4294967296 := by rw [wrap_lo]; unfold lo64; omega
          have u9 : IntKind.u64.wrap (p / 4294967296) = p / 4294967296 := by rw [wrap_lo]; unfold lo64; omega
          clear t0 t2 ho0 ho1
          go_wp2_with fail
          go_region_held3 (fun w' => w'.cell? ⟨w.heap.size, i, none⟩ = some (.int .u64 (dg z i)) ∧ w'.cell? ⟨w.heap.size + 1, k, none⟩ = some (.int .u64 (dg y k))) (first | exact ⟨q0', q1'⟩ | exact ⟨(World.cell?_setCell_other _ _ _ _ (by simp)).trans q0', (World.cell?_setCell_other _ _ _ _ (by simp)).trans q1'⟩) (first | fail)
          clear u0 u1 u2 u3 u4 u5 u6 u7 u8 u9
          go_wp2_with fail
          go_roundw
          case rel =>
            exact ⟨k + 1, _, _, by omega, by go_num, rfl, HStep.out, (hBz.setCell (by show w.heap.size ≤ w.heap.size + 1 + 1 + 1; omega) _).drew,
              (haz.far (by show w.heap.size + 1 + 1 + 1 ≠ w.heap.size; omega) _).drewN 1, (hbz.far (by show w.heap.size + 1 + 1 + 1 ≠ w.heap.size + 1; omega) _).drewN 1, (hdz.far (by show w.heap.size + 1 + 1 + 1 ≠ w.heap.size + 1 + 1; omega) _).drewN 1, (hez.set hlk _).drewN 1⟩
          case measure => simp [intOf]; omega
        · have hge : ¬ (k : Int) < 5 - (i : Int) := by omega
          have HEnd := Lib.hid (row_end hlt (show i + k = 5 by omega) ho.out hq.out)
          clear hq
          go_wp2_with fail
          go_roundw
          case rel => exact ⟨i + 1, q, by omega, by go_num, HEnd.out, hB, ha, hb, hd, he⟩
          case measure => simp [intOf]; omega
    · have hge : ¬ (i : Int) < 5 := by omega
      have hend : ∀ j, j < 5 → o j = dg (z * y) j := by
        obtain ⟨h1, t, h2⟩ := ho.out
        rw [show i = 5 by omega] at h2
        exact mul_end h1 h2
      obtain ⟨⟨a0, a1, a2, a3, a4⟩, _⟩ := (he.ext (g := dg (z * y)) hend).five
      obtain ⟨⟨b0, b1, b2, b3, b4⟩, f0, f1, f2, f3, f4⟩ := hd.five
      clear ha hb hd he hend ho
      go_wp2_with fail
      exact bodyPost_ret (v := .agg #[.int .u64 (dg (z * y) 0), .int .u64 (dg (z * y) 1), .int .u64 (dg (z * y) 2), .int .u64 (dg (z * y) 3), .int .u64 (dg (z * y) 4)]) (by simp [results, Tryd.results22, go_sem, b0, b1, b2, b3, b4]) rfl
        ⟨rfl, ((((hB.setCell (by simp; omega) _).setCell (by simp; omega) _).setCell (by simp; omega) _).setCell (by simp; omega) _).setCell (by simp; omega) _⟩
end Go.Proofs.YtfbbjfjckaojeaaDoor
