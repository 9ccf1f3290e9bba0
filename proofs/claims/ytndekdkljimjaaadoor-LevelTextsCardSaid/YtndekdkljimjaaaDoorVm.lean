/- Layer level: slices.Repeat of one number, Uniform: contracts. -/
import Derived.Test.YtndekdkljimjaaaDoorVk
import Derived.StillTailTactics
import Derived.Laws.CopyRow
import Derived.Laws.CopyOwn
import Derived.Laws.MakeOwn
import Derived.Deep.Cut
namespace Go.Proofs.YtndekdkljimjaaaDoor
open Go.RowKit Go.Shelf

theorem made_ints (n : Nat) : madeCells (Value.int .i64 0).cells (n * 1) = (ints (List.replicate n 0)).toArray := by
  apply Array.ext
  · rw [size_madeCells, List.size_toArray, ints_length, List.length_replicate, Nat.mul_one]
  · intro j h1 h2
    have e1 : ∀ k, (ints (List.replicate k 0)) = List.replicate k (.int .i64 0) := by
      intro k; unfold ints; rw [List.map_replicate]
    have hz : (Value.int .i64 0).cells = #[.int .i64 0] := by simp [Value.cells]
    simp only [e1, madeCells, hz, Array.getElem_map, Array.getElem_range, List.getElem_toArray, List.getElem_replicate]
    simp [Nat.mod_one]
theorem int_make (n : Nat) (hn : n ≤ 1000000) (W : World) :
    (Instr.makeSlice 22 (.int .i64 (n : Int)) (.int .i64 (n : Int))).run Tryd.prog W = .ok (.slice (some ⟨W.heap.size, 0, none⟩) n n) (W.alloc (.cells (ints (List.replicate n 0)).toArray 3)) := by
  obtain ⟨i0, hi, hz0, hz1, hz2⟩ := info_parts int9_info
  have hr := run_make (P := Tryd.prog) W 22 3 i0 _ Tryd.underlying22 hi hz0 .i64 .i64 n n (by omega) (by omega) (by rw [hz2]; omega) (by omega)
  simp only [Int.toNat_natCast] at hr
  rw [hz1, made_ints] at hr
  exact hr
theorem slice9_l (g n t : Nat) (ht : t < n) (W : World) :
    (Instr.slice 22 (.slice (some ⟨g, 0, none⟩) n n) (some (.int .i64 (t : Int))) none none).run Tryd.prog W = .ok (.slice (some ⟨g, t, none⟩) (n - t) (n - t)) W := by
  rw [run_slice_l W 22 (some ⟨g, 0, none⟩) n n (show Tryd.prog.underlying 22 = some (.slice (Tryd.prog.elem 22)) by kernel_rfl) .i64 t (by omega) (by omega), elem9_size]
  have : ¬ n = t := by omega
  simp [Result.andThen, sliced, this, Go.WideShapes.add_plain]

/-- The first t places are told. -/
def repL (n t : Nat) (v : Int) : List Int := List.replicate t v ++ List.replicate (n - t) 0
theorem repL_len (n t : Nat) (v : Int) (h : t ≤ n) : (repL n t v).length = n := by unfold repL; simp; omega
theorem repL_on (n t k : Nat) (v : Int) (h : t + k ≤ n) : (ints (repL n t v)).take t ++ ints (List.replicate k v) ++ (ints (repL n t v)).drop (t + k) = ints (repL n (t + k) v) := by
  have e1 : (repL n t v).take t = List.replicate t v := by unfold repL; rw [List.take_append_of_le_length (by simp)]; simp
  have e2 : (repL n t v).drop (t + k) = List.replicate (n - (t + k)) 0 := by
    unfold repL
    rw [List.drop_append, List.drop_eq_nil_of_le (by simp), List.nil_append, List.drop_replicate, List.length_replicate]
    congr 1
    omega
  unfold ints
  rw [← List.map_take, ← List.map_drop, e1, e2, ← List.map_append, ← List.map_append]
  unfold repL
  rw [List.replicate_append_replicate]
theorem repL_at {n t j : Nat} {v : Int} (h : j < t) : (repL n t v)[j]? = some v := by
  unfold repL
  rw [List.getElem?_append_left (by simp; exact h), List.getElem?_replicate, if_pos h]
/-- How far Repeat has come. -/
structure RepAt (w : World) (g n t : Nat) (v : Int) (W : World) : Prop where
  blk : Blk W g 3 (ints (repL n t v)).toArray
  own : w.heap.size ≤ g
  below : Below w.heap.size w W
theorem one_cells (k : Nat) (v : Int) : ∀ u ∈ ints (List.replicate k v), u.oneCell' = true := by
  intro u hu
  obtain ⟨x, _, rfl⟩ := List.mem_map.1 hu
  rfl
theorem RepAt.copy {w W : World} {g n t : Nat} {v : Int} (h : RepAt w g n t v W) (b o : Nat) (sn sc k dn : Nat) (hk : k = Nat.min sn dn) (hfit : t + k ≤ n) (hs : ∀ j, j < k → W.cell? ⟨b, o + j, none⟩ = some (.int .i64 v)) :
    ∃ W2, (Builtin.copy_ #[22, 22] 3 #[.slice (some ⟨g, t, none⟩) dn dn, .slice (some ⟨b, o, none⟩) sn sc]).run Tryd.prog W = .ok (.int .i64 (k : Int)) W2 ∧ RepAt w g n (t + k) v W2 := by
  obtain ⟨i0, hi, hz0, hz1, hz2⟩ := info_parts int9_info
  have hl : (ints (List.replicate k v)).length = k := by rw [ints_length, List.length_replicate]
  have hr := run_copy_row (P := Tryd.prog) W 22 22 3 3 g t dn dn ⟨b, o, none⟩ sn sc (ints (repL n t v)).toArray 3 (ints (List.replicate k v)) Tryd.underlying22 (by rw [hi]; exact congrArg some hz1) h.blk (by rw [hl]; exact hk)
    (fun j u hu => by
      have hj : j < k := by have := (List.getElem?_eq_some_iff.1 hu).1; rwa [hl] at this
      rw [Go.WideShapes.add_plain, hs j hj, ← hu]
      unfold ints
      rw [List.getElem?_map, List.getElem?_replicate, if_pos hj]
      rfl) (by rw [hl, List.size_toArray, ints_length, repL_len n t v (by omega)]; exact hfit) (one_cells k v)
  rw [hl] at hr
  have e : ((ints (repL n t v)).toArray.toList.take t ++ ints (List.replicate k v) ++ (ints (repL n t v)).toArray.toList.drop (t + k)) = ints (repL n (t + k) v) := repL_on n t k v hfit
  rw [e] at hr
  exact ⟨_, hr, setRow_heap W g _ _ _ _ h.blk, h.own, below_setRow h.below h.own _⟩
theorem RepAt.drew {w W : World} {g n t : Nat} {v : Int} (h : RepAt w g n t v W) : RepAt w g n t v W.drew := ⟨h.blk.drew, h.own, h.below.drew⟩
theorem RepAt.copied {w W : World} {g n : Nat} {v : Int} (h : RepAt w g n n v W) (hn : n ≤ 1000) : CopyI n (List.replicate n v) w (some ⟨g, 0, none⟩) n W := by
  have e : repL n n v = List.replicate n v := by unfold repL; simp
  have hb := h.blk
  rw [e] at hb
  refine ⟨⟨by rw [ints_length, List.length_replicate, Nat.mul_one], .inr ⟨g, n, (ints (List.replicate n v)).toArray, rfl, h.own, hb, Nat.le_refl _, by unfold maxLen; omega, ?_, ?_⟩⟩, h.below⟩
  · rw [List.size_toArray, ints_length, List.length_replicate, Nat.mul_one]
  · rw [Nat.mul_one]
    exact List.take_of_length_le (by rw [ints_length, List.length_replicate]; exact Nat.le_refl _)

set_option maxRecDepth 100000 in
set_option maxHeartbeats 4000000 in
theorem repeat_any (b n : Nat) (v : Int) (hn : n ≤ 1000) (w : World) (hb : w.cell? ⟨b, 0, none⟩ = some (.int .i64 v)) (hbl : b < w.heap.size) :
    Calls Tryd.prog 32 #[.slice (some ⟨b, 0, none⟩) 1 1, .int .i64 (n : Int)] w (CopyE (List.replicate n v) w) := by
  have hmul : Hid (Calls Tryd.prog 40 #[.int .u64 1, .int .u64 (n : Int)] w fun e w' => e = .returned (.tuple #[.int .u64 0, .int .u64 (n : Int)]) ∧ w' = w) := by
    have := Tryd.bits_Mul 1 n (by omega) (by omega) w
    rw [Nat.one_mul, Nat.div_eq_of_lt (by omega), Nat.mod_eq_of_lt (by omega)] at this
    exact this
  have hn0 : ¬ (n : Int) < 0 := by omega
  have hnm : ¬ (n : Int) > 9223372036854775807 := by omega
  have hn1 : (n : Int) ≤ 1000 := by omega
  have hmk := fun W => int_make n (by omega) W
  have hr0 : RepAt w w.heap.size n 0 v (w.alloc (.cells (ints (List.replicate n 0)).toArray 3)) := ⟨by
    have := Blk.new w 3 (ints (List.replicate n 0)).toArray
    unfold repL
    rw [List.replicate_zero, List.nil_append, Nat.sub_zero]
    exact this, Nat.le_refl _, (Below.refl _ _).alloc (Nat.le_refl _) _⟩
  obtain ⟨k0, hk0⟩ : ∃ k0, k0 = Nat.min 1 n := ⟨_, rfl⟩
  have hk01 : k0 ≤ 1 ∧ k0 ≤ n ∧ (k0 = 0 → n = 0) := by rw [hk0]; exact ⟨Nat.min_le_left _ _, Nat.min_le_right _ _, fun h => by have : Nat.min 1 n = 0 := h; have h2 : min 1 n = 0 := this; omega⟩
  obtain ⟨W2, hr2, hR2⟩ := hr0.copy b 0 1 1 k0 n hk0 (by omega) (fun j hj => by
    obtain rfl : j = 0 := by omega
    rw [World.cell?_alloc_lt w _ ⟨b, 0 + 0, none⟩ hbl]; exact hb)
  rw [Nat.zero_add] at hR2
  have HR2 := Lib.hid hR2
  have HK := Lib.hid hk01
  clear hr0 hR2 hk0 hk01 hb hbl
  go_enter Tryd.func32, Tryd.ntmps32
  go_wp2_with fail
  refine hmul.out.mono ?_
  rintro e w1 ⟨rfl, rfl⟩
  go_wp2_with fail
  generalize w1.heap.size = g at *
  clear hr2 hmk hmul
  go_loopw [8] (fun i wr => ∃ t : Nat, i = .int .i64 (t : Int) ∧ t ≤ n ∧ (t = 0 → n = 0) ∧ Hid (RepAt w1 g n t v wr)) (fun i _ => n - (intOf i).toNat)
  case atStart => exact ⟨k0, rfl, HK.out.2.1, HK.out.2.2, HR2⟩
  case round =>
    clear HR2
    obtain ⟨t, rfl, htn, ht0, HR⟩ := hrel
    by_cases hlt : t < n
    · have hlti : (t : Int) < (n : Int) := by omega
      obtain ⟨k, hk⟩ : ∃ k, k = Nat.min t (n - t) := ⟨_, rfl⟩
      have hk2 : 0 < k ∧ t + k ≤ n := by
        have h1 : k = min t (n - t) := hk
        omega
      obtain ⟨W3, hr3, hR3⟩ := HR.out.drew.copy g 0 t n k (n - t) hk hk2.2 (fun j hj => by
        rw [Nat.zero_add, HR.out.drew.blk.cell, List.getElem?_toArray]
        have h1 : k = min t (n - t) := hk
        have := repL_at (n := n) (v := v) (show j < t by omega)
        unfold ints
        rw [List.getElem?_map, this]
        rfl)
      have hs1 := fun W => slice9_l g n t hlt W
      have hs2 := fun W => slice9_h (some ⟨g, 0, none⟩) n n t (by omega) W
      have HR3 := Lib.hid hR3
      have HK2 := Lib.hid hk2
      have hsum : IntKind.i64.wrap ((t : Int) + (k : Int)) = ((t + k : Nat) : Int) := by rw [IntKind.wrap_i64]; omega
      clear hR3 hk hk2 ht0
      go_upto_region 9 with fail
      go_region
      go_wp2_with fail
      go_roundw
      case rel => exact ⟨t + k, by go_num, HK2.out.2, fun h => by have := HK2.out.1; omega, HR3⟩
      case measure => simp [intOf]; have := HK2.out; omega
    · obtain rfl : t = n := by omega
      have hE := Lib.hid (HR.out.copied hn)
      go_wp2_with fail
      go_ret
      exact ⟨_, _, _, rfl, hE.out⟩
end Go.Proofs.YtndekdkljimjaaaDoor
