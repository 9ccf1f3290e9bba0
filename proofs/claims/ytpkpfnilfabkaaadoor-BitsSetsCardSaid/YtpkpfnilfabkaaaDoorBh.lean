/- Layer bits: joined, at each of the three joins: contracts. -/
import Derived.Test.YtpkpfnilfabkaaaDoorBg
namespace Go.Proofs.YtpkpfnilfabkaaaDoor
open Go.RowKit

/-- Two rows joined, word by word, as far as the first one goes. -/
def joinW (J : Nat → Nat → Nat) (p b : List Nat) : List Nat := (List.range p.length).map fun i => J (p.getD i 0) (b.getD i 0)
theorem join_length (J : Nat → Nat → Nat) (p b : List Nat) : (joinW J p b).length = p.length := by unfold joinW; simp
theorem join_getD {J : Nat → Nat → Nat} {p b : List Nat} {i : Nat} (h : i < p.length) : (joinW J p b).getD i 0 = J (p.getD i 0) (b.getD i 0) := by
  unfold joinW
  rw [List.getD_eq_getElem?_getD, List.getElem?_map, List.getElem?_range h]; rfl
theorem join_64 {J : Nat → Nat → Nat} {p b : List Nat} (hJ : ∀ x y, x < 18446744073709551616 → y < 18446744073709551616 → J x y < 18446744073709551616) (hp : W64 p) (hb : W64 b) : W64 (joinW J p b) := by
  intro x hx
  unfold joinW at hx
  obtain ⟨i, _, rfl⟩ := List.mem_map.1 hx
  exact hJ _ _ (hp.at_ i) (hb.at_ i)
theorem has_join {J : Nat → Nat → Nat} {op : Bool → Bool → Bool} {p b : List Nat} (hop : op false false = false) (hJ : ∀ x y, x < 18446744073709551616 → y < 18446744073709551616 → ∀ k, k < 64 → (J x y).testBit k = op (x.testBit k) (y.testBit k))
    (hp : W64 p) (hb : W64 b) (hl : b.length ≤ p.length) (n : Nat) : hasW (joinW J p b) n = op (hasW p n) (hasW b n) := by
  unfold hasW
  by_cases h : n / 64 < p.length
  · rw [join_getD h]
    exact hJ _ _ (hp.at_ _) (hb.at_ _) _ (Nat.mod_lt _ (by decide))
  · have z : ∀ l : List Nat, l.length ≤ p.length → (l.getD (n / 64) 0).testBit (n % 64) = false := fun l hl => by
      rw [List.getD_eq_getElem?_getD, List.getElem?_eq_none (by omega)]; simp
    rw [z _ (by rw [join_length]; exact Nat.le_refl _), z p (Nat.le_refl _), z b hl, hop]
theorem or_bit (x y : Nat) (_ : x < 18446744073709551616) (_ : y < 18446744073709551616) (k : Nat) (_ : k < 64) : (x ||| y).testBit k = (x.testBit k || y.testBit k) := Nat.testBit_or x y k
theorem and_bit (x y : Nat) (_ : x < 18446744073709551616) (_ : y < 18446744073709551616) (k : Nat) (_ : k < 64) : (x &&& y).testBit k = (x.testBit k && y.testBit k) := Nat.testBit_and x y k
theorem not_bit (y : Nat) (hy : y < 18446744073709551616) (k : Nat) (hk : k < 64) : (18446744073709551615 - y).testBit k = !y.testBit k := by
  have := Nat.testBit_two_pow_sub_succ (n := 64) (show y < 2 ^ 64 from hy) k
  rw [show 2 ^ 64 - (y + 1) = 18446744073709551615 - y by omega] at this
  rw [this]; simp [hk]
theorem andnot_bit (x y : Nat) (_ : x < 18446744073709551616) (hy : y < 18446744073709551616) (k : Nat) (hk : k < 64) : (x &&& (18446744073709551615 - y)).testBit k = (x.testBit k && !y.testBit k) := by
  rw [Nat.testBit_and, not_bit y hy k hk]
theorem or_lt (x y : Nat) (hx : x < 18446744073709551616) (hy : y < 18446744073709551616) : x ||| y < 18446744073709551616 := Nat.or_lt_two_pow (n := 64) hx hy
theorem and_lt (x y : Nat) (_ : x < 18446744073709551616) (hy : y < 18446744073709551616) : x &&& y < 18446744073709551616 := Nat.and_lt_two_pow (n := 64) _ hy
theorem andnot_lt (x y : Nat) (_ : x < 18446744073709551616) (_ : y < 18446744073709551616) : x &&& (18446744073709551615 - y) < 18446744073709551616 := Nat.and_lt_two_pow (n := 64) _ (by omega)

/-- A row into which one word has been written. -/
theorem mix_step {p q : List Nat} {k : Nat} (hl : q.length = p.length) (hk : k < p.length) : (q.take k ++ p.drop k).set k (q.getD k 0) = q.take (k + 1) ++ p.drop (k + 1) := by
  have h1 : (q.take k).length = k := by rw [List.length_take]; omega
  rw [List.set_append_right _ _ (by omega), h1, Nat.sub_self, List.drop_eq_getElem_cons hk, List.set_cons_zero, List.take_succ_eq_append_getElem (by omega), List.getD_eq_getElem?_getD, List.getElem?_eq_getElem (by omega), List.append_assoc]
  rfl
theorem mix_at {p q : List Nat} {k : Nat} (hl : q.length = p.length) (hk : k < p.length) : (q.take k ++ p.drop k).getD k 0 = p.getD k 0 := by
  have h1 : (q.take k).length = k := by rw [List.length_take]; omega
  rw [List.getD_eq_getElem?_getD, List.getElem?_append_right (by omega), h1, Nat.sub_self, List.getElem?_drop, Nat.add_zero, List.getD_eq_getElem?_getD]
theorem mix_len {p q : List Nat} {k : Nat} (hl : q.length = p.length) (hk : k ≤ p.length) : (q.take k ++ p.drop k).length = p.length := by
  rw [List.length_append, List.length_take, List.length_drop]; omega

/-- What joined hands back. -/
def JoinOk (ws : List Nat) (w : World) (e : Ending) (w' : World) : Prop :=
  ∃ g N, e = .returned (.slice (some ⟨g, 0, none⟩) N N) ∧ ws.length = N ∧ w.heap.size ≤ g ∧ Blk w' g 51 (wcells ws).toArray ∧ Below w.heap.size w w'

set_option maxHeartbeats 1600000 in
theorem joined_or (A B : Option Addr) (n c m d : Nat) (xs ys : List Nat) (hn : n ≤ 100000) (hm : m ≤ 100000) (hx : W64 xs) (hy : W64 ys) (w : World) (hA : RW w w.heap.size A n xs) (hB : RW w w.heap.size B m ys) :
    Calls Tryd.prog 52 #[.slice A n c, .slice B m d, .func (.func 53) #[] #[]] w (JoinOk (joinW (fun x y => x ||| y) (padW xs m) ys) w) := by
  have HW := Lib.hid (widened_any A n c m xs (by omega) (by omega) w hA)
  have hl := hA.len
  obtain ⟨N, hN⟩ : ∃ N, N = max m n := ⟨_, rfl⟩
  have hpl : (padW xs m).length = N := by rw [pad_length, hl, hN]
  have hP := Lib.hid (pad_64 hx m)
  have HY := Lib.hid hy
  have HN : Hid (max m xs.length = N) := by show _ = _; rw [hl, hN]
  have HB := Lib.hid hB
  have HB0 : Hid (∀ wr, Below w.heap.size w wr → RW wr w.heap.size B m ys) := fun wr b => hB.below b
  have hNle : N ≤ 100000 := by omega
  have HQL : Hid ((joinW (fun x y => x ||| y) (padW xs m) ys).length = (padW xs m).length) := join_length _ _ _
  have HJ := Lib.hid (fun i h => join_getD (J := fun x y => x ||| y) (p := padW xs m) (b := ys) (i := i) h)
  generalize joinW (fun x y => x ||| y) (padW xs m) ys = q at *
  generalize hpe : padW xs m = p at *
  have HPE := Lib.hid hpe
  clear hpe
  have HPL := Lib.hid hpl
  clear hA hB hl hN hpl hx hy
  go_enter Tryd.func52, Tryd.ntmps52
  go_wp2_with fail
  refine HW.out.mono ?_
  rintro e w1 ⟨g, rfl, hg, hb1, b1⟩
  rw [HN.out]
  rw [HPE.out] at hb1
  have HB1 := Lib.hid hb1
  have BW := Lib.hid b1
  have HG := Lib.hid hg
  clear hb1 b1 hg HW HN HB
  go_wp2_with fail
  go_loopw [16] (fun i wr => ∃ k : Nat, k ≤ N ∧ i = .int .i64 k ∧ Hid (Blk wr g 51 (wcells (q.take k ++ p.drop k)).toArray) ∧ Hid (Below w.heap.size w wr)) (fun i _ => N - (intOf i).toNat)
  case atStart => exact ⟨0, Nat.zero_le _, rfl, by simpa using HB1, BW⟩
  case round =>
    obtain ⟨k, hk, rfl, HK, BK⟩ := hrel
    by_cases hlt : k < N
    · have hkp : k < p.length := by rw [HPL.out]; exact hlt
      have hql : q.length = p.length := HQL.out
      have hc := blk_get HK.out (k := k) (by rw [mix_len hql (by omega)]; exact hkp)
      rw [mix_at hql hkp] at hc
      have hf := HK.out.frozen k
      have HS := Lib.hid (mix_step hql hkp)
      have HV := Lib.hid (HJ.out k hkp)
      have hxk := hP.out.at_ k
      have hyk := HY.out.at_ k
      have HD := Lib.hid (fun w' h => word_any B m d k w.heap.size ys w' h)
      have HO := Lib.hid (or_any _ _ hxk hyk)
      have HR : Hid (RW wr w.heap.size B m ys) := HB0.out wr BK.out
      have HKP := Lib.hid hkp
      have HQ := Lib.hid hql
      clear hkp hql
      generalize p.getD k 0 = x at *
      generalize ys.getD k 0 = y at *
      go_wp2_with fail
      refine (HD.out _ HR.out).mono ?_
      rintro e w2 ⟨rfl, rfl⟩
      go_wp2_with fail
      refine (HO.out _).mono ?_
      rintro e w2 ⟨rfl, rfl⟩
      go_wp2_with fail
      go_roundw
      case rel =>
        refine ⟨k + 1, by omega, by go_num, ?_, BK.out.setCell (p := ⟨g, k, none⟩) HG.out _⟩
        have h1 := blk_set HK.out k (x ||| y)
        rw [← HV.out, HS.out] at h1
        rw [← HV.out]
        exact h1
      case measure => simp [intOf]; omega
    · obtain rfl : k = N := by omega
      go_wp2_with fail
      go_ret
      refine ⟨g, k, rfl, by rw [HQL.out, HPL.out], HG.out, ?_, BK.out⟩
      have h1 := HK.out
      rw [List.take_of_length_le (by rw [HQL.out, HPL.out]; exact Nat.le_refl _), List.drop_of_length_le (by rw [HPL.out]; exact Nat.le_refl _), List.append_nil] at h1
      exact h1

set_option maxHeartbeats 1600000 in
theorem joined_and (A B : Option Addr) (n c m d : Nat) (xs ys : List Nat) (hn : n ≤ 100000) (hm : m ≤ 100000) (hx : W64 xs) (hy : W64 ys) (w : World) (hA : RW w w.heap.size A n xs) (hB : RW w w.heap.size B m ys) :
    Calls Tryd.prog 52 #[.slice A n c, .slice B m d, .func (.func 54) #[] #[]] w (JoinOk (joinW (fun x y => x &&& y) (padW xs m) ys) w) := by
  have HW := Lib.hid (widened_any A n c m xs (by omega) (by omega) w hA)
  have hl := hA.len
  obtain ⟨N, hN⟩ : ∃ N, N = max m n := ⟨_, rfl⟩
  have hpl : (padW xs m).length = N := by rw [pad_length, hl, hN]
  have hP := Lib.hid (pad_64 hx m)
  have HY := Lib.hid hy
  have HN : Hid (max m xs.length = N) := by show _ = _; rw [hl, hN]
  have HB := Lib.hid hB
  have HB0 : Hid (∀ wr, Below w.heap.size w wr → RW wr w.heap.size B m ys) := fun wr b => hB.below b
  have hNle : N ≤ 100000 := by omega
  have HQL : Hid ((joinW (fun x y => x &&& y) (padW xs m) ys).length = (padW xs m).length) := join_length _ _ _
  have HJ := Lib.hid (fun i h => join_getD (J := fun x y => x &&& y) (p := padW xs m) (b := ys) (i := i) h)
  generalize joinW (fun x y => x &&& y) (padW xs m) ys = q at *
  generalize hpe : padW xs m = p at *
  have HPE := Lib.hid hpe
  clear hpe
  have HPL := Lib.hid hpl
  clear hA hB hl hN hpl hx hy
  go_enter Tryd.func52, Tryd.ntmps52
  go_wp2_with fail
  refine HW.out.mono ?_
  rintro e w1 ⟨g, rfl, hg, hb1, b1⟩
  rw [HN.out]
  rw [HPE.out] at hb1
  have HB1 := Lib.hid hb1
  have BW := Lib.hid b1
  have HG := Lib.hid hg
  clear hb1 b1 hg HW HN HB
  go_wp2_with fail
  go_loopw [16] (fun i wr => ∃ k : Nat, k ≤ N ∧ i = .int .i64 k ∧ Hid (Blk wr g 51 (wcells (q.take k ++ p.drop k)).toArray) ∧ Hid (Below w.heap.size w wr)) (fun i _ => N - (intOf i).toNat)
  case atStart => exact ⟨0, Nat.zero_le _, rfl, by simpa using HB1, BW⟩
  case round =>
    obtain ⟨k, hk, rfl, HK, BK⟩ := hrel
    by_cases hlt : k < N
    · have hkp : k < p.length := by rw [HPL.out]; exact hlt
      have hql : q.length = p.length := HQL.out
      have hc := blk_get HK.out (k := k) (by rw [mix_len hql (by omega)]; exact hkp)
      rw [mix_at hql hkp] at hc
      have hf := HK.out.frozen k
      have HS := Lib.hid (mix_step hql hkp)
      have HV := Lib.hid (HJ.out k hkp)
      have hxk := hP.out.at_ k
      have hyk := HY.out.at_ k
      have HD := Lib.hid (fun w' h => word_any B m d k w.heap.size ys w' h)
      have HO := Lib.hid (and_any _ _ hxk hyk)
      have HR : Hid (RW wr w.heap.size B m ys) := HB0.out wr BK.out
      have HKP := Lib.hid hkp
      have HQ := Lib.hid hql
      clear hkp hql
      generalize p.getD k 0 = x at *
      generalize ys.getD k 0 = y at *
      go_wp2_with fail
      refine (HD.out _ HR.out).mono ?_
      rintro e w2 ⟨rfl, rfl⟩
      go_wp2_with fail
      refine (HO.out _).mono ?_
      rintro e w2 ⟨rfl, rfl⟩
      go_wp2_with fail
      go_roundw
      case rel =>
        refine ⟨k + 1, by omega, by go_num, ?_, BK.out.setCell (p := ⟨g, k, none⟩) HG.out _⟩
        have h1 := blk_set HK.out k (x &&& y)
        rw [← HV.out, HS.out] at h1
        rw [← HV.out]
        exact h1
      case measure => simp [intOf]; omega
    · obtain rfl : k = N := by omega
      go_wp2_with fail
      go_ret
      refine ⟨g, k, rfl, by rw [HQL.out, HPL.out], HG.out, ?_, BK.out⟩
      have h1 := HK.out
      rw [List.take_of_length_le (by rw [HQL.out, HPL.out]; exact Nat.le_refl _), List.drop_of_length_le (by rw [HPL.out]; exact Nat.le_refl _), List.append_nil] at h1
      exact h1

set_option maxHeartbeats 1600000 in
theorem joined_andnot (A B : Option Addr) (n c m d : Nat) (xs ys : List Nat) (hn : n ≤ 100000) (hm : m ≤ 100000) (hx : W64 xs) (hy : W64 ys) (w : World) (hA : RW w w.heap.size A n xs) (hB : RW w w.heap.size B m ys) :
    Calls Tryd.prog 52 #[.slice A n c, .slice B m d, .func (.func 55) #[] #[]] w (JoinOk (joinW (fun x y => x &&& (18446744073709551615 - y)) (padW xs m) ys) w) := by
  have HW := Lib.hid (widened_any A n c m xs (by omega) (by omega) w hA)
  have hl := hA.len
  obtain ⟨N, hN⟩ : ∃ N, N = max m n := ⟨_, rfl⟩
  have hpl : (padW xs m).length = N := by rw [pad_length, hl, hN]
  have hP := Lib.hid (pad_64 hx m)
  have HY := Lib.hid hy
  have HN : Hid (max m xs.length = N) := by show _ = _; rw [hl, hN]
  have HB := Lib.hid hB
  have HB0 : Hid (∀ wr, Below w.heap.size w wr → RW wr w.heap.size B m ys) := fun wr b => hB.below b
  have hNle : N ≤ 100000 := by omega
  have HQL : Hid ((joinW (fun x y => x &&& (18446744073709551615 - y)) (padW xs m) ys).length = (padW xs m).length) := join_length _ _ _
  have HJ := Lib.hid (fun i h => join_getD (J := fun x y => x &&& (18446744073709551615 - y)) (p := padW xs m) (b := ys) (i := i) h)
  generalize joinW (fun x y => x &&& (18446744073709551615 - y)) (padW xs m) ys = q at *
  generalize hpe : padW xs m = p at *
  have HPE := Lib.hid hpe
  clear hpe
  have HPL := Lib.hid hpl
  clear hA hB hl hN hpl hx hy
  go_enter Tryd.func52, Tryd.ntmps52
  go_wp2_with fail
  refine HW.out.mono ?_
  rintro e w1 ⟨g, rfl, hg, hb1, b1⟩
  rw [HN.out]
  rw [HPE.out] at hb1
  have HB1 := Lib.hid hb1
  have BW := Lib.hid b1
  have HG := Lib.hid hg
  clear hb1 b1 hg HW HN HB
  go_wp2_with fail
  go_loopw [16] (fun i wr => ∃ k : Nat, k ≤ N ∧ i = .int .i64 k ∧ Hid (Blk wr g 51 (wcells (q.take k ++ p.drop k)).toArray) ∧ Hid (Below w.heap.size w wr)) (fun i _ => N - (intOf i).toNat)
  case atStart => exact ⟨0, Nat.zero_le _, rfl, by simpa using HB1, BW⟩
  case round =>
    obtain ⟨k, hk, rfl, HK, BK⟩ := hrel
    by_cases hlt : k < N
    · have hkp : k < p.length := by rw [HPL.out]; exact hlt
      have hql : q.length = p.length := HQL.out
      have hc := blk_get HK.out (k := k) (by rw [mix_len hql (by omega)]; exact hkp)
      rw [mix_at hql hkp] at hc
      have hf := HK.out.frozen k
      have HS := Lib.hid (mix_step hql hkp)
      have HV := Lib.hid (HJ.out k hkp)
      have hxk := hP.out.at_ k
      have hyk := HY.out.at_ k
      have HD := Lib.hid (fun w' h => word_any B m d k w.heap.size ys w' h)
      have HO := Lib.hid (andnot_any _ _ hxk hyk)
      have HR : Hid (RW wr w.heap.size B m ys) := HB0.out wr BK.out
      have HKP := Lib.hid hkp
      have HQ := Lib.hid hql
      clear hkp hql
      generalize p.getD k 0 = x at *
      generalize ys.getD k 0 = y at *
      go_wp2_with fail
      refine (HD.out _ HR.out).mono ?_
      rintro e w2 ⟨rfl, rfl⟩
      go_wp2_with fail
      refine (HO.out _).mono ?_
      rintro e w2 ⟨rfl, rfl⟩
      go_wp2_with fail
      go_roundw
      case rel =>
        refine ⟨k + 1, by omega, by go_num, ?_, BK.out.setCell (p := ⟨g, k, none⟩) HG.out _⟩
        have h1 := blk_set HK.out k (x &&& (18446744073709551615 - y))
        rw [← HV.out, HS.out] at h1
        rw [← HV.out]
        exact h1
      case measure => simp [intOf]; omega
    · obtain rfl : k = N := by omega
      go_wp2_with fail
      go_ret
      refine ⟨g, k, rfl, by rw [HQL.out, HPL.out], HG.out, ?_, BK.out⟩
      have h1 := HK.out
      rw [List.take_of_length_le (by rw [HQL.out, HPL.out]; exact Nat.le_refl _), List.drop_of_length_le (by rw [HPL.out]; exact Nat.le_refl _), List.append_nil] at h1
      exact h1
end Go.Proofs.YtpkpfnilfabkaaaDoor
