/- Layer bits: With and Without: contracts. -/
import Derived.Test.YtpkpfnilfabkaaaDoorBj
import Derived.StillTailTactics
namespace Go.Proofs.YtpkpfnilfabkaaaDoor
open Go.RowKit

/-- A row in which one word has been changed. -/
theorem has_set_word {p : List Nat} {i x : Nat} (hi : i < p.length) (n : Nat) : hasW (p.set i x) n = if n / 64 = i then x.testBit (n % 64) else hasW p n := by
  unfold hasW
  rw [List.getD_eq_getElem?_getD, List.getElem?_set]
  by_cases h : i = n / 64
  · rw [if_pos h, if_pos h.symm]
    simp [hi]
  · rw [if_neg h, if_neg (fun e => h e.symm), List.getD_eq_getElem?_getD]
theorem set_64 {p : List Nat} {i x : Nat} (hp : W64 p) (hx : x < 18446744073709551616) : W64 (p.set i x) := by
  intro y hy
  rcases List.mem_or_eq_of_mem_set hy with h | h
  · exact hp y h
  · rw [h]; exact hx
theorem same_num (n m : Nat) : (n / 64 = m / 64 ∧ m % 64 = n % 64) ↔ n = m := by omega
theorem has_with {p : List Nat} {m : Nat} (hm : m / 64 < p.length) (n : Nat) : hasW (p.set (m / 64) (p.getD (m / 64) 0 ||| 2 ^ (m % 64))) n = (hasW p n || decide (n = m)) := by
  rw [has_set_word hm]
  by_cases h : n / 64 = m / 64
  · rw [if_pos h, Nat.testBit_or, Nat.testBit_two_pow]
    unfold hasW
    rw [h]
    congr 1
    exact decide_eq_decide.2 ⟨fun e => (same_num n m).1 ⟨h, e⟩, fun e => by rw [e]⟩
  · rw [if_neg h]
    have : ¬ n = m := fun e => h (by rw [e])
    simp [this]
theorem has_without {p : List Nat} {m : Nat} (hm : m / 64 < p.length) (n : Nat) : hasW (p.set (m / 64) (p.getD (m / 64) 0 &&& (18446744073709551615 - 2 ^ (m % 64)))) n = (hasW p n && !decide (n = m)) := by
  rw [has_set_word hm]
  by_cases h : n / 64 = m / 64
  · rw [if_pos h, Nat.testBit_and, not_bit _ (pow_lt64 m) _ (Nat.mod_lt _ (by decide)), Nat.testBit_two_pow]
    unfold hasW
    rw [h]
    congr 2
    exact decide_eq_decide.2 ⟨fun e => (same_num n m).1 ⟨h, e⟩, fun e => by rw [e]⟩
  · rw [if_neg h]
    have : ¬ n = m := fun e => h (by rw [e])
    simp [this]

theorem bit_same (n : Nat) (hn : n ≤ 9223372036854775807) (w : World) : Calls Tryd.prog 47 #[.int .i64 (n : Int)] w fun e w' => e = .returned (.int .u64 ((2 ^ (n % 64) : Nat) : Int)) ∧ w' = w :=
  (bit_any n hn w).mono fun _ _ ⟨h1, h2⟩ => ⟨h1, h2.symm⟩
theorem room_nat (m : Nat) (h : m ≤ 100000) (w : World) : Calls Tryd.prog 46 #[.int .i64 (m : Int)] w fun e w' => e = .returned (.int .i64 ((m / 64 + 1 : Nat) : Int)) ∧ w = w' :=
  (room_any (m : Int) (by omega) (by omega) w).mono fun e w' ⟨h1, h2⟩ => ⟨by rw [h1, show ((m : Int) + 64) / 64 = ((m / 64 + 1 : Nat) : Int) by omega], h2⟩

theorem setErr_end {w w4 : World} {ws ws' : List Nat} {A : Option Addr} {n c b : Nat} {u : Array Value} {k : Int} (h : OW w.heap.size w4 A n ws) (hb : Blk w4 b 24 u) (hB : Below w.heap.size w w4) (hle : w.heap.size ≤ b) (hw : ws = ws') :
    SetErr ws' k w (.returned (.tuple #[.agg #[.slice A n c], .int .i64 k])) (w4.setCell ⟨b, 0, none⟩ (.slice A n c)) := by
  subst hw
  exact ⟨A, n, c, rfl, h.set_box hb (by decide) _, hB.setCell (p := ⟨b, 0, none⟩) hle _⟩

set_option maxRecDepth 100000 in
set_option maxHeartbeats 2000000 in
theorem with_no (A : Option Addr) (n c : Nat) (z : Int) (hz : mayB z = false) (w : World) :
    Calls Tryd.prog 26 #[.agg #[.slice A n c], .int .i64 z] w (SetErr [] 2 w) := by
  have HM := Lib.hid (fun w => may_any z w)
  rw [hz] at HM
  obtain ⟨q0, q1, hsz, hb0⟩ := two_boxes w (.slice A n c) (.slice none 0 0) 24 24
  clear hz
  go_enter Tryd.func26, Tryd.ntmps26
  go_wp2_with fail
  refine (HM.out _).mono ?_
  rintro e w1 ⟨rfl, rfl⟩
  go_wp2_with fail
  exact bodyPost_ret (v := .tuple #[.agg #[.slice none 0 0], .int .i64 2]) (by simp [results, Tryd.results26, go_sem, q1]) rfl ⟨none, 0, 0, rfl, ⟨rfl, fun h => absurd h (by omega)⟩, hb0⟩

set_option maxRecDepth 100000 in
set_option maxHeartbeats 2000000 in
theorem with_may (A : Option Addr) (n c m : Nat) (xs : List Nat) (hx : W64 xs) (hn : n ≤ 100000) (hm : m < 10000) (w : World) (hA : RW w w.heap.size A n xs) :
    Calls Tryd.prog 26 #[.agg #[.slice A n c], .int .i64 (m : Int)] w (SetErr (setW (fun n => inW xs n || decide (n = m))) 0 w) := by
  have HLX := Lib.hid (eff_len xs)
  have H6X := Lib.hid (eff_64 hx)
  have hmay : mayB (m : Int) = true := by unfold mayB; simp; omega
  have HM := Lib.hid (fun w => may_any (m : Int) w)
  rw [hmay] at HM
  have HRM := Lib.hid (fun w => room_nat m (by omega) w)
  have HBT := Lib.hid (fun w => bit_same m (by omega) w)
  have HWX := Lib.hid fun W (h : Below w.heap.size w W) => words_any A n c xs hx (by omega) W ((hA.below h).more h.size)
  have HJ : Hid (∀ q : List Nat, W64 q → (∀ n, hasW q n = (hasW (effW xs) n || decide (n = m))) → trimW q = setW (fun n => inW xs n || decide (n = m))) := fun q h1 h2 => trim_set h1 fun n => by
    rw [h2]
    rcases Nat.lt_or_ge n 10048 with h | h
    · simp [h, inW]
    · have e1 : hasW (effW xs) n = false := in_ge (ws := xs) (by omega)
      rw [e1]; simp [show ¬ n < 10048 by omega]; omega
  obtain ⟨q0, q1, hsz, hb0⟩ := two_boxes w (.slice A n c) (.slice none 0 0) 24 24
  have HQ1 : Hid (Blk ((w.alloc (.cells #[.slice A n c] 24)).alloc (.cells #[.slice none 0 0] 24)) (w.heap.size + 1) 24 #[.slice none 0 0]) := by
    have := Blk.new (w.alloc (.cells #[.slice A n c] 24)) 24 #[.slice none 0 0]
    rwa [World.size_alloc] at this
  clear hA hmay q1
  go_enter Tryd.func26, Tryd.ntmps26
  go_wp2_with fail
  refine (HM.out _).mono ?_
  rintro e w1 ⟨rfl, rfl⟩
  go_wp2_with fail
  refine (HWX.out _ hb0).mono ?_
  rintro e w1 ⟨A1, n1, c1, rfl, r1, b1⟩
  have B1 : Hid (Below w.heap.size w w1) := hb0.trans (b1.mono hb0.size)
  have K1 := Lib.hid (HQ1.out.below b1 (by omega))
  have hn1 : n1 ≤ 157 := by have := r1.len; have := HLX.out; omega
  have HL1 := Lib.hid r1.len
  have R1 := Lib.hid (r1.more b1.size)
  clear r1 b1 hb0 hsz HWX HM HQ1 q0
  go_wp2_with fail
  refine (HRM.out _).mono ?_
  rintro e w2 ⟨rfl, rfl⟩
  go_wp2_with fail
  refine (widened_any A1 n1 c1 (m / 64 + 1) _ (by omega) (by omega) w1 R1.out).mono ?_
  rintro e w2 ⟨g, rfl, hg, k2, b2⟩
  have B2 : Hid (Below w.heap.size w w2) := B1.out.trans (b2.mono B1.out.size)
  have HBX := Lib.hid (K1.out.below b2 K1.out.lt)
  have HG : Hid (w.heap.size ≤ g) := Nat.le_trans B1.out.size hg
  have hpl := pad_length (effW xs) (m / 64 + 1)
  have hN : max (m / 64 + 1) (effW xs).length ≤ 200 := by have := HLX.out; omega
  have HP := Lib.hid (pad_64 H6X.out (m / 64 + 1))
  have HH : Hid (∀ n, hasW (padW (effW xs) (m / 64 + 1)) n = hasW (effW xs) n) := has_pad _ _
  have hlt : m / 64 < max (m / 64 + 1) (effW xs).length := by omega
  generalize max (m / 64 + 1) (effW xs).length = N at *
  generalize padW (effW xs) (m / 64 + 1) = p at *
  have hltp : m / 64 < p.length := by omega
  have hw := HP.out.at_ (m / 64)
  have hb := pow_lt64 m
  have hc := blk_get k2 hltp
  have hf := k2.frozen (m / 64)
  have HU := Lib.hid (u64_or_nat _ _ hw hb)
  have HK : Hid (Blk (w2.setCell ⟨g, m / 64, none⟩ (.int .u64 ((p.getD (m / 64) 0 ||| 2 ^ (m % 64) : Nat) : Int))) g 51 (wcells (p.set (m / 64) (p.getD (m / 64) 0 ||| 2 ^ (m % 64)))).toArray) := blk_set k2 _ _
  have HBX2 : Hid (Blk (w2.setCell ⟨g, m / 64, none⟩ (.int .u64 ((p.getD (m / 64) 0 ||| 2 ^ (m % 64) : Nat) : Int))) (w.heap.size + 1) 24 #[.slice none 0 0]) := HBX.out.far (p := ⟨g, m / 64, none⟩) (Blk.ne_ HBX.out k2 (by decide)) _
  have HT := Lib.hid (HJ.out (p.set (m / 64) (p.getD (m / 64) 0 ||| 2 ^ (m % 64))) (set_64 HP.out (or_lt _ _ hw hb)) (fun n => by rw [has_with hltp, HH.out]))
  have HSL : Hid ((p.set (m / 64) (p.getD (m / 64) 0 ||| 2 ^ (m % 64))).length = N) := by show _ = _; rw [List.length_set]; exact hpl
  generalize p.set (m / 64) (p.getD (m / 64) 0 ||| 2 ^ (m % 64)) = q at *
  have hu := HU.out
  generalize p.getD (m / 64) 0 = x at *
  generalize 2 ^ (m % 64) = y at *
  generalize x ||| y = zz at *
  clear hpl HU k2 b2 hg R1 K1 B1 HP HH HJ hw hb hltp
  have d1 : (0 : Int) ≤ (m : Int) / 64 := by omega
  have d2 : (m : Int) / 64 < (N : Int) := by omega
  have d3 : ((m : Int) / 64).toNat = m / 64 := by omega
  have d4 : IntKind.i64.wrap ((m : Int) / 64) = (m : Int) / 64 := IntWalk.i64_in _ (by omega)
  go_wp2_with fail
  refine wp_region_still_tail 9 (by kernel_rfl) (by kernel_rfl) ?_
  simp only [List.take_succ_cons, List.take_zero, List.drop_succ_cons, List.drop_zero]
  still_step
  still_step
  still_step
  still_step
  still_step
  still_step
  still_call (HBT.out _)
  still_step
  still_step
  refine wpStill_nil ?_
  change wpList _ _ _ _ _ w2.drew
  go_wp2_with fail
  refine (cut_any w.heap.size (some ⟨g, 0, none⟩) N N q (Nat.le_refl _) (by omega) (w2.setCell ⟨g, m / 64, none⟩ (.int .u64 (zz : Int))).drew ⟨HSL.out, fun _ => ⟨g, rfl, HG.out, HK.out.drew⟩⟩).mono ?_
  rintro e w4 ⟨A4, n4, c4, rfl, o4, b4⟩
  have B3 : Below w.heap.size w (w2.setCell ⟨g, m / 64, none⟩ (.int .u64 (zz : Int))).drew := below_drew' (B2.out.setCell (p := ⟨g, m / 64, none⟩) HG.out _)
  have B4 : Hid (Below w.heap.size w w4) := B3.trans (b4.mono B3.size)
  have HB4 := Lib.hid (HBX2.out.drew.below b4 (by exact HBX2.out.lt))
  have zc := HB4.out.cell 0
  have zf := HB4.out.frozen 0
  have hz := World.cell?_setCell_same' w4 ⟨w.heap.size + 1, 0, none⟩ (.slice A4 n4 c4) (by rw [zc]; rfl)
  have HE := Lib.hid (setErr_end (c := c4) (k := 0) o4 HB4.out B4.out (by omega) HT.out)
  clear o4 b4 B3 HT HK HBX2 HSL
  go_wp2_with fail
  exact bodyPost_ret (v := .tuple #[.agg #[.slice A4 n4 c4], .int .i64 0]) (by simp [results, Tryd.results26, go_sem, hz]) rfl HE.out

theorem pad_none (ws : List Nat) : padW ws 0 = ws := by unfold padW; simp
set_option maxRecDepth 100000 in
set_option maxHeartbeats 2000000 in
theorem without_any (A : Option Addr) (n c : Nat) (z : Int) (hz0 : -9223372036854775808 ≤ z) (hz1 : z ≤ 9223372036854775807) (xs : List Nat) (hx : W64 xs) (hn : n ≤ 100000) (w : World) (hA : RW w w.heap.size A n xs) :
    Calls Tryd.prog 27 #[.agg #[.slice A n c], .int .i64 z] w (SetOk (setW (fun n => inW xs n && !decide ((n : Int) = z))) w) := by
  have HLX := Lib.hid (eff_len xs)
  have H6X := Lib.hid (eff_64 hx)
  have HHZ := Lib.hid fun W (h : Below w.heap.size w W) => has_any A n c xs hx (by omega) z hz0 hz1 W ((hA.below h).more h.size)
  have HWX := Lib.hid fun W (h : Below w.heap.size w W) => words_any A n c xs hx (by omega) W ((hA.below h).more h.size)
  have HJ : Hid (∀ q : List Nat, W64 q → (∀ n, hasW q n = (hasW (effW xs) n && !decide ((n : Int) = z))) → trimW q = setW (fun n => inW xs n && !decide ((n : Int) = z))) := fun q h1 h2 => trim_set h1 fun n => by
    rw [h2]
    rcases Nat.lt_or_ge n 10048 with h | h
    · simp [h, inW]
    · have e1 : hasW (effW xs) n = false := in_ge (ws := xs) (by omega)
      rw [e1]; simp [show ¬ n < 10048 by omega]
  obtain ⟨q0, q1, hsz, hb0⟩ := two_boxes w (.slice A n c) (.slice none 0 0) 24 24
  have HQ1 : Hid (Blk ((w.alloc (.cells #[.slice A n c] 24)).alloc (.cells #[.slice none 0 0] 24)) (w.heap.size + 1) 24 #[.slice none 0 0]) := by
    have := Blk.new (w.alloc (.cells #[.slice A n c] 24)) 24 #[.slice none 0 0]
    rwa [World.size_alloc] at this
  clear hA q1
  go_enter Tryd.func27, Tryd.ntmps27
  go_wp2_with fail
  refine (HWX.out _ hb0).mono ?_
  rintro e w1 ⟨A1, n1, c1, rfl, r1, b1⟩
  have B1 : Hid (Below w.heap.size w w1) := hb0.trans (b1.mono hb0.size)
  have K1 := Lib.hid (HQ1.out.below b1 (by omega))
  have x0 := cell_on b1 q0 (by show w.heap.size < _; omega)
  have hx0 : w.heap.size < w1.heap.size := by have := b1.size; omega
  have hn1 : n1 ≤ 157 := by have := r1.len; have := HLX.out; omega
  have HL1 := Lib.hid r1.len
  have R1 := Lib.hid (r1.more b1.size)
  clear r1 b1 hb0 hsz HWX HQ1 q0
  go_wp2_with fail
  refine (widened_any A1 n1 c1 0 _ (by omega) (by omega) w1 R1.out).mono ?_
  rintro e w2 ⟨g, rfl, hg, k2, b2⟩
  rw [pad_none] at k2
  have B2 : Hid (Below w.heap.size w w2) := B1.out.trans (b2.mono B1.out.size)
  have HBX := Lib.hid (K1.out.below b2 K1.out.lt)
  have y0 := cell_on b2 x0 hx0
  have hy0 : w.heap.size < w2.heap.size := by have := b2.size; omega
  have HG : Hid (w.heap.size ≤ g) := Nat.le_trans B1.out.size hg
  rw [Nat.zero_max]
  have K2 := Lib.hid k2
  clear k2 b2 x0
  go_wp2_with fail
  refine (HHZ.out w2 B2.out).mono ?_
  rintro e w3 ⟨rfl, b3⟩
  have B3 : Hid (Below w.heap.size w w3) := B2.out.trans (b3.mono B2.out.size)
  have HBX3 := Lib.hid (HBX.out.below b3 HBX.out.lt)
  have k3 := K2.out.below b3 K2.out.lt
  have hN : (effW xs).length ≤ 157 := HLX.out
  clear b3 y0 HHZ K2 HBX B2
  by_cases hh : hasZ xs z = true
  · obtain ⟨m, rfl⟩ : ∃ m : Nat, z = m := ⟨z.toNat, by unfold hasZ mayB at hh; simp at hh; omega⟩
    have hm : m < 10000 := by unfold hasZ mayB at hh; simp at hh; omega
    have hin : hasW (effW xs) m = true := by unfold hasZ inW at hh; simp at hh; exact hh.2
    have hlt := has_lt hin
    have HBT := Lib.hid (fun w => bit_same m (by omega) w)
    have HP := H6X
    have HJ' : Hid (∀ q : List Nat, W64 q → (∀ n, hasW q n = (hasW (effW xs) n && !decide (n = m))) → trimW q = setW (fun n => inW xs n && !decide ((n : Int) = (m : Int)))) := fun q h1 h2 => HJ.out q h1 fun n => by
      rw [h2]; congr 2; exact decide_eq_decide.2 (by omega)
    clear HJ hin
    generalize hpe : effW xs = p at *
    have HPE := Lib.hid hpe
    obtain ⟨N, hNe⟩ : ∃ N, p.length = N := ⟨_, rfl⟩
    have hltp : m / 64 < p.length := by omega
    have hw := HP.out.at_ (m / 64)
    have hb := pow_lt64 m
    have hc := blk_get k3 hltp
    have hf := k3.frozen (m / 64)
    have HU := Lib.hid (u64_andNot_nat _ _ hw hb)
    have HK : Hid (Blk (w3.setCell ⟨g, m / 64, none⟩ (.int .u64 ((p.getD (m / 64) 0 &&& (18446744073709551615 - 2 ^ (m % 64)) : Nat) : Int))) g 51 (wcells (p.set (m / 64) (p.getD (m / 64) 0 &&& (18446744073709551615 - 2 ^ (m % 64))))).toArray) := blk_set k3 _ _
    have HBX2 : Hid (Blk (w3.setCell ⟨g, m / 64, none⟩ (.int .u64 ((p.getD (m / 64) 0 &&& (18446744073709551615 - 2 ^ (m % 64)) : Nat) : Int))) (w.heap.size + 1) 24 #[.slice none 0 0]) := HBX3.out.far (p := ⟨g, m / 64, none⟩) (Blk.ne_ HBX3.out k3 (by decide)) _
    have HT := Lib.hid (HJ'.out (p.set (m / 64) (p.getD (m / 64) 0 &&& (18446744073709551615 - 2 ^ (m % 64)))) (set_64 HP.out (andnot_lt _ _ hw hb)) (fun n => has_without hltp n))
    have HSL : Hid ((p.set (m / 64) (p.getD (m / 64) 0 &&& (18446744073709551615 - 2 ^ (m % 64)))).length = N) := by show _ = _; rw [List.length_set]; exact hNe
    generalize p.set (m / 64) (p.getD (m / 64) 0 &&& (18446744073709551615 - 2 ^ (m % 64))) = q at *
    have hu := HU.out
    generalize p.getD (m / 64) 0 = x at *
    generalize 2 ^ (m % 64) = y at *
    generalize x &&& (18446744073709551615 - y) = zz at *
    rw [hNe]
    have hN2 : N ≤ 157 := by omega
    have d1 : (0 : Int) ≤ (m : Int) / 64 := by omega
    have d2 : (m : Int) / 64 < (N : Int) := by omega
    have d3 : ((m : Int) / 64).toNat = m / 64 := by omega
    have d4 : IntKind.i64.wrap ((m : Int) / 64) = (m : Int) / 64 := IntWalk.i64_in _ (by omega)
    clear HU k3 hg R1 K1 B1 HP HJ' hw hb hltp hpe hlt hNe HLX HPE hN HL1
    rw [hh]
    clear hh
    go_wp2_with fail
    refine wp_region_still_tail 9 (by kernel_rfl) (by kernel_rfl) ?_
    simp only [List.take_succ_cons, List.take_zero, List.drop_succ_cons, List.drop_zero]
    still_step
    still_step
    still_step
    still_step
    still_step
    still_step
    still_call (HBT.out _)
    still_step
    still_step
    refine wpStill_nil ?_
    change wpList _ _ _ _ _ w3.drew
    go_wp2_with fail
    refine (cut_any w.heap.size (some ⟨g, 0, none⟩) N N q (Nat.le_refl _) (by omega) (w3.setCell ⟨g, m / 64, none⟩ (.int .u64 (zz : Int))).drew ⟨HSL.out, fun _ => ⟨g, rfl, HG.out, HK.out.drew⟩⟩).mono ?_
    rintro e w4 ⟨A4, n4, c4, rfl, o4, b4⟩
    have C3 : Below w.heap.size w (w3.setCell ⟨g, m / 64, none⟩ (.int .u64 (zz : Int))).drew := below_drew' (B3.out.setCell (p := ⟨g, m / 64, none⟩) HG.out _)
    have B4 : Hid (Below w.heap.size w w4) := C3.trans (b4.mono C3.size)
    have HB4 := Lib.hid (HBX2.out.drew.below b4 (by exact HBX2.out.lt))
    have zc := HB4.out.cell 0
    have zf := HB4.out.frozen 0
    have hz := World.cell?_setCell_same' w4 ⟨w.heap.size + 1, 0, none⟩ (.slice A4 n4 c4) (by rw [zc]; rfl)
    have HE := Lib.hid (set_end (c := c4) o4 HB4.out B4.out (by omega) HT.out)
    clear o4 b4 C3 HT HK HBX2 HSL
    go_wp2_with fail
    exact bodyPost_ret (v := .agg #[.slice A4 n4 c4]) (by simp [results, Tryd.results27, go_sem, hz]) rfl HE.out
  · have hh' : hasZ xs z = false := by simpa using hh
    have HT : Hid (trimW (effW xs) = setW (fun n => inW xs n && !decide ((n : Int) = z))) := HJ.out _ H6X.out fun n => by
      cases hb : hasW (effW xs) n with
      | false => rfl
      | true =>
        have h1 : n < 10000 := in_lt (ws := xs) hb
        by_cases e : (n : Int) = z
        · subst e
          have : hasZ xs (n : Int) = true := by unfold hasZ mayB inW; simp [hb]; omega
          rw [this] at hh'; cases hh'
        · simp [e]
    have K3 := Lib.hid k3
    obtain ⟨N, hNe⟩ : ∃ N, (effW xs).length = N := ⟨_, rfl⟩
    have HNE := Lib.hid hNe
    have hN2 : N ≤ 157 := by omega
    rw [hNe, hh']
    clear hh hh' k3 hNe HJ HLX hN HL1
    go_wp2_with fail
    refine (cut_any w.heap.size (some ⟨g, 0, none⟩) N N _ (Nat.le_refl _) (by omega) w3 ⟨HNE.out, fun _ => ⟨g, rfl, HG.out, K3.out⟩⟩).mono ?_
    rintro e w4 ⟨A4, n4, c4, rfl, o4, b4⟩
    have B4 : Hid (Below w.heap.size w w4) := B3.out.trans (b4.mono B3.out.size)
    have HB4 := Lib.hid (HBX3.out.below b4 HBX3.out.lt)
    have zc := HB4.out.cell 0
    have zf := HB4.out.frozen 0
    have hz := World.cell?_setCell_same' w4 ⟨w.heap.size + 1, 0, none⟩ (.slice A4 n4 c4) (by rw [zc]; rfl)
    have HE := Lib.hid (set_end (c := c4) o4 HB4.out B4.out (by omega) HT.out)
    clear o4 b4 HT K3
    go_wp2_with fail
    exact bodyPost_ret (v := .agg #[.slice A4 n4 c4]) (by simp [results, Tryd.results27, go_sem, hz]) rfl HE.out
end Go.Proofs.YtpkpfnilfabkaaaDoor
