/- The document's answers of layer digit (package yardarmref01): Head, as a contract of the translated call. -/
import Derived.Test.YtfbbjfjckaojeaaDoorDrr
namespace Go.Proofs.YtfbbjfjckaojeaaDoor
open Go.RowKit

theorem quiet_below {B : Nat} {w : World} (n : Nat) : Below B w (w.drewN n) := drewN_below (Below.refl _ _) n

set_option maxHeartbeats 1600000 in
theorem rhead_empty (s : ByteArray) (l : List UInt8) (k : Nat) (hs : s.size ≤ 1000) (hA : s.toList = []) (hsz : Hid (s.size = l.length + 0))
    (hget : Hid (∀ (q p : Nat) (h : p < l.length) (h2 : q < s.size), q = p + 0 → s[q]'h2 = l[p])) (HK : Hid (k = if runL l = 0 then 0 else 0 + runL l)) (w : World) :
    Calls Tryd.prog 16 #[.string s] w fun e w' => e = .returned (.tuple #[.string (s.extract 0 k), .string (s.extract k s.size)]) ∧ Below w.heap.size w w' := by
  go_enter Tryd.func16, Tryd.ntmps16
  go_wp2_with fail
  go_loop [5] (fun v => ∃ q : Nat, 0 ≤ q ∧ q ≤ s.size ∧ v = .int .i64 q ∧ Hid ((l.take (q - 0)).all isD = true)) (fun v => s.size - (intOf v).toNat)
  case atStart => exact ⟨0, Nat.le_refl _, Nat.zero_le _, rfl, rfl⟩
  case round =>
    obtain ⟨q, hq0, hqs, rfl, hall⟩ := hrel
    have hz := hsz.out
    by_cases hlt : q < s.size
    · have hpl : q - 0 < l.length := by omega
      have hg := hget.out q (q - 0) hpl hlt (by omega)
      cases hd : isD (s[q]'hlt)
      · have hq : q = 0 + runL l := by
          have := runL_at hall.out hpl (by rw [← hg]; exact hd)
          omega
        have hn : ¬ (48 ≤ (s[q]'hlt).toNat ∧ (s[q]'hlt).toNat ≤ 57) := by rw [← isD_iff]; simp [hd]
        clear hd hg hz
        by_cases hlo : (48 : Int) ≤ ((s[q]'hlt).toNat : Int)
        · have hhi : ¬ ((s[q]'hlt).toNat : Int) ≤ 57 := by omega
          clear hn
          cases hr : decide (runL l = 0)
          · have hne : runL l ≠ 0 := by simpa using hr
            have hqb : ((q : Int) == 0) = false := beq_eq_false_iff_ne.2 (by omega)
            have HK2 : Hid (k = q) := by have := HK.out; rw [if_neg hne] at this; show k = q; omega
            clear hr hne hq
            go_wp2_with fail
            go_quiet (fail)
            go_wp2_with fail
            go_ret2
            exact ⟨by rw [HK2.out]; rfl, quiet_below _⟩
          · have he : runL l = 0 := by simpa using hr
            have HK2 : Hid (k = 0) := by have := HK.out; rw [if_pos he] at this; exact this
            obtain rfl : q = 0 := by omega
            clear hr he hq
            go_wp2_with fail
            go_quiet (fail)
            go_wp2_with fail
            go_ret2
            exact ⟨by rw [HK2.out, extract_none, extract_whole]; rfl, quiet_below _⟩

        · clear hn
          cases hr : decide (runL l = 0)
          · have hne : runL l ≠ 0 := by simpa using hr
            have hqb : ((q : Int) == 0) = false := beq_eq_false_iff_ne.2 (by omega)
            have HK2 : Hid (k = q) := by have := HK.out; rw [if_neg hne] at this; show k = q; omega
            clear hr hne hq
            go_wp2_with fail
            go_quiet (fail)
            go_wp2_with fail
            go_ret2
            exact ⟨by rw [HK2.out]; rfl, quiet_below _⟩
          · have he : runL l = 0 := by simpa using hr
            have HK2 : Hid (k = 0) := by have := HK.out; rw [if_pos he] at this; exact this
            obtain rfl : q = 0 := by omega
            clear hr he hq
            go_wp2_with fail
            go_quiet (fail)
            go_wp2_with fail
            go_ret2
            exact ⟨by rw [HK2.out, extract_none, extract_whole]; rfl, quiet_below _⟩

      · have hall2 := Lib.hid (all_step hall.out hpl (by rw [← hg]; exact hd))
        have hd' := (isD_iff _).1 hd
        have hlo : (48 : Int) ≤ ((s[q]'hlt).toNat : Int) := by omega
        have hhi : ((s[q]'hlt).toNat : Int) ≤ 57 := by omega
        clear hd hd' hg hz
        go_wp2_with fail
        go_round
        case rel => exact ⟨q + 1, by omega, by omega, by go_num, by have := hall2.out; rwa [show q - 0 + 1 = q + 1 - 0 by omega] at this⟩
        case measure => simp [intOf]; omega
    · have hq : q = 0 + runL l := by
        have h := hall.out
        rw [List.take_of_length_le (by omega)] at h
        have := runL_all h
        omega
      clear hz
      have hge : ¬ (q : Int) < (s.size : Int) := by omega
      cases hr : decide (runL l = 0)
      · have hne : runL l ≠ 0 := by simpa using hr
        have hqb : ((q : Int) == 0) = false := beq_eq_false_iff_ne.2 (by omega)
        have HK2 : Hid (k = q) := by have := HK.out; rw [if_neg hne] at this; show k = q; omega
        clear hr hne hq
        go_wp2_with fail
        go_quiet (fail)
        go_wp2_with fail
        go_ret2
        exact ⟨by rw [HK2.out]; rfl, quiet_below _⟩
      · have he : runL l = 0 := by simpa using hr
        have HK2 : Hid (k = 0) := by have := HK.out; rw [if_pos he] at this; exact this
        obtain rfl : q = 0 := by omega
        clear hr he hq
        go_wp2_with fail
        go_quiet (fail)
        go_wp2_with fail
        go_ret2
        exact ⟨by rw [HK2.out, extract_none, extract_whole]; rfl, quiet_below _⟩


set_option maxHeartbeats 1600000 in
theorem rhead_plain (s : ByteArray) (l : List UInt8) (k : Nat) (hs : s.size ≤ 1000) (hs0 : 0 < s.size) (hB : s.toList.isEmpty = false) (h45 : ((s[0].toNat : Int) == 45) = false) (hsz : Hid (s.size = l.length + 0))
    (hget : Hid (∀ (q p : Nat) (h : p < l.length) (h2 : q < s.size), q = p + 0 → s[q]'h2 = l[p])) (HK : Hid (k = if runL l = 0 then 0 else 0 + runL l)) (w : World) :
    Calls Tryd.prog 16 #[.string s] w fun e w' => e = .returned (.tuple #[.string (s.extract 0 k), .string (s.extract k s.size)]) ∧ Below w.heap.size w w' := by
  go_enter Tryd.func16, Tryd.ntmps16
  go_wp2_with fail
  go_loop [5] (fun v => ∃ q : Nat, 0 ≤ q ∧ q ≤ s.size ∧ v = .int .i64 q ∧ Hid ((l.take (q - 0)).all isD = true)) (fun v => s.size - (intOf v).toNat)
  case atStart => exact ⟨0, Nat.le_refl _, Nat.zero_le _, rfl, rfl⟩
  case round =>
    obtain ⟨q, hq0, hqs, rfl, hall⟩ := hrel
    have hz := hsz.out
    by_cases hlt : q < s.size
    · have hpl : q - 0 < l.length := by omega
      have hg := hget.out q (q - 0) hpl hlt (by omega)
      cases hd : isD (s[q]'hlt)
      · have hq : q = 0 + runL l := by
          have := runL_at hall.out hpl (by rw [← hg]; exact hd)
          omega
        have hn : ¬ (48 ≤ (s[q]'hlt).toNat ∧ (s[q]'hlt).toNat ≤ 57) := by rw [← isD_iff]; simp [hd]
        clear hd hg hz
        by_cases hlo : (48 : Int) ≤ ((s[q]'hlt).toNat : Int)
        · have hhi : ¬ ((s[q]'hlt).toNat : Int) ≤ 57 := by omega
          clear hn
          cases hr : decide (runL l = 0)
          · have hne : runL l ≠ 0 := by simpa using hr
            have hqb : ((q : Int) == 0) = false := beq_eq_false_iff_ne.2 (by omega)
            have HK2 : Hid (k = q) := by have := HK.out; rw [if_neg hne] at this; show k = q; omega
            clear hr hne hq
            go_wp2_with fail
            go_quiet (fail)
            go_wp2_with fail
            go_ret2
            exact ⟨by rw [HK2.out]; rfl, quiet_below _⟩
          · have he : runL l = 0 := by simpa using hr
            have HK2 : Hid (k = 0) := by have := HK.out; rw [if_pos he] at this; exact this
            obtain rfl : q = 0 := by omega
            clear hr he hq
            go_wp2_with fail
            go_quiet (fail)
            go_wp2_with fail
            go_ret2
            exact ⟨by rw [HK2.out, extract_none, extract_whole]; rfl, quiet_below _⟩

        · clear hn
          cases hr : decide (runL l = 0)
          · have hne : runL l ≠ 0 := by simpa using hr
            have hqb : ((q : Int) == 0) = false := beq_eq_false_iff_ne.2 (by omega)
            have HK2 : Hid (k = q) := by have := HK.out; rw [if_neg hne] at this; show k = q; omega
            clear hr hne hq
            go_wp2_with fail
            go_quiet (fail)
            go_wp2_with fail
            go_ret2
            exact ⟨by rw [HK2.out]; rfl, quiet_below _⟩
          · have he : runL l = 0 := by simpa using hr
            have HK2 : Hid (k = 0) := by have := HK.out; rw [if_pos he] at this; exact this
            obtain rfl : q = 0 := by omega
            clear hr he hq
            go_wp2_with fail
            go_quiet (fail)
            go_wp2_with fail
            go_ret2
            exact ⟨by rw [HK2.out, extract_none, extract_whole]; rfl, quiet_below _⟩

      · have hall2 := Lib.hid (all_step hall.out hpl (by rw [← hg]; exact hd))
        have hd' := (isD_iff _).1 hd
        have hlo : (48 : Int) ≤ ((s[q]'hlt).toNat : Int) := by omega
        have hhi : ((s[q]'hlt).toNat : Int) ≤ 57 := by omega
        clear hd hd' hg hz
        go_wp2_with fail
        go_round
        case rel => exact ⟨q + 1, by omega, by omega, by go_num, by have := hall2.out; rwa [show q - 0 + 1 = q + 1 - 0 by omega] at this⟩
        case measure => simp [intOf]; omega
    · have hq : q = 0 + runL l := by
        have h := hall.out
        rw [List.take_of_length_le (by omega)] at h
        have := runL_all h
        omega
      clear hz
      have hge : ¬ (q : Int) < (s.size : Int) := by omega
      cases hr : decide (runL l = 0)
      · have hne : runL l ≠ 0 := by simpa using hr
        have hqb : ((q : Int) == 0) = false := beq_eq_false_iff_ne.2 (by omega)
        have HK2 : Hid (k = q) := by have := HK.out; rw [if_neg hne] at this; show k = q; omega
        clear hr hne hq
        go_wp2_with fail
        go_quiet (fail)
        go_wp2_with fail
        go_ret2
        exact ⟨by rw [HK2.out]; rfl, quiet_below _⟩
      · have he : runL l = 0 := by simpa using hr
        exact absurd hs0 (by omega)


set_option maxHeartbeats 1600000 in
theorem rhead_minus (s : ByteArray) (l : List UInt8) (k : Nat) (hs : s.size ≤ 1000) (hs0 : 0 < s.size) (hB : s.toList.isEmpty = false) (h45 : ((s[0].toNat : Int) == 45) = true) (hsz : Hid (s.size = l.length + 1))
    (hget : Hid (∀ (q p : Nat) (h : p < l.length) (h2 : q < s.size), q = p + 1 → s[q]'h2 = l[p])) (HK : Hid (k = if runL l = 0 then 0 else 1 + runL l)) (w : World) :
    Calls Tryd.prog 16 #[.string s] w fun e w' => e = .returned (.tuple #[.string (s.extract 0 k), .string (s.extract k s.size)]) ∧ Below w.heap.size w w' := by
  go_enter Tryd.func16, Tryd.ntmps16
  go_wp2_with fail
  go_loop [5] (fun v => ∃ q : Nat, 1 ≤ q ∧ q ≤ s.size ∧ v = .int .i64 q ∧ Hid ((l.take (q - 1)).all isD = true)) (fun v => s.size - (intOf v).toNat)
  case atStart => exact ⟨1, Nat.le_refl _, hs0, rfl, rfl⟩
  case round =>
    obtain ⟨q, hq0, hqs, rfl, hall⟩ := hrel
    have hz := hsz.out
    by_cases hlt : q < s.size
    · have hpl : q - 1 < l.length := by omega
      have hg := hget.out q (q - 1) hpl hlt (by omega)
      cases hd : isD (s[q]'hlt)
      · have hq : q = 1 + runL l := by
          have := runL_at hall.out hpl (by rw [← hg]; exact hd)
          omega
        have hn : ¬ (48 ≤ (s[q]'hlt).toNat ∧ (s[q]'hlt).toNat ≤ 57) := by rw [← isD_iff]; simp [hd]
        clear hd hg hz
        by_cases hlo : (48 : Int) ≤ ((s[q]'hlt).toNat : Int)
        · have hhi : ¬ ((s[q]'hlt).toNat : Int) ≤ 57 := by omega
          clear hn
          cases hr : decide (runL l = 0)
          · have hne : runL l ≠ 0 := by simpa using hr
            have hqb : ((q : Int) == 1) = false := beq_eq_false_iff_ne.2 (by omega)
            have HK2 : Hid (k = q) := by have := HK.out; rw [if_neg hne] at this; show k = q; omega
            clear hr hne hq
            go_wp2_with fail
            go_quiet (fail)
            go_wp2_with fail
            go_ret2
            exact ⟨by rw [HK2.out]; rfl, quiet_below _⟩
          · have he : runL l = 0 := by simpa using hr
            have HK2 : Hid (k = 0) := by have := HK.out; rw [if_pos he] at this; exact this
            obtain rfl : q = 1 := by omega
            clear hr he hq
            go_wp2_with fail
            go_quiet (fail)
            go_wp2_with fail
            go_ret2
            exact ⟨by rw [HK2.out, extract_none, extract_whole]; rfl, quiet_below _⟩

        · clear hn
          cases hr : decide (runL l = 0)
          · have hne : runL l ≠ 0 := by simpa using hr
            have hqb : ((q : Int) == 1) = false := beq_eq_false_iff_ne.2 (by omega)
            have HK2 : Hid (k = q) := by have := HK.out; rw [if_neg hne] at this; show k = q; omega
            clear hr hne hq
            go_wp2_with fail
            go_quiet (fail)
            go_wp2_with fail
            go_ret2
            exact ⟨by rw [HK2.out]; rfl, quiet_below _⟩
          · have he : runL l = 0 := by simpa using hr
            have HK2 : Hid (k = 0) := by have := HK.out; rw [if_pos he] at this; exact this
            obtain rfl : q = 1 := by omega
            clear hr he hq
            go_wp2_with fail
            go_quiet (fail)
            go_wp2_with fail
            go_ret2
            exact ⟨by rw [HK2.out, extract_none, extract_whole]; rfl, quiet_below _⟩

      · have hall2 := Lib.hid (all_step hall.out hpl (by rw [← hg]; exact hd))
        have hd' := (isD_iff _).1 hd
        have hlo : (48 : Int) ≤ ((s[q]'hlt).toNat : Int) := by omega
        have hhi : ((s[q]'hlt).toNat : Int) ≤ 57 := by omega
        clear hd hd' hg hz
        go_wp2_with fail
        go_round
        case rel => exact ⟨q + 1, by omega, by omega, by go_num, by have := hall2.out; rwa [show q - 1 + 1 = q + 1 - 1 by omega] at this⟩
        case measure => simp [intOf]; omega
    · have hq : q = 1 + runL l := by
        have h := hall.out
        rw [List.take_of_length_le (by omega)] at h
        have := runL_all h
        omega
      clear hz
      have hge : ¬ (q : Int) < (s.size : Int) := by omega
      cases hr : decide (runL l = 0)
      · have hne : runL l ≠ 0 := by simpa using hr
        have hqb : ((q : Int) == 1) = false := beq_eq_false_iff_ne.2 (by omega)
        have HK2 : Hid (k = q) := by have := HK.out; rw [if_neg hne] at this; show k = q; omega
        clear hr hne hq
        go_wp2_with fail
        go_quiet (fail)
        go_wp2_with fail
        go_ret2
        exact ⟨by rw [HK2.out]; rfl, quiet_below _⟩
      · have he : runL l = 0 := by simpa using hr
        have HK2 : Hid (k = 0) := by have := HK.out; rw [if_pos he] at this; exact this
        obtain rfl : q = 1 := by omega
        clear hr he hq
        go_wp2_with fail
        go_quiet (fail)
        go_wp2_with fail
        go_ret2
        exact ⟨by rw [HK2.out, extract_none, extract_whole]; rfl, quiet_below _⟩


theorem rhead_any (l : List UInt8) (hl : l.length ≤ 300) (w : World) :
    Calls Tryd.prog 16 #[.string (ofL l)] w fun e w' => e = .returned (.tuple #[.string ((ofL l).extract 0 (headN (ofL l))), .string ((ofL l).extract (headN (ofL l)) (ofL l).size)]) ∧ Below w.heap.size w w' := by
  have hsz := ofL_size l
  cases l with
  | nil => exact rhead_empty (ofL []) [] _ (by rw [hsz]; simp) (ofL_toList []) rfl (fun q p h => absurd h (by simp)) rfl w
  | cons c m =>
    have hB : (ofL (c :: m)).toList.isEmpty = false := by rw [ofL_toList]; rfl
    have hs0 : 0 < (ofL (c :: m)).size := by rw [hsz]; simp
    by_cases hc : c = 45
    · subst hc
      refine rhead_minus (ofL (45 :: m)) m _ (by rw [hsz]; omega) hs0 hB rfl hsz (fun q p h h2 e => by subst e; rfl) ?_ w
      show headN _ = _
      unfold headN
      rw [tlS_cons, ofL_list, List.length_cons, show m.length + 1 - m.length = 1 by omega]
    · have h45 : ((((ofL (c :: m))[0]'hs0).toNat : Int) == 45) = false := by
        have h00 : (ofL (c :: m))[0]'hs0 = c := rfl
        rw [h00]
        exact beq_eq_false_iff_ne.2 fun e => hc (UInt8.toNat.inj (by have e2 : (45 : UInt8).toNat = 45 := rfl; omega))
      refine rhead_plain (ofL (c :: m)) (c :: m) _ (by rw [hsz]; omega) hs0 hB h45 hsz (fun q p h h2 e => by subst e; rfl) ?_ w
      show headN _ = _
      unfold headN
      rw [tlS_of (by simpa using hc), ofL_list, Nat.sub_self]
end Go.Proofs.YtfbbjfjckaojeaaDoor
