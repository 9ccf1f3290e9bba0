/- Layer bits: Check, words, Count, Has, and the place of the lowest bit: contracts. -/
import Derived.Test.YtpkpfnilfabkaaaDoorBd
import Derived.Test.YtpkpfnilfabkaaaDoorShelf
import Derived.Lib.TrailingZeros
import Derived.Shelf.Spec.TrailingZeros
namespace Go.Proofs.YtpkpfnilfabkaaaDoor
open Go.RowKit

/-- The two spellings of how many bits a number takes. -/
theorem bitLen_aux : ∀ (f x : Nat), x < 2 ^ f → Lib.bitLenAux f x = bitLen x
  | 0, x, h => by
    have : x = 0 := by simpa using h
    subst this
    rfl
  | f + 1, x, h => by
    unfold Lib.bitLenAux
    by_cases h0 : x = 0
    · subst h0; rfl
    · rw [if_neg h0, bitLen_aux f (x / 2) (by rw [Nat.pow_succ] at h; omega)]
      by_cases h1 : x / 2 = 0
      · have : x = 1 := by omega
        subst this
        decide
      · have := bitLen_shift x 1 (by simpa using h1)
        rw [this]
theorem bitLen_lib (x : Nat) (h : x < 18446744073709551616) : Lib.bitLen x = bitLen x := bitLen_aux 64 x h
theorem bitLen_le64 (x : Nat) (h : x < 18446744073709551616) : bitLen x ≤ 64 := by
  rcases Nat.eq_zero_or_pos x with h0 | h0
  · subst h0; decide
  · have h3 := (bitLen_spec x).2 (by omega)
    rcases Nat.lt_or_ge 64 (bitLen x) with h' | h'
    · have := Nat.lt_of_le_of_lt h3 h
      rw [show (18446744073709551616 : Nat) = 2 ^ 64 by decide] at this
      have := (Nat.pow_lt_pow_iff_right (a := 2) (by decide)).1 this
      omega
    · exact h'
theorem len_any (x : Nat) (h : x < 18446744073709551616) (w : World) : Calls Tryd.prog 40 #[.int .u64 (x : Int)] w fun e w' => e = .returned (.int .i64 (bitLen x : Int)) ∧ w = w' :=
  (Tryd.bits_Len64 (x : Int) w (by omega) (by omega)).mono fun e w' ⟨he, hw⟩ => ⟨by rw [he, Int.toNat_natCast, bitLen_lib x h], hw.symm⟩

def checkE (ws : List Nat) : Int := if rightW ws then 0 else 140

set_option maxHeartbeats 800000 in
theorem check_any (A : Option Addr) (n c : Nat) (ws : List Nat) (h64 : W64 ws) (hn : n ≤ 1000000) (w : World) (hR : RW w w.heap.size A n ws) :
    Calls Tryd.prog 12 #[.agg #[.slice A n c]] w fun e w' => e = .returned (.int .i64 (checkE ws)) ∧ Below w.heap.size w w' := by
  have hl := hR.len
  by_cases h0 : n = 0
  · have hc : checkE ws = 0 := by unfold checkE rightW; rw [hl, h0]; simp
    have HC := Lib.hid hc
    have hn0 : ((n : Int) == 0) = true := by simp [h0]
    clear hc hl h0 hR
    go_enter Tryd.func12, Tryd.ntmps12
    go_wp2_with fail
    go_ret
    exact ⟨by rw [HC.out]; rfl, (Below.refl _ _).alloc (Nat.le_refl _) _⟩
  · obtain ⟨b, o, rfl, hb, hcell⟩ := hR.at_ (k := n - 1) (by omega)
    have hlt := h64.at_ (n - 1)
    have HX : Hid (checkE ws = if ws.getD (n - 1) 0 = 0 then 140 else if 64 * (n - 1) + bitLen (ws.getD (n - 1) 0) ≤ 10000 then 0 else 140) := by
      show _ = _
      unfold checkE rightW
      rw [hl]
      generalize ws.getD (n - 1) 0 = y
      by_cases e1 : y = 0 <;> by_cases e2 : 64 * (n - 1) + bitLen y ≤ 10000 <;> simp [h0, e1, e2]
    have hn0 : ((n : Int) == 0) = false := by simpa using h0
    have hbl := bitLen_le64 _ hlt
    have HL := Lib.hid (len_any _ hlt)
    generalize ws.getD (n - 1) 0 = x at *
    have hn1 : (((n : Int) - 1).toNat) = n - 1 := by omega
    have hp : 1 ≤ n := by omega
    clear hR h0 hl h64
    by_cases hx : x = 0
    · have hx0 : ((x : Int) == 0) = true := by simp [hx]
      have HX0 := Lib.hid hx
      clear hx
      go_enter Tryd.func12, Tryd.ntmps12
      go_wp2_with fail
      go_ret
      exact ⟨by rw [HX.out, if_pos HX0.out]; rfl, (Below.refl _ _).alloc (Nat.le_refl _) _⟩
    · have hx0 : ((x : Int) == 0) = false := by simpa using hx
      have HX0 := Lib.hid hx
      clear hx
      by_cases hq : 64 * (n - 1) + bitLen x ≤ 10000
      · have hq1 : decide (10000 < 64 * ((n : Int) - 1) + (bitLen x : Int)) = false := by simp; omega
        have HQ := Lib.hid hq
        clear hq
        go_enter Tryd.func12, Tryd.ntmps12
        go_wp2_with fail
        refine (HL.out _).mono ?_
        rintro e w1 ⟨rfl, rfl⟩
        go_wp2_with fail
        go_ret
        exact ⟨by rw [HX.out, if_neg HX0.out, if_pos HQ.out]; rfl, (Below.refl _ _).alloc (Nat.le_refl _) _⟩
      · have hq1 : decide (10000 < 64 * ((n : Int) - 1) + (bitLen x : Int)) = true := by simp; omega
        have HQ := Lib.hid hq
        clear hq
        go_enter Tryd.func12, Tryd.ntmps12
        go_wp2_with fail
        refine (HL.out _).mono ?_
        rintro e w1 ⟨rfl, rfl⟩
        go_wp2_with fail
        go_ret
        exact ⟨by rw [HX.out, if_neg HX0.out, if_neg HQ.out]; rfl, (Below.refl _ _).alloc (Nat.le_refl _) _⟩

set_option maxHeartbeats 800000 in
theorem words_any (A : Option Addr) (n c : Nat) (ws : List Nat) (h64 : W64 ws) (hn : n ≤ 1000000) (w : World) (hR : RW w w.heap.size A n ws) :
    Calls Tryd.prog 41 #[.agg #[.slice A n c]] w (WordsOk (effW ws) w) := by
  have HR := Lib.hid hR
  have HC := Lib.hid (check_any A n c ws h64 hn (w.alloc (.cells #[.slice A n c] 24)) (by rw [World.size_alloc]; exact (hR.alloc (Nat.le_refl _) _).more (Nat.le_succ _)))
  clear hR
  by_cases hr : rightW ws = true
  · have he : checkE ws = 0 := by unfold checkE; rw [if_pos hr]
    rw [he] at HC
    have HE : Hid (effW ws = ws) := by show _ = _; unfold effW; rw [if_pos hr]
    clear he hr
    go_enter Tryd.func41, Tryd.ntmps41
    go_wp2_with fail
    refine HC.out.mono ?_
    rintro e w1 ⟨rfl, b1⟩
    obtain ⟨hc, hf⟩ := bcell b1
    go_wp2_with fail
    go_ret
    have b2 : Below w.heap.size w w1 := ((Below.refl _ _).alloc (Nat.le_refl _) _).trans (b1.mono (by simp))
    exact ⟨A, n, c, rfl, by rw [HE.out]; exact HR.out.below b2, b2⟩
  · have he : checkE ws = 140 := by unfold checkE; rw [if_neg hr]
    rw [he] at HC
    have HE : Hid (effW ws = []) := by show _ = _; unfold effW; rw [if_neg hr]
    clear he hr
    go_enter Tryd.func41, Tryd.ntmps41
    go_wp2_with fail
    refine HC.out.mono ?_
    rintro e w1 ⟨rfl, b1⟩
    go_wp2_with fail
    go_ret
    have b2 : Below w.heap.size w w1 := ((Below.refl _ _).alloc (Nat.le_refl _) _).trans (b1.mono (by simp))
    exact ⟨none, 0, 0, rfl, by rw [HE.out]; exact RW.none_, b2⟩

/-- The table that tells where a bit stands. -/
def Tab (w : World) : Prop := 0 < w.heap.size ∧ TabAt 0 Lib.deBruijn64tab w
theorem Tab.below {w w' : World} {B : Nat} (h : Tab w) (hB : 0 < B) (hb : Below B w w') : Tab w' :=
  ⟨Nat.lt_of_lt_of_le h.1 hb.size, fun j hj => (hb.cell (p := ⟨0, j, none⟩) hB).trans (h.2 j hj)⟩
theorem Tab.on {w w' : World} (h : Tab w) (hb : Below w.heap.size w w') : Tab w' := h.below h.1 hb

set_option maxHeartbeats 1000000 in
theorem tz_core (x k idx : Nat) (w : World) (hx0 : ((x : Int) == 0) = false)
    (key : IntKind.u64.wrap (bits BinOp.and IntKind.u64 (x : Int) (IntKind.u64.wrap (-(x : Int))) * 285870213051353865) / 288230376151711744 = (idx : Int))
    (hi : idx < 64) (hk : k < 64) (hcell : w.cell? ⟨0, idx, none⟩ = some (.int .u8 k)) :
    Calls Tryd.prog 61 #[.int .u64 (x : Int)] w fun e w' => e = .returned (.int .i64 (k : Int)) ∧ w = w' := by
  go_enter Tryd.func61, Tryd.ntmps61
  go_wp2_with (simp only [key])
  go_ret
  exact ⟨rfl, rfl⟩
theorem tz_any (x : Nat) (hx : x < 18446744073709551616) (h0 : x ≠ 0) (w : World) (hT : Tab w) :
    Calls Tryd.prog 61 #[.int .u64 (x : Int)] w fun e w' => e = .returned (.int .i64 (Lib.ctz 64 x : Int)) ∧ w = w' := by
  obtain ⟨hlow, hk⟩ := Lib.lowest_bit 64 x h0 hx
  obtain ⟨hi, htab⟩ := Lib.deBruijn64_at _ hk
  have hcell := hT.2 _ hi
  rw [htab] at hcell
  exact tz_core x _ _ w (by simpa using h0) (tz64_key x _ hx h0 hlow) hi hk hcell
end Go.Proofs.YtpkpfnilfabkaaaDoor
