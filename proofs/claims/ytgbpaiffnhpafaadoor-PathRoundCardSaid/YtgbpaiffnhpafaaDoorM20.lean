/- Layer bits: slices of words and of numbers compared and copied by the library: contracts. -/
import Derived.Lib.TrailingZeros
import Derived.Shelf.Spec.TrailingZeros
import Derived.Test.YtgbpaiffnhpafaaDoorM19
import Derived.Test.YtgbpaiffnhpafaaDoorShelf
import Derived.Deep.LoopGhost
import Derived.Laws.MakeOwn
import Derived.Outline
import Derived.Lib.SliceRun
-- holds: YtgbpaiffnhpafaaDoorEe YtgbpaiffnhpafaaDoorEf YtgbpaiffnhpafaaDoorEg YtgbpaiffnhpafaaDoorEh YtgbpaiffnhpafaaDoorEi
namespace Go.Proofs.YtgbpaiffnhpafaaDoor.Bit
open Go.RowKit

/-- The two spellings of how many bits a number takes. -/
theorem bitLen_aux : ∀ (f x : Nat), x < 2 ^ f → Lib.bitLenAux f x = bitLen x
  | 0, x, h => by
    have : x = 0 := by simpa using h
    subst this
    rfl
  | f + 1, x, h => by
    unfold Lib.bitLenAux
    by_cases h0 : x = 0
    · subst h0; rfl
    · rw [if_neg h0, bitLen_aux f (x / 2) (by rw [Nat.pow_succ] at h; omega)]
      by_cases h1 : x / 2 = 0
      · have : x = 1 := by omega
        subst this
        decide
      · have := bitLen_shift x 1 (by simpa using h1)
        rw [this]
theorem bitLen_lib (x : Nat) (h : x < 18446744073709551616) : Lib.bitLen x = bitLen x := bitLen_aux 64 x h
theorem bitLen_le64 (x : Nat) (h : x < 18446744073709551616) : bitLen x ≤ 64 := by
  rcases Nat.eq_zero_or_pos x with h0 | h0
  · subst h0; decide
  · have h3 := (bitLen_spec x).2 (by omega)
    rcases Nat.lt_or_ge 64 (bitLen x) with h' | h'
    · have := Nat.lt_of_le_of_lt h3 h
      rw [show (18446744073709551616 : Nat) = 2 ^ 64 by decide] at this
      have := (Nat.pow_lt_pow_iff_right (a := 2) (by decide)).1 this
      omega
    · exact h'
theorem len_any (x : Nat) (h : x < 18446744073709551616) (w : World) : Calls Tryd.prog 108 #[.int .u64 (x : Int)] w fun e w' => e = .returned (.int .i64 (bitLen x : Int)) ∧ w = w' :=
  (Tryd.bits_Len64 (x : Int) w (by omega) (by omega)).mono fun e w' ⟨he, hw⟩ => ⟨by rw [he, Int.toNat_natCast, bitLen_lib x h], hw.symm⟩

def checkE (ws : List Nat) : Int := if rightW ws then 0 else 140

set_option maxHeartbeats 800000 in
theorem check_any (A : Option Addr) (n c : Nat) (ws : List Nat) (h64 : W64 ws) (hn : n ≤ 1000000) (w : World) (hR : RW w w.heap.size A n ws) :
    Calls Tryd.prog 93 #[.agg #[.slice A n c]] w fun e w' => e = .returned (.int .i64 (checkE ws)) ∧ Below w.heap.size w w' := by
  have hl := hR.len
  by_cases h0 : n = 0
  · have hc : checkE ws = 0 := by unfold checkE rightW; rw [hl, h0]; simp
    have HC := Lib.hid hc
    have hn0 : ((n : Int) == 0) = true := by simp [h0]
    clear hc hl h0 hR
    go_enter Tryd.func93, Tryd.ntmps93
    go_wp2_with fail
    go_ret
    exact ⟨by rw [HC.out]; rfl, (Below.refl _ _).alloc (Nat.le_refl _) _⟩
  · obtain ⟨b, o, rfl, hb, hcell⟩ := hR.at_ (k := n - 1) (by omega)
    have hlt := h64.at_ (n - 1)
    have HX : Hid (checkE ws = if ws.getD (n - 1) 0 = 0 then 140 else if 64 * (n - 1) + bitLen (ws.getD (n - 1) 0) ≤ 10000 then 0 else 140) := by
      show _ = _
      unfold checkE rightW
      rw [hl]
      generalize ws.getD (n - 1) 0 = y
      by_cases e1 : y = 0 <;> by_cases e2 : 64 * (n - 1) + bitLen y ≤ 10000 <;> simp [h0, e1, e2]
    have hn0 : ((n : Int) == 0) = false := by simpa using h0
    have hbl := bitLen_le64 _ hlt
    have HL := Lib.hid (len_any _ hlt)
    generalize ws.getD (n - 1) 0 = x at *
    have hn1 : (((n : Int) - 1).toNat) = n - 1 := by omega
    have hp : 1 ≤ n := by omega
    clear hR h0 hl h64
    by_cases hx : x = 0
    · have hx0 : ((x : Int) == 0) = true := by simp [hx]
      have HX0 := Lib.hid hx
      clear hx
      go_enter Tryd.func93, Tryd.ntmps93
      go_wp2_with fail
      go_ret
      exact ⟨by rw [HX.out, if_pos HX0.out]; rfl, (Below.refl _ _).alloc (Nat.le_refl _) _⟩
    · have hx0 : ((x : Int) == 0) = false := by simpa using hx
      have HX0 := Lib.hid hx
      clear hx
      by_cases hq : 64 * (n - 1) + bitLen x ≤ 10000
      · have hq1 : decide (10000 < 64 * ((n : Int) - 1) + (bitLen x : Int)) = false := by simp; omega
        have HQ := Lib.hid hq
        clear hq
        go_enter Tryd.func93, Tryd.ntmps93
        go_wp2_with fail
        refine (HL.out _).mono ?_
        rintro e w1 ⟨rfl, rfl⟩
        go_wp2_with fail
        go_ret
        exact ⟨by rw [HX.out, if_neg HX0.out, if_pos HQ.out]; rfl, (Below.refl _ _).alloc (Nat.le_refl _) _⟩
      · have hq1 : decide (10000 < 64 * ((n : Int) - 1) + (bitLen x : Int)) = true := by simp; omega
        have HQ := Lib.hid hq
        clear hq
        go_enter Tryd.func93, Tryd.ntmps93
        go_wp2_with fail
        refine (HL.out _).mono ?_
        rintro e w1 ⟨rfl, rfl⟩
        go_wp2_with fail
        go_ret
        exact ⟨by rw [HX.out, if_neg HX0.out, if_neg HQ.out]; rfl, (Below.refl _ _).alloc (Nat.le_refl _) _⟩

set_option maxHeartbeats 800000 in
theorem words_any (A : Option Addr) (n c : Nat) (ws : List Nat) (h64 : W64 ws) (hn : n ≤ 1000000) (w : World) (hR : RW w w.heap.size A n ws) :
    Calls Tryd.prog 75 #[.agg #[.slice A n c]] w (WordsOk (effW ws) w) := by
  have HR := Lib.hid hR
  have HC := Lib.hid (check_any A n c ws h64 hn (w.alloc (.cells #[.slice A n c] 84)) (by rw [World.size_alloc]; exact (hR.alloc (Nat.le_refl _) _).more (Nat.le_succ _)))
  clear hR
  by_cases hr : rightW ws = true
  · have he : checkE ws = 0 := by unfold checkE; rw [if_pos hr]
    rw [he] at HC
    have HE : Hid (effW ws = ws) := by show _ = _; unfold effW; rw [if_pos hr]
    clear he hr
    go_enter Tryd.func75, Tryd.ntmps75
    go_wp2_with fail
    refine HC.out.mono ?_
    rintro e w1 ⟨rfl, b1⟩
    obtain ⟨hc, hf⟩ := bcell b1
    go_wp2_with fail
    go_ret
    have b2 : Below w.heap.size w w1 := ((Below.refl _ _).alloc (Nat.le_refl _) _).trans (b1.mono (by simp))
    exact ⟨A, n, c, rfl, by rw [HE.out]; exact HR.out.below b2, b2⟩
  · have he : checkE ws = 140 := by unfold checkE; rw [if_neg hr]
    rw [he] at HC
    have HE : Hid (effW ws = []) := by show _ = _; unfold effW; rw [if_neg hr]
    clear he hr
    go_enter Tryd.func75, Tryd.ntmps75
    go_wp2_with fail
    refine HC.out.mono ?_
    rintro e w1 ⟨rfl, b1⟩
    go_wp2_with fail
    go_ret
    have b2 : Below w.heap.size w w1 := ((Below.refl _ _).alloc (Nat.le_refl _) _).trans (b1.mono (by simp))
    exact ⟨none, 0, 0, rfl, by rw [HE.out]; exact RW.none_, b2⟩

/-- The table that tells where a bit stands. -/
def Tab (w : World) : Prop := 0 < w.heap.size ∧ TabAt 0 Lib.deBruijn64tab w
theorem Tab.below {w w' : World} {B : Nat} (h : Tab w) (hB : 0 < B) (hb : Below B w w') : Tab w' :=
  ⟨Nat.lt_of_lt_of_le h.1 hb.size, fun j hj => (hb.cell (p := ⟨0, j, none⟩) hB).trans (h.2 j hj)⟩
theorem Tab.on {w w' : World} (h : Tab w) (hb : Below w.heap.size w w') : Tab w' := h.below h.1 hb

set_option maxHeartbeats 1000000 in
theorem tz_core (x k idx : Nat) (w : World) (hx0 : ((x : Int) == 0) = false)
    (key : IntKind.u64.wrap (bits BinOp.and IntKind.u64 (x : Int) (IntKind.u64.wrap (-(x : Int))) * 285870213051353865) / 288230376151711744 = (idx : Int))
    (hi : idx < 64) (hk : k < 64) (hcell : w.cell? ⟨0, idx, none⟩ = some (.int .u8 k)) :
    Calls Tryd.prog 95 #[.int .u64 (x : Int)] w fun e w' => e = .returned (.int .i64 (k : Int)) ∧ w = w' := by
  go_enter Tryd.func95, Tryd.ntmps95
  go_wp2_with (simp only [key])
  go_ret
  exact ⟨rfl, rfl⟩
theorem tz_any (x : Nat) (hx : x < 18446744073709551616) (h0 : x ≠ 0) (w : World) (hT : Tab w) :
    Calls Tryd.prog 95 #[.int .u64 (x : Int)] w fun e w' => e = .returned (.int .i64 (Lib.ctz 64 x : Int)) ∧ w = w' := by
  obtain ⟨hlow, hk⟩ := Lib.lowest_bit 64 x h0 hx
  obtain ⟨hi, htab⟩ := Lib.deBruijn64_at _ hk
  have hcell := hT.2 _ hi
  rw [htab] at hcell
  exact tz_core x _ _ w (by simpa using h0) (tz64_key x _ hx h0 hlow) hi hk hcell
end Go.Proofs.YtgbpaiffnhpafaaDoor.Bit
namespace Go.Proofs.YtgbpaiffnhpafaaDoor.Bit
open Go.RowKit

/-- Has a set a number? -/
def hasZ (ws : List Nat) (n : Int) : Bool := mayB n && inW ws n.toNat
theorem bit_test (x k : Nat) : (x &&& 2 ^ k = 0) = (x.testBit k = false) := by
  rw [nat_bit, Nat.testBit_eq_decide_div_mod_eq]
  have hp : 0 < 2 ^ k := Nat.two_pow_pos k
  have h2 : x / 2 ^ k % 2 = 0 ∨ x / 2 ^ k % 2 = 1 := by omega
  rcases h2 with h | h
  · rw [h]; simp
  · rw [h]; simp
theorem cntW_take {ws : List Nat} {k : Nat} (h : k < ws.length) : cntW (ws.take (k + 1)) = cntW (ws.take k) + cnt (ws.getD k 0) 64 := by
  unfold cntW
  rw [List.take_succ_eq_append_getElem h, List.map_append, List.sum_append, List.getD_eq_getElem?_getD, List.getElem?_eq_getElem h]
  simp
theorem cntW_le (ws : List Nat) : cntW ws ≤ 64 * ws.length := by
  induction ws with
  | nil => simp [cntW]
  | cons x ws ih =>
    have := cnt_le x 64
    unfold cntW at *
    simp
    omega

set_option maxHeartbeats 800000 in
theorem count_any (A : Option Addr) (n c : Nat) (ws : List Nat) (h64 : W64 ws) (hn : n ≤ 1000000) (w : World) (hR : RW w w.heap.size A n ws) :
    Calls Tryd.prog 53 #[.agg #[.slice A n c]] w fun e w' => e = .returned (.int .i64 ((numsF (inW ws)).length : Int)) ∧ Below w.heap.size w w' := by
  have b0 : Below w.heap.size w (w.alloc (.cells #[.slice A n c] 84)) := (Below.refl _ _).alloc (Nat.le_refl _) _
  have HW := Lib.hid (words_any A n c ws h64 hn (w.alloc (.cells #[.slice A n c] 84)) (by rw [World.size_alloc]; exact (hR.alloc (Nat.le_refl _) _).more (Nat.le_succ _)))
  have HC := Lib.hid (count_in ws)
  have HL := Lib.hid (eff_len ws)
  have H64 := Lib.hid (eff_64 h64)
  clear hR
  go_enter Tryd.func53, Tryd.ntmps53
  go_wp2_with fail
  refine HW.out.mono ?_
  rintro e w1 ⟨A1, n1, c1, rfl, r1, b1⟩
  generalize effW ws = es at *
  have HN := Lib.hid r1.len
  have hn1 : n1 ≤ 157 := by have := r1.len; have := HL.out; omega
  have R1 := Lib.hid r1
  have B1 := Lib.hid (b0.trans (b1.mono (by simp)))
  clear r1 b1 HW HL
  go_wp2_with fail
  go_loop [3, 9] (fun s i => ∃ k : Nat, k ≤ n1 ∧ i = .int .i64 k ∧ s = .int .i64 (cntW (es.take k) : Nat)) (fun _ i => n1 - (intOf i).toNat)
  case atStart => exact ⟨0, Nat.zero_le _, rfl, rfl⟩
  case round =>
    obtain ⟨k, hk, rfl, rfl⟩ := hrel
    by_cases hlt : k < n1
    · obtain ⟨b, o, hA, hb, hc⟩ := R1.out.at_ hlt
      subst hA
      have hx := H64.out.at_ k
      have HS := Lib.hid (cntW_take (ws := es) (k := k) (by rw [HN.out]; exact hlt))
      have hle := cntW_le (es.take k)
      have hle2 : cntW (es.take k) ≤ 64 * 157 := by rw [List.length_take] at hle; omega
      clear hle
      have hcl := cnt_le (es.getD k 0) 64
      have HO := Lib.hid (ones_any _ hx)
      generalize es.getD k 0 = x at *
      generalize cnt x 64 = q at *
      go_wp2_with fail
      refine (HO.out _).mono ?_
      rintro e w2 ⟨rfl, rfl⟩
      go_wp2_with fail
      go_round
      case rel => exact ⟨k + 1, by omega, by go_num, by rw [HS.out]; go_num⟩
      case measure => simp [intOf]; omega
    · have hkn : k = n1 := by omega
      subst hkn
      go_wp2_with fail
      go_ret
      refine ⟨?_, B1.out⟩
      rw [← HC.out, List.take_of_length_le (by rw [HN.out]; exact Nat.le_refl _)]
      rfl
end Go.Proofs.YtgbpaiffnhpafaaDoor.Bit
namespace Go.Proofs.YtgbpaiffnhpafaaDoor.Bit
open Go.RowKit

/-- A row of words of the call's own, known whole. -/
def RO (base : Nat) (w : World) (A : Option Addr) (n : Nat) (ws : List Nat) : Prop :=
  ws.length = n ∧ (0 < n → ∃ g, A = some ⟨g, 0, none⟩ ∧ base ≤ g ∧ Blk w g 104 (wcells ws).toArray)
section
variable {w w' : World} {base n : Nat} {A : Option Addr} {ws : List Nat}
theorem RO.reads (h : RO base w A n ws) : RW w w.heap.size A n ws :=
  ⟨by rw [wcells_length, h.1]; omega, fun hn => by
    obtain ⟨g, hA, _, hb⟩ := h.2 hn
    exact ⟨_, hA, hb.lt, fun j u hu => by rw [Go.WideShapes.add_plain, hb.cell, Nat.zero_add, List.getElem?_toArray]; exact hu⟩⟩
theorem RO.below (h : RO base w A n ws) (hb : Below w.heap.size w w') : RO base w' A n ws :=
  ⟨h.1, fun hn => by
    obtain ⟨g, hA, hg, hk⟩ := h.2 hn
    exact ⟨g, hA, hg, hk.below hb hk.lt⟩⟩
theorem RO.less {base' : Nat} (h : RO base w A n ws) (hb : base' ≤ base) : RO base' w A n ws :=
  ⟨h.1, fun hn => by
    obtain ⟨g, hA, hg, hk⟩ := h.2 hn
    exact ⟨g, hA, by omega, hk⟩⟩
theorem RO.none_ : RO base w none 0 [] := ⟨rfl, fun h => absurd h (by omega)⟩
theorem RO.cut (h : RO base w A n ws) {k : Nat} (hk : k ≤ n) : OW base w A k (ws.take k) :=
  ⟨by rw [List.length_take, h.1]; omega, fun hn => by
    obtain ⟨g, hA, hg, hb⟩ := h.2 (by omega)
    exact ⟨g, _, hA, hg, hb, fun j u hu => by
      rw [wcells_take, List.getElem?_take] at hu
      split at hu
      · rw [List.getElem?_toArray]; exact hu
      · cases hu⟩⟩
end
/-- What cut hands back. -/
def CutOk (base : Nat) (ws : List Nat) (w : World) (e : Ending) (w' : World) : Prop :=
  ∃ A n c, e = .returned (.agg #[.slice A n c]) ∧ OW base w' A n ws ∧ Below w.heap.size w w'

theorem elem_size (W : World) : (sizeOf (Tryd.prog.elem 82)).run Tryd.prog W = .ok 1 W := by kernel_rfl
theorem w_slice_hm (A : Option Addr) (len cap h : Nat) (hh : h ≤ cap) (W : World) :
    (Instr.slice 82 (.slice A len cap) none (some (.int .i64 (h : Int))) (some (.int .i64 (h : Int)))).run Tryd.prog W = .ok (.slice A h h) W := by
  have e0 : Value.slice (if h = 0 then A else A.map (·.add (0 * 1))) (h - 0) (h - 0) = .slice A h h := by
    have : (if h = 0 then A else A.map (·.add (0 * 1))) = A := by
      split
      · rfl
      · cases A <;> simp [Addr.add]
    rw [this, Nat.sub_zero]
  rw [run_slice_hm W 82 A len cap (show Tryd.prog.underlying 82 = some (.slice (Tryd.prog.elem 82)) by kernel_rfl) .i64 .i64 h h (by omega) (by omega) (by omega), elem_size]
  exact congrArg (fun v => Result.ok v W) e0

theorem cut_end {base n k : Nat} {A : Option Addr} {ws : List Nat} {w : World} (h : RO base w A n ws) (hk : k ≤ n) (e : topW ws n = k) (t : TypeId) :
    OW base (w.alloc (.cells #[.slice A k k] t)) A k (trimW ws) ∧ Below w.heap.size w (w.alloc (.cells #[.slice A k k] t)) := by
  have b : Below w.heap.size w (w.alloc (.cells #[.slice A k k] t)) := (Below.refl _ _).alloc (Nat.le_refl _) _
  refine ⟨?_, b⟩
  unfold trimW
  rw [h.1, e]
  exact (h.cut hk).below b

set_option maxHeartbeats 800000 in
theorem cut_any (base : Nat) (A : Option Addr) (n c : Nat) (ws : List Nat) (hnc : n ≤ c) (hn : n ≤ 1000000) (w : World) (hR : RO base w A n ws) :
    Calls Tryd.prog 74 #[.slice A n c] w (CutOk base (trimW ws) w) := by
  have HR := Lib.hid hR
  have RW1 := Lib.hid (hR.reads)
  clear hR
  go_enter Tryd.func74, Tryd.ntmps74
  go_wp2_with fail
  go_loop [3] (fun s => ∃ k : Nat, k ≤ n ∧ s = .int .i64 k ∧ Hid (topW ws k = topW ws n)) (fun s => (intOf s).toNat)
  case atStart => exact ⟨n, Nat.le_refl _, rfl, rfl⟩
  case round =>
    obtain ⟨k, hk, rfl, HK⟩ := hrel
    have hsl := w_slice_hm A n c k (by omega)
    rcases Nat.eq_zero_or_pos k with h0 | h0
    · subst h0
      have hg : decide ((0 : Int) < 0) = false := by decide
      have HE := Lib.hid (cut_end (t := 84) HR.out hk HK.out.symm)
      go_wp2_with fail
      exact bodyPost_ret (v := .agg #[.slice A 0 0]) (by simp [results, Tryd.results74, go_sem]) rfl ⟨A, 0, 0, rfl, HE.out.1, HE.out.2⟩
    · obtain ⟨k, rfl⟩ : ∃ j, k = j + 1 := ⟨k - 1, by omega⟩
      obtain ⟨b, o, rfl, hb, hc⟩ := RW1.out.at_ (k := k) (by omega)
      have hpos : decide ((0 : Int) < (k : Int) + 1) = true := decide_eq_true (by omega)
      have hs1 : (k : Int) + 1 - 1 = (k : Int) := by omega
      have hcast : ((k + 1 : Nat) : Int) = (k : Int) + 1 := rfl
      rw [hcast] at hsl ⊢
      by_cases hz : ws.getD k 0 = 0
      · have HN : Hid (topW ws k = topW ws n) := by
          show _ = _
          rw [← HK.out]
          show _ = (if ws.getD k 0 = 0 then topW ws k else k + 1)
          rw [if_pos hz]
        rw [hz] at hc
        clear hz hsl
        go_wp2_with fail
        go_round
        case rel => exact ⟨k, by omega, rfl, HN⟩
        case measure => simp [intOf]
      · have hx0 : (((ws.getD k 0 : Nat) : Int) == 0) = false := by simpa using hz
        have HN : topW ws n = k + 1 := by
          rw [← HK.out]
          show (if ws.getD k 0 = 0 then topW ws k else k + 1) = _
          rw [if_neg hz]
        have HE := Lib.hid (cut_end (t := 84) HR.out hk HN)
        clear hz HN
        generalize ws.getD k 0 = x at *
        go_wp2_with fail
        exact bodyPost_ret (v := .agg #[.slice (some ⟨b, o, none⟩) (k + 1) (k + 1)]) (by simp [results, Tryd.results74, go_sem]) rfl ⟨_, _, _, rfl, HE.out.1, HE.out.2⟩

/-- A row widened by zeros. -/
def padW (ws : List Nat) (n : Nat) : List Nat := ws ++ List.replicate (n - ws.length) 0
theorem pad_length (ws : List Nat) (n : Nat) : (padW ws n).length = max n ws.length := by unfold padW; simp; omega
theorem pad_getD (ws : List Nat) (n j : Nat) : (padW ws n).getD j 0 = ws.getD j 0 := by
  unfold padW
  rw [List.getD_eq_getElem?_getD, List.getD_eq_getElem?_getD, List.getElem?_append]
  split
  · rfl
  · rw [List.getElem?_replicate, List.getElem?_eq_none (l := ws) (by omega)]
    split <;> rfl
theorem pad_64 {ws : List Nat} (h : W64 ws) (n : Nat) : W64 (padW ws n) := by
  intro x hx
  unfold padW at hx
  rcases List.mem_append.1 hx with hx | hx
  · exact h x hx
  · rw [List.eq_of_mem_replicate hx]; decide
theorem has_pad (ws : List Nat) (n m : Nat) : hasW (padW ws n) m = hasW ws m := by unfold hasW; rw [pad_getD]

theorem u64_info : (Tryd.prog.info? 104).map (fun i => (i.zero, i.size, i.bytes)) = some (some (.int .u64 0), 1, 8) := by kernel_rfl
theorem u64_size : (Tryd.prog.info? 104).map (·.size) = some 1 := by kernel_rfl
theorem made_words (n : Nat) : madeCells (Value.int .u64 0).cells (n * 1) = (wcells (List.replicate n 0)).toArray := by
  rw [wcells_zero]
  apply Array.ext
  · rw [size_madeCells]; simp
  · intro j h1 h2
    have hz : (Value.int .u64 0).cells = #[.int .u64 0] := by simp [Value.cells]
    simp [madeCells, hz, Nat.mod_one]
theorem w_make (n : Nat) (hn : n ≤ 1000000) (W : World) :
    (Instr.makeSlice 82 (.int .i64 (n : Int)) (.int .i64 (n : Int))).run Tryd.prog W = .ok (.slice (some ⟨W.heap.size, 0, none⟩) n n) (W.alloc (.cells (wcells (List.replicate n 0)).toArray 104)) := by
  obtain ⟨i0, hi, hz0, hz1, hz2⟩ := info_parts u64_info
  have hr := run_make (P := Tryd.prog) W 82 104 i0 _ Tryd.underlying82 hi hz0 .i64 .i64 n n (by omega) (by omega) (by rw [hz2]; omega) (by omega)
  simp only [Int.toNat_natCast] at hr
  rw [hz1, made_words] at hr
  exact hr

/-- What widened hands back. -/
def WideOk (ws : List Nat) (m : Nat) (w : World) (e : Ending) (w' : World) : Prop :=
  ∃ g, e = .returned (.slice (some ⟨g, 0, none⟩) (max m ws.length) (max m ws.length)) ∧ w.heap.size ≤ g ∧ Blk w' g 104 (wcells (padW ws m)).toArray ∧ Below w.heap.size w w'
theorem copy_words (w : World) (g N : Nat) (A : Option Addr) (n c : Nat) (ws : List Nat) (hN : n ≤ N)
    (hG : Blk w g 104 (wcells (List.replicate N 0)).toArray) (hsrc : Src w g 1 A n (wcells ws)) :
    ∃ w', (Builtin.copy_ #[82, 82] 3 #[.slice (some ⟨g, 0, none⟩) N N, .slice A n c]).run Tryd.prog w = .ok (goInt n) w' ∧
      Blk w' g 104 (wcells (padW ws N)).toArray ∧ w.grownBy w' (some g) := by
  have hl : ws.length = n := by have := hsrc.1; rw [wcells_length] at this; omega
  have hr := run_copy_src (P := Tryd.prog) w 82 82 3 104 g 0 N N 1 A n c (wcells (List.replicate N 0)).toArray 104 (wcells ws) Tryd.underlying82 u64_size hG hsrc hN
    (by rw [wcells_length, List.size_toArray, wcells_length, List.length_replicate]; omega) (wcells_one ws)
  have hcells : (wcells (List.replicate N 0)).toArray.toList.take 0 ++ wcells ws ++ (wcells (List.replicate N 0)).toArray.toList.drop (0 + (wcells ws).length) = wcells (padW ws N) := by
    unfold padW
    rw [wcells_append, wcells_zero, wcells_zero, wcells_length]
    simp
  rw [hcells] at hr
  obtain ⟨h1, h2⟩ := setRow_grown hG (wcells (padW ws N)).toArray
  exact ⟨_, hr, h2, h1⟩

theorem wide_end {w w' : World} {N m n : Nat} {ws : List Nat} (hN : N = max m n) (hl : ws.length = n) (hb : Blk w' w.heap.size 104 (wcells (padW ws N)).toArray)
    (hg : (w.alloc (.cells (wcells (List.replicate N 0)).toArray 104)).grownBy w' (some w.heap.size)) : WideOk ws m w (.returned (.slice (some ⟨w.heap.size, 0, none⟩) N N)) w' := by
  subst hN hl
  have e : padW ws (max m ws.length) = padW ws m := by
    unfold padW
    rw [show max m ws.length - ws.length = m - ws.length by omega]
  rw [e] at hb
  exact ⟨w.heap.size, rfl, Nat.le_refl _, hb, ((Below.refl _ _).alloc (Nat.le_refl _) _).grown hg (by simp) (fun k e => by cases e; exact Nat.le_refl _)⟩

end Go.Proofs.YtgbpaiffnhpafaaDoor.Bit
namespace Go.Proofs.YtgbpaiffnhpafaaDoor.Bit
open Go.RowKit

/-- Two rows joined, word by word, as far as the first one goes. -/
def joinW (J : Nat → Nat → Nat) (p b : List Nat) : List Nat := (List.range p.length).map fun i => J (p.getD i 0) (b.getD i 0)
theorem join_length (J : Nat → Nat → Nat) (p b : List Nat) : (joinW J p b).length = p.length := by unfold joinW; simp
theorem join_getD {J : Nat → Nat → Nat} {p b : List Nat} {i : Nat} (h : i < p.length) : (joinW J p b).getD i 0 = J (p.getD i 0) (b.getD i 0) := by
  unfold joinW
  rw [List.getD_eq_getElem?_getD, List.getElem?_map, List.getElem?_range h]; rfl
theorem join_64 {J : Nat → Nat → Nat} {p b : List Nat} (hJ : ∀ x y, x < 18446744073709551616 → y < 18446744073709551616 → J x y < 18446744073709551616) (hp : W64 p) (hb : W64 b) : W64 (joinW J p b) := by
  intro x hx
  unfold joinW at hx
  obtain ⟨i, _, rfl⟩ := List.mem_map.1 hx
  exact hJ _ _ (hp.at_ i) (hb.at_ i)
theorem has_join {J : Nat → Nat → Nat} {op : Bool → Bool → Bool} {p b : List Nat} (hop : op false false = false) (hJ : ∀ x y, x < 18446744073709551616 → y < 18446744073709551616 → ∀ k, k < 64 → (J x y).testBit k = op (x.testBit k) (y.testBit k))
    (hp : W64 p) (hb : W64 b) (hl : b.length ≤ p.length) (n : Nat) : hasW (joinW J p b) n = op (hasW p n) (hasW b n) := by
  unfold hasW
  by_cases h : n / 64 < p.length
  · rw [join_getD h]
    exact hJ _ _ (hp.at_ _) (hb.at_ _) _ (Nat.mod_lt _ (by decide))
  · have z : ∀ l : List Nat, l.length ≤ p.length → (l.getD (n / 64) 0).testBit (n % 64) = false := fun l hl => by
      rw [List.getD_eq_getElem?_getD, List.getElem?_eq_none (by omega)]; simp
    rw [z _ (by rw [join_length]; exact Nat.le_refl _), z p (Nat.le_refl _), z b hl, hop]
theorem or_bit (x y : Nat) (_ : x < 18446744073709551616) (_ : y < 18446744073709551616) (k : Nat) (_ : k < 64) : (x ||| y).testBit k = (x.testBit k || y.testBit k) := Nat.testBit_or x y k
theorem and_bit (x y : Nat) (_ : x < 18446744073709551616) (_ : y < 18446744073709551616) (k : Nat) (_ : k < 64) : (x &&& y).testBit k = (x.testBit k && y.testBit k) := Nat.testBit_and x y k
theorem not_bit (y : Nat) (hy : y < 18446744073709551616) (k : Nat) (hk : k < 64) : (18446744073709551615 - y).testBit k = !y.testBit k := by
  have := Nat.testBit_two_pow_sub_succ (n := 64) (show y < 2 ^ 64 from hy) k
  rw [show 2 ^ 64 - (y + 1) = 18446744073709551615 - y by omega] at this
  rw [this]; simp [hk]
theorem andnot_bit (x y : Nat) (_ : x < 18446744073709551616) (hy : y < 18446744073709551616) (k : Nat) (hk : k < 64) : (x &&& (18446744073709551615 - y)).testBit k = (x.testBit k && !y.testBit k) := by
  rw [Nat.testBit_and, not_bit y hy k hk]
theorem or_lt (x y : Nat) (hx : x < 18446744073709551616) (hy : y < 18446744073709551616) : x ||| y < 18446744073709551616 := Nat.or_lt_two_pow (n := 64) hx hy
theorem and_lt (x y : Nat) (_ : x < 18446744073709551616) (hy : y < 18446744073709551616) : x &&& y < 18446744073709551616 := Nat.and_lt_two_pow (n := 64) _ hy
theorem andnot_lt (x y : Nat) (_ : x < 18446744073709551616) (_ : y < 18446744073709551616) : x &&& (18446744073709551615 - y) < 18446744073709551616 := Nat.and_lt_two_pow (n := 64) _ (by omega)

/-- A row into which one word has been written. -/
theorem mix_step {p q : List Nat} {k : Nat} (hl : q.length = p.length) (hk : k < p.length) : (q.take k ++ p.drop k).set k (q.getD k 0) = q.take (k + 1) ++ p.drop (k + 1) := by
  have h1 : (q.take k).length = k := by rw [List.length_take]; omega
  rw [List.set_append_right _ _ (by omega), h1, Nat.sub_self, List.drop_eq_getElem_cons hk, List.set_cons_zero, List.take_succ_eq_append_getElem (by omega), List.getD_eq_getElem?_getD, List.getElem?_eq_getElem (by omega), List.append_assoc]
  rfl
theorem mix_at {p q : List Nat} {k : Nat} (hl : q.length = p.length) (hk : k < p.length) : (q.take k ++ p.drop k).getD k 0 = p.getD k 0 := by
  have h1 : (q.take k).length = k := by rw [List.length_take]; omega
  rw [List.getD_eq_getElem?_getD, List.getElem?_append_right (by omega), h1, Nat.sub_self, List.getElem?_drop, Nat.add_zero, List.getD_eq_getElem?_getD]
theorem mix_len {p q : List Nat} {k : Nat} (hl : q.length = p.length) (hk : k ≤ p.length) : (q.take k ++ p.drop k).length = p.length := by
  rw [List.length_append, List.length_take, List.length_drop]; omega

/-- What joined hands back. -/
def JoinOk (ws : List Nat) (w : World) (e : Ending) (w' : World) : Prop :=
  ∃ g N, e = .returned (.slice (some ⟨g, 0, none⟩) N N) ∧ ws.length = N ∧ w.heap.size ≤ g ∧ Blk w' g 104 (wcells ws).toArray ∧ Below w.heap.size w w'

end Go.Proofs.YtgbpaiffnhpafaaDoor.Bit
namespace Go.Proofs.YtgbpaiffnhpafaaDoor.Bit
open Go.RowKit

/-- A list of numbers, as cells. -/
def ints (zs : List Int) : List Value := zs.map (Value.int .i64)
theorem ints_length (zs : List Int) : (ints zs).length = zs.length := by unfold ints; simp
theorem ints_one (zs : List Int) : ∀ u ∈ ints zs, u.oneCell' = true := by
  intro u hu
  unfold ints at hu
  obtain ⟨x, _, rfl⟩ := List.mem_map.1 hu
  rfl
def all64 (zs : List Int) : Prop := ∀ z ∈ zs, -9223372036854775808 ≤ z ∧ z ≤ 9223372036854775807
/-- A slice of n numbers that reads so, below the block B. -/
def RI (w : World) (B : Nat) (A : Option Addr) (n : Nat) (zs : List Int) : Prop := Reads w B 1 A n (ints zs)
section
variable {w w' : World} {B B' n : Nat} {A : Option Addr} {zs : List Int}
theorem RI.len (h : RI w B A n zs) : zs.length = n := by have := h.1; rw [ints_length] at this; omega
theorem RI.at_ {k : Nat} (h : RI w B A n zs) (hk : k < n) : ∃ b o, A = some ⟨b, o, none⟩ ∧ b < B ∧ w.cell? ⟨b, o + k, none⟩ = some (.int .i64 (zs.getD k 0)) := by
  have hl := h.len
  obtain ⟨ad, hA, hb, hc⟩ := h.2 (by omega)
  have e : ∀ j, j < zs.length → (ints zs)[j]? = some (.int .i64 (zs.getD j 0)) := fun j hj => by
    unfold ints
    rw [List.getElem?_map, List.getD_eq_getElem?_getD, List.getElem?_eq_getElem hj]
    rfl
  have h0 := hc k _ (e k (by omega))
  have h00 := hc 0 _ (e 0 (by omega))
  obtain ⟨b, o, spot⟩ := ad
  have hspot : spot = none := by simpa [Addr.add] using World.cell?_spot h00
  subst hspot
  rw [Go.WideShapes.add_plain] at h0
  exact ⟨b, o, hA, hb, h0⟩
theorem RI.below (h : RI w B A n zs) (hb : Below B w w') : RI w' B A n zs := Reads.below h hb
theorem RI.more (h : RI w B A n zs) (hB : B ≤ B') : RI w B' A n zs := Reads.more h hB
theorem RI.alloc (h : RI w B A n zs) (hB : B ≤ w.heap.size) (o : Obj) : RI (w.alloc o) B A n zs := Reads.alloc h hB o
theorem RI.none_ : RI w B none 0 [] := ⟨rfl, fun h => absurd h (by omega)⟩
theorem RI.empty (hz : zs.length = 0) : RI w B A 0 zs := ⟨by rw [ints_length, hz], fun h => absurd h (by omega)⟩
theorem ints_take (zs : List Int) (k : Nat) : ints (zs.take k) = (ints zs).take k := by unfold ints; rw [List.map_take]
theorem ints_append (a b : List Int) : ints (a ++ b) = ints a ++ ints b := by unfold ints; rw [List.map_append]
theorem RI.take {k : Nat} (h : RI w B A n zs) (hk : k ≤ n) : RI w B A k (zs.take k) :=
  ⟨by rw [ints_length, List.length_take, h.len]; omega, fun hn => by
    obtain ⟨ad, hA, hb, hc⟩ := h.2 (by omega)
    exact ⟨ad, hA, hb, fun j u hu => hc j u (by
      rw [ints_take, List.getElem?_take] at hu
      split at hu
      · exact hu
      · cases hu)⟩⟩
end
theorem i64_info : (Tryd.prog.info? 3).map (fun i => (i.zero, i.size, i.bytes)) = some (some (.int .i64 0), 1, 8) := by kernel_rfl

theorem own_new1 (w : World) (t : TypeId) : (w.alloc (.cells #[] t)).ownsRow w.heap.size t 1 (.slice (some ⟨w.heap.size, 0, none⟩) 0 0) 0 [] :=
  ⟨rfl, .inr ⟨w.heap.size, 0, #[], rfl, Nat.le_refl _, by show (w.heap.push _)[w.heap.size]? = _; simp, Nat.le_refl _, Nat.zero_le _, rfl, rfl⟩⟩
theorem own_form1 {w : World} {base : Nat} {e : TypeId} {size : Nat} {v : Value} {n : Nat} {xs : List Value} (h : w.ownsRow base e size v n xs) : ∃ A c, v = .slice A n c ∧ n ≤ c ∧ c ≤ 9223372036854775807 := by
  rcases h.2 with ⟨rfl, rfl⟩ | ⟨g, cap, cur, rfl, _, _, hnc, hcm, _⟩
  · exact ⟨_, _, rfl, Nat.le_refl _, by decide⟩
  · exact ⟨_, _, rfl, hnc, by unfold maxLen at hcm; omega⟩
theorem take_snoc' {α : Type} {l : List α} {k : Nat} {d : α} (h : k < l.length) : l.take (k + 1) = l.take k ++ [l.getD k d] := by
  rw [List.take_succ_eq_append_getElem h, List.getD_eq_getElem?_getD, List.getElem?_eq_getElem h]; rfl
theorem take_ne {α : Type} {l m : List α} {k : Nat} {d : α} (h : l.getD k d ≠ m.getD k d) : l ≠ m := fun e => h (by rw [e])

/-- A copy: its cells lie in memory of the call's own. -/
def Copy_u (n : Nat) (xs : List Nat) (w : World) (e : Ending) (w' : World) : Prop :=
  ∃ (A : Option Addr) (c : Nat), e = .returned (.slice A n c) ∧ w'.ownsRow w.heap.size 104 1 (.slice A n c) n (wcells xs) ∧ n ≤ c ∧ c ≤ 9223372036854775807 ∧ Below w.heap.size w w'
set_option maxRecDepth 100000 in
set_option maxHeartbeats 2000000 in
theorem equal_i (A A2 : Option Addr) (n m c c2 : Nat) (xs ys : List Int) (hn : n ≤ 1000000) (hm : m ≤ 1000000) (w : World) (hR : RI w w.heap.size A n xs) (hR2 : RI w w.heap.size A2 m ys) :
    Calls Tryd.prog 17 #[.slice A n c, .slice A2 m c2] w fun e w' => e = .returned (.bool (decide (xs = ys))) ∧ Below w.heap.size w w' := by
  have HR := Lib.hid hR
  have HR2 := Lib.hid hR2
  have HL := Lib.hid hR.len
  have HL2 := Lib.hid hR2.len
  clear hR hR2
  by_cases hnm : n = m
  · subst hnm
    go_enter Tryd.func17, Tryd.ntmps17
    go_wp2_with fail
    go_loopg [13] n (fun gg i wr => ∃ k : Nat, k + gg = n ∧ i = .int .i64 k ∧ Hid (Below w.heap.size w wr) ∧ Hid (xs.take k = ys.take k))
    case atStart => exact ⟨0, by omega, rfl, Below.refl _ _, rfl⟩
    case round =>
      obtain ⟨k, hk, rfl, bk, HT⟩ := hrel
      cases gk with
      | succ g2 =>
        have hlt : (k : Int) < (n : Int) := by omega
        obtain ⟨b, o, rfl, hb, g0⟩ := (HR.out.below bk.out).at_ (k := k) (by omega)
        obtain ⟨b2, o2, rfl, hb2, x0⟩ := (HR2.out.below bk.out).at_ (k := k) (by omega)
        have H1 := Lib.hid (take_snoc' (d := 0) (show k < xs.length by rw [HL.out]; omega))
        have H2 := Lib.hid (take_snoc' (d := 0) (show k < ys.length by rw [HL2.out]; omega))
        have HK := Lib.hid hk
        have HNE := Lib.hid (@take_ne _ xs ys k (0 : Int))
        generalize xs.getD k 0 = x at *
        generalize ys.getD k 0 = y at *
        clear hk
        by_cases hxy : x = y
        · subst hxy
          have hq : ((x != x) = false) := by simp
          go_wp2_with fail
          go_quiet (fail)
          go_wp2_with fail
          go_roundg g2
          case measure => omega
          case rel => exact ⟨k + 1, by have := HK.out; omega, by go_num, below_drewN bk.out _, by show _ = _; rw [H1.out, H2.out, HT.out]⟩
        · have hq : ((x != y) = true) := by rw [bne_iff_ne]; omega
          have HX : Hid (decide (xs = ys) = false) := by show _ = _; exact decide_eq_false (HNE.out hxy)
          clear hxy
          go_wp2_with fail
          go_quiet (fail)
          go_wp2_with fail
          go_ret
          exact ⟨by rw [HX.out]; rfl, below_drewN bk.out _⟩
      | zero =>
        have hge : ¬ (k : Int) < (n : Int) := by omega
        have HX : Hid (decide (xs = ys) = true) := by
          show _ = _
          have := HT.out
          rw [List.take_of_length_le (by rw [HL.out]; omega), List.take_of_length_le (by rw [HL2.out]; omega)] at this
          exact decide_eq_true this
        have HK := Lib.hid hk
        clear hk
        go_wp2_with fail
        go_ret
        exact ⟨by rw [HX.out]; rfl, bk.out⟩
  · have hq : (((n : Int) != (m : Int)) = true) := by simp; omega
    have HX : Hid (decide (xs = ys) = false) := by
      show _ = _
      refine decide_eq_false fun e => hnm ?_
      rw [← HL.out, ← HL2.out, e]
    go_enter Tryd.func17, Tryd.ntmps17
    go_wp2_with fail
    go_ret
    exact ⟨by rw [HX.out]; rfl, Below.refl _ _⟩

/-- A copy: its cells lie in memory of the call's own. -/
def Copy_i (n : Nat) (xs : List Int) (w : World) (e : Ending) (w' : World) : Prop :=
  ∃ (A : Option Addr) (c : Nat), e = .returned (.slice A n c) ∧ w'.ownsRow w.heap.size 3 1 (.slice A n c) n (ints xs) ∧ n ≤ c ∧ c ≤ 9223372036854775807 ∧ Below w.heap.size w w'
set_option maxRecDepth 100000 in
set_option maxHeartbeats 2000000 in
theorem clone_i_none (c : Nat) (w : World) :
    Calls Tryd.prog 23 #[.slice none 0 c] w (Copy_i 0 [] w) := by
  have hq : ∀ w : World, (binOp .eql 30 (.slice none 0 c) (.slice none 0 0)).run Tryd.prog w = .ok (.bool true) w := fun w => Lib.run_eql_slice_nil w _ _ none 0 c 0 0 Tryd.underlying30
  go_enter Tryd.func23, Tryd.ntmps23
  go_wp2_with fail
  go_ret
  exact ⟨none, 0, rfl, World.ownsRow_nil _ _ _ _, Nat.le_refl _, by decide, Below.refl _ _⟩
set_option maxRecDepth 100000 in
set_option maxHeartbeats 2000000 in
theorem clone_i_some (ad : Addr) (n c : Nat) (zs : List Int) (hn : n ≤ 1000000) (w : World) (hR : RI w w.heap.size (some ad) n zs) :
    Calls Tryd.prog 23 #[.slice (some ad) n c] w (Copy_i n zs w) := by
  have hq : ∀ w : World, (binOp .eql 30 (.slice (some ad) n c) (.slice none 0 0)).run Tryd.prog w = .ok (.bool false) w := fun w => Lib.run_eql_slice_nil w _ _ (some ad) n c 0 0 Tryd.underlying30
  obtain ⟨i0, hi, hz0, hz1, hz2⟩ := info_parts i64_info
  go_enter Tryd.func23, Tryd.ntmps23
  go_wp2_with (at_builtin; refine wpList_append_any _ rfl (.tmp 5) (.tmp 6) 30 rfl w.heap.size 3 i0 _ 1 8 Tryd.underlying30 hi hz0 hz1 hz2 rfl (by decide) _ 0 [] rfl (own_new1 w 3) w.heap.size (some ad) n _ (ints zs) rfl (hR.alloc (Nat.le_refl _) _) (ints_one _) (by unfold maxLen; omega) (by omega) (by simp) ?_; intro v' w2 hown hgrow hat)
  rw [Nat.zero_add, List.nil_append] at hown
  have b2 : Below w.heap.size w w2 := ((Below.refl _ _).alloc (Nat.le_refl _) _).grown hgrow (by simp) (fun j hj => by have e : some w.heap.size = some j := hj; injection e with e; omega)
  obtain ⟨A', c', rfl, h1, h2⟩ := own_form1 hown
  go_ret
  exact ⟨A', c', rfl, hown, h1, h2, b2⟩
theorem clone_i (A : Option Addr) (n c : Nat) (zs : List Int) (hn : n ≤ 1000000) (w : World) (hR : RI w w.heap.size A n zs) :
    Calls Tryd.prog 23 #[.slice A n c] w (Copy_i n zs w) := by
  cases A with
  | some ad => exact clone_i_some ad n c zs hn w hR
  | none =>
    obtain rfl : n = 0 := by
      rcases Nat.eq_zero_or_pos n with h | h
      · exact h
      · obtain ⟨ad, e, _⟩ := hR.2 h; cases e
    obtain rfl : zs = [] := List.eq_nil_of_length_eq_zero hR.len
    exact clone_i_none c w

/-- What is owned reads so. -/
theorem RW.of_own {w : World} {base n c : Nat} {e : TypeId} {A : Option Addr} {ws : List Nat} (h : w.ownsRow base e 1 (.slice A n c) n (wcells ws)) : RW w w.heap.size A n ws := Reads.of_own h
theorem RI.of_own {w : World} {base n c : Nat} {e : TypeId} {A : Option Addr} {zs : List Int} (h : w.ownsRow base e 1 (.slice A n c) n (ints zs)) : RI w w.heap.size A n zs := Reads.of_own h
end Go.Proofs.YtgbpaiffnhpafaaDoor.Bit
