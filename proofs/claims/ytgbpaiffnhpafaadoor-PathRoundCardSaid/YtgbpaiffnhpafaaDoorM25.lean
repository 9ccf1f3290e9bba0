/- Layer bits: Of: its contracts. -/
import Derived.StillTailTactics
import Derived.Test.YtgbpaiffnhpafaaDoorM23
-- holds: YtgbpaiffnhpafaaDoorEk YtgbpaiffnhpafaaDoorEl
namespace Go.Proofs.YtgbpaiffnhpafaaDoor.Bit
open Go.RowKit

/-- A row in which one word has been changed. -/
theorem has_set_word {p : List Nat} {i x : Nat} (hi : i < p.length) (n : Nat) : hasW (p.set i x) n = if n / 64 = i then x.testBit (n % 64) else hasW p n := by
  unfold hasW
  rw [List.getD_eq_getElem?_getD, List.getElem?_set]
  by_cases h : i = n / 64
  · rw [if_pos h, if_pos h.symm]
    simp [hi]
  · rw [if_neg h, if_neg (fun e => h e.symm), List.getD_eq_getElem?_getD]
theorem set_64 {p : List Nat} {i x : Nat} (hp : W64 p) (hx : x < 18446744073709551616) : W64 (p.set i x) := by
  intro y hy
  rcases List.mem_or_eq_of_mem_set hy with h | h
  · exact hp y h
  · rw [h]; exact hx
theorem same_num (n m : Nat) : (n / 64 = m / 64 ∧ m % 64 = n % 64) ↔ n = m := by omega
theorem has_with {p : List Nat} {m : Nat} (hm : m / 64 < p.length) (n : Nat) : hasW (p.set (m / 64) (p.getD (m / 64) 0 ||| 2 ^ (m % 64))) n = (hasW p n || decide (n = m)) := by
  rw [has_set_word hm]
  by_cases h : n / 64 = m / 64
  · rw [if_pos h, Nat.testBit_or, Nat.testBit_two_pow]
    unfold hasW
    rw [h]
    congr 1
    exact decide_eq_decide.2 ⟨fun e => (same_num n m).1 ⟨h, e⟩, fun e => by rw [e]⟩
  · rw [if_neg h]
    have : ¬ n = m := fun e => h (by rw [e])
    simp [this]
theorem has_without {p : List Nat} {m : Nat} (hm : m / 64 < p.length) (n : Nat) : hasW (p.set (m / 64) (p.getD (m / 64) 0 &&& (18446744073709551615 - 2 ^ (m % 64)))) n = (hasW p n && !decide (n = m)) := by
  rw [has_set_word hm]
  by_cases h : n / 64 = m / 64
  · rw [if_pos h, Nat.testBit_and, not_bit _ (pow_lt64 m) _ (Nat.mod_lt _ (by decide)), Nat.testBit_two_pow]
    unfold hasW
    rw [h]
    congr 2
    exact decide_eq_decide.2 ⟨fun e => (same_num n m).1 ⟨h, e⟩, fun e => by rw [e]⟩
  · rw [if_neg h]
    have : ¬ n = m := fun e => h (by rw [e])
    simp [this]

theorem bit_same (n : Nat) (hn : n ≤ 9223372036854775807) (w : World) : Calls Tryd.prog 73 #[.int .i64 (n : Int)] w fun e w' => e = .returned (.int .u64 ((2 ^ (n % 64) : Nat) : Int)) ∧ w' = w :=
  (bit_any n hn w).mono fun _ _ ⟨h1, h2⟩ => ⟨h1, h2.symm⟩
theorem room_nat (m : Nat) (h : m ≤ 100000) (w : World) : Calls Tryd.prog 72 #[.int .i64 (m : Int)] w fun e w' => e = .returned (.int .i64 ((m / 64 + 1 : Nat) : Int)) ∧ w = w' :=
  (room_any (m : Int) (by omega) (by omega) w).mono fun e w' ⟨h1, h2⟩ => ⟨by rw [h1, show ((m : Int) + 64) / 64 = ((m / 64 + 1 : Nat) : Int) by omega], h2⟩

theorem setErr_end {w w4 : World} {ws ws' : List Nat} {A : Option Addr} {n c b : Nat} {u : Array Value} {k : Int} (h : OW w.heap.size w4 A n ws) (hb : Blk w4 b 84 u) (hB : Below w.heap.size w w4) (hle : w.heap.size ≤ b) (hw : ws = ws') :
    SetErr ws' k w (.returned (.tuple #[.agg #[.slice A n c], .int .i64 k])) (w4.setCell ⟨b, 0, none⟩ (.slice A n c)) := by
  subst hw
  exact ⟨A, n, c, rfl, h.set_box hb (by decide) _, hB.setCell (p := ⟨b, 0, none⟩) hle _⟩

theorem pad_none (ws : List Nat) : padW ws 0 = ws := by unfold padW; simp
end Go.Proofs.YtgbpaiffnhpafaaDoor.Bit
namespace Go.Proofs.YtgbpaiffnhpafaaDoor.Bit
open Go.RowKit

/-- All the numbers may be in a set. -/
def mayL (l : List Int) : Prop := ∀ z ∈ l, mayB z = true
def ofF (l : List Int) (n : Nat) : Bool := decide ((n : Int) ∈ l)
theorem may_nat {z : Int} (h : mayB z = true) : ∃ m : Nat, z = m ∧ m < 10000 := by
  unfold mayB at h
  simp at h
  exact ⟨z.toNat, by omega, by omega⟩
theorem of_in {l : List Int} (h : mayL l) {n : Nat} (hn : ofF l n = true) : n < 10000 := by
  unfold ofF at hn
  obtain ⟨m, e, hm⟩ := may_nat (h _ (of_decide_eq_true hn))
  omega
theorem of_snoc {l : List Int} {k : Nat} (h : k < l.length) {m : Nat} (hm : l.getD k 0 = (m : Int)) (n : Nat) : ofF (l.take (k + 1)) n = (ofF (l.take k) n || decide (n = m)) := by
  unfold ofF
  rw [take_snoc' (d := 0) h, hm]
  simp only [List.mem_append, List.mem_singleton, Bool.decide_or]
  congr 1
  exact decide_eq_decide.2 (by omega)
theorem getD_mem' {l : List Int} {k : Nat} (h : k < l.length) : l.getD k 0 ∈ l := by
  rw [List.getD_eq_getElem?_getD, List.getElem?_eq_getElem h]; exact List.getElem_mem h

/-- How far the search for the greatest number has come. -/
def MostIs (l : List Int) (k : Nat) (mo : Int) : Prop := ∀ z ∈ l.take k, z ≤ mo
theorem most_step {l : List Int} {k : Nat} {mo z : Int} (h : MostIs l k mo) (hk : k < l.length) (hz : l.getD k 0 = z) : MostIs l (k + 1) (max mo z) := by
  intro y hy
  rw [take_snoc' (d := 0) hk, hz] at hy
  rcases List.mem_append.1 hy with hy | hy
  · have := h y hy; omega
  · simp at hy; omega
/-- How far the filling of the row has come. -/
structure FillIs (w : World) (g N : Nat) (l : List Int) (k : Nat) (wr : World) (p : List Nat) : Prop where
  len : p.length = N
  all : W64 p
  has : ∀ j, hasW p j = ofF (l.take k) j
  blk : Blk wr g 104 (wcells p).toArray
  box : Blk wr w.heap.size 84 #[.slice none 0 0]
  below : Below w.heap.size w wr
theorem FillIs.step {w wr : World} {g N k m : Nat} {l : List Int} {p : List Nat} (h : FillIs w g N l k wr p) (hg : w.heap.size < g) (hk : k < l.length) (hz : l.getD k 0 = (m : Int)) (hm : m / 64 < N) {y : Nat} (hy : p.getD (m / 64) 0 ||| 2 ^ (m % 64) = y) :
    FillIs w g N l (k + 1) (wr.setCell ⟨g, m / 64, none⟩ (.int .u64 (y : Int))).drew (p.set (m / 64) y) := by
  subst hy
  have hl : m / 64 < p.length := by rw [h.len]; exact hm
  refine ⟨by rw [List.length_set]; exact h.len, set_64 h.all (or_lt _ _ (h.all.at_ _) (pow_lt64 m)), fun j => by rw [has_with hl, h.has, of_snoc hk hz], blk_set h.blk _ _, ?_, below_drew' (h.below.setCell (p := ⟨g, m / 64, none⟩) (by show _ ≤ g; omega) _)⟩
  exact h.box.far (p := ⟨g, m / 64, none⟩) (by show _ ≠ g; omega) _
theorem FillIs.end_ {w wr : World} {g N k : Nat} {l : List Int} {p : List Nat} (h : FillIs w g N l k wr p) (hk : l.length ≤ k) (hl : mayL l) : trimW p = setW (ofF l) :=
  trim_set h.all fun n => by
    rw [h.has, List.take_of_length_le hk]
    cases hb : ofF l n with
    | false => simp
    | true => have := of_in hl hb; simp; omega

set_option maxRecDepth 100000 in
set_option maxHeartbeats 2000000 in
theorem of_yes (A : Option Addr) (n c : Nat) (l : List Int) (hl : mayL l) (hn : n ≤ 100000) (w : World) (hA : RI w w.heap.size A n l) :
    Calls Tryd.prog 52 #[.slice A n c] w (SetErr (setW (ofF l)) 0 w) := by
  have HL := Lib.hid hl
  have HLN := Lib.hid hA.len
  have HR := Lib.hid fun W (h : Below w.heap.size w W) => hA.below h
  have HB0 : Hid (Blk (w.alloc (.cells #[.slice none 0 0] 84)) w.heap.size 84 #[.slice none 0 0]) := Blk.new _ _ _
  have B0 : Hid (Below w.heap.size w (w.alloc (.cells #[.slice none 0 0] 84))) := (Below.refl _ _).alloc (Nat.le_refl _) _
  clear hA hl
  go_enter Tryd.func52, Tryd.ntmps52
  go_wp2_with fail
  generalize hW0 : w.alloc (.cells #[.slice none 0 0] 84) = W0 at *
  have hs0 : W0.heap.size = w.heap.size + 1 := by rw [← hW0]; simp
  have HS0 := Lib.hid hs0
  clear hW0 hs0
  go_loop [4, 12] (fun s i => ∃ (k : Nat) (mo : Int), k ≤ n ∧ i = .int .i64 k ∧ s = .int .i64 mo ∧ -1 ≤ mo ∧ mo < 10000 ∧ Hid (MostIs l k mo)) (fun _ i => n - (intOf i).toNat)
  case atStart => exact ⟨0, -1, Nat.zero_le _, rfl, rfl, by omega, by omega, fun z hz => by simp at hz⟩
  case round =>
    obtain ⟨k, mo, hk, rfl, rfl, h1, h2, HM⟩ := hrel
    by_cases hlt : k < n
    · obtain ⟨b, o, rfl, hb, hc⟩ := (HR.out _ B0.out).at_ hlt
      have hkl : k < l.length := by rw [HLN.out]; exact hlt
      have hmay := HL.out _ (getD_mem' hkl)
      have HST := Lib.hid fun z hz => most_step (z := z) HM.out hkl hz
      obtain ⟨m, hz, hm⟩ := may_nat hmay
      have HST2 := Lib.hid (HST.out _ hz)
      rw [hz] at hc hmay
      have HY := Lib.hid (fun w => may_any (m : Int) w)
      rw [hmay] at HY
      clear hz HST hmay
      go_wp2_with fail
      refine (HY.out _).mono ?_
      rintro e w1 ⟨rfl, rfl⟩
      go_wp2_with fail
      go_round
      case rel => exact ⟨k + 1, max mo (m : Int), by omega, by go_num, rfl, by omega, by omega, HST2⟩
      case measure => simp [intOf]; omega
    · obtain rfl : k = n := by omega
      obtain ⟨N, hN⟩ : ∃ N : Nat, (mo + 64) / 64 = (N : Int) := ⟨((mo + 64) / 64).toNat, by omega⟩
      have HRM := Lib.hid (room_any mo h1 (by omega))
      rw [hN] at HRM
      have hNle : N ≤ 200 := by omega
      have hmk := fun W => w_make N (by omega) W
      have HNM : Hid (∀ m : Nat, (m : Int) ≤ mo → m / 64 < N) := fun m hm => by omega
      have HF0 : Hid (FillIs w (w.heap.size + 1) N l 0 (W0.alloc (.cells (wcells (List.replicate N 0)).toArray 104)) (List.replicate N 0)) := by
        have hb := Blk.new W0 104 (wcells (List.replicate N 0)).toArray
        rw [HS0.out] at hb
        refine ⟨by simp, ?_, fun j => ?_, hb, HB0.out.alloc _, B0.out.alloc B0.out.size _⟩
        · intro x hx
          rw [List.eq_of_mem_replicate hx]; decide
        · have e : hasW (List.replicate N 0) j = false := by
            unfold hasW
            rw [List.getD_eq_getElem?_getD, List.getElem?_replicate]
            split <;> simp
          rw [e]; simp [ofF]
      have hs0 := HS0.out
      clear hN
      go_wp2_with fail
      refine (HRM.out _).mono ?_
      rintro e w1 ⟨rfl, rfl⟩
      go_wp2_with fail
      generalize W0.alloc (.cells (wcells (List.replicate N 0)).toArray 104) = W1 at *
      go_loopw [29] (fun i wr => ∃ (j : Nat) (p : List Nat), j ≤ k ∧ i = .int .i64 j ∧ Hid (FillIs w (w.heap.size + 1) N l j wr p)) (fun i _ => k - (intOf i).toNat)
      case atStart => exact ⟨0, _, Nat.zero_le _, rfl, HF0⟩
      case round =>
        obtain ⟨j, p, hj, rfl, HF⟩ := hrel
        by_cases hjlt : j < k
        · obtain ⟨b, o, rfl, hb, hc⟩ := (HR.out _ HF.out.below).at_ hjlt
          have hjl : j < l.length := by rw [HLN.out]; exact hjlt
          obtain ⟨m, hz, hm⟩ := may_nat (HL.out _ (getD_mem' hjl))
          have hmN : m / 64 < N := HNM.out m (by
            rw [← hz]
            refine HM.out _ ?_
            rw [List.take_of_length_le (by rw [HLN.out]; exact Nat.le_refl _)]
            exact getD_mem' hjl)
          have HBT := Lib.hid (fun w => bit_same m (by omega) w)
          have hpl : m / 64 < p.length := by rw [HF.out.len]; exact hmN
          have hcw := blk_get HF.out.blk hpl
          have hf := HF.out.blk.frozen (m / 64)
          have HU := Lib.hid (u64_or_nat _ _ (HF.out.all.at_ (m / 64)) (pow_lt64 m))
          have HST := Lib.hid fun y hy => HF.out.step (by omega) hjl hz hmN (y := y) hy
          rw [hz] at hc
          generalize hxe : p.getD (m / 64) 0 = x at *
          generalize hye : 2 ^ (m % 64) = y at *
          generalize hze : x ||| y = zz at *
          have HST2 := Lib.hid (HST.out zz rfl)
          have hu := HU.out
          have d1 : (0 : Int) ≤ (m : Int) / 64 := by omega
          have d2 : (m : Int) / 64 < (N : Int) := by omega
          have d3 : ((m : Int) / 64).toNat = m / 64 := by omega
          have d4 : IntKind.i64.wrap ((m : Int) / 64) = (m : Int) / 64 := IntWalk.i64_in _ (by omega)
          clear hz hxe hye hze HU HST hpl hmN hmk hs0
          go_wp2_with fail
          refine wp_region_still_tail 9 (by kernel_rfl) (by kernel_rfl) ?_
          simp only [List.take_succ_cons, List.take_zero, List.drop_succ_cons, List.drop_zero]
          still_step
          still_step
          still_step
          still_step
          still_step
          still_step
          still_call (HBT.out _)
          still_step
          still_step
          refine wpStill_nil ?_
          change wpList _ _ _ _ _ wr.drew
          go_wp2_with fail
          go_roundw
          case rel => exact ⟨j + 1, _, by omega, by go_num, HST2⟩
          case measure => simp [intOf]; omega
        · obtain rfl : j = k := by omega
          have HT := Lib.hid (HF.out.end_ (by rw [HLN.out]; exact Nat.le_refl _) HL.out)
          go_wp2_with fail
          refine (cut_any w.heap.size (some ⟨w.heap.size + 1, 0, none⟩) N N p (Nat.le_refl _) (by omega) wr ⟨HF.out.len, fun _ => ⟨w.heap.size + 1, rfl, by omega, HF.out.blk⟩⟩).mono ?_
          rintro e w4 ⟨A4, n4, c4, rfl, o4, b4⟩
          have B4 : Hid (Below w.heap.size w w4) := HF.out.below.trans (b4.mono HF.out.below.size)
          have HB4 := Lib.hid (HF.out.box.below b4 HF.out.box.lt)
          have zc := HB4.out.cell 0
          have zf := HB4.out.frozen 0
          have hz := World.cell?_setCell_same' w4 ⟨w.heap.size, 0, none⟩ (.slice A4 n4 c4) (by rw [zc]; rfl)
          have HE := Lib.hid (setErr_end (c := c4) (k := 0) o4 HB4.out B4.out (Nat.le_refl _) HT.out)
          clear o4 b4 HT HF
          go_wp2_with fail
          exact bodyPost_ret (v := .tuple #[.agg #[.slice A4 n4 c4], .int .i64 0]) (by simp [results, Tryd.results52, go_sem, hz]) rfl HE.out

theorem not_may {l : List Int} (h : ¬ mayL l) {k : Nat} (hp : ∀ z ∈ l.take k, mayB z = true) : k < l.length := by
  rcases Nat.lt_or_ge k l.length with h1 | h1
  · exact h1
  · rw [List.take_of_length_le h1] at hp; exact absurd hp h
set_option maxRecDepth 100000 in
set_option maxHeartbeats 2000000 in
theorem of_no (A : Option Addr) (n c : Nat) (l : List Int) (hl : ¬ mayL l) (hall : all64 l) (hn : n ≤ 100000) (w : World) (hA : RI w w.heap.size A n l) :
    Calls Tryd.prog 52 #[.slice A n c] w (SetErr [] 2 w) := by
  have HL := Lib.hid hl
  have HALL := Lib.hid hall
  have HLN := Lib.hid hA.len
  have HR := Lib.hid fun W (h : Below w.heap.size w W) => hA.below h
  have HB0 : Hid (Blk (w.alloc (.cells #[.slice none 0 0] 84)) w.heap.size 84 #[.slice none 0 0]) := Blk.new _ _ _
  have B0 : Hid (Below w.heap.size w (w.alloc (.cells #[.slice none 0 0] 84))) := (Below.refl _ _).alloc (Nat.le_refl _) _
  clear hA hl hall
  go_enter Tryd.func52, Tryd.ntmps52
  go_wp2_with fail
  generalize w.alloc (.cells #[.slice none 0 0] 84) = W0 at *
  go_loop [4, 12] (fun s i => ∃ (k : Nat) (mo : Int), k ≤ n ∧ i = .int .i64 k ∧ s = .int .i64 mo ∧ -1 ≤ mo ∧ mo < 10000 ∧ Hid (∀ z ∈ l.take k, mayB z = true)) (fun _ i => n - (intOf i).toNat)
  case atStart => exact ⟨0, -1, Nat.zero_le _, rfl, rfl, by omega, by omega, fun z hz => by simp at hz⟩
  case round =>
    obtain ⟨k, mo, hk, rfl, rfl, h1, h2, HM⟩ := hrel
    have hkl := not_may HL.out HM.out
    have hlt : k < n := by have := HLN.out; omega
    obtain ⟨b, o, rfl, hb, hc⟩ := (HR.out _ B0.out).at_ hlt
    have HST : Hid (mayB (l.getD k 0) = true → ∀ z ∈ l.take (k + 1), mayB z = true) := fun h z hz => by
      rw [take_snoc' (d := 0) hkl] at hz
      rcases List.mem_append.1 hz with hz | hz
      · exact HM.out z hz
      · simp only [List.mem_singleton] at hz; rw [hz]; exact h
    obtain ⟨hz0, hz1⟩ := HALL.out _ (getD_mem' hkl)
    have HY := Lib.hid (fun w => may_any (l.getD k 0) w)
    clear hkl
    generalize l.getD k 0 = z at *
    by_cases hm : mayB z = true
    · have HST2 := Lib.hid (HST.out hm)
      obtain ⟨m, rfl, hm2⟩ := may_nat hm
      rw [hm] at HY
      clear hm HST
      go_wp2_with fail
      refine (HY.out _).mono ?_
      rintro e w1 ⟨rfl, rfl⟩
      go_wp2_with fail
      go_round
      case rel => exact ⟨k + 1, max mo (m : Int), by omega, by go_num, rfl, by omega, by omega, HST2⟩
      case measure => simp [intOf]; omega
    · have hm' : mayB z = false := by simpa using hm
      rw [hm'] at HY
      have q0 := HB0.out.cell 0
      have qf := HB0.out.frozen 0
      have hz := World.cell?_setCell_same' W0 ⟨w.heap.size, 0, none⟩ (.slice none 0 0) (by rw [q0]; rfl)
      have BE : Hid (Below w.heap.size w (W0.setCell ⟨w.heap.size, 0, none⟩ (.slice none 0 0))) := B0.out.setCell (p := ⟨w.heap.size, 0, none⟩) (Nat.le_refl _) _
      clear hm hm' HST
      go_wp2_with fail
      refine (HY.out _).mono ?_
      rintro e w1 ⟨rfl, rfl⟩
      go_wp2_with fail
      exact bodyPost_ret (v := .tuple #[.agg #[.slice none 0 0], .int .i64 2]) (by simp [results, Tryd.results52, go_sem, hz]) rfl ⟨none, 0, 0, rfl, ⟨rfl, fun h => absurd h (by omega)⟩, BE.out⟩
end Go.Proofs.YtgbpaiffnhpafaaDoor.Bit
