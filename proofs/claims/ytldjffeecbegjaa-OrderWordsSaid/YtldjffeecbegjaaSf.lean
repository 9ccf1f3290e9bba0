/- Layer order: rows of texts read, copied, and asked for their order by the library: contracts. -/
import Derived.Test.YtldjffeecbegjaaSe
import Derived.Test.YtldjffeecbegjaaShelf
namespace Go.Proofs.Ytldjffeecbegjaa.Str
open Go.RowKit

/-- A text of a slice. -/
theorem pr_at {w : World} {B n k : Nat} {A : Option Addr} {p : Tx} {ps : List Tx} (h : Reads w B 1 A n (strs ps)) (hp : ps[k]? = some p) :
    ∃ b o, A = some ⟨b, o, none⟩ ∧ b < B ∧ w.cell? ⟨b, o + k, none⟩ = some (.string p) := by
  have hk := (List.getElem?_eq_some_iff.1 hp).1
  have hl := h.1
  rw [strs_length] at hl
  obtain ⟨ad, hA, hb, hc⟩ := h.2 (by omega)
  have g0 := hc _ _ (strs_at hp)
  obtain ⟨b, o, spot⟩ := ad
  have hspot : spot = none := by
    have h00 := hc 0 _ (List.getElem?_eq_getElem (show 0 < (strs ps).length by rw [strs_length]; omega))
    simpa [Addr.add] using World.cell?_spot h00
  subst hspot
  rw [Go.WideShapes.add_plain] at g0
  exact ⟨b, o, hA, hb, g0⟩
theorem reads_len {w : World} {B n : Nat} {A : Option Addr} {ps : List Tx} (h : Reads w B 1 A n (strs ps)) : ps.length = n := by
  have := h.1; rw [strs_length] at this; omega
theorem Own.reads {B h n : Nat} {xs : List Tx} {w : World} (o : Own B h n xs w) : Reads w w.heap.size 1 (some ⟨h, 0, none⟩) n (strs xs) :=
  ⟨by rw [strs_length, o.2.1, Nat.mul_one], fun _ => ⟨_, rfl, o.2.2.lt, fun j u hu => by
    rw [Go.WideShapes.add_plain, o.2.2.cell, Nat.zero_add, List.getElem?_toArray]; exact hu⟩⟩
theorem reads_own {w : World} {A : Option Addr} {n c : Nat} {ps : List Tx} {base : Nat} (h : w.ownsRow base 9 1 (.slice A n c) n (strs ps)) : Reads w w.heap.size 1 A n (strs ps) := Reads.of_own h
theorem Own.later {B h n : Nat} {xs : List Tx} {w w' : World} (o : Own B h n xs w) (hb : Below w.heap.size w w') : Own B h n xs w' := ⟨o.1, o.2.1, o.2.2.below hb o.2.2.lt⟩

/-- A copy: its cells lie in memory of the call's own. -/
def CopyIs (n : Nat) (ps : List Tx) (w : World) (e : Ending) (w' : World) : Prop :=
  ∃ (A : Option Addr) (c : Nat), e = .returned (.slice A n c) ∧ w'.ownsRow w.heap.size 9 1 (.slice A n c) n (strs ps) ∧ n ≤ c ∧ c ≤ 9223372036854775807 ∧ Below w.heap.size w w'
def RowIs (ps : List Tx) (w : World) (e : Ending) (w' : World) : Prop := CopyIs ps.length ps w e w'

/-- The cells behind a slice's address, as the library's contracts ask for them. -/
theorem cells_at {w : World} {B n b o : Nat} {ps : List Tx} (h : Reads w B 1 (some ⟨b, o, none⟩) n (strs ps)) : ∀ j, j < ps.length → w.cell? ⟨b, o + j, none⟩ = some (.string (ps.getD j ByteArray.empty)) := by
  intro j hj
  obtain ⟨b', o', hA, _, hc⟩ := pr_at h (List.getElem?_eq_getElem hj)
  injection hA with hA
  injection hA with e1 e2 _
  rw [e1, e2, hc, List.getD_eq_getElem?_getD, List.getElem?_eq_getElem hj]
  rfl
theorem spot_of {w : World} {B n : Nat} {ad : Addr} {ps : List Tx} (h : Reads w B 1 (some ad) n (strs ps)) (hn : 0 < n) : ∃ b o, ad = ⟨b, o, none⟩ := by
  have hl := reads_len h
  obtain ⟨b, o, hA, _⟩ := pr_at h (List.getElem?_eq_getElem (show 0 < ps.length by omega))
  injection hA with hA
  exact ⟨b, o, hA⟩

theorem clone_str (A : Option Addr) (n c : Nat) (zs : List Tx) (hn : n ≤ 1000000) (w : World) (hR : Reads w w.heap.size 1 A n (strs zs)) :
    Calls Try.prog 24 #[.slice A n c] w (CopyIs n zs w) := by
  have hl := reads_len hR
  cases A with
  | none =>
    obtain rfl : n = 0 := by
      rcases Nat.eq_zero_or_pos n with h | h
      · exact h
      · obtain ⟨ad, hA, _⟩ := hR.2 h
        cases hA
    obtain rfl : zs = [] := List.eq_nil_of_length_eq_zero hl
    refine (Try.slices_Clone_string_nil 0 c w).mono ?_
    rintro e w' ⟨rfl, rfl⟩
    exact ⟨none, 0, rfl, World.ownsRow_nil _ _ _ _, Nat.le_refl _, by decide, Below.refl _ _⟩
  | some ad =>
    rcases Nat.eq_zero_or_pos n with h | h
    · subst h
      obtain rfl : zs = [] := List.eq_nil_of_length_eq_zero hl
      refine (Try.slices_Clone_string_zero ad c w).mono ?_
      rintro e w' ⟨v', rfl, ho, _, hb⟩
      obtain ⟨A', c', rfl, h1, h2⟩ := own_form2 ho
      exact ⟨A', c', rfl, ho, h1, h2, hb⟩
    · obtain ⟨b, o, rfl⟩ := spot_of hR h
      refine (Try.slices_Clone_string b o n c zs w (by omega) (by omega) (cells_at hR)).mono ?_
      rintro e w' ⟨v', rfl, ho, _, hb⟩
      rw [List.take_of_length_le (by omega)] at ho
      obtain ⟨A', c', rfl, h1, h2⟩ := own_form2 ho
      exact ⟨A', c', rfl, ho, h1, h2, hb⟩

theorem contains_str (A : Option Addr) (n c : Nat) (zs : List Tx) (x : Tx) (hn : n ≤ 1000000) (w : World) (hR : Reads w w.heap.size 1 A n (strs zs)) :
    Calls Try.prog 32 #[.slice A n c, .string x] w fun e w' => e = .returned (.bool (Lib.containsS zs x)) ∧ w' = w := by
  have hl := reads_len hR
  rcases Nat.eq_zero_or_pos n with h | h
  · subst h
    obtain rfl : zs = [] := List.eq_nil_of_length_eq_zero hl
    refine (Try.slices_Contains_string_empty A c x w).mono ?_
    rintro e w' ⟨rfl, rfl⟩
    refine ⟨?_, rfl⟩
    have : Lib.containsS [] x = false := Bool.eq_false_iff.2 fun h => by
      have := (Lib.containsS_iff [] x).1 h
      cases this
    rw [this]
  · obtain ⟨ad, rfl, _⟩ := hR.2 h
    obtain ⟨b, o, rfl⟩ := spot_of hR h
    refine (Try.slices_Contains_string b o n c zs x w (by omega) (by omega) (cells_at hR)).mono ?_
    rintro e w' ⟨rfl, rfl⟩
    rw [List.take_of_length_le (by omega)]
    exact ⟨rfl, rfl⟩

theorem contains_low (A : Option Addr) (n c : Nat) (zs : List Tx) (x : Tx) (hn : n ≤ 1000000) (w : World) (hR : Reads w w.heap.size 1 A n (strs zs)) :
    Calls Try.prog 32 #[.slice A n c, .string x] w fun e w' => e = .returned (.bool (Lib.containsS zs x)) ∧ Below w.heap.size w w' := by
  refine (contains_str A n c zs x hn w hR).mono ?_
  rintro e w' ⟨rfl, rfl⟩
  exact ⟨rfl, Below.refl _ _⟩

theorem less_str (a b : Tx) (w : World) : Calls Try.prog 47 #[.string a, .string b] w fun e w' => e = .returned (.bool (ltS a b)) ∧ Below w.heap.size w w' := by
  have hn : ∀ (x : Tx) (w : World), Calls Try.prog 44 #[.string x] w fun e w' => e = .returned (.bool false) ∧ w = w' := by
    intro x w
    go_enter Try.func44, Try.ntmps44
    go_wp2_with fail
    go_ret
    exact ⟨by simp, rfl⟩
  have H := Lib.hid hn
  clear hn
  go_enter Try.func47, Try.ntmps47
  go_wp2_with fail
  refine (H.out a w).mono ?_
  rintro e w1 ⟨rfl, rfl⟩
  go_wp2_with fail
  go_ret
  exact ⟨rfl, Below.refl _ _⟩

set_option maxRecDepth 100000 in
set_option maxHeartbeats 2000000 in
theorem sorted_str (A : Option Addr) (n c : Nat) (zs : List Tx) (hn : n ≤ 1000000) (hz : InOrder ltS zs) (w : World) (hR : Reads w w.heap.size 1 A n (strs zs)) :
    Calls Try.prog 33 #[.slice A n c] w fun e w' => e = .returned (.bool true) ∧ Below w.heap.size w w' := by
  have HR := Lib.hid hR
  have HL := Lib.hid (reads_len hR)
  have HZ := Lib.hid hz
  clear hR hz
  go_enter Try.func33, Try.ntmps33
  go_wp2_with fail
  go_loopg [3] n (fun gg i wr => ∃ z : Int, z = (n : Int) - 1 - ((n - gg : Nat) : Int) ∧ gg ≤ n ∧ i = .int .i64 z ∧ Hid (Below w.heap.size w wr))
  case atStart => exact ⟨_, by omega, Nat.le_refl _, rfl, Below.refl _ _⟩
  case round =>
    obtain ⟨z, hzz, hgn, rfl, bk⟩ := hrel
    by_cases hpos : 0 < z
    · obtain ⟨k, hk⟩ : ∃ k : Nat, z = ((k + 1 : Nat) : Int) := ⟨(z - 1).toNat, by omega⟩
      subst hk
      have hkn : k + 1 < n := by omega
      obtain ⟨q, hq⟩ : ∃ q, zs[k + 1]? = some q := ⟨zs[k + 1]'(by rw [HL.out]; omega), List.getElem?_eq_getElem _⟩
      obtain ⟨p, hp⟩ : ∃ p, zs[k]? = some p := ⟨zs[k]'(by rw [HL.out]; omega), List.getElem?_eq_getElem _⟩
      have hord : ltS q p = false := by
        obtain ⟨i1, e1⟩ := List.getElem?_eq_some_iff.1 hq
        obtain ⟨i2, e2⟩ := List.getElem?_eq_some_iff.1 hp
        have := List.pairwise_iff_getElem.1 HZ.out k (k + 1) i2 i1 (by omega)
        rw [e1, e2] at this
        exact this
      obtain ⟨b, o, rfl, hb, g0⟩ := pr_at (HR.out.below bk.out) hq
      obtain ⟨b2, o2, hA2, hb2, x0⟩ := pr_at (HR.out.below bk.out) hp
      injection hA2 with hA2
      injection hA2 with e1 e2 _
      subst e1; subst e2
      have HG := Lib.hid hzz
      have HO := Lib.hid hord
      clear hq hp hzz hord
      have hs1 : IntKind.i64.wrap (k : Int) = (k : Int) := by rw [IntKind.wrap_i64]; omega
      have hi1 : (0 : Int) ≤ (k : Int) + 1 := by omega
      have ht1 : ((k : Int) + 1).toNat = k + 1 := by omega
      have hi2 : (k : Int) + 1 < (n : Int) := by omega
      have hi3 : (0 : Int) ≤ (k : Int) := by omega
      have hi4 : (k : Int) < (n : Int) := by omega
      go_wp2_with fail
      go_still_tail 9, (by kernel_rfl)
      change wpList _ _ _ _ _ wr.drew
      have HB : Hid (Below w.heap.size w wr.drew) := bk.out.drew
      clear bk g0 x0 hs1 ht1
      generalize wr.drew = wd at *
      go_wp2_with fail
      refine (less_str q p _).mono ?_
      rintro e w2 ⟨rfl, b2⟩
      rw [HO.out]
      have HB2 : Hid (Below w.heap.size w w2) := HB.out.trans (b2.mono HB.out.size)
      clear b2
      go_wp2_with fail
      go_roundg (gk - 1)
      case measure => have := HG.out; omega
      case rel => exact ⟨k, by have := HG.out; omega, by omega, by go_num, HB2⟩
    · go_wp2_with fail
      go_ret
      exact ⟨rfl, bk.out⟩
end Go.Proofs.Ytldjffeecbegjaa.Str
