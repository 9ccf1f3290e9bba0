/- Layer order: Find of pairs, at the questions of this text; wakes: contracts. -/
import Derived.Test.YtldjffeecbegjaaOf
namespace Go.Proofs.Ytldjffeecbegjaa
open Go.RowKit

set_option maxRecDepth 100000 in
set_option maxHeartbeats 2000000 in
theorem find_wakes (A : Option Addr) (n c j : Nat) (ps : List Pr) (q : Pr → Int) (bb : Bool) (hn : n ≤ 1000000) (w : World) (hR : Reads w w.heap.size 2 A n (cellsP ps))
    (hj : j ≤ n) (hlo : ∀ i p, ps[i]? = some p → i < j → q p < 0) (hhi : ∀ i p, ps[i]? = some p → j ≤ i → ¬ q p < 0) (hbb : j < n → ∀ p, ps[j]? = some p → bb = (q p == 0)) (hb0 : ¬ j < n → bb = false)
    (hq : ∀ p ∈ ps, ∀ W : World, Below w.heap.size w W → Calls Try.prog 34 #[.agg #[.int .i64 p.1, .int .i64 p.2]] W fun e W' => e = .returned (.int .i64 (q p)) ∧ Below W.heap.size W W') :
    Calls Try.prog 21 #[.slice A n c, .func (.func 34) #[] #[]] w fun e w' => e = .returned (.tuple #[.int .i64 j, .bool bb]) ∧ Below w.heap.size w w' := by
  have HR := Lib.hid hR
  have HL := Lib.hid (reads_len hR)
  have HLO := Lib.hid hlo
  have HHI := Lib.hid hhi
  have HBB := Lib.hid (And.intro hbb hb0)
  have HQ := Lib.hid hq
  clear hR hlo hhi hbb hb0 hq
  go_enter Try.func21, Try.ntmps21
  go_wp2_with fail
  go_loopg [6, 7] n (fun gg s6 s7 wr => ∃ l h : Nat, h - l ≤ gg ∧ l ≤ j ∧ j ≤ h ∧ h ≤ n ∧ s6 = .int .i64 l ∧ s7 = .int .i64 h ∧ Hid (Below w.heap.size w wr))
  case atStart => exact ⟨0, n, by omega, by omega, by omega, by omega, rfl, rfl, Below.refl _ _⟩
  case round =>
    obtain ⟨l, h, hg, hlj, hjh, hhn, rfl, rfl, bk⟩ := hrel
    by_cases hlt : l < h
    · have hlt2 : (l : Int) < (h : Int) := by omega
      obtain ⟨m, hm⟩ : ∃ m, m = l + (h - l) / 2 := ⟨_, rfl⟩
      have hmi : (l : Int) + ((h : Int) - (l : Int)) / 2 = (m : Int) := by omega
      have hml : l ≤ m := by omega
      have hmh : m < h := by omega
      obtain ⟨p, hp⟩ : ∃ p, ps[m]? = some p := ⟨ps[m]'(by rw [HL.out]; omega), List.getElem?_eq_getElem _⟩
      obtain ⟨b, o, rfl, hb, g0, g1⟩ := pr_at (HR.out.below bk.out) hp
      have hi1 : (0 : Int) ≤ (m : Int) := by omega
      have hi2 : (m : Int) < (n : Int) := by omega
      have HG := Lib.hid hg
      have HMM := Lib.hid hm
      clear hm hg
      by_cases hmj : m < j
      · have hv := HLO.out m p hp hmj
        have HP := Lib.hid (List.mem_of_getElem? hp)
        clear hp
        go_wp2_with fail
        refine (HQ.out p HP.out _ bk.out).mono ?_
        rintro e w2 ⟨rfl, b2⟩
        have HB2 : Hid (Below w.heap.size w w2) := bk.out.trans (b2.mono bk.out.size)
        clear b2 g0 g1
        generalize q p = v at *
        go_wp2_with fail
        go_roundg (gk - 1)
        case measure => have := HG.out; omega
        case rel => exact ⟨m + 1, h, by have := HG.out; have := HMM.out; omega, by omega, hjh, hhn, by go_num, rfl, HB2⟩
      · have hv := HHI.out m p hp (by omega)
        have HP := Lib.hid (List.mem_of_getElem? hp)
        clear hp
        go_wp2_with fail
        refine (HQ.out p HP.out _ bk.out).mono ?_
        rintro e w2 ⟨rfl, b2⟩
        have HB2 : Hid (Below w.heap.size w w2) := bk.out.trans (b2.mono bk.out.size)
        clear b2 g0 g1
        generalize q p = v at *
        go_wp2_with fail
        go_roundg (gk - 1)
        case measure => have := HG.out; omega
        case rel => exact ⟨l, m, by have := HG.out; have := HMM.out; omega, hlj, by omega, by omega, rfl, rfl, HB2⟩
    · have hge : ¬ (l : Int) < (h : Int) := by omega
      obtain rfl : l = j := by omega
      clear hlj hjh
      by_cases hjn : l < n
      · have hjn2 : (l : Int) < (n : Int) := by omega
        obtain ⟨p, hp⟩ : ∃ p, ps[l]? = some p := ⟨ps[l]'(by rw [HL.out]; omega), List.getElem?_eq_getElem _⟩
        obtain ⟨b, o, rfl, hb, g0, g1⟩ := pr_at (HR.out.below bk.out) hp
        have HV := Lib.hid (HBB.out.1 hjn p hp)
        have hi1 : (0 : Int) ≤ (l : Int) := by omega
        have HP := Lib.hid (List.mem_of_getElem? hp)
        clear hp
        go_wp2_with fail
        refine (HQ.out p HP.out _ bk.out).mono ?_
        rintro e w2 ⟨rfl, b2⟩
        have HB2 : Hid (Below w.heap.size w w2) := bk.out.trans (b2.mono bk.out.size)
        clear b2 g0 g1
        generalize q p = v at *
        go_wp2_with fail
        go_ret2
        exact ⟨by rw [HV.out]; rfl, HB2.out⟩
      · have hjn2 : decide ((l : Int) < (n : Int)) = false := by simp; omega
        have hjn3 : ¬ (l : Int) < (n : Int) := by omega
        have HV := Lib.hid (HBB.out.2 hjn)
        go_wp2_with fail
        go_ret2
        exact ⟨by rw [HV.out]; rfl, bk.out⟩

set_option maxRecDepth 100000 in
set_option maxHeartbeats 2000000 in
theorem find_finds (cv : Value) (A : Option Addr) (n c j : Nat) (ps : List Pr) (q : Pr → Int) (bb : Bool) (hn : n ≤ 1000000) (w : World) (hR : Reads w w.heap.size 2 A n (cellsP ps))
    (hj : j ≤ n) (hlo : ∀ i p, ps[i]? = some p → i < j → q p < 0) (hhi : ∀ i p, ps[i]? = some p → j ≤ i → ¬ q p < 0) (hbb : j < n → ∀ p, ps[j]? = some p → bb = (q p == 0)) (hb0 : ¬ j < n → bb = false)
    (hq : ∀ p ∈ ps, ∀ W : World, Below w.heap.size w W → Calls Try.prog 20 #[.agg #[.int .i64 p.1, .int .i64 p.2], cv] W fun e W' => e = .returned (.int .i64 (q p)) ∧ Below W.heap.size W W') :
    Calls Try.prog 21 #[.slice A n c, .func (.func 20) #[] #[cv]] w fun e w' => e = .returned (.tuple #[.int .i64 j, .bool bb]) ∧ Below w.heap.size w w' := by
  have HR := Lib.hid hR
  have HL := Lib.hid (reads_len hR)
  have HLO := Lib.hid hlo
  have HHI := Lib.hid hhi
  have HBB := Lib.hid (And.intro hbb hb0)
  have HQ := Lib.hid hq
  clear hR hlo hhi hbb hb0 hq
  go_enter Try.func21, Try.ntmps21
  go_wp2_with fail
  go_loopg [6, 7] n (fun gg s6 s7 wr => ∃ l h : Nat, h - l ≤ gg ∧ l ≤ j ∧ j ≤ h ∧ h ≤ n ∧ s6 = .int .i64 l ∧ s7 = .int .i64 h ∧ Hid (Below w.heap.size w wr))
  case atStart => exact ⟨0, n, by omega, by omega, by omega, by omega, rfl, rfl, Below.refl _ _⟩
  case round =>
    obtain ⟨l, h, hg, hlj, hjh, hhn, rfl, rfl, bk⟩ := hrel
    by_cases hlt : l < h
    · have hlt2 : (l : Int) < (h : Int) := by omega
      obtain ⟨m, hm⟩ : ∃ m, m = l + (h - l) / 2 := ⟨_, rfl⟩
      have hmi : (l : Int) + ((h : Int) - (l : Int)) / 2 = (m : Int) := by omega
      have hml : l ≤ m := by omega
      have hmh : m < h := by omega
      obtain ⟨p, hp⟩ : ∃ p, ps[m]? = some p := ⟨ps[m]'(by rw [HL.out]; omega), List.getElem?_eq_getElem _⟩
      obtain ⟨b, o, rfl, hb, g0, g1⟩ := pr_at (HR.out.below bk.out) hp
      have hi1 : (0 : Int) ≤ (m : Int) := by omega
      have hi2 : (m : Int) < (n : Int) := by omega
      have HG := Lib.hid hg
      have HMM := Lib.hid hm
      clear hm hg
      by_cases hmj : m < j
      · have hv := HLO.out m p hp hmj
        have HP := Lib.hid (List.mem_of_getElem? hp)
        clear hp
        go_wp2_with fail
        refine (HQ.out p HP.out _ bk.out).mono ?_
        rintro e w2 ⟨rfl, b2⟩
        have HB2 : Hid (Below w.heap.size w w2) := bk.out.trans (b2.mono bk.out.size)
        clear b2 g0 g1
        generalize q p = v at *
        go_wp2_with fail
        go_roundg (gk - 1)
        case measure => have := HG.out; omega
        case rel => exact ⟨m + 1, h, by have := HG.out; have := HMM.out; omega, by omega, hjh, hhn, by go_num, rfl, HB2⟩
      · have hv := HHI.out m p hp (by omega)
        have HP := Lib.hid (List.mem_of_getElem? hp)
        clear hp
        go_wp2_with fail
        refine (HQ.out p HP.out _ bk.out).mono ?_
        rintro e w2 ⟨rfl, b2⟩
        have HB2 : Hid (Below w.heap.size w w2) := bk.out.trans (b2.mono bk.out.size)
        clear b2 g0 g1
        generalize q p = v at *
        go_wp2_with fail
        go_roundg (gk - 1)
        case measure => have := HG.out; omega
        case rel => exact ⟨l, m, by have := HG.out; have := HMM.out; omega, hlj, by omega, by omega, rfl, rfl, HB2⟩
    · have hge : ¬ (l : Int) < (h : Int) := by omega
      obtain rfl : l = j := by omega
      clear hlj hjh
      by_cases hjn : l < n
      · have hjn2 : (l : Int) < (n : Int) := by omega
        obtain ⟨p, hp⟩ : ∃ p, ps[l]? = some p := ⟨ps[l]'(by rw [HL.out]; omega), List.getElem?_eq_getElem _⟩
        obtain ⟨b, o, rfl, hb, g0, g1⟩ := pr_at (HR.out.below bk.out) hp
        have HV := Lib.hid (HBB.out.1 hjn p hp)
        have hi1 : (0 : Int) ≤ (l : Int) := by omega
        have HP := Lib.hid (List.mem_of_getElem? hp)
        clear hp
        go_wp2_with fail
        refine (HQ.out p HP.out _ bk.out).mono ?_
        rintro e w2 ⟨rfl, b2⟩
        have HB2 : Hid (Below w.heap.size w w2) := bk.out.trans (b2.mono bk.out.size)
        clear b2 g0 g1
        generalize q p = v at *
        go_wp2_with fail
        go_ret2
        exact ⟨by rw [HV.out]; rfl, HB2.out⟩
      · have hjn2 : decide ((l : Int) < (n : Int)) = false := by simp; omega
        have hjn3 : ¬ (l : Int) < (n : Int) := by omega
        have HV := Lib.hid (HBB.out.2 hjn)
        go_wp2_with fail
        go_ret2
        exact ⟨by rw [HV.out]; rfl, bk.out⟩

set_option maxHeartbeats 1000000 in
theorem wakes_ask (p : Pr) (hp : -1000 ≤ p.1 ∧ p.1 ≤ 1000) (w : World) : Calls Try.prog 34 #[.agg #[.int .i64 p.1, .int .i64 p.2]] w fun e w' => e = .returned (.int .i64 (p.1 - 2)) ∧ Below w.heap.size w w' := by
  obtain ⟨h1, h2⟩ := hp
  go_enter Try.func34, Try.ntmps34
  go_wp2_with fail
  go_ret
  exact ⟨rfl, (Below.refl _ _).alloc (Nat.le_refl _) _⟩

set_option maxRecDepth 100000 in
set_option maxHeartbeats 4000000 in
theorem wakes_order (w : World) : Calls Try.prog 8 #[] w fun e w' => e = .returned (.bool true) ∧ Below w.heap.size w w' := by
  have hs : srt ltP [((2, 0) : Pr), (1, 1), (2, 2)] = [(1, 1), (2, 0), (2, 2)] := by decide
  have o0 : Own w.heap.size w.heap.size 3 [((2, 0) : Pr), (1, 1), (2, 2)] (w.alloc (.cells #[.int .i64 2, .int .i64 0, .int .i64 1, .int .i64 1, .int .i64 2, .int .i64 2] 27)) := ⟨Nat.le_refl _, rfl, Blk.new _ _ _⟩
  have b0 : Hid (Below w.heap.size w (w.alloc (.cells #[.int .i64 2, .int .i64 0, .int .i64 1, .int .i64 1, .int .i64 2, .int .i64 2] 27))) := (Below.refl _ _).alloc (Nat.le_refl _) _
  have HC := Lib.hid (sort_any (some ⟨w.heap.size, 0, none⟩) 3 3 [((2, 0) : Pr), (1, 1), (2, 2)] (by decide) _ o0.reads)
  rw [hs] at HC
  clear hs o0
  go_enter Try.func8, Try.ntmps8
  go_wp2_with fail
  refine HC.out.mono ?_
  clear HC
  rintro e w2 ⟨h, rfl, o2, b2⟩
  have B2 : Hid (Below w.heap.size w w2) := b0.out.trans (b2.mono b0.out.size)
  have O2 := Lib.hid o2
  clear b0 o2 b2
  go_wp2_with fail
  refine (find_wakes (some ⟨h, 0, none⟩) 3 3 1 [((1, 1) : Pr), (2, 0), (2, 2)] (fun p => p.1 - 2) true (by decide) w2 O2.out.reads (by decide) (fun i p hp hi => ?_) (fun i p hp hi => ?_) (fun _ p hp => ?_) (fun h => absurd (by decide) h) (fun p hp W _ => ?_)).mono ?_
  · obtain rfl : i = 0 := by omega
    simp at hp
    subst hp
    decide
  · match i, hi, hp with
    | 1, _, hp => simp at hp; subst hp; decide
    | 2, _, hp => simp at hp; subst hp; decide
    | k + 3, _, hp => simp at hp
  · simp at hp
    subst hp
    rfl
  · refine wakes_ask p ?_ W
    simp at hp
    rcases hp with rfl | rfl | rfl <;> decide
  rintro e w3 ⟨rfl, b3⟩
  have hc : ∀ k, w3.cell? ⟨h, k, none⟩ = (cellsP [((1, 1) : Pr), (2, 0), (2, 2)]).toArray[k]? := fun k => (b3.cell (p := ⟨h, k, none⟩) O2.out.2.2.lt).trans (O2.out.2.2.cell k)
  have c1 : w3.cell? ⟨h, 1, none⟩ = some (.int .i64 1) := hc 1
  have c3 : w3.cell? ⟨h, 3, none⟩ = some (.int .i64 0) := hc 3
  have c5 : w3.cell? ⟨h, 5, none⟩ = some (.int .i64 2) := hc 5
  have B3 : Hid (Below w.heap.size w w3) := B2.out.trans (b3.mono B2.out.size)
  clear hc b3
  go_wp2_with fail
  go_ret
  exact ⟨rfl, B3.out⟩
end Go.Proofs.Ytldjffeecbegjaa
