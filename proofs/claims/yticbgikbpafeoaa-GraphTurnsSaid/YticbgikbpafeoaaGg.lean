/- Layer graph: Find of edges at the question of start; start, leaving, copied: contracts. -/
import Derived.Test.YticbgikbpafeoaaGf
namespace Go.Proofs.Yticbgikbpafeoaa
open Go.RowKit

set_option maxRecDepth 100000 in
set_option maxHeartbeats 2000000 in
theorem find_start (cv : Value) (A : Option Addr) (n c j : Nat) (ps : List Ed) (q : Ed → Int) (bb : Bool) (hn : n ≤ 1000000) (w : World) (hR : Reads w w.heap.size 3 A n (cellsE ps))
    (hj : j ≤ n) (hlo : ∀ i p, ps[i]? = some p → i < j → q p < 0) (hhi : ∀ i p, ps[i]? = some p → j ≤ i → ¬ q p < 0) (hbb : j < n → ∀ p, ps[j]? = some p → bb = (q p == 0)) (hb0 : ¬ j < n → bb = false)
    (hq : ∀ p ∈ ps, ∀ W : World, Below w.heap.size w W → Calls Try.prog 65 #[.agg #[.int .i64 p.1, .int .i64 p.2.1, .int .i64 p.2.2], cv] W fun e W' => e = .returned (.int .i64 (q p)) ∧ Below W.heap.size W W') :
    Calls Try.prog 64 #[.slice A n c, .func (.func 65) #[] #[cv]] w fun e w' => e = .returned (.tuple #[.int .i64 j, .bool bb]) ∧ Below w.heap.size w w' := by
  have HR := Lib.hid hR
  have HL := Lib.hid (reads_len hR)
  have HLO := Lib.hid hlo
  have HHI := Lib.hid hhi
  have HBB := Lib.hid (And.intro hbb hb0)
  have HQ := Lib.hid hq
  clear hR hlo hhi hbb hb0 hq
  go_enter Try.func64, Try.ntmps64
  go_wp2_with fail
  go_loopg [6, 7] n (fun gg s6 s7 wr => ∃ l h : Nat, h - l ≤ gg ∧ l ≤ j ∧ j ≤ h ∧ h ≤ n ∧ s6 = .int .i64 l ∧ s7 = .int .i64 h ∧ Hid (Below w.heap.size w wr))
  case atStart => exact ⟨0, n, by omega, by omega, by omega, by omega, rfl, rfl, Below.refl _ _⟩
  case round =>
    obtain ⟨l, h, hg, hlj, hjh, hhn, rfl, rfl, bk⟩ := hrel
    by_cases hlt : l < h
    · have hlt2 : (l : Int) < (h : Int) := by omega
      obtain ⟨m, hm⟩ : ∃ m, m = l + (h - l) / 2 := ⟨_, rfl⟩
      have hmi : (l : Int) + ((h : Int) - (l : Int)) / 2 = (m : Int) := by omega
      have hml : l ≤ m := by omega
      have hmh : m < h := by omega
      obtain ⟨p, hp⟩ : ∃ p, ps[m]? = some p := ⟨ps[m]'(by rw [HL.out]; omega), List.getElem?_eq_getElem _⟩
      obtain ⟨b, o, rfl, hb, g0, g1, gk2⟩ := ed_at (HR.out.below bk.out) hp
      have hi1 : (0 : Int) ≤ (m : Int) := by omega
      have hi2 : (m : Int) < (n : Int) := by omega
      have HG := Lib.hid hg
      have HMM := Lib.hid hm
      clear hm hg
      by_cases hmj : m < j
      · have hv := HLO.out m p hp hmj
        have HP := Lib.hid (List.mem_of_getElem? hp)
        clear hp
        go_wp2_with fail
        refine (HQ.out p HP.out _ bk.out).mono ?_
        rintro e w2 ⟨rfl, b2⟩
        have HB2 : Hid (Below w.heap.size w w2) := bk.out.trans (b2.mono bk.out.size)
        clear b2 g0 g1 gk2
        generalize q p = v at *
        go_wp2_with fail
        go_roundg (gk - 1)
        case measure => have := HG.out; omega
        case rel => exact ⟨m + 1, h, by have := HG.out; have := HMM.out; omega, by omega, hjh, hhn, by go_num, rfl, HB2⟩
      · have hv := HHI.out m p hp (by omega)
        have HP := Lib.hid (List.mem_of_getElem? hp)
        clear hp
        go_wp2_with fail
        refine (HQ.out p HP.out _ bk.out).mono ?_
        rintro e w2 ⟨rfl, b2⟩
        have HB2 : Hid (Below w.heap.size w w2) := bk.out.trans (b2.mono bk.out.size)
        clear b2 g0 g1 gk2
        generalize q p = v at *
        go_wp2_with fail
        go_roundg (gk - 1)
        case measure => have := HG.out; omega
        case rel => exact ⟨l, m, by have := HG.out; have := HMM.out; omega, hlj, by omega, by omega, rfl, rfl, HB2⟩
    · have hge : ¬ (l : Int) < (h : Int) := by omega
      obtain rfl : l = j := by omega
      clear hlj hjh
      by_cases hjn : l < n
      · have hjn2 : (l : Int) < (n : Int) := by omega
        obtain ⟨p, hp⟩ : ∃ p, ps[l]? = some p := ⟨ps[l]'(by rw [HL.out]; omega), List.getElem?_eq_getElem _⟩
        obtain ⟨b, o, rfl, hb, g0, g1, gk2⟩ := ed_at (HR.out.below bk.out) hp
        have HV := Lib.hid (HBB.out.1 hjn p hp)
        have hi1 : (0 : Int) ≤ (l : Int) := by omega
        have HP := Lib.hid (List.mem_of_getElem? hp)
        clear hp
        go_wp2_with fail
        refine (HQ.out p HP.out _ bk.out).mono ?_
        rintro e w2 ⟨rfl, b2⟩
        have HB2 : Hid (Below w.heap.size w w2) := bk.out.trans (b2.mono bk.out.size)
        clear b2 g0 g1 gk2
        generalize q p = v at *
        go_wp2_with fail
        go_ret2
        exact ⟨by rw [HV.out]; rfl, HB2.out⟩
      · have hjn2 : decide ((l : Int) < (n : Int)) = false := by simp; omega
        have hjn3 : ¬ (l : Int) < (n : Int) := by omega
        have HV := Lib.hid (HBB.out.2 hjn)
        go_wp2_with fail
        go_ret2
        exact ⟨by rw [HV.out]; rfl, bk.out⟩

end Go.Proofs.Yticbgikbpafeoaa
