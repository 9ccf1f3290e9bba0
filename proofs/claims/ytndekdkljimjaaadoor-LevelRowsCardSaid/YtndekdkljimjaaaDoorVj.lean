/- Layer level: Guarantees, and the document's Words and Guarantees: contracts. -/
import Derived.Test.YtndekdkljimjaaaDoorVd
namespace Go.Proofs.YtndekdkljimjaaaDoor
open Go.RowKit Go.Shelf

theorem words_nat (k : Nat) (hk : k < 16) (w : World) (hT : Tabs w) : Calls Tryd.prog 13 #[.int .i64 (k : Int)] w fun e w' => e = .returned (.tuple #[.string (guT k), .int .i64 0]) ∧ Below w.heap.size w w' := by
  have h := words_ok k (by omega) w hT
  unfold WordsIs at h
  rw [wordsT_ok (guB_iff.2 (by omega)), wordsE_ok (guB_iff.2 (by omega))] at h
  exact h
def GuarIs (s : ByteArray) (w : World) (e : Ending) (w' : World) : Prop := e = .returned (.tuple #[.int .i64 (guarI s), .int .i64 (guarE s)]) ∧ Below w.heap.size w w'
theorem GuarIs.got {s : ByteArray} {k : Nat} {w w' : World} (hk : k < 16) (h : guT k = s) (hb : Below w.heap.size w w') : GuarIs s w (.returned (.tuple #[.int .i64 (k : Int), .int .i64 0])) w' := by
  unfold GuarIs guarI guarE
  rw [guarO_at hk h]
  exact ⟨rfl, hb⟩
theorem GuarIs.none_ {s : ByteArray} {w w' : World} (h : ∀ k, k < 16 → guT k ≠ s) (hb : Below w.heap.size w w') : GuarIs s w (.returned (.tuple #[.int .i64 0, .int .i64 190])) w' := by
  unfold GuarIs guarI guarE
  rw [guarO_no h]
  exact ⟨rfl, hb⟩

set_option maxHeartbeats 2000000 in
theorem guar_any (s : ByteArray) (w : World) (hT : Tabs w) : Calls Tryd.prog 16 #[.string s] w (GuarIs s w) := by
  have HT := Lib.hid hT
  have HN0 : Hid (∀ k, k < 0 → guT k ≠ s) := fun k h => by omega
  clear hT
  go_enter Tryd.func16, Tryd.ntmps16
  go_wp2_with fail
  go_loopw [7] (fun i wr => ∃ k : Nat, k ≤ 16 ∧ i = .int .i64 k ∧ Hid (∀ j, j < k → guT j ≠ s) ∧ Hid (Below w.heap.size w wr)) (fun i _ => 16 - (intOf i).toNat)
  case atStart => exact ⟨0, by omega, rfl, HN0, Below.refl _ _⟩
  case round =>
    clear HN0
    obtain ⟨k, hk, rfl, HN, HB⟩ := hrel
    by_cases hk16 : k < 16
    · have hlt : (k : Int) < 16 := by omega
      have HW := Lib.hid (words_nat k hk16 wr (HT.out.on HB.out (Nat.le_refl _)))
      obtain ⟨t, ht⟩ : ∃ t, guT k = t := ⟨_, rfl⟩
      rw [ht] at HW
      have HK := Lib.hid ht
      clear ht
      by_cases h : t = s
      · have hb := str_yes h
        have HR := Lib.hid (fun W (hb : Below w.heap.size w W) => GuarIs.got hk16 (HK.out.trans h) hb)
        clear h
        go_wp2_with fail
        refine HW.out.mono ?_
        rintro e w2 ⟨rfl, b2⟩
        have HB2 := Lib.hid (HB.out.trans (b2.mono HB.out.size))
        clear b2
        go_wp2_with fail
        go_ret2
        exact HR.out _ HB2.out
      · have hb := str_no h
        have HN2 : Hid (∀ j, j < k + 1 → guT j ≠ s) := fun j hj => by
          rcases Nat.lt_or_ge j k with h2 | h2
          · exact HN.out j h2
          · obtain rfl : j = k := by omega
            rw [HK.out]; exact h
        clear h
        go_wp2_with fail
        refine HW.out.mono ?_
        rintro e w2 ⟨rfl, b2⟩
        have HB2 := Lib.hid (HB.out.trans (b2.mono HB.out.size))
        clear b2
        go_wp2_with fail
        go_roundw
        case rel => exact ⟨k + 1, by omega, by go_num, HN2, HB2⟩
        case measure => simp [intOf]; omega
    · obtain rfl : k = 16 := by omega
      have HR := Lib.hid (GuarIs.none_ HN.out HB.out)
      go_wp2_with fail
      go_ret2
      exact HR.out

theorem ba_nil (x : ByteArray) : (⟨#[]⟩ : ByteArray) ++ x = x := by apply ByteArray.ext; simp
theorem guAt_size : ∀ k, k < 4 → (guAt k).size ≤ 3 := by decide
theorem guAt_eq : guAt 0 = ⟨#[114, 121, 119]⟩ ∧ guAt 1 = ⟨#[109, 114]⟩ ∧ guAt 2 = ⟨#[109, 119]⟩ ∧ guAt 3 = ⟨#[119, 102, 114]⟩ := ⟨rfl, rfl, rfl, rfl⟩
theorem four_words (k : Nat) (hk : k < 4) (W : World) : (Instr.index 50 (.agg #[.string ⟨#[114, 121, 119]⟩, .string ⟨#[109, 114]⟩, .string ⟨#[109, 119]⟩, .string ⟨#[119, 102, 114]⟩]) (.int .i64 (k : Int))).run Tryd.prog W = .ok (.string (guAt k)) W := by
  have : k = 0 ∨ k = 1 ∨ k = 2 ∨ k = 3 := by omega
  rcases this with rfl | rfl | rfl | rfl
  · exact four_sat0 _ _ _ _ W
  · exact four_sat1 _ _ _ _ W
  · exact four_sat2 _ _ _ _ W
  · exact four_sat3 _ _ _ _ W

set_option maxHeartbeats 2000000 in
theorem rwords_any (g : Nat) (hg : g < 16) (w : World) : Calls Tryd.prog 14 #[.int .i64 (g : Int)] w fun e w' => e = .returned (.string (guT g)) ∧ w = w' := by
  have HG := Lib.hid hg
  have HS0 : Hid (guPre g 0 = ⟨#[]⟩) := rfl
  clear hg
  go_enter Tryd.func14, Tryd.ntmps14
  go_wp2_with fail
  go_loop [0, 3, 7] (fun s0 s3 i => ∃ (k q : Nat) (t : ByteArray), k ≤ 4 ∧ i = .int .i64 k ∧ s0 = .int .i64 (q : Int) ∧ q ≤ 15 ∧ s3 = .string t ∧ Hid (q = g / 2 ^ k) ∧ Hid (guPre g k = t)) (fun _ _ i => 4 - (intOf i).toNat)
  case atStart => exact ⟨0, g, _, by omega, rfl, rfl, by have := HG.out; omega, rfl, by simp [Hid], HS0⟩
  case round =>
    clear HS0
    obtain ⟨k, q, t, hk, rfl, rfl, hq, rfl, HQ, HS⟩ := hrel
    by_cases h4 : k < 4
    · have hlt : (k : Int) < 4 := by omega
      have hix := four_words k h4
      have HQ2 : Hid (q / 2 = g / 2 ^ (k + 1)) := by show _ = _; rw [Nat.pow_succ, ← Nat.div_div_eq_div_mul, ← HQ.out]
      by_cases h1 : q % 2 = 1
      · have hb : ((q : Int) % 2 == 1) = true := by simp; omega
        have hg3 := guAt_size k h4
        have HPRE := Lib.hid (guPre_on g HG.out k h4 (by rw [← HQ.out]; exact h1))
        rw [HS.out] at HPRE
        have hts : t.size ≤ 20 := by rw [← HS.out]; exact guPre_size g HG.out k h4
        by_cases ht : t = ⟨#[]⟩
        · have hl1 : t.toList = [] := by rw [ht, ByteArray.toList_eq]
          have hl2 : t.toList.isEmpty = true := by rw [hl1]; rfl
          rw [if_pos ht] at HPRE
          have HT := Lib.hid ht
          clear ht
          go_wp2_with fail
          go_round
          case rel => exact ⟨k + 1, q / 2, _, by omega, by go_num, by go_num, by omega, rfl, HQ2, HPRE.out.trans (by rw [HT.out, ba_nil])⟩
          case measure => simp [intOf]; omega
        · have hl1 : t.toList ≠ [] := fun h => ht (ByteArray.ext (Array.ext' (by rw [← ByteArray.toList_eq]; exact h)))
          have hl2 : t.toList.isEmpty = false := by simpa using hl1
          rw [if_neg ht] at HPRE
          clear ht
          go_wp2_with fail
          go_round
          case rel => exact ⟨k + 1, q / 2, _, by omega, by go_num, by go_num, by omega, rfl, HQ2, HPRE⟩
          case measure => simp [intOf]; omega
      · have hb : ((q : Int) % 2 == 1) = false := by simp; omega
        have HPRE : Hid (guPre g (k + 1) = t) := by
          show _ = _
          rw [guPre_off (by rw [← HQ.out]; exact h1)]; exact HS.out
        go_wp2_with fail
        go_round
        case rel => exact ⟨k + 1, q / 2, _, by omega, by go_num, by go_num, by omega, rfl, HQ2, HPRE⟩
        case measure => simp [intOf]; omega
    · obtain rfl : k = 4 := by omega
      have HE : Hid (guT g = t) := HS.out
      go_wp2_with fail
      go_ret
      exact ⟨by rw [HE.out]; rfl, rfl⟩

set_option maxHeartbeats 2000000 in
theorem rguar_any (s : ByteArray) (w : World) : Calls Tryd.prog 18 #[.string s] w fun e w' => e = .returned (.int .i64 (guarR s)) ∧ w = w' := by
  have HN0 : Hid (∀ k, k < 0 → guT k ≠ s) := fun k h => by omega
  go_enter Tryd.func18, Tryd.ntmps18
  go_wp2_with fail
  go_loop [4] (fun i => ∃ k : Nat, k ≤ 16 ∧ i = .int .i64 k ∧ Hid (∀ j, j < k → guT j ≠ s)) (fun i => 16 - (intOf i).toNat)
  case atStart => exact ⟨0, by omega, rfl, HN0⟩
  case round =>
    clear HN0
    obtain ⟨k, hk, rfl, HN⟩ := hrel
    by_cases hk16 : k < 16
    · have hlt : (k : Int) < 16 := by omega
      have HW := Lib.hid (rwords_any k hk16 w)
      obtain ⟨t, ht⟩ : ∃ t, guT k = t := ⟨_, rfl⟩
      rw [ht] at HW
      have HK := Lib.hid ht
      clear ht
      by_cases h : t = s
      · have hb := str_yes h
        have HR : Hid (guarR s = (k : Int)) := by
          show _ = _
          unfold guarR
          rw [guarO_at hk16 (HK.out.trans h)]
        clear h
        go_wp2_with fail
        refine HW.out.mono ?_
        rintro e w2 ⟨rfl, rfl⟩
        go_wp2_with fail
        go_ret
        exact ⟨by rw [HR.out]; rfl, rfl⟩
      · have hb := str_no h
        have HN2 : Hid (∀ j, j < k + 1 → guT j ≠ s) := fun j hj => by
          rcases Nat.lt_or_ge j k with h2 | h2
          · exact HN.out j h2
          · obtain rfl : j = k := by omega
            rw [HK.out]; exact h
        clear h
        go_wp2_with fail
        refine HW.out.mono ?_
        rintro e w2 ⟨rfl, rfl⟩
        go_wp2_with fail
        go_round
        case rel => exact ⟨k + 1, by omega, by go_num, HN2⟩
        case measure => simp [intOf]; omega
    · obtain rfl : k = 16 := by omega
      have HR : Hid (guarR s = -1) := by
        show _ = _
        unfold guarR
        rw [guarO_no HN.out]
      go_wp2_with fail
      go_ret
      exact ⟨by rw [HR.out]; rfl, rfl⟩
end Go.Proofs.YtndekdkljimjaaaDoor
