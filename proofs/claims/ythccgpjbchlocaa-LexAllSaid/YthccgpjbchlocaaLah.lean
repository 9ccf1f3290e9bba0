/- The document's answers of layer lex (package yardarmref02): Spell, as a contract of the translated call. -/
import Derived.Test.YthccgpjbchlocaaLae
namespace Go.Proofs.Ythccgpjbchlocaa
open Go.RowKit

/-- The kind of the token ahead of the place k; ahead of the first one it is as at a line's end. -/
def aheadZ (zs : List Tz) : Nat → Int
  | 0 => 4
  | m + 1 => ((zs[m]?).map Tz.k).getD 4
theorem aheadZ_succ {zs : List Tz} {k : Nat} {t : Tz} (h : zs[k]? = some t) : aheadZ zs (k + 1) = t.k := by
  show ((zs[k]?).map Tz.k).getD 4 = _
  rw [h]
  rfl
theorem str_app (x : ByteArray) (l : List UInt8) : (x ++ (⟨l.toArray⟩ : ByteArray)).data.toList = x.data.toList ++ l := by
  simp

set_option maxRecDepth 100000 in
set_option maxHeartbeats 4000000 in
theorem rspellZ_any (A : Option Addr) (n c : Nat) (zs : List Tz) (hn : n = zs.length) (hn1 : n ≤ 1000000) (hs : (spellZ zs).length ≤ 1000000) (w : World) (hR : Reads w w.heap.size 4 A n (cellsZ zs)) :
    Calls Try.prog 19 #[.slice A n c] w fun e w' => e = .returned (.string ⟨(spellZ zs).toArray⟩) ∧ Below w.heap.size w w' := by
  have HN := Lib.hid hn
  have HR := Lib.hid hR
  clear hn hR
  go_enter Try.func19, Try.ntmps19
  go_wp2_with fail
  go_loopw [3, 8] (fun v i wr => ∃ (k : Nat) (x : ByteArray), v = .string x ∧ i = .int .i64 k ∧ k ≤ n ∧ Hid (x.data.toList ++ spellZF (aheadZ zs k) (zs.drop k) = spellZ zs) ∧ Below w.heap.size w wr) (fun _ i _ => n - (intOf i).toNat)
  case atStart => exact ⟨0, ⟨#[]⟩, rfl, rfl, Nat.zero_le _, rfl, Below.refl _ _⟩
  case round =>
    obtain ⟨k, x, rfl, rfl, hk, hacc, hB⟩ := hrel
    have hsz := hB.size
    by_cases hlt : k < n
    · obtain ⟨t, ht⟩ : ∃ t, zs[k]? = some t := ⟨zs[k]'(by rw [← HN.out]; exact hlt), List.getElem?_eq_getElem _⟩
      obtain ⟨ad, rfl, g0, g1, g2, g3, had⟩ := toz_cells (HR.out.below hB) ht
      have hsp := spellZF_cons (ah := aheadZ zs k) ht
      have hle : x.size + ((spellZF (aheadZ zs k) (zs.drop k)).length) ≤ 1000000 := by
        have := congrArg List.length hacc.out
        rw [List.length_append, ← Lib.size_eq] at this
        omega
      rw [hsp, List.length_append, List.length_append] at hle
      have hnx : spellZF t.k (zs.drop (k + 1)) = spellZF (aheadZ zs (k + 1)) (zs.drop (k + 1)) := by rw [aheadZ_succ ht]
      rw [hsp, hnx] at hacc
      clear hsp hnx
      obtain ⟨y, hy⟩ : ∃ y : ByteArray, (⟨t.tx.toArray⟩ : ByteArray) = y := ⟨_, rfl⟩
      have hys : y.data.toList = t.tx := by rw [← hy]
      have hyl : y.size = t.tx.length := by rw [Lib.size_eq, hys]
      rw [hy] at g2
      rw [← hyl] at hle
      rw [← hys] at hacc
      have hle1 : x.size + y.size ≤ 1000000 := by omega
      clear hy hys hyl
      by_cases hk0 : k = 0
      · have gk : decide ((0 : Int) < (k : Int)) = false := by simp; omega
        have gk2 : decide (0 < k) = false := by simp; omega
        have gk3 : ¬ 0 < k := by omega
        have hcz : aheadZ zs k = 4 := by rw [hk0]; rfl
        rw [hcz] at hacc hle
        have hc0 : (!t.gl && t.k != 4 && (4 : Int) != 4) = false := by simp
        rw [hc0] at hacc hle
        simp only [Bool.false_eq_true, if_false, List.nil_append, List.length_nil] at hacc hle
        clear hk0 hcz hc0 ht
        have HREL : Hid ((x ++ y : ByteArray).data.toList ++ spellZF (aheadZ zs (k + 1)) (zs.drop (k + 1)) = spellZ zs) := by
          show _ = _
          rw [← hacc.out]
          simp [List.append_assoc]
        clear hacc
        go_wp2_with fail
        go_roundw
        case rel => exact ⟨k + 1, x ++ y, rfl, by go_num, by omega, HREL.out, hB.alloc hsz _⟩
        case measure => simp [intOf]; omega
      · have gk : decide ((0 : Int) < (k : Int)) = true := by simp; omega
        have gk2 : 0 < k := by omega
        cases hgl : t.gl
        · rw [hgl] at g3 hacc hle
          by_cases hk4 : t.k = 4
          · have hkb : (t.k != 4) = false := by simpa using hk4
            rw [hkb] at hacc hle
            simp only [Bool.not_false, Bool.false_and, Bool.and_false, Bool.false_eq_true, if_false, List.nil_append, List.length_nil] at hacc hle
            clear hk0 hk4 hgl ht
            have HREL : Hid ((x ++ y : ByteArray).data.toList ++ spellZF (aheadZ zs (k + 1)) (zs.drop (k + 1)) = spellZ zs) := by
              show _ = _
              rw [← hacc.out]
              simp [List.append_assoc]
            clear hacc
            go_wp2_with fail
            go_roundw
            case rel => exact ⟨k + 1, x ++ y, rfl, by go_num, by omega, HREL.out, hB.alloc hsz _⟩
            case measure => simp [intOf]; omega
          · have hkb : (t.k != 4) = true := by simpa using hk4
            rw [hkb] at hacc hle
            obtain ⟨m, hm⟩ : ∃ m, k = m + 1 := ⟨k - 1, by omega⟩
            have hsub : (k : Int) - 1 = m := by omega
            have hmn : m < n := by omega
            obtain ⟨u, hu⟩ : ∃ u, zs[m]? = some u := ⟨zs[m]'(by rw [← HN.out]; exact hmn), List.getElem?_eq_getElem _⟩
            obtain ⟨ad2, hA2, x0, x1, x2, x3, xad⟩ := toz_cells ((HR.out.below hB).alloc hsz (.cells #[.int .i64 t.k, .int .i64 t.a, .string y, .bool false] 29)) hu
            obtain rfl := Option.some.inj hA2
            have hah : aheadZ zs k = u.k := by rw [hm]; exact aheadZ_succ hu
            rw [hah] at hacc hle
            clear hA2 hah hu x1 x2 x3
            by_cases ha4 : u.k = 4
            · have hab : (u.k != 4) = false := by simpa using ha4
              rw [hab] at hacc hle
              simp only [Bool.not_false, Bool.true_and, Bool.and_false, Bool.false_eq_true, if_false, List.nil_append, List.length_nil] at hacc hle
              clear hk0 hk4 hgl ht ha4 hm
              have HREL : Hid ((x ++ y : ByteArray).data.toList ++ spellZF (aheadZ zs (k + 1)) (zs.drop (k + 1)) = spellZ zs) := by
                show _ = _
                rw [← hacc.out]
                simp [List.append_assoc]
              clear hacc
              go_wp2_with fail
              go_roundw
              case rel => exact ⟨k + 1, x ++ y, rfl, by go_num, by omega, HREL.out, hB.alloc hsz _⟩
              case measure => simp [intOf]; omega
            · have hab : (u.k != 4) = true := by simpa using ha4
              rw [hab] at hacc hle
              simp only [Bool.not_false, Bool.true_and, if_true, List.length_singleton] at hacc hle
              clear hk0 hk4 hgl ht ha4 hm
              have HREL : Hid ((x ++ ⟨#[32]⟩ ++ y : ByteArray).data.toList ++ spellZF (aheadZ zs (k + 1)) (zs.drop (k + 1)) = spellZ zs) := by
                show _ = _
                rw [← hacc.out]
                simp [List.append_assoc]
              clear hacc
              go_wp2_with fail
              go_roundw
              case rel => exact ⟨k + 1, x ++ (⟨#[32]⟩ : ByteArray) ++ y, rfl, by go_num, by omega, HREL.out, hB.alloc hsz _⟩
              case measure => simp [intOf]; omega
        · rw [hgl] at g3 hacc hle
          simp only [Bool.not_true, Bool.false_and, Bool.false_eq_true, if_false, List.nil_append, List.length_nil] at hacc hle
          clear hk0 hgl ht
          have HREL : Hid ((x ++ y : ByteArray).data.toList ++ spellZF (aheadZ zs (k + 1)) (zs.drop (k + 1)) = spellZ zs) := by
            show _ = _
            rw [← hacc.out]
            simp [List.append_assoc]
          clear hacc
          go_wp2_with fail
          go_roundw
          case rel => exact ⟨k + 1, x ++ y, rfl, by go_num, by omega, HREL.out, hB.alloc hsz _⟩
          case measure => simp [intOf]; omega
    · have hge : ¬ (k : Int) < (n : Int) := by omega
      have hkn : k = n := by omega
      have HF : Hid (x = ⟨(spellZ zs).toArray⟩) := by
        have := hacc.out
        rw [hkn, HN.out, List.drop_length, spellZF, List.append_nil] at this
        show x = _
        rw [← this]
      clear hkn
      go_wp2_with fail
      go_ret
      exact ⟨by rw [HF.out]; rfl, hB⟩
end Go.Proofs.Ythccgpjbchlocaa
