/- The document's answers of layer lex (package yardarmref02): number, as a contract of the translated call. -/
import Derived.Test.YthccgpjbchlocaaLy
import Derived.Test.YthccgpjbchlocaaLz
namespace Go.Proofs.Ythccgpjbchlocaa
open Go.RowKit

/-- The text of a number that may be. -/
def numT (l : List UInt8) : List UInt8 := if numErr l = 0 then l.takeWhile isD else []
def NumIs (s : ByteArray) (a : Nat) (w : World) (e : Ending) (w' : World) : Prop :=
  e = .returned (.tuple #[.string (ofL (numT (s.data.toList.drop a))), .int .i64 ((a + numN (s.data.toList.drop a) : Nat) : Int), .int .i64 (numErr (s.data.toList.drop a))]) ∧ Below w.heap.size w w'
theorem num_lead {s : ByteArray} {a p : Nat} {w w' : World} (hp : p = a + 1) (h : leadN ((s.data.toList.drop a).takeWhile isD) = true) (hb : Below w.heap.size w w') :
    NumIs s a w (.returned (.tuple #[.string ⟨#[]⟩, .int .i64 p, .int .i64 120])) w' := by
  refine ⟨?_, hb⟩
  rw [hp]
  unfold numT numN numErr
  rw [h]
  rfl
theorem num_big {s : ByteArray} {a : Nat} {w w' : World} (h : leadN ((s.data.toList.drop a).takeWhile isD) = false) (hf : fitB (dval ((s.data.toList.drop a).takeWhile isD)) = false) (hb : Below w.heap.size w w') :
    NumIs s a w (.returned (.tuple #[.string ⟨#[]⟩, .int .i64 a, .int .i64 121])) w' := by
  refine ⟨?_, hb⟩
  unfold numT numN numErr
  rw [h, hf]
  rfl
theorem num_fit {s : ByteArray} {a p q : Nat} {ds : List UInt8} {w w' : World} (hp : p = a + q) (hds : (s.data.toList.drop a).takeWhile isD = ds) (hq : ds.length = q) (h : leadN ds = false) (hf : fitB (dval ds) = true) (hb : Below w.heap.size w w') :
    NumIs s a w (.returned (.tuple #[.string (ofL ds), .int .i64 p, .int .i64 0])) w' := by
  refine ⟨?_, hb⟩
  rw [hp]
  unfold numT numN numErr
  rw [hds, h, hf, ← hq]
  rfl
theorem byte_at {s : ByteArray} {a q : Nat} (h : a + q < s.size) : (s.data.toList.drop a)[q]? = some (s[a + q]'h) := by
  rw [List.getElem?_drop, List.getElem?_eq_getElem (by rw [← Lib.size_eq]; exact h)]
  rfl
theorem isDg_byte (c : UInt8) : isDg (c.toNat : Int) = isD c := by
  have := c.toNat_lt
  unfold isDg isD
  rw [Bool.eq_iff_iff]
  simp
  omega
theorem extract_ofL2 (s : ByteArray) (a q : Nat) : s.extract a (a + q) = ofL ((s.data.toList.drop a).take q) := by
  apply ByteArray.ext
  apply Array.ext'
  unfold ofL
  simp only [ByteArray.data_extract, Array.toList_extract]
  rw [List.extract_eq_take_drop, Nat.add_sub_cancel_left]
theorem takeWhile_whole : ∀ {l : List UInt8}, l.all isD = true → l.takeWhile isD = l
  | [], _ => rfl
  | c :: l, h => by
    simp only [List.all_cons, Bool.and_eq_true] at h
    rw [List.takeWhile_cons, if_pos h.1, takeWhile_whole h.2]

set_option maxHeartbeats 3200000 in
theorem rnumber_any (s : ByteArray) (a : Nat) (ha : a < s.size) (hs : s.size ≤ 1000000) (hfirst : isD (s[a]'ha) = true) (w : World) :
    Calls Try.prog 29 #[.string s, .int .i64 a] w (NumIs s a w) := by
  have HFI := Lib.hid hfirst
  have hlt256 := (s[a]'ha).toNat_lt
  have HB0 : Hid ((s.data.toList.drop a)[0]? = some (s[a]'ha)) := byte_at (s := s) (a := a) (q := 0) ha
  clear hfirst
  go_enter Try.func29, Try.ntmps29
  go_wp2_with fail
  go_loop [7] (fun v => ∃ q : Nat, v = .int .i64 ((a + q : Nat) : Int) ∧ a + q ≤ s.size ∧ Hid (((s.data.toList.drop a).take q).all isD = true ∧ (q ≤ 1 ∨ (s[a]'ha).toNat ≠ 48))) (fun v => s.size - (intOf v).toNat)
  case atStart => exact ⟨0, rfl, by omega, by simp, .inl (by omega)⟩
  case round =>
    obtain ⟨q, rfl, hp, hI⟩ := hrel
    obtain ⟨p, hpe⟩ : ∃ p, p = a + q := ⟨_, rfl⟩
    have HPE := Lib.hid hpe
    have hap : a ≤ p := by omega
    rw [← hpe] at hp
    rw [← hpe]
    clear hpe
    -- what is known where the digits end
    have hend : ((∃ h : p < s.size, isD (s[p]'h) = false) ∨ ¬ p < s.size) → (s.data.toList.drop a).takeWhile isD = (s.data.toList.drop a).take q ∧ ((s.data.toList.drop a).take q).length = q ∧ q ≠ 0 := by
      have hpp := HPE.out
      intro h
      have hlen : (s.data.toList.drop a).length = s.size - a := by rw [List.length_drop, Lib.size_eq]
      have hl2 : ((s.data.toList.drop a).take q).length = q := by rw [List.length_take, hlen]; omega
      rcases h with ⟨h, hd⟩ | h
      · have hq : q < (s.data.toList.drop a).length := by omega
        have hget : (s.data.toList.drop a)[q]'hq = s[p]'h := by
          have := byte_at (s := s) (a := a) (q := q) (by omega)
          rw [List.getElem?_eq_getElem hq] at this
          have := Option.some.inj this
          rw [this]
          simp only [HPE.out]
        refine ⟨takeWhile_at hI.out.1 hq (by rw [hget]; exact hd), hl2, fun h0 => ?_⟩
        subst h0
        have : s[p]'h = s[a]'ha := by simp only [HPE.out, Nat.add_zero]
        rw [this, HFI.out] at hd
        cases hd
      · have hq : q = (s.data.toList.drop a).length := by omega
        refine ⟨?_, hl2, by omega⟩
        have h1 := hI.out.1
        rw [hq, List.take_length] at h1 ⊢
        exact takeWhile_whole h1
    have HEND := Lib.hid hend
    clear hend
    by_cases hlt : p < s.size
    · have hby : (s.data.toList.drop a)[q]? = some (s[p]'hlt) := by
        have hpp := HPE.out
        have := byte_at (s := s) (a := a) (q := q) (by omega)
        rw [this]
        simp only [HPE.out]
      have HBY := Lib.hid hby
      have h256 := (s[p]'hlt).toNat_lt
      have hwr : IntKind.i32.wrap ((s[p]'hlt).toNat : Int) = ((s[p]'hlt).toNat : Int) := by unfold IntKind.wrap; simp [IntKind.bits, IntKind.signed]; omega
      have HD := Lib.hid fun w => rdigit_any ((s[p]'hlt).toNat : Int) w
      rw [isDg_byte] at HD
      clear hby
      cases hd : isD (s[p]'hlt)
      · rw [hd] at HD
        obtain ⟨e1, e2, e3⟩ := HEND.out (.inl ⟨hlt, hd⟩)
        have hne : (s.data.toList.drop a).take q ≠ [] := by intro e; rw [e] at e2; exact e3 e2.symm
        have hld : leadN ((s.data.toList.drop a).take q) = false := by
          unfold leadN
          rw [e2]
          rcases hI.out.2 with h | h
          · rw [decide_eq_false (show ¬ 1 < q by omega), Bool.and_false]
          · have : ((s.data.toList.drop a).take q).head? ≠ some 48 := by
              rw [List.head?_take, if_neg e3, List.head?_eq_getElem?, HB0.out]
              intro e
              have := Option.some.inj e
              exact h (by rw [this]; rfl)
            rw [decide_eq_false this, Bool.false_and]
        have HRd := Lib.hid fun w => rread_num _ hne hI.out.1 hld w
        have hex := extract_ofL2 s a q
        rw [← HPE.out] at hex
        generalize (s.data.toList.drop a).take q = ds at *
        have HLD := Lib.hid hld
        have HE1 := Lib.hid e1
        have HE2 := Lib.hid e2
        clear hld e1 e2 hne e3 hd
        cases hf : fitB (dval ds : Int)
        · rw [hf] at HRd
          have HF := Lib.hid hf
          clear hf
          go_wp2_with fail
          refine (HD.out _).mono ?_
          rintro e w1 ⟨rfl, rfl⟩
          go_wp2_with fail
          refine (HRd.out _).mono ?_
          rintro e w1 ⟨rfl, rfl⟩
          go_wp2_with fail
          go_ret3
          exact num_big (by rw [HE1.out]; exact HLD.out) (by rw [HE1.out]; exact HF.out) (Below.refl _ _)
        · rw [hf] at HRd
          have HF := Lib.hid hf
          clear hf
          go_wp2_with fail
          refine (HD.out _).mono ?_
          rintro e w1 ⟨rfl, rfl⟩
          go_wp2_with fail
          refine (HRd.out _).mono ?_
          rintro e w1 ⟨rfl, rfl⟩
          go_wp2_with fail
          go_ret3
          exact num_fit HPE.out HE1.out HE2.out HLD.out HF.out (Below.refl _ _)
      · rw [hd] at HD
        have hst : ((s.data.toList.drop a).take (q + 1)).all isD = true := by
          have hq : q < (s.data.toList.drop a).length := (List.getElem?_eq_some_iff.1 HBY.out).1
          refine all_step hI.out.1 hq ?_
          have := HBY.out
          rw [List.getElem?_eq_getElem hq] at this
          rw [Option.some.inj this]
          exact hd
        have HST := Lib.hid hst
        clear hst hd
        by_cases hq0 : q = 0
        · have hpa : p = a := by have := HPE.out; omega
          have hle : p ≤ a := by omega
          clear hpa
          go_wp2_with fail
          refine (HD.out _).mono ?_
          rintro e w1 ⟨rfl, rfl⟩
          go_wp2_with fail
          go_round
          case rel => exact ⟨q + 1, by rw [HPE.out]; go_num, by have := HPE.out; omega, HST.out, .inl (by omega)⟩
          case measure => simp [intOf]; omega
        · have hap2 : a < p := by have := HPE.out; omega
          by_cases h48 : (s[a]'ha).toNat = 48
          · have g48 : (((s[a]'ha).toNat : Int) == 48) = true := by simp; omega
            have hq1 : q = 1 := by rcases hI.out.2 with h | h; omega; exact absurd h48 h
            have hld : leadN ((s.data.toList.drop a).takeWhile isD) = true := by
              have hl : ∃ c d m, s.data.toList.drop a = c :: d :: m := by
                cases hl : s.data.toList.drop a with
                | nil => rw [hl] at HBY; have := HBY.out; cases this
                | cons c m =>
                  cases hm : m with
                  | nil => rw [hl, hm, hq1] at HBY; have := HBY.out; cases this
                  | cons d m' => exact ⟨c, d, m', rfl⟩
              obtain ⟨c, d, m, hl⟩ := hl
              have h1 := HST.out
              rw [hl, hq1] at h1
              simp at h1
              have hc : c = s[a]'ha := by
                have := HB0.out
                rw [hl] at this
                exact Option.some.inj this
              rw [hl, List.takeWhile_cons, h1.1, if_pos rfl, List.takeWhile_cons, h1.2, if_pos rfl]
              unfold leadN
              simp
              apply UInt8.toNat.inj
              rw [hc, h48]
              rfl
            have HLD := Lib.hid hld
            clear hld h48
            go_wp2_with fail
            refine (HD.out _).mono ?_
            rintro e w1 ⟨rfl, rfl⟩
            go_wp2_with fail
            go_ret3
            exact num_lead (by have := HPE.out; omega) HLD.out (Below.refl _ _)
          · have g48 : (((s[a]'ha).toNat : Int) == 48) = false := by simp; omega
            have H48 := Lib.hid h48
            clear h48
            go_wp2_with fail
            refine (HD.out _).mono ?_
            rintro e w1 ⟨rfl, rfl⟩
            go_wp2_with fail
            go_round
            case rel => exact ⟨q + 1, by rw [HPE.out]; go_num, by have := HPE.out; omega, HST.out, .inr H48.out⟩
            case measure => simp [intOf]; omega
    · obtain ⟨e1, e2, e3⟩ := HEND.out (.inr hlt)
      have hne : (s.data.toList.drop a).take q ≠ [] := by intro e; rw [e] at e2; exact e3 e2.symm
      have hld : leadN ((s.data.toList.drop a).take q) = false := by
        unfold leadN
        rw [e2]
        rcases hI.out.2 with h | h
        · rw [decide_eq_false (show ¬ 1 < q by omega), Bool.and_false]
        · have : ((s.data.toList.drop a).take q).head? ≠ some 48 := by
            rw [List.head?_take, if_neg e3, List.head?_eq_getElem?, HB0.out]
            intro e
            have := Option.some.inj e
            exact h (by rw [this]; rfl)
          rw [decide_eq_false this, Bool.false_and]
      have HRd := Lib.hid fun w => rread_num _ hne hI.out.1 hld w
      have hex := extract_ofL2 s a q
      rw [← HPE.out] at hex
      generalize (s.data.toList.drop a).take q = ds at *
      have HLD := Lib.hid hld
      have HE1 := Lib.hid e1
      have HE2 := Lib.hid e2
      clear hld e1 e2 hne e3
      cases hf : fitB (dval ds : Int)
      · rw [hf] at HRd
        have HF := Lib.hid hf
        clear hf
        go_wp2_with fail
        refine (HRd.out _).mono ?_
        rintro e w1 ⟨rfl, rfl⟩
        go_wp2_with fail
        go_ret3
        exact num_big (by rw [HE1.out]; exact HLD.out) (by rw [HE1.out]; exact HF.out) (Below.refl _ _)
      · rw [hf] at HRd
        have HF := Lib.hid hf
        clear hf
        go_wp2_with fail
        refine (HRd.out _).mono ?_
        rintro e w1 ⟨rfl, rfl⟩
        go_wp2_with fail
        go_ret3
        exact num_fit HPE.out HE1.out HE2.out HLD.out HF.out (Below.refl _ _)
end Go.Proofs.Ythccgpjbchlocaa
