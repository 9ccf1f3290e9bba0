/- Law DigitReads: its walk. -/
import Derived.Test.YtfbbjfjckaojeaaDoorDl
import Derived.Test.YtfbbjfjckaojeaaDoorDrh
namespace Go.Proofs.YtfbbjfjckaojeaaDoor
open Go.RowKit

/-- A list of texts, as cells. -/
def strs (ss : List ByteArray) : List Value := ss.map Value.string
theorem strs_length (ss : List ByteArray) : (strs ss).length = ss.length := by unfold strs; simp

theorem reads_plain {w : World} {B n : Nat} {A : Option Addr} {xs : List Value} (h : Reads w B 1 A n xs) (hn : 0 < n) : ∃ b off, A = some ⟨b, off, none⟩ ∧ b < B ∧ ∀ j u, xs[j]? = some u → w.cell? ⟨b, off + j, none⟩ = some u := by
  obtain ⟨ad, hA, hb, hc⟩ := h.2 hn
  have hl : 0 < xs.length := by have := h.1; omega
  have h0 := hc 0 xs[0] (List.getElem?_eq_getElem hl)
  obtain ⟨b, off, spot⟩ := ad
  have hspot : spot = none := by simpa [Addr.add] using World.cell?_spot h0
  subst hspot
  exact ⟨b, off, hA, hb, fun j u hu => by rw [← Go.WideShapes.add_plain]; exact hc j u hu⟩
theorem at_int {w : World} {B n k : Nat} {A : Option Addr} {zs : List Int} (h : Reads w B 1 A n (ints zs)) (hk : k < n) :
    ∃ b off z, A = some ⟨b, off, none⟩ ∧ b < B ∧ z ∈ zs ∧ w.cell? ⟨b, off + k, none⟩ = some (.int .i64 z) := by
  obtain ⟨b, off, hA, hb, hc⟩ := reads_plain h (by omega)
  have hl : k < zs.length := by have := h.1; rw [ints_length] at this; omega
  exact ⟨b, off, zs[k], hA, hb, List.getElem_mem hl, hc k _ (by simp [ints, hl])⟩
theorem at_str {w : World} {B n k : Nat} {A : Option Addr} {ss : List ByteArray} (h : Reads w B 1 A n (strs ss)) (hk : k < n) :
    ∃ b off s, A = some ⟨b, off, none⟩ ∧ b < B ∧ s ∈ ss ∧ w.cell? ⟨b, off + k, none⟩ = some (.string s) := by
  obtain ⟨b, off, hA, hb, hc⟩ := reads_plain h (by omega)
  have hl : k < ss.length := by have := h.1; rw [strs_length] at this; omega
  exact ⟨b, off, ss[k], hA, hb, List.getElem_mem hl, hc k _ (by simp [strs, hl])⟩

set_option maxHeartbeats 3200000 in
theorem reads_core (A A2 : Option Addr) (n c n2 c2 : Nat) (zs : List Int) (ss : List ByteArray) (h64 : all64 zs) (hss : ∀ s ∈ ss, s.size ≤ 9223372036854775807) (w : World) (htab : Tab w)
    (hr : Reads w w.heap.size 1 A n (ints zs)) (hn : n ≤ 9223372036854775807) (hr2 : Reads w w.heap.size 1 A2 n2 (strs ss)) (hn2 : n2 ≤ 9223372036854775807) :
    Calls Tryd.prog 3 #[.slice A n c, .slice A2 n2 c2] w fun e w' => e = .returned (.bool true) ∧ Below w.heap.size w w' := by
  have H0 := Lib.hid (wakes_any w htab)
  have HTab := Lib.hid htab
  have HI := Lib.hid hr
  have HS := Lib.hid hr2
  have H64 := Lib.hid h64
  have HSS := Lib.hid hss
  clear htab hr hr2 h64 hss
  go_enter Tryd.func3, Tryd.ntmps3
  go_wp2_with fail
  refine H0.out.mono ?_
  rintro e w1 ⟨rfl, b1⟩
  go_wp2_with fail
  go_loopw [22] (fun i wr => ∃ k : Nat, k ≤ n ∧ i = .int .i64 k ∧ Below w.heap.size w wr) (fun i wr => n - (intOf i).toNat)
  case atStart => exact ⟨0, Nat.zero_le _, rfl, b1⟩
  case round =>
    obtain ⟨k, hk, rfl, b2⟩ := hrel
    by_cases hlt : k < n
    · obtain ⟨b, off, z, rfl, hb, hz, hc0⟩ := at_int HI.out hlt
      have hcell : wr.cell? ⟨b, off + k, none⟩ = some (.int .i64 z) := (b2.cell (p := ⟨b, off + k, none⟩) hb).trans hc0
      have hfz : fitB z = true := (fitB_iff z).2 (H64.out z hz)
      have HF := Lib.hid hfz
      clear hz hc0 hfz
      by_cases h20 : k < 20
      · have h20b : decide ((k : Int) < 20) = true := by simpa using (by omega : (k : Int) < 20)
        go_wp2_with fail
        refine (text_ofL z HF.out _ (HTab.out.on b2)).mono ?_
        rintro e w3 ⟨rfl, c3⟩
        have b3 := b2.trans (c3.mono b2.size)
        clear c3
        go_wp2_with fail
        refine (rtext_any z HF.out _).mono ?_
        rintro e w4 ⟨rfl, c4⟩
        have b4 := b3.trans (c4.mono b3.size)
        clear c4 b3
        go_wp2_with fail
        go_roundw
        case rel => exact ⟨k + 1, by omega, by go_num, b4⟩
        case measure => simp [intOf]; omega
      · have h20b : decide ((k : Int) < 20) = false := by simp; omega
        go_wp2_with fail
        go_roundw
        case rel => exact ⟨k + 1, by omega, by go_num, b2⟩
        case measure => simp [intOf]; omega
    · have hge : ¬ (k : Int) < (n : Int) := by omega
      go_wp2_with fail
      clear b1
      obtain ⟨wo, rfl⟩ : ∃ wo : World, wo = wr := ⟨_, rfl⟩
      go_loopw [39] (fun i wr => ∃ k : Nat, k ≤ n2 ∧ i = .int .i64 k ∧ Below w.heap.size w wr) (fun i wr => n2 - (intOf i).toNat)
      case atStart => exact ⟨0, Nat.zero_le _, rfl, b2⟩
      case round =>
        clear b2 hge hlt hk
        obtain ⟨k, hk, rfl, b2⟩ := hrel
        by_cases hlt : k < n2
        · obtain ⟨b, off, s, rfl, hb, hz, hc0⟩ := at_str HS.out hlt
          have hcell : wr.cell? ⟨b, off + k, none⟩ = some (.string s) := (b2.cell (p := ⟨b, off + k, none⟩) hb).trans hc0
          have hs := HSS.out s hz
          have HC := Lib.hid fun w => cutS_any s hs w
          have hcs := cutS_size s
          clear hz hc0 hs
          by_cases h20 : k = 20
          · have h20b : ((k : Int) == 20) = true := by rw [h20]; rfl
            have H20 := Lib.hid h20
            clear h20 HC hcs
            go_wp2_with fail
            go_ret
            exact ⟨rfl, b2⟩
          · have h20b : ((k : Int) == 20) = false := beq_eq_false_iff_ne.2 (by omega)
            obtain ⟨l, hl⟩ : ∃ l, cutS s = ofL l := ⟨(cutS s).data.toList, (ofL_back _).symm⟩
            rw [hl] at HC hcs
            rw [ofL_size] at hcs
            have hH := fun w => head_any (ofL l) (by rw [ofL_size]; omega) w
            have HRH := Lib.hid fun w => rhead_any l hcs w
            have HH := Lib.hid hH
            have hR := fun w => read_any (ofL l) w
            have hL := fun w => rlooks_any l (by omega) w
            have hRR := fun hlk w => rread_any l hcs hlk w
            rw [RL_looks l] at hL
            unfold readN readE at hR
            clear hl h20 hH
            generalize (ofL l).extract 0 (headN (ofL l)) = xa at *
            generalize (ofL l).extract (headN (ofL l)) (ofL l).size = xb at *
            generalize looksL (tlS (ofL l)) (negS (ofL l)) = lk at *
            generalize sval (negS (ofL l)) (tlS (ofL l)) = sv at *
            cases lk
            · rw [if_neg (by simp), if_neg (by simp)] at hR
              have HR := Lib.hid hR
              have HL := Lib.hid hL
              clear hR hL hRR hcs
              go_wp2_with fail
              refine (HC.out _).mono ?_
              rintro e wx ⟨rfl, rfl⟩
              go_wp2_with fail
              refine (HR.out _).mono ?_
              rintro e w3 ⟨rfl, c3⟩
              have b3 := b2.trans (c3.mono b2.size)
              clear b2 c3
              go_wp2_with fail
              refine (HL.out _).mono ?_
              rintro e wx ⟨rfl, rfl⟩
              go_wp2_with fail
              refine (HH.out _).mono ?_
              rintro e w4 ⟨rfl, c4⟩
              have b4 := b3.trans (c4.mono b3.size)
              clear b3 c4
              go_wp2_with fail
              refine (HRH.out _).mono ?_
              rintro e w5 ⟨rfl, c5⟩
              have b5 := b4.trans (c5.mono b4.size)
              clear b4 c5
              go_wp2_with fail
              go_roundw
              case rel => exact ⟨k + 1, by omega, by go_num, b5⟩
              case measure => simp [intOf]; omega

            · rw [if_pos rfl, if_pos rfl] at hR
              have hRR' := fun w => hRR rfl w
              cases hf : fitB sv
              · rw [fitN_not hf, rErr_no hf] at hR
                rw [fitN_not hf, hf] at hRR'
                have HR := Lib.hid hR
                have HL := Lib.hid hL
                have HRR := Lib.hid hRR'
                clear hR hL hRR hRR' hcs hf
                go_wp2_with fail
                refine (HC.out _).mono ?_
                rintro e wx ⟨rfl, rfl⟩
                go_wp2_with fail
                refine (HR.out _).mono ?_
                rintro e w3 ⟨rfl, c3⟩
                have b3 := b2.trans (c3.mono b2.size)
                clear b2 c3
                go_wp2_with fail
                refine (HL.out _).mono ?_
                rintro e wx ⟨rfl, rfl⟩
                go_wp2_with fail
                refine (HRR.out _).mono ?_
                rintro e wx ⟨rfl, rfl⟩
                go_wp2_with fail
                refine (HH.out _).mono ?_
                rintro e w4 ⟨rfl, c4⟩
                have b4 := b3.trans (c4.mono b3.size)
                clear b3 c4
                go_wp2_with fail
                refine (HRH.out _).mono ?_
                rintro e w5 ⟨rfl, c5⟩
                have b5 := b4.trans (c5.mono b4.size)
                clear b4 c5
                go_wp2_with fail
                go_roundw
                case rel => exact ⟨k + 1, by omega, by go_num, b5⟩
                case measure => simp [intOf]; omega

              · rw [fitN_of hf, rErr_yes hf] at hR
                rw [fitN_of hf, hf] at hRR'
                have HR := Lib.hid hR
                have HL := Lib.hid hL
                have HRR := Lib.hid hRR'
                clear hR hL hRR hRR' hcs hf
                go_wp2_with fail
                refine (HC.out _).mono ?_
                rintro e wx ⟨rfl, rfl⟩
                go_wp2_with fail
                refine (HR.out _).mono ?_
                rintro e w3 ⟨rfl, c3⟩
                have b3 := b2.trans (c3.mono b2.size)
                clear b2 c3
                go_wp2_with fail
                refine (HL.out _).mono ?_
                rintro e wx ⟨rfl, rfl⟩
                go_wp2_with fail
                refine (HRR.out _).mono ?_
                rintro e wx ⟨rfl, rfl⟩
                go_wp2_with fail
                refine (HH.out _).mono ?_
                rintro e w4 ⟨rfl, c4⟩
                have b4 := b3.trans (c4.mono b3.size)
                clear b3 c4
                go_wp2_with fail
                refine (HRH.out _).mono ?_
                rintro e w5 ⟨rfl, c5⟩
                have b5 := b4.trans (c5.mono b4.size)
                clear b4 c5
                go_wp2_with fail
                go_roundw
                case rel => exact ⟨k + 1, by omega, by go_num, b5⟩
                case measure => simp [intOf]; omega

        · have hge : ¬ (k : Int) < (n2 : Int) := by omega
          go_wp2_with fail
          go_ret
          exact ⟨rfl, b2⟩
end Go.Proofs.YtfbbjfjckaojeaaDoor
