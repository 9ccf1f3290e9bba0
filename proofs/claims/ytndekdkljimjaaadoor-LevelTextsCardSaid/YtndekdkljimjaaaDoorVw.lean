/- LevelTexts: the walk. -/
import Derived.Test.YtndekdkljimjaaaDoorVq
import Derived.Test.YtndekdkljimjaaaDoorVs
import Derived.Deep.Cut
import Derived.Deep.CutBlock
import Derived.Deep.DeepCutAuto
namespace Go.Proofs.YtndekdkljimjaaaDoor
open Go.RowKit Go.Shelf

theorem rguar_none (s : ByteArray) (h : guarO s = none) (w : World) : Calls Tryd.prog 18 #[.string s] w fun e w' => e = .returned (.int .i64 (-1)) ∧ w = w' := by
  have := rguar_any s w
  unfold guarR at this
  rw [h] at this
  exact this
theorem rguar_some (s : ByteArray) (g : Nat) (h : guarO s = some g) (w : World) : Calls Tryd.prog 18 #[.string s] w fun e w' => e = .returned (.int .i64 (g : Int)) ∧ w = w' := by
  have := rguar_any s w
  unfold guarR at this
  rw [h] at this
  exact this
theorem text_at (p : Nat) (hp : 1 ≤ p ∧ p ≤ 4) (w : World) (hT : Tabs w) : Calls Tryd.prog 9 #[.int .i64 (p : Int)] w fun e w' => e = .returned (.tuple #[.string (lvT p), .int .i64 0]) ∧ w = w' := by
  have h1 := text_any (p : Int) w hT
  have h3 : levB (p : Int) = true := levB_iff.2 (by omega)
  rwa [levT_ok h3, levE_ok h3, Int.toNat_natCast] at h1
theorem text_no (v : Int) (hv : levB v = false) (w : World) (hT : Tabs w) : Calls Tryd.prog 9 #[.int .i64 v] w fun e w' => e = .returned (.tuple #[.string ⟨#[]⟩, .int .i64 190]) ∧ w = w' := by
  have h1 := text_any v w hT
  rwa [levT_no hv, levE_no hv] at h1
theorem words_bad (v : Int) (hv : guB v = false) (w : World) (hT : Tabs w) : Calls Tryd.prog 13 #[.int .i64 v] w fun e w' => e = .returned (.tuple #[.string ⟨#[]⟩, .int .i64 190]) ∧ Below w.heap.size w w' := by
  have h1 := words_any v w hT
  unfold WordsIs at h1
  rwa [wordsT_no hv, wordsE_no hv] at h1

set_option maxRecDepth 100000 in
set_option maxHeartbeats 16000000 in
theorem texts_core (A : Option Addr) (n c : Nat) (xs : List Int) (B : Option Addr) (m d : Nat) (ss : List ByteArray) (hn : n ≤ 9223372036854775807) (hm : m ≤ 9223372036854775807) (w : World) (hT : Tabs w) (h1 : Reads w w.heap.size 1 A n (ints xs)) (h2 : Reads w w.heap.size 1 B m (strs ss)) :
    Calls Tryd.prog 3 #[.slice A n c, .slice B m d] w fun e w' => e = .returned (.bool true) ∧ Below w.heap.size w w' := by
  have HT := Lib.hid hT
  have H1 := Lib.hid h1
  have H2 := Lib.hid h2
  have HLX := Lib.hid (ints_len h1)
  have HW := Lib.hid (wakes9_any w hT)
  clear hT h1 h2
  go_enter Tryd.func3, Tryd.ntmps3
  go_wp2_with fail
  refine HW.out.mono ?_
  rintro e w1 ⟨rfl, b⟩
  have B1 := Lib.hid b
  clear b HW
  go_upto_block 0 with fail
  go_cut [24] (fun s24 wx => Hid (Below w.heap.size w wx))
  case first =>
    go_wp2_with fail
    go_loopw [24] (fun s wr => ∃ k : Nat, k ≤ n ∧ k ≤ 20 ∧ s = .int .i64 k ∧ Hid (Below w.heap.size w wr)) (fun s _ => n - (intOf s).toNat)
    case atStart => exact ⟨0, by omega, by omega, rfl, B1⟩
    case round =>
      clear B1
      obtain ⟨k, hk, hk20, rfl, B1⟩ := hrel
      by_cases hkn : k < n
      · have hlt : (k : Int) < (n : Int) := by omega
        obtain ⟨v, hv⟩ : ∃ v, xs[k]? = some v := ⟨xs[k]'(by rw [HLX.out]; exact hkn), List.getElem?_eq_getElem _⟩
        obtain ⟨b0, o0, rfl, _, g0⟩ := int_at (H1.out.below B1.out) hv
        clear hv
        by_cases h20 : k = 20
        · have hb : ((k : Int) == 20) = true := by simp; omega
          clear h20
          go_wp2_with fail
          go_meet
          exact B1
        · have hb : ((k : Int) == 20) = false := by simp; omega
          have hk19 : k + 1 ≤ 20 := by omega
          clear h20 hk20
          cases hl : levB v
          · have HTX := Lib.hid (text_no v hl wr (HT.out.on B1.out (Nat.le_refl _)))
            have HRI := Lib.hid fun w => rright_any v w
            have HCK := Lib.hid fun w => check_any v w
            rw [hl] at HRI
            rw [levE_no hl] at HCK
            clear hl
            go_wp2_with fail
            refine (HTX.out).mono ?_
            rintro e w9 ⟨rfl, rfl⟩
            go_wp2_with fail
            refine (HRI.out _).mono ?_
            rintro e w9 ⟨rfl, rfl⟩
            go_wp2_with fail
            refine (HCK.out _).mono ?_
            rintro e w9 ⟨rfl, rfl⟩
            cases hg : guB v
            · have HWD := Lib.hid fun w hT => words_bad v hg w hT
              have hv2 : v < 0 ∨ 15 < v := by unfold guB at hg; simp at hg; omega
              clear hg
              by_cases v0 : v ≥ 0
              · have v15 : ¬ v ≤ 15 := by omega
                clear hv2
                go_wp2_with fail
                refine (HWD.out wr (HT.out.on B1.out (Nat.le_refl _))).mono ?_
                rintro e w5 ⟨rfl, b5⟩
                have B2 := Lib.hid (B1.out.trans (b5.mono B1.out.size))
                clear b5 B1
                go_wp2_with fail
                go_roundw
                case rel => exact ⟨k + 1, by omega, by omega, by go_num, B2⟩
                case measure => simp [intOf]; omega
              · clear hv2
                go_wp2_with fail
                refine (HWD.out wr (HT.out.on B1.out (Nat.le_refl _))).mono ?_
                rintro e w5 ⟨rfl, b5⟩
                have B2 := Lib.hid (B1.out.trans (b5.mono B1.out.size))
                clear b5 B1
                go_wp2_with fail
                go_roundw
                case rel => exact ⟨k + 1, by omega, by omega, by go_num, B2⟩
                case measure => simp [intOf]; omega
            · obtain ⟨q, hq⟩ : ∃ q : Nat, v = q := ⟨v.toNat, by have := guB_iff.1 hg; omega⟩
              have HQ : Hid (q < 16) := by
                have := guB_iff.1 hg
                show _ < _
                omega
              have HRW := Lib.hid fun w => rwords_any q HQ.out w
              have HWD := Lib.hid fun w hT => words_nat q HQ.out w hT
              have v0 : v ≥ 0 := by omega
              have v15 : v ≤ 15 := by have := HQ.out; omega
              rw [← hq] at HRW HWD
              generalize guT q = u at *
              clear hg hq
              go_wp2_with fail
              refine (HWD.out wr (HT.out.on B1.out (Nat.le_refl _))).mono ?_
              rintro e w5 ⟨rfl, b5⟩
              have B2 := Lib.hid (B1.out.trans (b5.mono B1.out.size))
              clear b5 B1
              go_wp2_with fail
              refine (HRW.out _).mono ?_
              rintro e w9 ⟨rfl, rfl⟩
              go_wp2_with fail
              go_roundw
              case rel => exact ⟨k + 1, by omega, by omega, by go_num, B2⟩
              case measure => simp [intOf]; omega
          · obtain ⟨p, hp⟩ : ∃ p : Nat, v = p := ⟨v.toNat, by have := levB_iff.1 hl; omega⟩
            have HP : Hid (1 ≤ p ∧ p ≤ 4) := by
              have := levB_iff.1 hl
              show _ ∧ _
              omega
            have HTX := Lib.hid (text_at p HP.out wr (HT.out.on B1.out (Nat.le_refl _)))
            have HRT := Lib.hid fun w => rtext_any p HP.out w
            have HRI := Lib.hid fun w => rright_any v w
            have HCK := Lib.hid fun w => check_any v w
            rw [hl] at HRI
            rw [levE_ok hl] at HCK
            rw [← hp] at HTX HRT
            generalize lvT p = t at *
            clear hl hp HP
            go_wp2_with fail
            refine (HTX.out).mono ?_
            rintro e w9 ⟨rfl, rfl⟩
            go_wp2_with fail
            refine (HRI.out _).mono ?_
            rintro e w9 ⟨rfl, rfl⟩
            go_wp2_with fail
            refine (HCK.out _).mono ?_
            rintro e w9 ⟨rfl, rfl⟩
            go_wp2_with fail
            refine (HRT.out _).mono ?_
            rintro e w9 ⟨rfl, rfl⟩
            cases hg : guB v
            · have HWD := Lib.hid fun w hT => words_bad v hg w hT
              have hv2 : v < 0 ∨ 15 < v := by unfold guB at hg; simp at hg; omega
              clear hg
              by_cases v0 : v ≥ 0
              · have v15 : ¬ v ≤ 15 := by omega
                clear hv2
                go_wp2_with fail
                refine (HWD.out wr (HT.out.on B1.out (Nat.le_refl _))).mono ?_
                rintro e w5 ⟨rfl, b5⟩
                have B2 := Lib.hid (B1.out.trans (b5.mono B1.out.size))
                clear b5 B1
                go_wp2_with fail
                go_roundw
                case rel => exact ⟨k + 1, by omega, by omega, by go_num, B2⟩
                case measure => simp [intOf]; omega
              · clear hv2
                go_wp2_with fail
                refine (HWD.out wr (HT.out.on B1.out (Nat.le_refl _))).mono ?_
                rintro e w5 ⟨rfl, b5⟩
                have B2 := Lib.hid (B1.out.trans (b5.mono B1.out.size))
                clear b5 B1
                go_wp2_with fail
                go_roundw
                case rel => exact ⟨k + 1, by omega, by omega, by go_num, B2⟩
                case measure => simp [intOf]; omega
            · obtain ⟨q, hq⟩ : ∃ q : Nat, v = q := ⟨v.toNat, by have := guB_iff.1 hg; omega⟩
              have HQ : Hid (q < 16) := by
                have := guB_iff.1 hg
                show _ < _
                omega
              have HRW := Lib.hid fun w => rwords_any q HQ.out w
              have HWD := Lib.hid fun w hT => words_nat q HQ.out w hT
              have v0 : v ≥ 0 := by omega
              have v15 : v ≤ 15 := by have := HQ.out; omega
              rw [← hq] at HRW HWD
              generalize guT q = u at *
              clear hg hq
              go_wp2_with fail
              refine (HWD.out wr (HT.out.on B1.out (Nat.le_refl _))).mono ?_
              rintro e w5 ⟨rfl, b5⟩
              have B2 := Lib.hid (B1.out.trans (b5.mono B1.out.size))
              clear b5 B1
              go_wp2_with fail
              refine (HRW.out _).mono ?_
              rintro e w9 ⟨rfl, rfl⟩
              go_wp2_with fail
              go_roundw
              case rel => exact ⟨k + 1, by omega, by omega, by go_num, B2⟩
              case measure => simp [intOf]; omega
      · have hge : ¬ (k : Int) < (n : Int) := by omega
        go_wp2_with fail
        go_meet
        exact B1
  case rest =>
    clear B1
    have B1 := hcut
    clear hcut
    go_wp2_with fail
    go_loopw [108] (fun s wr => ∃ k : Nat, k ≤ m ∧ k ≤ 20 ∧ s = .int .i64 k ∧ Hid (Below w.heap.size w wr)) (fun s _ => m - (intOf s).toNat)
    case atStart => exact ⟨0, by omega, by omega, rfl, B1⟩
    case round =>
      clear B1
      obtain ⟨k, hk, hk20, rfl, B1⟩ := hrel
      by_cases hkn : k < m
      · have hlt : (k : Int) < (m : Int) := by omega
        obtain ⟨b0, o0, s, rfl, hb0, _, g0'⟩ := at_str H2.out hkn
        have g0 : wr.cell? ⟨b0, o0 + k, none⟩ = some (.string s) := (B1.out.cell (p := ⟨b0, o0 + k, none⟩) hb0).trans g0'
        clear g0'
        by_cases h20 : k = 20
        · have hb : ((k : Int) == 20) = true := by simp; omega
          clear h20
          go_wp2_with fail
          go_ret
          exact ⟨rfl, B1.out⟩
        · have hb : ((k : Int) == 20) = false := by simp; omega
          have hk19 : k + 1 ≤ 20 := by omega
          clear h20 hk20
          have HRR := Lib.hid fun w => rread_any s w
          by_cases hr : readI s = 0
          · have HRE := Lib.hid (read_no s hr wr (HT.out.on B1.out (Nat.le_refl _)))
            rw [hr, show ((0 : Nat) : Int) = 0 from rfl] at HRR
            clear hr
            cases hg : guarO s with
            | none =>
              have HGU := Lib.hid fun w hT => guar_no s hg w hT
              have HRG := Lib.hid fun w => rguar_none s hg w
              have hmax : max (-1 : Int) 0 = 0 := by decide
              clear hg
              go_wp2_with fail
              refine (HRE.out).mono ?_
              rintro e w9 ⟨rfl, rfl⟩
              go_wp2_with fail
              refine (HGU.out wr (HT.out.on B1.out (Nat.le_refl _))).mono ?_
              rintro e w5 ⟨rfl, b5⟩
              have B2 := Lib.hid (B1.out.trans (b5.mono B1.out.size))
              clear b5 B1
              go_wp2_with fail
              refine (HRR.out _).mono ?_
              rintro e w9 ⟨rfl, rfl⟩
              go_wp2_with fail
              refine (HRG.out _).mono ?_
              rintro e w9 ⟨rfl, rfl⟩
              go_wp2_with fail
              go_roundw
              case rel => exact ⟨k + 1, by omega, by omega, by go_num, B2⟩
              case measure => simp [intOf]; omega
            | some g =>
              have HGU := Lib.hid fun w hT => guar_ok s g hg w hT
              have HRG := Lib.hid fun w => rguar_some s g hg w
              have hg0 : (g : Int) ≥ 0 := by omega
              have hg1 : ¬ (g : Int) < 0 := by omega
              have hmax : max (g : Int) 0 = (g : Int) := by omega
              clear hg
              go_wp2_with fail
              refine (HRE.out).mono ?_
              rintro e w9 ⟨rfl, rfl⟩
              go_wp2_with fail
              refine (HGU.out wr (HT.out.on B1.out (Nat.le_refl _))).mono ?_
              rintro e w5 ⟨rfl, b5⟩
              have B2 := Lib.hid (B1.out.trans (b5.mono B1.out.size))
              clear b5 B1
              go_wp2_with fail
              refine (HRR.out _).mono ?_
              rintro e w9 ⟨rfl, rfl⟩
              go_wp2_with fail
              refine (HRG.out _).mono ?_
              rintro e w9 ⟨rfl, rfl⟩
              go_wp2_with fail
              go_roundw
              case rel => exact ⟨k + 1, by omega, by omega, by go_num, B2⟩
              case measure => simp [intOf]; omega
          · have HRE := Lib.hid (read_ok s hr wr (HT.out.on B1.out (Nat.le_refl _)))
            have hp : (readI s : Int) > 0 := by omega
            have hp0 : ((readI s : Int) == 0) = false := by simp; omega
            clear hr
            generalize readI s = p at *
            cases hg : guarO s with
            | none =>
              have HGU := Lib.hid fun w hT => guar_no s hg w hT
              have HRG := Lib.hid fun w => rguar_none s hg w
              have hmax : max (-1 : Int) 0 = 0 := by decide
              clear hg
              go_wp2_with fail
              refine (HRE.out).mono ?_
              rintro e w9 ⟨rfl, rfl⟩
              go_wp2_with fail
              refine (HGU.out wr (HT.out.on B1.out (Nat.le_refl _))).mono ?_
              rintro e w5 ⟨rfl, b5⟩
              have B2 := Lib.hid (B1.out.trans (b5.mono B1.out.size))
              clear b5 B1
              go_wp2_with fail
              refine (HRR.out _).mono ?_
              rintro e w9 ⟨rfl, rfl⟩
              go_wp2_with fail
              refine (HRG.out _).mono ?_
              rintro e w9 ⟨rfl, rfl⟩
              go_wp2_with fail
              go_roundw
              case rel => exact ⟨k + 1, by omega, by omega, by go_num, B2⟩
              case measure => simp [intOf]; omega
            | some g =>
              have HGU := Lib.hid fun w hT => guar_ok s g hg w hT
              have HRG := Lib.hid fun w => rguar_some s g hg w
              have hg0 : (g : Int) ≥ 0 := by omega
              have hg1 : ¬ (g : Int) < 0 := by omega
              have hmax : max (g : Int) 0 = (g : Int) := by omega
              clear hg
              go_wp2_with fail
              refine (HRE.out).mono ?_
              rintro e w9 ⟨rfl, rfl⟩
              go_wp2_with fail
              refine (HGU.out wr (HT.out.on B1.out (Nat.le_refl _))).mono ?_
              rintro e w5 ⟨rfl, b5⟩
              have B2 := Lib.hid (B1.out.trans (b5.mono B1.out.size))
              clear b5 B1
              go_wp2_with fail
              refine (HRR.out _).mono ?_
              rintro e w9 ⟨rfl, rfl⟩
              go_wp2_with fail
              refine (HRG.out _).mono ?_
              rintro e w9 ⟨rfl, rfl⟩
              go_wp2_with fail
              go_roundw
              case rel => exact ⟨k + 1, by omega, by omega, by go_num, B2⟩
              case measure => simp [intOf]; omega
      · have hge : ¬ (k : Int) < (m : Int) := by omega
        go_wp2_with fail
        go_ret
        exact ⟨rfl, B1.out⟩
end Go.Proofs.YtndekdkljimjaaaDoor
