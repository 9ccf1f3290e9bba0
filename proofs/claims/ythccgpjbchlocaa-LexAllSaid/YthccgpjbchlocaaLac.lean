/- The document's answers of layer lex (package yardarmref02): Next's walk. -/
import Derived.Test.YthccgpjbchlocaaLab
namespace Go.Proofs.Ythccgpjbchlocaa
open Go.RowKit

theorem touch_at {s : ByteArray} {p m : Nat} (h : p = m + 1) (hm : m < s.size) : touchL (s.data.toList.take p) = (!((s[m]'hm).toNat == 32 || (s[m]'hm).toNat == 9) && (s[m]'hm).toNat != 10) := by
  have hl : m < s.data.toList.length := by rw [← Lib.size_eq]; exact hm
  have : (s.data.toList.take p).getLast? = some (s[m]'hm) := by
    rw [h, List.take_succ_eq_append_getElem hl]
    simp
    rfl
  unfold touchL
  rw [this]

theorem word_pos {l : List UInt8} (h : l ≠ []) (hl : isLt (clsL l) = true) : wordN l ≠ 0 := by
  have hw := decL_width l
  have hln := decL_le h
  have hb : (l.take (decL l).2).length = (decL l).2 := by rw [List.length_take]; omega
  unfold wordN
  rw [items_cons h, wordI_go (by unfold wordGo; rw [hl]; rfl) (by omega)]
  obtain ⟨T, _, h2, _⟩ := wordI_split (items (l.drop (decL l).2)) (0 + (l.take (decL l).2).length)
  rw [h2]
  omega

set_option maxRecDepth 100000 in
set_option maxHeartbeats 4000000 in
theorem rnext_at (s : ByteArray) (p q : Nat) (gl : Bool) (_hp : p ≤ s.size) (hs : s.size ≤ 1000000) (_hpq : p ≤ q) (hq : q ≤ s.size)
    (hgl : gl = (touchL (s.data.toList.take p) && decide (q = p)))
    (HSK : Hid (∀ w : World, Calls Try.prog 28 #[.string s, .int .i64 p] w fun e w' => e = .returned (.tuple #[.int .i64 q, .bool true]) ∧ Below w.heap.size w w')) (w : World) :
    Calls Try.prog 13 #[.string s, .int .i64 p] w (NextIs s q gl w) := by
  go_enter Try.func13, Try.ntmps13
  go_wp2_with fail
  refine (HSK.out _).mono ?_
  rintro e w1 ⟨rfl, b1⟩
  have r1 := Lib.hid ((b1.block w.heap.size (by simp)).trans (block_new w _))
  have B1 : Below w.heap.size w w1 := ((Below.refl _ _).alloc (Nat.le_refl _) _).trans (b1.mono (by simp))
  clear b1
  go_upto_region 4 with fail
  go_cut [9] (fun s9 wx => ∃ g : Nat, s9 = .pointer (some ⟨g, 0, none⟩) ∧ w.heap.size < g ∧ wx.heap[g]? = some (.cells #[.int .i64 0, .int .i64 q, .string ⟨#[]⟩, .bool gl] 29 (0, 0)) ∧ wx.heap[w.heap.size]? = some (.cells #[.int .i64 0, .int .i64 0, .string ⟨#[]⟩, .bool false] 29 (0, 0)) ∧ Below w.heap.size w wx)
  case first =>
    by_cases hqp : q = p
    · have tq : ((q : Int) == (p : Int)) = true := by simp; omega
      by_cases hp0 : p = 0
      · have t0 : decide ((0 : Int) < (q : Int)) = false := by simp; omega
        have hg : gl = false := by rw [hgl, hp0]; rfl
        have u0 : ¬ 0 < q := by omega
        subst hg
        clear hqp hp0 hgl
        go_wp2_with fail
        go_meet
        exact ⟨_, rfl, block_lt r1.out, block_new w1 _, carry_new r1.out, B1.alloc B1.size _⟩
      · have t0 : decide ((0 : Int) < (q : Int)) = true := by simp; omega
        have u0 : 0 < q := by omega
        obtain ⟨m, hm⟩ : ∃ m, q = m + 1 := ⟨q - 1, by omega⟩
        have hm0 : m < s.size := by omega
        have hsub : (q : Int) - 1 = m := by omega
        have htl := touch_at (s := s) (p := p) (m := m) (by omega) hm0
        rw [htl, decide_eq_true hqp, Bool.and_true] at hgl
        have h256 := (s[m]'hm0).toNat_lt
        clear hqp hp0 hm htl
        by_cases c32 : (s[m]'hm0).toNat = 32
        · have n32 : (((s[m]'hm0).toNat : Int) != 32) = false := by simp; omega
          have hg : gl = false := by rw [hgl, c32]; rfl
          subst hg
          clear c32 hgl
          go_wp2_with fail
          go_meet
          exact ⟨_, rfl, block_lt r1.out, block_new w1 _, carry_new r1.out, B1.alloc B1.size _⟩
        have n32 : (((s[m]'hm0).toNat : Int) != 32) = true := by simp; omega
        by_cases c9 : (s[m]'hm0).toNat = 9
        · have n9 : (((s[m]'hm0).toNat : Int) != 9) = false := by simp; omega
          have hg : gl = false := by rw [hgl, c9]; rfl
          subst hg
          clear c32 c9 hgl
          go_wp2_with fail
          go_meet
          exact ⟨_, rfl, block_lt r1.out, block_new w1 _, carry_new r1.out, B1.alloc B1.size _⟩
        have n9 : (((s[m]'hm0).toNat : Int) != 9) = true := by simp; omega
        by_cases c10 : (s[m]'hm0).toNat = 10
        · have n10 : (((s[m]'hm0).toNat : Int) != 10) = false := by simp; omega
          have hg : gl = false := by rw [hgl, c10]; rfl
          subst hg
          clear c32 c9 c10 hgl
          go_wp2_with fail
          go_meet
          exact ⟨_, rfl, block_lt r1.out, block_new w1 _, carry_new r1.out, B1.alloc B1.size _⟩
        have n10 : (((s[m]'hm0).toNat : Int) != 10) = true := by simp; omega
        have hg : gl = true := by
          rw [hgl]
          simp
          omega
        subst hg
        clear c32 c9 c10 hgl
        go_wp2_with fail
        go_meet
        exact ⟨_, rfl, block_lt r1.out, block_new w1 _, carry_new r1.out, B1.alloc B1.size _⟩
    · have tq : ((q : Int) == (p : Int)) = false := by simp; omega
      have hg : gl = false := by rw [hgl, decide_eq_false hqp, Bool.and_false]
      subst hg
      clear hqp hgl
      go_wp2_with fail
      go_meet
      exact ⟨_, rfl, block_lt r1.out, block_new w1 _, carry_new r1.out, B1.alloc B1.size _⟩
  case rest =>
    obtain ⟨g, rfl, hwg, hg, hr, hB⟩ := hcut
    have hne : w.heap.size ≠ g := by omega
    clear hgl
    have HG := Lib.hid hg
    have HR := Lib.hid hr
    clear hg hr
    by_cases hend : q = s.size
    · have t1 : ((q : Int) == (s.size : Int)) = true := by simp; omega
      have HE := Lib.hid hend
      clear hend
      obtain ⟨⟨g0, g1, g2, g3⟩, f0, f1, f2, f3⟩ := four_cells HR.out
      have hBx := hB
      go_wp2_with fail
      refine bodyPost_ret (v := .tuple #[.agg #[.int .i64 5, .int .i64 q, .string ⟨#[]⟩, .bool false], .int .i64 q, .int .i64 0]) (by simp [results, Try.results13, go_sem, g0, g1, g2, g3]) rfl ?_
      refine next_stopped HE.out ?_
      exact below_set4 hBx (Nat.le_refl _) _ _ _ _
    · have hlt : q < s.size := by omega
      have t1 : ((q : Int) == (s.size : Int)) = false := by simp; omega
      obtain ⟨t, ht⟩ : ∃ t, s.extract q s.size = t := ⟨_, rfl⟩
      have HF := Lib.hid fun w => first_at hlt hs t ht w
      have HLt := Lib.hid fun w => rletter_any (clsL (s.data.toList.drop q)) w
      have HDg := Lib.hid fun w => rdigit_any (clsL (s.data.toList.drop q)) w
      have hwl := width_le hlt
      obtain ⟨c, hc⟩ : ∃ c, clsL (s.data.toList.drop q) = c := ⟨_, rfl⟩
      obtain ⟨d, hd⟩ : ∃ d, (decL (s.data.toList.drop q)).2 = d := ⟨_, rfl⟩
      rw [hc, hd] at HF
      rw [hc] at HLt HDg
      rw [hd] at hwl
      have HHC := Lib.hid hc
      have HHD := Lib.hid hd
      clear hc hd hend
      have B1' := hB
      have HG1 := HG
      have HR1 := HR
      clear hB HG HR
      go_wp2_with fail
      refine (HF.out _).mono ?_
      rintro e w2 ⟨rfl, d2⟩
      have HG2 := Lib.hid (carry_block HG1.out d2)
      have HR2 := Lib.hid (carry_block HR1.out d2)
      have B2 := B1'.trans (d2.mono B1'.size)
      clear d2 B1' HG1 HR1
      by_cases h10 : c = 10
      · have g10 : (c == 10) = true := by simpa using h10
        have H10 := Lib.hid h10
        clear h10
        obtain ⟨⟨g0, g1, g2, g3⟩, f0, f1, f2, f3⟩ := four_cells HR2.out
        go_wp2_with fail
        refine bodyPost_ret (v := .tuple #[.agg #[.int .i64 4, .int .i64 q, .string ⟨#[10]⟩, .bool false], .int .i64 ((q + 1 : Nat) : Int), .int .i64 0]) (by simp [results, Try.results13, go_sem, g0, g1, g2, g3]) rfl ?_
        refine next_lf hlt (HHC.out.trans H10.out) ?_
        exact below_set4 B2 (Nat.le_refl _) _ _ _ _
      have g10 : (c == 10) = false := by simpa using h10
      by_cases h46 : c = 46 ∨ c = 45
      · have H46 := Lib.hid h46
        have H10 := Lib.hid h10
        obtain ⟨⟨g0, g1, g2, g3⟩, f0, f1, f2, f3⟩ := four_cells HR2.out
        obtain ⟨⟨k0, k1, k2, k3⟩, j0, j1, j2, j3⟩ := four_cells HG2.out
        have hsl : (q : Int) + (d : Int) ≤ (s.size : Int) := by omega
        by_cases e46 : c = 46
        · have g46 : (c == 46) = true := by simpa using e46
          clear h46 h10 e46
          go_wp2_with fail
          go_region
          go_wp2_with fail
          go_region
          go_wp2_with fail
          refine bodyPost_ret (v := .tuple #[.agg #[.int .i64 3, .int .i64 q, .string (s.extract q (q + d)), .bool gl], .int .i64 ((q + d : Nat) : Int), .int .i64 0]) (by simp [results, Try.results13, go_sem, g0, g1, g2, g3]) rfl ?_
          refine next_sg hlt (by rw [HHC.out]; exact H10.out) (by rw [HHC.out]; exact H46.out) HHD.out ?_
          exact (below_set4 ((B2.setCell (p := ⟨g, 0, none⟩) (Nat.le_of_lt hwg) _).setCell (p := ⟨g, 2, none⟩) (Nat.le_of_lt hwg) _) (Nat.le_refl _) _ _ _ _).drew.drew
        · have g46 : (c == 46) = false := by simpa using e46
          have g45 : (c == 45) = true := by simp; omega
          clear h46 h10 e46
          go_wp2_with fail
          go_region
          go_wp2_with fail
          go_region
          go_wp2_with fail
          refine bodyPost_ret (v := .tuple #[.agg #[.int .i64 3, .int .i64 q, .string (s.extract q (q + d)), .bool gl], .int .i64 ((q + d : Nat) : Int), .int .i64 0]) (by simp [results, Try.results13, go_sem, g0, g1, g2, g3]) rfl ?_
          refine next_sg hlt (by rw [HHC.out]; exact H10.out) (by rw [HHC.out]; exact H46.out) HHD.out ?_
          exact (below_set4 ((B2.setCell (p := ⟨g, 0, none⟩) (Nat.le_of_lt hwg) _).setCell (p := ⟨g, 2, none⟩) (Nat.le_of_lt hwg) _) (Nat.le_refl _) _ _ _ _).drew.drew
      have g46 : (c == 46) = false := by simp; omega
      have g45 : (c == 45) = false := by simp; omega
      have H10 := Lib.hid h10
      have H46 := Lib.hid h46
      clear h10 h46
      cases hdg : isDg c
      · rw [hdg] at HDg
        cases hlt' : isLt c
        · rw [hlt'] at HLt
          have H3 := Lib.hid hdg
          have H4 := Lib.hid hlt'
          clear hdg hlt'
          go_wp2_with fail
          refine (HDg.out _).mono ?_
          rintro e wz ⟨rfl, rfl⟩
          go_wp2_with fail
          refine (HLt.out _).mono ?_
          rintro e wz ⟨rfl, rfl⟩
          obtain ⟨⟨g0, g1, g2, g3⟩, f0, f1, f2, f3⟩ := four_cells HR2.out
          go_wp2_with fail
          refine bodyPost_ret (v := .tuple #[.agg #[.int .i64 0, .int .i64 0, .string ⟨#[]⟩, .bool false], .int .i64 q, .int .i64 120]) (by simp [results, Try.results13, go_sem, g0, g1, g2, g3]) rfl ?_
          refine next_no hlt (by rw [HHC.out]; exact H10.out) (by rw [HHC.out]; exact H46.out) (by rw [HHC.out]; exact H3.out) (by rw [HHC.out]; exact H4.out) ?_
          exact below_set4 B2 (Nat.le_refl _) _ _ _ _
        · rw [hlt'] at HLt
          have HW := Lib.hid fun w => rwordAt_any s q hq hs (by rw [HHC.out]; exact hlt') w
          unfold WordIs at HW
          obtain ⟨N, hN⟩ : ∃ N, wordN (s.data.toList.drop q) = N := ⟨_, rfl⟩
          obtain ⟨F, hF⟩ : ∃ F, (wordI 0 (items (s.data.toList.drop q))).2.1 = F := ⟨_, rfl⟩
          rw [hN, hF] at HW
          have hNle : q + N ≤ s.size := by
            have := wordN_le (s.data.toList.drop q)
            rw [hN, List.length_drop, ← Lib.size_eq] at this
            omega
          have hN0 : Hid (N ≠ 0) := by
            rw [← hN]
            exact word_pos (drop_ne hlt) (by rw [HHC.out]; exact hlt')
          have H3 := Lib.hid hdg
          have HHN := Lib.hid hN
          clear hdg hlt' hN
          cases F
          · have HHF := Lib.hid hF
            clear hF
            go_wp2_with fail
            refine (HDg.out _).mono ?_
            rintro e wz ⟨rfl, rfl⟩
            go_wp2_with fail
            refine (HLt.out _).mono ?_
            rintro e wz ⟨rfl, rfl⟩
            go_wp2_with fail
            refine (HW.out _).mono ?_
            rintro e w3 ⟨rfl, d3⟩
            have HG3 := Lib.hid (carry_block HG2.out d3)
            have HR3 := Lib.hid (carry_block HR2.out d3)
            have B3 := B2.trans (d3.mono B2.size)
            clear d3 B2 HG2 HR2
            obtain ⟨⟨g0, g1, g2, g3⟩, f0, f1, f2, f3⟩ := four_cells HR3.out
            obtain ⟨⟨k0, k1, k2, k3⟩, j0, j1, j2, j3⟩ := four_cells HG3.out
            go_wp2_with fail
            go_region
            go_wp2_with fail
            go_region
            go_wp2_with fail
            refine bodyPost_ret (v := .tuple #[.agg #[.int .i64 1, .int .i64 q, .string (s.extract q (q + N)), .bool gl], .int .i64 ((q + N : Nat) : Int), .int .i64 0]) (by simp [results, Try.results13, go_sem, g0, g1, g2, g3]) rfl ?_
            refine next_wd hlt (by rw [HHC.out]; exact H10.out) (by rw [HHC.out]; exact H46.out) (by rw [HHC.out]; exact H3.out) HHN.out HHF.out hN0.out ?_
            exact (below_set4 ((B3.setCell (p := ⟨g, 0, none⟩) (Nat.le_of_lt hwg) _).setCell (p := ⟨g, 2, none⟩) (Nat.le_of_lt hwg) _) (Nat.le_refl _) _ _ _ _).drew.drew
          · have HHF := Lib.hid hF
            clear hF
            go_wp2_with fail
            refine (HDg.out _).mono ?_
            rintro e wz ⟨rfl, rfl⟩
            go_wp2_with fail
            refine (HLt.out _).mono ?_
            rintro e wz ⟨rfl, rfl⟩
            go_wp2_with fail
            refine (HW.out _).mono ?_
            rintro e w3 ⟨rfl, d3⟩
            have HR3 := Lib.hid (carry_block HR2.out d3)
            have B3 := B2.trans (d3.mono B2.size)
            clear d3 B2 HG2 HR2
            obtain ⟨⟨g0, g1, g2, g3⟩, f0, f1, f2, f3⟩ := four_cells HR3.out
            go_wp2_with fail
            refine bodyPost_ret (v := .tuple #[.agg #[.int .i64 0, .int .i64 0, .string ⟨#[]⟩, .bool false], .int .i64 ((q + N : Nat) : Int), .int .i64 120]) (by simp [results, Try.results13, go_sem, g0, g1, g2, g3]) rfl ?_
            refine next_wdE hlt (by rw [HHC.out]; exact H10.out) (by rw [HHC.out]; exact H46.out) (by rw [HHC.out]; exact H3.out) HHN.out HHF.out ?_
            exact below_set4 B3 (Nat.le_refl _) _ _ _ _
      · rw [hdg] at HDg
        have hdg' : isDg (clsL (s.data.toList.drop q)) = true := by rw [HHC.out]; exact hdg
        have HN := Lib.hid fun w => rnumber_any s q hlt hs (nm_facts hlt hdg').1 w
        unfold NumIs at HN
        obtain ⟨N, hN⟩ : ∃ N, numN (s.data.toList.drop q) = N := ⟨_, rfl⟩
        obtain ⟨E, hE⟩ : ∃ E, numErr (s.data.toList.drop q) = E := ⟨_, rfl⟩
        obtain ⟨x, hx⟩ : ∃ x, ofL (numT (s.data.toList.drop q)) = x := ⟨_, rfl⟩
        rw [hN, hE, hx] at HN
        have HHN := Lib.hid hN
        have HHX := Lib.hid hx
        have H3 := Lib.hid hdg'
        clear hdg hdg' hN hx
        by_cases hE0 : E = 0
        · subst hE0
          have HHE := Lib.hid hE
          have hxs : Hid (x.size = N) := by
            rw [← HHX.out, ← HHN.out, ofL_size]
            exact (num_text hE).2
          have hNle : q + N ≤ s.size := by
            have := measN_le (s.data.toList.drop q)
            rw [(nm_facts hlt H3.out).2.2.1, HHN.out, List.length_drop, ← Lib.size_eq] at this
            omega
          clear hE
          go_wp2_with fail
          refine (HDg.out _).mono ?_
          rintro e wz ⟨rfl, rfl⟩
          go_wp2_with fail
          refine (HN.out _).mono ?_
          rintro e w3 ⟨rfl, d3⟩
          have HG3 := Lib.hid (carry_block HG2.out d3)
          have HR3 := Lib.hid (carry_block HR2.out d3)
          have B3 := B2.trans (d3.mono B2.size)
          clear d3 B2 HG2 HR2
          obtain ⟨⟨g0, g1, g2, g3⟩, f0, f1, f2, f3⟩ := four_cells HR3.out
          obtain ⟨⟨k0, k1, k2, k3⟩, j0, j1, j2, j3⟩ := four_cells HG3.out
          have hx30 : (x.size : Int) ≤ 1000000 := by have := hxs.out; omega
          go_wp2_with fail
          go_region
          go_wp2_with fail
          refine bodyPost_ret (v := .tuple #[.agg #[.int .i64 2, .int .i64 q, .string x, .bool gl], .int .i64 ((q + N : Nat) : Int), .int .i64 0]) (by simp [results, Try.results13, go_sem, g0, g1, g2, g3, hxs.out]) rfl ?_
          refine next_nm hlt H3.out HHE.out HHN.out HHX.out ?_
          exact (below_set4 ((B3.setCell (p := ⟨g, 0, none⟩) (Nat.le_of_lt hwg) _).setCell (p := ⟨g, 2, none⟩) (Nat.le_of_lt hwg) _) (Nat.le_refl _) _ _ _ _).drew
        · have HHE := Lib.hid hE
          have hEn : (E != 0) = true := by simpa using hE0
          have HE0 := Lib.hid hE0
          clear hE hE0
          go_wp2_with fail
          refine (HDg.out _).mono ?_
          rintro e wz ⟨rfl, rfl⟩
          go_wp2_with fail
          refine (HN.out _).mono ?_
          rintro e w3 ⟨rfl, d3⟩
          have HR3 := Lib.hid (carry_block HR2.out d3)
          have B3 := B2.trans (d3.mono B2.size)
          clear d3 B2 HG2 HR2
          obtain ⟨⟨g0, g1, g2, g3⟩, f0, f1, f2, f3⟩ := four_cells HR3.out
          go_wp2_with fail
          refine bodyPost_ret (v := .tuple #[.agg #[.int .i64 0, .int .i64 0, .string ⟨#[]⟩, .bool false], .int .i64 ((q + N : Nat) : Int), .int .i64 E]) (by simp [results, Try.results13, go_sem, g0, g1, g2, g3]) rfl ?_
          refine next_nmE hlt H3.out HHE.out HHN.out HE0.out ?_
          exact below_set4 B3 (Nat.le_refl _) _ _ _ _
end Go.Proofs.Ythccgpjbchlocaa
