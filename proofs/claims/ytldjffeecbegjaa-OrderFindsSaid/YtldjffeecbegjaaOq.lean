/- Law OrderFinds: its walk. -/
import Derived.Test.YtldjffeecbegjaaOh
import Derived.Test.YtldjffeecbegjaaOp
import Derived.Deep.CutBlock
namespace Go.Proofs.Ytldjffeecbegjaa
open Go.RowKit

theorem cnt_sorted (v : Int) : ∀ (S : List Pr), InOrder ltP S → (∀ i p, S[i]? = some p → i < (S.filter fun p => decide (p.1 < v)).length → p.1 < v) ∧ (∀ i p, S[i]? = some p → (S.filter fun p => decide (p.1 < v)).length ≤ i → ¬ p.1 < v)
  | [], _ => ⟨fun i p h => by simp at h, fun i p h => by simp at h⟩
  | x :: S, h => by
    obtain ⟨h1, h2⟩ := cnt_sorted v S (order_tail h)
    by_cases hx : x.1 < v
    · rw [List.filter_cons, if_pos (by simpa using hx), List.length_cons]
      refine ⟨fun i p hp hi => ?_, fun i p hp hi => ?_⟩
      · cases i with
        | zero => simp at hp; subst hp; exact hx
        | succ i => simp only [List.getElem?_cons_succ] at hp; exact h1 i p hp (by omega)
      · cases i with
        | zero => omega
        | succ i => simp only [List.getElem?_cons_succ] at hp; exact h2 i p hp (by omega)
    · have hnil : (x :: S).filter (fun p => decide (p.1 < v)) = [] := by
        rw [List.filter_eq_nil_iff]
        intro y hy
        have := order_all ltP_ahead h y hy
        unfold ltP at this
        simp at this ⊢
        omega
      rw [hnil]
      refine ⟨fun i p hp hi => by simp at hi, fun i p hp _ => ?_⟩
      have hm := List.mem_of_getElem? hp
      have := order_all ltP_ahead h p hm
      unfold ltP at this
      simp at this
      omega
theorem cntB_all (v : Int) (S : List Pr) (n : Nat) (h : S.length = n) : cntB v S n = (S.filter fun p => decide (p.1 < v)).length := by
  unfold cntB
  rw [List.take_of_length_le (by omega)]
theorem cmpN_zero (a b : Int) : (cmpN a b == 0) = decide (a = b) := by
  unfold cmpN
  split
  · rw [decide_eq_false (by omega)]; rfl
  · split
    · rw [decide_eq_false (by omega)]; rfl
    · rw [decide_eq_true (by omega)]; rfl

set_option maxRecDepth 100000 in
set_option maxHeartbeats 8000000 in
theorem finds_core (A : Option Addr) (n c : Nat) (xs : List Pr) (C : Option Addr) (k d : Nat) (zs : List Int) (hc : A = none → c = 0) (hnc : n ≤ c) (hcm : c ≤ 9223372036854775807) (hk : k ≤ 9223372036854775807) (w : World)
    (hR : Reads w w.heap.size 2 A n (cellsP xs)) (hS : Reads w w.heap.size 1 C k (ints zs)) :
    Calls Try.prog 4 #[.slice A n c, .slice C k d] w fun e w' => e = .returned (.bool true) ∧ Below w.heap.size w w' := by
  obtain ⟨na, hna⟩ : ∃ na, min n 60 = na := ⟨_, rfl⟩
  obtain ⟨xa, hxa⟩ : ∃ xa, xs.take 60 = xa := ⟨_, rfl⟩
  have ha60 : na ≤ 60 := by omega
  have HF := Lib.hid fun (W : World) (b : Below w.heap.size w W) => few_any A n c xs hc hnc hcm W ((hR.below b).more b.size)
  rw [hna, hxa] at HF
  have HRL := Lib.hid hS
  clear hna hxa hR hS hc hcm hnc
  go_enter Try.func4, Try.ntmps4
  go_wp2_with fail
  refine (wakes_order _).mono ?_
  rintro e w1 ⟨rfl, b1⟩
  have B1 := Lib.hid b1
  clear b1
  go_wp2_with fail
  refine (HF.out _ B1.out).mono ?_
  rintro e w2 ⟨A2, c2, rfl, o2, k2, k3, b2⟩
  have B2 : Hid (Below w.heap.size w w2) := B1.out.trans (b2.mono B1.out.size)
  have R2 := Lib.hid (reads_own o2)
  have HLA := Lib.hid (reads_len (reads_own o2))
  clear o2 b2 B1
  go_wp2_with fail
  refine (least_any A2 na c2 xa (by omega) w2 R2.out).mono ?_
  rintro e w3 ⟨rfl, b3⟩
  have B3 : Hid (Below w.heap.size w w3) := B2.out.trans (b3.mono B2.out.size)
  have R3 := Lib.hid ((R2.out.below b3).more b3.size)
  clear b3 R2 B2
  obtain ⟨z, hz⟩ : ∃ z : Int, z = if 0 < na then (lstK ltP xa na : Int) else -1 := ⟨_, rfl⟩
  obtain ⟨l, hl⟩ : ∃ l, lstK ltP xa na = l := ⟨_, rfl⟩
  have hl0 : ¬ 0 < na → l = 0 := fun h => by
    have h0 : na = 0 := by omega
    rw [← hl, h0]; rfl
  obtain ⟨ok, hok⟩ : ∃ ok, decide (0 < na) = ok := ⟨_, rfl⟩
  have HZ := Lib.hid hz
  rw [hl] at hz
  have HZL := Lib.hid (And.intro hz (And.intro hl0 hok))
  rw [hl, hok]
  clear hz hl hl0 hok
  go_wp2_with fail
  refine (rleast_any A2 na c2 xa z HZ.out (by omega) w3 R3.out).mono ?_
  rintro e w4 ⟨rfl, b4⟩
  have B4 : Hid (Below w.heap.size w w4) := B3.out.trans (b4.mono B3.out.size)
  have R4 := Lib.hid ((R3.out.below b4).more b4.size)
  clear b4 R3 B3 HZ
  go_upto_region 6 with fail
  go_cut [46] (fun s46 wx => s46 = .bool false ∧ w4 = wx)
  case first =>
    obtain ⟨hz, hl0, hok⟩ := HZL.out
    by_cases h0 : 0 < na
    · have e1 : ok = true := by rw [← hok]; simpa using h0
      rw [if_pos h0] at hz
      subst e1
      subst hz
      have hge : (0 : Int) ≤ (l : Int) := by omega
      clear hok hl0 h0
      go_wp2_with fail
      go_meet
      exact ⟨rfl, rfl⟩
    · have e1 : ok = false := by rw [← hok]; simpa using h0
      rw [if_neg h0] at hz
      have hl := hl0 h0
      subst e1
      subst hz
      subst hl
      clear hok hl0 h0
      go_wp2_with fail
      go_meet
      exact ⟨rfl, rfl⟩
  case rest =>
    obtain ⟨rfl, rfl⟩ := hcut
    go_wp2_with fail
    refine (uniq_any A2 na c2 xa (by omega) w4 R4.out).mono ?_
    rintro e w5 ⟨A5, c5, rfl, o5, _, _, b5⟩
    have B5 : Hid (Below w.heap.size w w5) := B4.out.trans (b5.mono B4.out.size)
    have R5 := Lib.hid ((R4.out.below b5).more b5.size)
    have U5 := Lib.hid (reads_own o5)
    clear b5 o5 R4 B4
    go_wp2_with fail
    refine (HF.out _ B5.out).mono ?_
    rintro e w6 ⟨A6, c6, rfl, o6, _, _, b6⟩
    have B6 : Hid (Below w.heap.size w w6) := B5.out.trans (b6.mono B5.out.size)
    have R6 := Lib.hid ((R5.out.below b6).more b6.size)
    have U6 := Lib.hid ((U5.out.below b6).more b6.size)
    have V6 := Lib.hid (reads_own o6)
    clear b6 o6 R5 U5 B5
    go_wp2_with fail
    refine (runiq_any A6 na c6 xa (by omega) w6 V6.out).mono ?_
    rintro e w7 ⟨A7, c7, rfl, o7, _, _, b7⟩
    have B7 : Hid (Below w.heap.size w w7) := B6.out.trans (b7.mono B6.out.size)
    have R7 := Lib.hid ((R6.out.below b7).more b7.size)
    have U7 := Lib.hid ((U6.out.below b7).more b7.size)
    have V7 := Lib.hid (reads_own o7)
    have hul := uniqK_le xa na
    clear b7 o7 R6 U6 V6 B6
    go_wp2_with fail
    refine (equalP_same A5 A7 _ c5 c7 _ (by omega) w7 U7.out V7.out).mono ?_
    rintro e w8 ⟨rfl, b8⟩
    have B8 : Hid (Below w.heap.size w w8) := B7.out.trans (b8.mono B7.out.size)
    have R8 := Lib.hid ((R7.out.below b8).more b8.size)
    clear b8 R7 U7 V7 B7 hul
    go_wp2_with fail
    refine (HF.out _ B8.out).mono ?_
    rintro e w9 ⟨A9, c9, rfl, o9, _, _, b9⟩
    have B9 : Hid (Below w.heap.size w w9) := B8.out.trans (b9.mono B8.out.size)
    have R9 := Lib.hid ((R8.out.below b9).more b9.size)
    have V9 := Lib.hid (reads_own o9)
    clear b9 o9 R8 B8
    go_wp2_with fail
    refine (rsort_any A9 na c9 xa (by omega) w9 V9.out).mono ?_
    rintro e w10 ⟨A10, c10, rfl, o10, _, _, b10⟩
    have B10 : Hid (Below w.heap.size w w10) := B9.out.trans (b10.mono B9.out.size)
    have R10 := Lib.hid ((R9.out.below b10).more b10.size)
    have V10 := Lib.hid (reads_own o10)
    clear b10 o10 R9 V9 B9
    have HSO := Lib.hid (srt_order ltP_ahead xa)
    have HSL : Hid ((srt ltP xa).length = na) := by have := srt_len ltP_ahead xa; rw [HLA.out] at this; exact this
    generalize srt ltP xa = S at *
    go_upto_block 0 with fail
    go_cut [59] (fun s59 wx => Hid (Below w10.heap.size w10 wx))
    case first =>
      go_wp2_with fail
      go_loopg [59] k (fun gg s59 wr => ∃ i : Nat, i + gg = k ∧ s59 = .int .i64 i ∧ Hid (Below w10.heap.size w10 wr))
      case atStart => exact ⟨0, by omega, rfl, Below.refl _ _⟩
      case round =>
        obtain ⟨i, hig, rfl, HB⟩ := hrel
        cases gk with
        | zero =>
          have hge : ¬ (i : Int) < (k : Int) := by omega
          clear hig
          go_wp2_with fail
          go_meet
          exact HB
        | succ g2 =>
          have hlt : (i : Int) < (k : Int) := by omega
          have hi0 : (0 : Int) ≤ (i : Int) := by omega
          obtain ⟨b, off, v, rfl, hb, _, hc0⟩ := at_int (HRL.out.below (B10.out.trans (HB.out.mono B10.out.size))) (show i < k by omega)
          have HIG := Lib.hid hig
          clear hig
          by_cases h20 : i = 20
          · have h20b : ((i : Int) == 20) = true := by simp; omega
            have HB1 : Hid (Below w10.heap.size w10 (wr.alloc (.cells #[.int .i64 v] 3))) := HB.out.alloc HB.out.size _
            clear h20
            go_wp2_with fail
            go_meet
            exact HB1
          · have h20b : ((i : Int) == 20) = false := by simp; omega
            have HB1 : Hid (Below w10.heap.size w10 (wr.alloc (.cells #[.int .i64 v] 3))) := HB.out.alloc HB.out.size _
            obtain ⟨G, hG⟩ : ∃ G, wr.heap.size = G := ⟨_, rfl⟩
            have bg := Blk.new wr 3 #[.int .i64 v]
            rw [hG] at bg
            have HG := Lib.hid bg
            clear bg h20
            have y0 : (wr.alloc (.cells #[.int .i64 v] 3)).cell? ⟨G, 0, none⟩ = some (.int .i64 v) := HG.out.cell 0
            obtain ⟨j, hj⟩ : ∃ j, cntB v S na = j := ⟨_, rfl⟩
            have hjn : j ≤ na := by rw [← hj]; exact cntB_le _ _ _
            obtain ⟨hlo, hhi⟩ := cnt_sorted v S HSO.out
            rw [← cntB_all v S na HSL.out, hj] at hlo hhi
            have HJ := Lib.hid hj
            have HBE := Lib.hid fun (W : World) (b : Below w10.heap.size w10 W) => rbelow_any A10 na c10 S v (by omega) W ((V10.out.below b).more b.size)
            rw [hj] at HBE
            have HFI := Lib.hid fun (W : World) (bb : Bool) (b : Below w10.heap.size w10 W) (hg : Blk W G 3 #[.int .i64 v]) (hbb : j < na → ∀ p, S[j]? = some p → bb = (cmpN p.1 v == 0)) (hb0 : ¬ j < na → bb = false) =>
              find_finds (.pointer (some ⟨G, 0, none⟩)) A10 na c10 j S (fun p => cmpN p.1 v) bb (by omega) W ((V10.out.below b).more b.size) hjn
                (fun i p hp hi => by rw [cmpN_neg]; exact hlo i p hp hi) (fun i p hp hi => by rw [cmpN_neg]; exact hhi i p hp hi) hbb hb0
                (fun p _ W' b' => finds_ask p G v W' ((b'.cell (p := ⟨G, 0, none⟩) hg.lt).trans (hg.cell 0)) (Nat.lt_of_lt_of_le hg.lt b'.size))
            clear hlo hhi hj
            go_wp2_with fail
            clear y0 hc0 hG HB
            generalize wr.alloc (.cells #[.int .i64 v] 3) = wx at *
            by_cases hjl : j < na
            · obtain ⟨p, hp⟩ : ∃ p, S[j]? = some p := ⟨S[j]'(by rw [HSL.out]; exact hjl), List.getElem?_eq_getElem _⟩
              refine (HFI.out wx (decide (p.1 = v)) HB1.out HG.out (fun _ p' hp' => by rw [hp] at hp'; injection hp' with hp'; subst hp'; rw [cmpN_zero]) (fun h => absurd hjl h)).mono ?_
              rintro e w11 ⟨rfl, b11⟩
              have HB2 : Hid (Below w10.heap.size w10 w11) := HB1.out.trans (b11.mono HB1.out.size)
              have HG2 := Lib.hid (HG.out.below b11 HG.out.lt)
              clear b11 HB1 HG
              have y0 : w11.cell? ⟨G, 0, none⟩ = some (.int .i64 v) := HG2.out.cell 0
              have hpe : (p.1 == v) = decide (p.1 = v) := by rw [Bool.eq_iff_iff]; simp
              generalize decide (p.1 = v) = bb at *
              go_wp2_with fail
              refine (HBE.out w11 HB2.out).mono ?_
              rintro e w12 ⟨rfl, b12⟩
              have HB3 : Hid (Below w10.heap.size w10 w12) := HB2.out.trans (b12.mono HB2.out.size)
              have y1 : w12.cell? ⟨G, 0, none⟩ = some (.int .i64 v) := (HG2.out.below b12 HG2.out.lt).cell 0
              obtain ⟨b', o', rfl, hb', x0, x1⟩ := pr_at (V10.out.below HB3.out) hp
              have hjl2 : (j : Int) < (na : Int) := by omega
              have hj0 : (0 : Int) ≤ (j : Int) := by omega
              clear b12 y0 hp HFI HBE HB2
              cases bb
              · go_wp2_with fail
                go_quiet (fail)
                go_wp2_with fail
                go_roundg g2
                case measure => omega
                case rel => exact ⟨i + 1, by have := HIG.out; omega, by go_num, below_drewN HB3.out _⟩
              · go_wp2_with fail
                go_quiet (fail)
                go_wp2_with fail
                go_roundg g2
                case measure => omega
                case rel => exact ⟨i + 1, by have := HIG.out; omega, by go_num, below_drewN HB3.out _⟩
            · refine (HFI.out wx false HB1.out HG.out (fun h => absurd h hjl) (fun _ => rfl)).mono ?_
              rintro e w11 ⟨rfl, b11⟩
              have HB2 : Hid (Below w10.heap.size w10 w11) := HB1.out.trans (b11.mono HB1.out.size)
              have HG2 := Lib.hid (HG.out.below b11 HG.out.lt)
              clear b11 HB1 HG
              have y0 : w11.cell? ⟨G, 0, none⟩ = some (.int .i64 v) := HG2.out.cell 0
              go_wp2_with fail
              refine (HBE.out w11 HB2.out).mono ?_
              rintro e w12 ⟨rfl, b12⟩
              have HB3 : Hid (Below w10.heap.size w10 w12) := HB2.out.trans (b12.mono HB2.out.size)
              have hjl2 : ¬ (j : Int) < (na : Int) := by omega
              have hjl3 : decide ((j : Int) < (na : Int)) = false := by simp; omega
              clear b12 y0 HFI HBE HB2
              go_wp2_with fail
              go_quiet (fail)
              go_wp2_with fail
              go_roundg g2
              case measure => omega
              case rel => exact ⟨i + 1, by have := HIG.out; omega, by go_num, below_drewN HB3.out _⟩
    case rest =>
      have HB := hcut
      have BW : Hid (Below w.heap.size w wc) := B10.out.trans (HB.out.mono B10.out.size)
      go_wp2_with fail
      refine (HF.out _ BW.out).mono ?_
      rintro e w13 ⟨A13, c13, rfl, o13, _, _, b13⟩
      have B13 : Hid (Below w.heap.size w w13) := BW.out.trans (b13.mono BW.out.size)
      have R13 := Lib.hid ((R10.out.below (HB.out.trans (b13.mono HB.out.size))).more (Nat.le_trans HB.out.size b13.size))
      have V13 := Lib.hid (reads_own o13)
      clear o13 b13
      go_wp2_with fail
      refine (equalP_same A2 A13 na c2 c13 _ (by omega) w13 R13.out V13.out).mono ?_
      rintro e w14 ⟨rfl, b14⟩
      have B14 : Hid (Below w.heap.size w w14) := B13.out.trans (b14.mono B13.out.size)
      clear b14
      go_wp2_with fail
      go_ret
      exact ⟨rfl, B14.out⟩
end Go.Proofs.Ytldjffeecbegjaa
