/- BitsBack: the walk. -/
import Derived.Test.YtpkpfnilfabkaaaDoorBt
import Derived.Test.YtpkpfnilfabkaaaDoorBv
namespace Go.Proofs.YtpkpfnilfabkaaaDoor
open Go.RowKit

theorem s_next (s : SV) (w : World) (z : Int) (f : Nat) (hz : max z 0 = (f : Int)) (hf : f ≤ 9223372036854775807) (hT : Tab w) (hs : s.ok w w.heap.size) :
    Calls Tryd.prog 25 #[.agg #[.slice s.A s.n s.c], .int .i64 z] w (NextOk ((numsF (inW s.ws)).filter fun n => decide (f ≤ n)) w) := by
  have := next_any s.A s.n s.c z f hz hf s.ws hs.2.1 hs.2.2 w hT hs.1
  rwa [rem_from] at this
theorem filter_zero (l : List Nat) : (l.filter fun n => decide (0 ≤ n)) = l := List.filter_eq_self.2 fun n _ => by simp
theorem nums_in {xs : List Nat} {n : Nat} (h : n ∈ numsF (inW xs)) : n < 10000 := in_lt (mem_nums.1 h).2
theorem got_in (f : Nat → Bool) (hf : ∀ n, f n = true → n < 10000) {ws : List Nat} (h : ws = setW f) (n : Nat) : inW ws n = f n := by rw [h]; exact in_set hf n
theorem RI.own_below {w w' : World} {base : Nat} {A : Option Addr} {n c : Nat} {zs : List Int} (h : w.ownsRow base 3 1 (.slice A n c) n (ints zs)) (hb : Below w.heap.size w w') : w'.ownsRow base 3 1 (.slice A n c) n (ints zs) := Go.Proofs.YtpkpfnilfabkaaaDoor.own_below h hb

theorem hasZ_nat {ws : List Nat} {x : Nat} (h : inW ws x = true) : hasZ ws (x : Int) = true := by
  have h1 := in_lt h
  have h2 : mayB (x : Int) = true := by unfold mayB; rw [decide_eq_true (by omega), decide_eq_true (by omega)]; rfl
  unfold hasZ
  rw [h2, Int.toNat_natCast, h]; rfl
/-- How far the numbers have been told, one by one. -/
structure BackIs (W0 : World) (L : List Nat) (k : Nat) (v : Value) (wr : World) : Prop where
  below : Below W0.heap.size W0 wr
  own : wr.ownsRow W0.heap.size 3 1 v k (ints (intsN (L.take k)))
theorem BackIs.on {W0 : World} {L : List Nat} {k : Nat} {v : Value} {wr w' : World} (h : BackIs W0 L k v wr) (hb : Below wr.heap.size wr w') : BackIs W0 L k v w' :=
  ⟨h.below.trans (hb.mono h.below.size), own_below h.own hb⟩
theorem take_ints {L : List Nat} {k : Nat} (hk : k < L.length) : ints (intsN (L.take (k + 1))) = ints (intsN (L.take k)) ++ [.int .i64 ((L.getD k 0 : Nat) : Int)] := by
  rw [take_snoc' (d := 0) hk, intsN_snoc]
theorem one_read (W : World) (x : Int) : Reads (W.alloc (.cells #[.int .i64 x] 3)) (W.alloc (.cells #[.int .i64 x] 3)).heap.size 1 (some ⟨W.heap.size, 0, none⟩) 1 [.int .i64 x] :=
  ⟨rfl, fun _ => ⟨_, rfl, by show W.heap.size < _; simp, fun j u hu => by
    rw [Go.WideShapes.add_plain, (Blk.new W 3 #[.int .i64 x]).cell, Nat.zero_add]
    simpa using hu⟩⟩
theorem BackIs.step {W0 : World} {L : List Nat} {k : Nat} {v v' : Value} {wr w' : World} {x : Nat} (h : BackIs W0 L k v wr) (hk : k < L.length) (hx : L.getD k 0 = x)
    (hown : w'.ownsRow W0.heap.size 3 1 v' (k + 1) (ints (intsN (L.take k)) ++ [.int .i64 (x : Int)])) (hg : (wr.alloc (.cells #[.int .i64 (x : Int)] 3)).grownBy w' v.ownBlock) : BackIs W0 L (k + 1) v' w' := by
  refine ⟨(h.below.alloc h.below.size _).grown hg (by have := h.below.size; simp; omega) (fun j hj => (h.own.lt j hj).1), ?_⟩
  rw [take_ints hk, hx]; exact hown

set_option maxRecDepth 100000 in
set_option maxHeartbeats 4000000 in
theorem back_core (A : Option Addr) (n c : Nat) (xs : List Nat) (z : Int) (h64 : W64 xs) (hnc : n ≤ c) (hcm : c ≤ 9223372036854775807) (hz0 : -9223372036854775808 ≤ z) (hz1 : z ≤ 9223372036854775807) (w : World) (hT : Tab w) (hA : RW w w.heap.size A n xs) :
    Calls Tryd.prog 6 #[.agg #[.slice A n c], .int .i64 z] w fun e w' => e = .returned (.bool true) ∧ Below w.heap.size w w' := by
  have bx : Below w.heap.size w (w.alloc (.cells #[.slice A n c] 24)) := one_more w _
  have HK := Lib.hid ((Blk.new w 24 #[.slice A n c]))
  have HWK := Lib.hid (wakes_any _ (hT.on bx))
  have HT := Lib.hid fun W h => hT.on (w' := W) h
  have HO := Lib.hid fun W (h : Below w.heap.size w W) => own_any A n c xs h64 hnc hcm W ((hA.below h).more h.size)
  clear hT hA
  go_enter Tryd.func6, Tryd.ntmps6
  go_wp2_with fail
  refine HWK.out.mono ?_
  rintro e w1 ⟨rfl, b1⟩
  have B1 : Hid (Below w.heap.size w w1) := bx.trans (b1.mono bx.size)
  have K1 := Lib.hid (HK.out.below b1 (by simp))
  have x0 := K1.out.cell 0
  clear b1 bx HK HWK
  go_wp2_with fail
  refine (HO.out _ B1.out).mono ?_
  rintro e w2 ⟨s, rfl, hsw, hok, _, b2⟩
  have E0 : Hid (Env w [] w2) := Env.zero (HT.out _ (B1.out.trans (b2.mono B1.out.size))) (B1.out.trans (b2.mono B1.out.size))
  have E1 := Lib.hid (E0.out.add hok)
  clear hsw hok b2 B1 K1 HO x0 HT E0
  have x5 := E1.out.cell (.head _)
  go_wp2_with fail
  generalize w2.alloc (.cells #[.slice s.A s.n s.c] 24) = W2 at *
  generalize w2.heap.size = p5 at *
  refine (s_list s W2 E1.out.tab (E1.out.ok (.head _))).mono ?_
  rintro e w3 ⟨v3, rfl, hown3, b3⟩
  obtain ⟨L, hL⟩ : ∃ L, numsF (inW s.ws) = L := ⟨_, rfl⟩
  rw [hL] at hown3
  have HL := Lib.hid hL
  have hLlen : L.length ≤ 10048 := by rw [← hL]; exact nums_len _
  have HSRT : Hid (L.Pairwise (· < ·)) := by show _; rw [← hL]; exact nums_sorted _
  have HLT : Hid (∀ n ∈ L, n < 10000) := fun n hn => by rw [← hL] at hn; exact nums_in hn
  obtain ⟨A3, c3, rfl, hc3, hm3⟩ := own_form1 hown3
  have R3 := Lib.hid (RI.of_own hown3)
  obtain ⟨N, hN⟩ : ∃ N, L.length = N := ⟨_, rfl⟩
  rw [hN] at R3 hLlen hc3
  rw [hN]
  have HN := Lib.hid hN
  have E2 := Lib.hid (E1.out.on b3)
  clear hown3 b3 E1 x5 hL hN
  go_wp2_with fail
  refine (of_yes A3 N c3 (intsN L) (may_intsN HLT.out) (by omega) w3 R3.out).mono ?_
  intro e w4 h4
  obtain ⟨t, rfl, ht, hokt, _, b4⟩ := gotErr_of (can_set _).1 (setW_le _) h4
  rw [← HL.out, ofF_nums] at ht
  have HTW := Lib.hid ht
  have E3 := Lib.hid ((E2.out.on b4).add hokt)
  have R4 := Lib.hid ((R3.out.below b4).more b4.size)
  clear h4 hokt b4 ht E2 R3
  have b5 := one_more w4 (.cells #[.slice t.A t.n t.c] 24)
  have R5 := Lib.hid ((R4.out.below b5).more b5.size)
  clear b5 R4
  have x5 := E3.out.cell (.tail _ (.head _))
  have x7 := E3.out.cell (.head _)
  have QT : Hid (∀ W, t.ok W W.heap.size → Calls Tryd.prog 12 #[.agg #[.slice t.A t.n t.c]] W fun e w' => e = .returned (.int .i64 0) ∧ Below W.heap.size W w') := fun W h => by
    have := s_check t W h
    rwa [show checkE t.ws = 0 by rw [HTW.out]; unfold checkE; rw [if_pos (right_set fun k hk => in_lt hk)]] at this
  have QS : Hid (∀ W, t.ok W W.heap.size → s.ok W W.heap.size → Calls Tryd.prog 14 #[.agg #[.slice t.A t.n t.c], .agg #[.slice s.A s.n s.c]] W fun e w' => e = .returned (.bool true) ∧ Below W.heap.size W w') := fun W h h' => by
    have := s_same t s W h h'
    rwa [show sameF (inW t.ws) (inW s.ws) = true by
      rw [sameF_iff]; intro n _; exact got_in _ (fun k hk => in_lt hk) HTW.out n] at this
  have QC : Hid (∀ W, s.ok W W.heap.size → Calls Tryd.prog 17 #[.agg #[.slice s.A s.n s.c]] W fun e w' => e = .returned (.int .i64 (N : Int)) ∧ Below W.heap.size W w') := fun W h => by
    have := s_count s W h
    rwa [HL.out, HN.out] at this
  have QK := Lib.hid fun W h => s_check s W h
  go_wp2_with fail
  generalize w4.alloc (.cells #[.slice t.A t.n t.c] 24) = W4 at *
  generalize w4.heap.size = p7 at *
  refine (QT.out _ (E3.out.ok (.head _))).mono ?_
  rintro e w5 ⟨rfl, b5⟩
  have E4 := Lib.hid (E3.out.on b5)
  have R6 := Lib.hid ((R5.out.below b5).more b5.size)
  have y5 := E4.out.cell (.tail _ (.head _))
  have y7 := E4.out.cell (.head _)
  clear b5 E3 R5 x5 x7 QT
  go_wp2_with fail
  refine (QS.out _ (E4.out.ok (.head _)) (E4.out.ok (.tail _ (.head _)))).mono ?_
  rintro e w6 ⟨rfl, b6⟩
  have E5 := Lib.hid (E4.out.on b6)
  have R7 := Lib.hid ((R6.out.below b6).more b6.size)
  have x5 := E5.out.cell (.tail _ (.head _))
  have x7 := E5.out.cell (.head _)
  clear b6 E4 R6 y5 y7 QS
  go_wp2_with fail
  refine (QC.out _ (E5.out.ok (.tail _ (.head _)))).mono ?_
  rintro e w7 ⟨rfl, b7⟩
  have E6 := Lib.hid (E5.out.on b7)
  have R8 := Lib.hid ((R7.out.below b7).more b7.size)
  have y5 := E6.out.cell (.tail _ (.head _))
  have y7 := E6.out.cell (.head _)
  have hNN : ((N : Int) != (N : Int)) = false := by simp
  clear b7 E5 R7 x5 x7 QC
  go_wp2_with fail
  obtain ⟨i0, hi, hz0', hz1', hz2'⟩ := info_parts i64_info
  by_cases hr : rightW s.ws = true
  case' pos =>
    have hck : checkE s.ws = 0 := by unfold checkE; rw [if_pos hr]
    have HE : Hid (t.ws = s.ws) := by
      show _ = _
      rw [HTW.out, ← eff_set (E6.out.ok (.tail _ (.head _))).2.1]
      unfold effW; rw [if_pos hr]
    have QK2 : Hid (∀ W, s.ok W W.heap.size → Calls Tryd.prog 12 #[.agg #[.slice s.A s.n s.c]] W fun e w' => e = .returned (.int .i64 0) ∧ Below W.heap.size W w') := fun W h => by
      have := QK.out W h
      rwa [hck] at this
    clear hr hck QK
    refine (QK2.out _ (E6.out.ok (.tail _ (.head _)))).mono ?_
    rintro e w8 ⟨rfl, b8⟩
    have E7 := Lib.hid (E6.out.on b8)
    have R9 := Lib.hid ((R8.out.below b8).more b8.size)
    have x5 := E7.out.cell (.tail _ (.head _))
    have x7 := E7.out.cell (.head _)
    have HQ := Lib.hid (equal_u t.A s.A t.n s.n t.c s.c t.ws s.ws (by have := (E7.out.ok (.head _)).2.2; omega) (by have := (E7.out.ok (.tail _ (.head _))).2.2; omega) w8 (E7.out.ok (.head _)).1 (E7.out.ok (.tail _ (.head _))).1)
    rw [decide_eq_true HE.out] at HQ
    clear b8 E6 R8 y5 y7 QK2 HE
    go_wp2_with fail
    refine HQ.out.mono ?_
    rintro e w9 ⟨rfl, b9⟩
    have E8 := Lib.hid (E7.out.on b9)
    have R10 := Lib.hid ((R9.out.below b9).more b9.size)
    have z5 := E8.out.cell (.tail _ (.head _))
    have z7 := E8.out.cell (.head _)
    clear b9 E7 R9 x5 x7 HQ
  case' neg =>
    have hck : checkE s.ws = 140 := by unfold checkE; rw [if_neg hr]
    have QK2 : Hid (∀ W, s.ok W W.heap.size → Calls Tryd.prog 12 #[.agg #[.slice s.A s.n s.c]] W fun e w' => e = .returned (.int .i64 140) ∧ Below W.heap.size W w') := fun W h => by
      have := QK.out W h
      rwa [hck] at this
    clear hr hck QK
    refine (QK2.out _ (E6.out.ok (.tail _ (.head _)))).mono ?_
    rintro e w9 ⟨rfl, b9⟩
    have E8 := Lib.hid (E6.out.on b9)
    have R10 := Lib.hid ((R8.out.below b9).more b9.size)
    have z5 := E8.out.cell (.tail _ (.head _))
    have z7 := E8.out.cell (.head _)
    clear b9 E6 R8 y5 y7 QK2
  all_goals
    have HN0 := Lib.hid (s_next s w9 0 0 (by decide) (by decide) E8.out.tab (E8.out.ok (.tail _ (.head _))))
    rw [filter_zero, HL.out] at HN0
    go_wp2_with fail
    refine HN0.out.mono ?_
    rintro e w10 ⟨rfl, b10⟩
    have E9 := Lib.hid (E8.out.on b10)
    have R11 := Lib.hid ((R10.out.below b10).more b10.size)
    clear b10 E8 R10 z5 z7 HN0
    go_wp2_with fail
    go_loopg [9, 10, 11] N (fun gg s9 s10 s11 wr => ∃ (k : Nat), k + gg = N ∧ s10 = .int .i64 (firstN (L.drop k) : Int) ∧ s11 = .bool (someN (L.drop k)) ∧ Hid (BackIs w10 L k s9 wr))
    case atStart => exact ⟨0, by omega, by rw [List.drop_zero], by rw [List.drop_zero], Below.refl _ _, World.ownsRow_nil _ _ _ _⟩
    case round =>
      obtain ⟨k, hk, rfl, rfl, HB⟩ := hrel
      cases gk with
      | succ g2 =>
        have hkl : k < L.length := by rw [HN.out]; omega
        obtain ⟨e1, e2⟩ := first_drop hkl
        have HLTx := HLT.out (L.getD k 0) (by rw [List.getD_eq_getElem?_getD, List.getElem?_eq_getElem hkl]; exact List.getElem_mem hkl)
        have HINx : inW s.ws (L.getD k 0) = true := by
          have : L.getD k 0 ∈ numsF (inW s.ws) := by rw [HL.out, List.getD_eq_getElem?_getD, List.getElem?_eq_getElem hkl]; exact List.getElem_mem hkl
          exact (mem_nums.1 this).2
        have HDR := Lib.hid (drop_from HSRT.out hkl)
        have HSTP := Lib.hid fun (v v' : Value) (w1 w2 : World) (h : BackIs w10 L k v w1) => h.step (v' := v') (w' := w2) hkl rfl
        rw [e1, e2]
        obtain ⟨A9, c9, rfl, hc9, hm9⟩ := own_form1 HB.out.own
        have EA := Lib.hid (E9.out.on HB.out.below)
        have x5 := EA.out.cell (.tail _ (.head _))
        have HHAS : Hid (∀ W, s.ok W W.heap.size → Calls Tryd.prog 28 #[.agg #[.slice s.A s.n s.c], .int .i64 ((L.getD k 0 : Nat) : Int)] W fun e w' => e = .returned (.bool true) ∧ Below W.heap.size W w') := fun W h => by
          have := s_has s W ((L.getD k 0 : Nat) : Int) (by omega) (by omega) h
          rwa [show hasZ s.ws ((L.getD k 0 : Nat) : Int) = true from hasZ_nat HINx] at this
        have HNX : Hid (∀ W, Tab W → s.ok W W.heap.size → Calls Tryd.prog 25 #[.agg #[.slice s.A s.n s.c], .int .i64 (((L.getD k 0 : Nat) : Int) + 1)] W (NextOk (L.drop (k + 1)) W)) := fun W h h' => by
          have := s_next s W (((L.getD k 0 : Nat) : Int) + 1) (L.getD k 0 + 1) (by omega) (by omega) h h'
          rwa [HL.out, HDR.out] at this
        clear HINx e1 e2 HDR
        generalize L.getD k 0 = x at *
        have hkN : ¬ (N : Int) < (k : Int) := by omega
        have hkN2 : decide ((N : Int) < (k : Int)) = false := by simp; omega
        have HKG := Lib.hid hk
        have HKL := Lib.hid hkl
        clear hk hkl
        go_wp2_with fail
        refine (HHAS.out _ (EA.out.ok (.tail _ (.head _)))).mono ?_
        rintro e w11 ⟨rfl, b11⟩
        have HB1 := Lib.hid (HB.out.on b11)
        have hkk : k ≤ 10048 := by have := HKL.out; have := HN.out; omega
        clear b11 EA x5 HHAS HB
        go_wp2_with (at_builtin; refine wpList_append_any _ rfl (.tmp 82) (.tmp 84) 28 rfl w10.heap.size 3 i0 _ 1 8 Tryd.underlying28 hi hz0' hz1' hz2' rfl (by decide) _ k _ rfl (HB1.out.own.alloc _) (w11.alloc (.cells #[.int .i64 (x : Int)] 3)).heap.size (some ⟨w11.heap.size, 0, none⟩) 1 1 [.int .i64 (x : Int)] rfl (one_read w11 (x : Int)) (by simp [Value.oneCell']) (by unfold maxLen; omega) (by omega) (by have := HB1.out.below.size; simp; omega) ?_; intro v' w12 hown hgrow hat; have HB2 := Lib.hid (HSTP.out _ v' w11 w12 HB1.out hown hgrow); have EB := Lib.hid (E9.out.on HB2.out.below); have x5 := EB.out.cell (.tail _ (.head _)); clear hown hgrow hat HB1 HSTP)
        refine (HNX.out _ EB.out.tab (EB.out.ok (.tail _ (.head _)))).mono ?_
        rintro e w13 ⟨rfl, b13⟩
        have HB3 := Lib.hid (HB2.out.on b13)
        clear b13 EB x5 HB2 HNX
        go_wp2_with fail
        go_roundg g2
        case measure => omega
        case rel => exact ⟨k + 1, by have := HKG.out; omega, rfl, rfl, HB3⟩
      | zero =>
        obtain rfl : k = N := by omega
        obtain ⟨e1, e2⟩ := first_none (l := L) (k := k) (by rw [HN.out]; exact Nat.le_refl _)
        rw [e1, e2]
        obtain ⟨A9, c9, rfl, hc9, hm9⟩ := own_form1 HB.out.own
        have hown := HB.out.own
        rw [List.take_of_length_le (by rw [HN.out]; exact Nat.le_refl _)] at hown
        have R9 := Lib.hid (RI.of_own hown)
        have EA := Lib.hid (E9.out.on HB.out.below)
        have RA : Hid (RI wr wr.heap.size A3 k (intsN L)) := (R11.out.below HB.out.below).more HB.out.below.size
        have x5 := EA.out.cell (.tail _ (.head _))
        obtain ⟨f, hf⟩ : ∃ f : Nat, max z 0 = (f : Int) := ⟨(max z 0).toNat, by omega⟩
        have HNX := Lib.hid (s_next s wr z f hf (by omega) EA.out.tab (EA.out.ok (.tail _ (.head _))))
        rw [HL.out] at HNX
        clear hown e1 e2 HB
        go_wp2_with fail
        refine HNX.out.mono ?_
        rintro e w11 ⟨rfl, b11⟩
        have EB := Lib.hid (EA.out.on b11)
        have RB9 := Lib.hid ((R9.out.below b11).more b11.size)
        have RBA := Lib.hid ((RA.out.below b11).more b11.size)
        have HEQ := Lib.hid (equal_i A9 A3 k k c9 c3 (intsN L) (intsN L) (by omega) (by omega) w11 RB9.out RBA.out)
        rw [decide_eq_true rfl] at HEQ
        have HFN : Hid (someN (L.filter fun n => decide (f ≤ n)) = true → z ≤ (firstN (L.filter fun n => decide (f ≤ n)) : Int) ∧ hasZ s.ws (firstN (L.filter fun n => decide (f ≤ n)) : Int) = true ∧ firstN (L.filter fun n => decide (f ≤ n)) < 10000) := fun h => by
          obtain ⟨a, l, e⟩ : ∃ a l, (L.filter fun n => decide (f ≤ n)) = a :: l := by
            cases hc : (L.filter fun n => decide (f ≤ n)) with
            | nil => rw [hc] at h; cases h
            | cons a l => exact ⟨a, l, rfl⟩
          have hm : a ∈ L.filter fun n => decide (f ≤ n) := by rw [e]; exact List.mem_cons_self
          obtain ⟨m1, m2⟩ := List.mem_filter.1 hm
          have m3 : f ≤ a := by simpa using m2
          have m4 : inW s.ws a = true := by
            rw [← HL.out] at m1
            exact (mem_nums.1 m1).2
          rw [e]
          exact ⟨by show z ≤ (a : Int); omega, hasZ_nat m4, in_lt m4⟩
        clear b11 EA RA R9 x5 HNX hf
        generalize firstN (L.filter fun n => decide (f ≤ n)) = fn at *
        generalize someN (L.filter fun n => decide (f ≤ n)) = sm at *
        go_wp2_with fail
        refine HEQ.out.mono ?_
        rintro e w12 ⟨rfl, b12⟩
        have EC := Lib.hid (EB.out.on b12)
        have RC := Lib.hid ((RBA.out.below b12).more b12.size)
        have HS := Lib.hid (sorted_int A3 k c3 (intsN L) (by omega) (rises_intsN HSRT.out) w12 RC.out)
        clear b12 EB RB9 RBA HEQ
        go_wp2_with fail
        refine HS.out.mono ?_
        rintro e w13 ⟨rfl, b13⟩
        have ED := Lib.hid (EC.out.on b13)
        have x5 := ED.out.cell (.tail _ (.head _))
        clear b13 EC RC HS
        cases sm with
        | false =>
          clear HFN
          go_wp2_with fail
          go_ret
          exact ⟨rfl, ED.out.below⟩
        | true =>
          obtain ⟨h1, h2, h3⟩ := HFN.out rfl
          have HH : Hid (∀ W, s.ok W W.heap.size → Calls Tryd.prog 28 #[.agg #[.slice s.A s.n s.c], .int .i64 (fn : Int)] W fun e w' => e = .returned (.bool true) ∧ Below W.heap.size W w') := fun W h => by
            have := s_has s W (fn : Int) (by omega) (by omega) h
            rwa [h2] at this
          have hge : decide (z ≤ (fn : Int)) = true := by simpa using h1
          clear HFN h2
          go_wp2_with fail
          refine (HH.out _ (ED.out.ok (.tail _ (.head _)))).mono ?_
          rintro e w14 ⟨rfl, b14⟩
          have EE := Lib.hid (ED.out.on b14)
          clear b14
          go_wp2_with fail
          go_ret
          exact ⟨rfl, EE.out.below⟩
end Go.Proofs.YtpkpfnilfabkaaaDoor
