/- The document's answers of layer names: All, Move: contracts. -/
import Derived.Test.YthamkpmbfefpfaaNl
import Derived.Test.YthamkpmbfefpfaaNj
namespace Go.Proofs.Ythamkpmbfefpfaa
open Go.RowKit Go.Shelf

theorem rput_ok (N : Nat) (A : Option Addr) (n c : Nat) (ns : List ByteArray) (s : ByteArray) (hn : n ≤ 1000) (w : World) (hN : N ≤ w.heap.size) (hO : w.ownsRow N 9 1 (.slice A n c) n (strs ns)) (h : putE nameB ns s = 0) :
    Calls Try.prog 19 #[.agg #[.slice A n c], .string s] w fun e w' => ∃ (A' : Option Addr) (n' c' : Nat), e = .returned (.tuple #[.agg #[.slice A' n' c'], .int .i64 (idxN ns s : Int), .int .i64 0]) ∧ w'.ownsRow N 9 1 (.slice A' n' c') n' (strs (addN ns s)) ∧ Below w.heap.size w w' := by
  refine (rput_any N A n c ns s hn w hN hO).mono ?_
  rintro e w' ⟨A', n', c', ns', rfl, ho, hok, _, hb⟩
  rw [h, if_pos rfl]
  rw [hok h] at ho
  exact ⟨A', n', c', rfl, ho, hb⟩
theorem rput_no (N : Nat) (A : Option Addr) (n c : Nat) (ns : List ByteArray) (s : ByteArray) (hn : n ≤ 1000) (w : World) (hN : N ≤ w.heap.size) (hO : w.ownsRow N 9 1 (.slice A n c) n (strs ns)) (k : Int) (h : putE nameB ns s = k) (hk : k ≠ 0) :
    Calls Try.prog 19 #[.agg #[.slice A n c], .string s] w fun e w' => ∃ (A' : Option Addr) (n' c' : Nat), e = .returned (.tuple #[.agg #[.slice A' n' c'], .int .i64 0, .int .i64 k]) ∧ w'.ownsRow N 9 1 (.slice A' n' c') n' (strs []) ∧ Below w.heap.size w w' := by
  refine (rput_any N A n c ns s hn w hN hO).mono ?_
  rintro e w' ⟨A', n', c', ns', rfl, ho, _, hno, hb⟩
  rw [h, if_neg hk]
  rw [hno (by rw [h]; exact hk)] at ho
  exact ⟨A', n', c', rfl, ho, hb⟩

set_option maxRecDepth 100000 in
set_option maxHeartbeats 8000000 in
theorem rall_any (L : Option Addr) (nl cl : Nat) (ls : List ByteArray) (hnl : nl ≤ 1000) (w : World) (hRL : Reads w w.heap.size 1 L nl (strs ls)) :
    Calls Try.prog 25 #[.slice L nl cl] w (PutIs [] ls w) := by
  obtain ⟨i0, hi, hz0, hz1, hz2⟩ := info_parts int9_info
  obtain ⟨kr, kt, b0, hs0⟩ := ntwo w #[.slice none 0 0] #[.slice none 0 0] 24 24
  have HLL := Lib.hid (strs_len hRL)
  have HRL := Lib.hid hRL
  have KR := Lib.hid kr
  have KT := Lib.hid kt
  have B0 := Lib.hid b0
  have F0 : Hid (FineTo nameB [] ls 0) := FineTo.zero good_nil
  have HE : Hid (putsE [] ls = allE nameB [] ls) := putsE_nil ls
  clear kr kt b0 hs0 hRL
  go_enter Try.func25, Try.ntmps25
  go_upto_region 2 with fail
  generalize (w.alloc (.cells #[.slice none 0 0] 24)).alloc (.cells #[.slice none 0 0] 24) = W0 at *
  go_wp2_with fail
  have OT0 : Hid (W0.ownsRow w.heap.size 9 1 (.slice none 0 0) 0 (strs (addsN [] (ls.take 0)))) := World.ownsRow_nil _ _ _ _
  have OO0 : Hid (W0.ownsRow w.heap.size 3 1 (.slice none 0 0) 0 (ints (allN [] (ls.take 0)))) := World.ownsRow_nil _ _ _ _
  go_loopw [6, 14] (fun v i wr => ∃ (j : Nat) (A : Option Addr) (m c : Nat), j ≤ nl ∧ i = .int .i64 j ∧ Hid (FineTo nameB [] ls j) ∧ Hid (Blk wr w.heap.size 24 #[.slice none 0 0]) ∧ Hid (Blk wr (w.heap.size + 1) 24 #[.slice A m c]) ∧
    Hid (wr.ownsRow w.heap.size 9 1 (.slice A m c) m (strs (addsN [] (ls.take j)))) ∧ Hid (wr.ownsRow w.heap.size 3 1 v j (ints (allN [] (ls.take j)))) ∧ Hid (Below w.heap.size w wr)) (fun _ i _ => nl - (intOf i).toNat)
  case atStart => exact ⟨0, none, 0, 0, by omega, rfl, F0, KR, KT, OT0, OO0, B0⟩
  case round =>
    clear F0 KR KT OT0 OO0 B0
    obtain ⟨j, A, m, c, hj, rfl, HF, KR, KT, OT, OO, HB⟩ := hrel
    by_cases hjn : j < nl
    · have hjlt : (j : Int) < (nl : Int) := by omega
      obtain ⟨s, hs⟩ : ∃ s, ls[j]? = some s := ⟨ls[j]'(by rw [HLL.out]; exact hjn), List.getElem?_eq_getElem _⟩
      obtain ⟨b, o, rfl, _, g0⟩ := str_at (HRL.out.below HB.out) hs
      have HS := Lib.hid hs
      have z0 := KT.out.cell 0
      obtain ⟨us, hus⟩ : ∃ us, addsN [] (ls.take j) = us := ⟨_, rfl⟩
      rw [hus] at OT
      have HUS := Lib.hid hus
      have hF := HF.out
      unfold FineTo at hF
      rw [hus] at hF
      have hm300 : m ≤ 300 := by have := (good_iff.1 hF.2).1; have h2 := strs_len (Reads.of_own OT.out); omega
      have HFE : Hid (∀ k, putE nameB us s = k → k ≠ 0 → putsE [] ls = k) := fun k h1 h2 => by rw [HE.out, HF.out.err HS.out (by rw [HUS.out, h1]; exact h2), HUS.out, h1]
      have HFS : Hid (putE nameB us s = 0 → FineTo nameB [] ls (j + 1)) := fun h => HF.out.step HS.out (by rw [HUS.out]; exact h)
      have hHP := fun h => rput_ok w.heap.size A m c us s (by omega) wr HB.out.size OT.out h
      have hHN := fun k h h2 => rput_no w.heap.size A m c us s (by omega) wr HB.out.size OT.out k h h2
      have hlen : j ≤ 1000 := by omega
      have hpt := take_snoc HS.out
      have HAJ : Hid (addsN [] (ls.take (j + 1)) = addN us s ∧ allN [] (ls.take (j + 1)) = allN [] (ls.take j) ++ [(idxN us s : Int)]) := ⟨by rw [hpt, adds_snoc, hus], by rw [hpt, allN_snoc, hus]⟩
      clear hs hus hF hpt
      by_cases hk0 : putE nameB us s = 0
      · have HP := Lib.hid (hHP hk0)
        have HF2 := Lib.hid (HFS.out hk0)
        clear hHP hHN hk0
        go_wp2_with fail
        refine HP.out.mono ?_
        rintro e w2 ⟨A1, n1, c1, rfl, ho, b2⟩
        have HO2 := Lib.hid ho
        have KR2 := Lib.hid (KR.out.below b2 KR.out.lt)
        have KT2 := Lib.hid (KT.out.below b2 KT.out.lt)
        have OO2 := Lib.hid (own_on OO.out b2)
        have HB2 := Lib.hid (HB.out.trans (b2.mono HB.out.size))
        obtain ⟨k9, b9, -⟩ := nbox w2 #[.slice A1 n1 c1] 24
        have K9 := Lib.hid k9
        have KR3 := Lib.hid (KR2.out.below b9 KR2.out.lt)
        have KT3 := Lib.hid (KT2.out.below b9 KT2.out.lt)
        have OO3 := Lib.hid (own_on OO2.out b9)
        have HO3 := Lib.hid (own_on HO2.out b9)
        have HB3 := Lib.hid (HB2.out.trans (b9.mono HB2.out.size))
        have H9 : Hid (w.heap.size + 1 < w2.heap.size) := KT2.out.lt
        clear ho b2 k9 b9 KR KT OO HB z0 g0 HP KR2 KT2 OO2 HB2 HO2
        go_upto_region 7 with fail
        generalize w2.alloc (.cells #[.slice A1 n1 c1] 24) = W3 at *
        generalize w2.heap.size = X9 at *
        have z9 := K9.out.cell 0
        have yr := KR3.out.cell 0
        have fr := KR3.out.frozen 0
        have yt := KT3.out.cell 0
        have ft := KT3.out.frozen 0
        have KT4 : Hid (Blk (W3.setCell ⟨w.heap.size + 1, 0, none⟩ (.slice A1 n1 c1)) (w.heap.size + 1) 24 #[.slice A1 n1 c1]) := by
          have := KT3.out.set_ 0 (.slice A1 n1 c1)
          show Blk _ _ _ _
          simpa using this
        have KR4 := Lib.hid (KR3.out.far (p := ⟨w.heap.size + 1, 0, none⟩) (by show w.heap.size ≠ w.heap.size + 1; omega) (.slice A1 n1 c1))
        have OO4 := Lib.hid (own_put OO3.out KT3.out (by decide) (.slice A1 n1 c1))
        have HO4 := Lib.hid (own_put HO3.out KT3.out (by decide) (.slice A1 n1 c1))
        have HB4 := Lib.hid (HB3.out.setCell (p := ⟨w.heap.size + 1, 0, none⟩) (Nat.le_succ _) (.slice A1 n1 c1))
        go_upto_region 10 with fail
        clear z9 yr fr yt ft KT3 KR3 OO3 HO3 HB3 K9
        generalize W3.setCell ⟨w.heap.size + 1, 0, none⟩ (.slice A1 n1 c1) = W4 at *
        have hb1 := HB4.out.size
        obtain ⟨Ao, co, rfl, -, -⟩ := own_form2 OO4.out
        go_wp2_with (at_builtin; refine wpList_append_own _ rfl _ _ 25 rfl w.heap.size 3 i0 _ 1 8 Try.underlying25 hi hz0 hz1 hz2 rfl (by decide) _ _ _ rfl (OO4.out.alloc _) ⟨W4.heap.size, 0, none⟩ 1 1 [_] rfl rfl (cell_one_new _ _ _) (int_one _) (by unfold maxLen; omega) (by omega) (by simp; omega) ?_; intro v' w6 hown' hgrow _)
        have hk6 : Keep (fun g => (Value.slice Ao j co).ownBlock ≠ some g) W4 w6 := ((Keep.refl _ W4).alloc _).grown hgrow fun g hg => .inr fun h => h hg
        have KR6 := Lib.hid (hk6.blk KR4.out (own_blk_ne OO4.out KR4.out (by decide)))
        have KT6 := Lib.hid (hk6.blk KT4.out (own_blk_ne OO4.out KT4.out (by decide)))
        have OT6 : Hid (w6.ownsRow w.heap.size 9 1 (.slice A1 n1 c1) n1 (strs (addsN [] (ls.take (j + 1))))) := by
          show World.ownsRow _ _ _ _ _ _ _
          rw [HAJ.out.1]
          exact hk6.own HO4.out fun g hg e => by
            obtain ⟨_, _, cur, hb⟩ := own_in HO4.out hg
            exact own_blk_ne OO4.out hb (by decide) e
        have OO6 : Hid (w6.ownsRow w.heap.size 3 1 v' (j + 1) (ints (allN [] (ls.take (j + 1))))) := by
          show World.ownsRow _ _ _ _ _ _ _
          rw [HAJ.out.2, ints_append]
          exact hown'
        have HB6 : Hid (Below w.heap.size w w6) := (HB4.out.alloc hb1 _).grown hgrow (by simp; omega) (own_block9 OO4.out)
        clear hown' hgrow hk6 KR4 KT4 OO4 HO4 HB4 hb1
        go_wp2_with fail
        go_roundw
        case rel => exact ⟨j + 1, A1, n1, c1, by omega, by go_num, HF2, KR6, KT6, OT6, OO6, HB6⟩
        case measure => simp [intOf]; omega
      · obtain ⟨k, hk⟩ : ∃ k, putE nameB us s = k := ⟨_, rfl⟩
        have hkn : k ≠ 0 := by rw [← hk]; exact hk0
        have HP := Lib.hid (hHN k hk hkn)
        have HK := Lib.hid (HFE.out k hk hkn)
        have HKN := Lib.hid hkn
        have hkb : (k != 0) = true := by simpa using hkn
        clear hHP hHN hk0 hk hkn
        go_wp2_with fail
        refine HP.out.mono ?_
        rintro e w2 ⟨A1, n1, c1, rfl, ho, b2⟩
        have HO2 := Lib.hid ho
        have KR2 := Lib.hid (KR.out.below b2 KR.out.lt)
        have KT2 := Lib.hid (KT.out.below b2 KT.out.lt)
        have OO2 := Lib.hid (own_on OO.out b2)
        have HB2 := Lib.hid (HB.out.trans (b2.mono HB.out.size))
        obtain ⟨k9, b9, -⟩ := nbox w2 #[.slice A1 n1 c1] 24
        have K9 := Lib.hid k9
        have KR3 := Lib.hid (KR2.out.below b9 KR2.out.lt)
        have KT3 := Lib.hid (KT2.out.below b9 KT2.out.lt)
        have OO3 := Lib.hid (own_on OO2.out b9)
        have HO3 := Lib.hid (own_on HO2.out b9)
        have HB3 := Lib.hid (HB2.out.trans (b9.mono HB2.out.size))
        have H9 : Hid (w.heap.size + 1 < w2.heap.size) := KT2.out.lt
        clear ho b2 k9 b9 KR KT OO HB z0 g0 HP KR2 KT2 OO2 HB2 HO2
        go_upto_region 7 with fail
        generalize w2.alloc (.cells #[.slice A1 n1 c1] 24) = W3 at *
        generalize w2.heap.size = X9 at *
        have z9 := K9.out.cell 0
        have yr := KR3.out.cell 0
        have fr := KR3.out.frozen 0
        have yt := KT3.out.cell 0
        have ft := KT3.out.frozen 0
        go_wp2_with fail
        have kf : Blk (W3.setCell ⟨w.heap.size, 0, none⟩ (.slice none 0 0)) w.heap.size 24 #[.slice none 0 0] := by
          have := KR3.out.set_ 0 (.slice none 0 0)
          simpa using this
        have r1 := kf.cell 0
        refine bodyPost_ret (v := .tuple #[.agg #[.slice none 0 0], .slice none 0 0, .int .i64 k]) (by simp [results, Try.results25, go_sem, r1]) rfl ?_
        exact PutIs.err HK.out HKN.out (HB3.out.setCell (p := ⟨w.heap.size, 0, none⟩) (Nat.le_refl _) _)
    · obtain rfl : j = nl := by omega
      have hE : putsE [] ls = 0 := by have h1 := HF.out; rw [← HLL.out] at h1; rw [HE.out, h1.end_]
      have HE0 := Lib.hid hE
      have z0 := KT.out.cell 0
      have y0 := KR.out.cell 0
      have f0 := KR.out.frozen 0
      obtain ⟨Ao, co, rfl, -, -⟩ := own_form2 OO.out
      have ht : ls.take j = ls := List.take_of_length_le (by rw [HLL.out]; exact Nat.le_refl _)
      rw [ht] at OT OO
      clear hE ht
      go_wp2_with fail
      have kf : Blk (wr.setCell ⟨w.heap.size, 0, none⟩ (.slice A m c)) w.heap.size 24 #[.slice A m c] := by
        have := KR.out.set_ 0 (.slice A m c)
        simpa using this
      have r1 := kf.cell 0
      refine bodyPost_ret (v := .tuple #[.agg #[.slice A m c], .slice Ao j co, .int .i64 0]) (by simp [results, Try.results25, go_sem, r1]) rfl ?_
      exact ⟨A, m, c, Ao, j, co, addsN [] ls, allN [] ls, by rw [HE0.out], own_put OT.out KR.out (by decide) _, own_put OO.out KR.out (by decide) _, fun _ => ⟨rfl, rfl⟩, fun h => absurd HE0.out h, HB.out.setCell (p := ⟨w.heap.size, 0, none⟩) (Nat.le_refl _) _⟩

/-- Has a table each name of another one? -/
def okB (a b : List ByteArray) : Bool := decide (∀ s ∈ a, s ∈ b)
def RMoveIs (a b : List ByteArray) (w : World) (e : Ending) (w' : World) : Prop :=
  ∃ (R : Option Addr) (m d : Nat) (zs : List Int), e = .returned (.tuple #[.slice R m d, .bool (okB a b)]) ∧ w'.ownsRow w.heap.size 3 1 (.slice R m d) m (ints zs) ∧ zs = (if okB a b = true then numsN a b else []) ∧ Below w.heap.size w w'
set_option maxRecDepth 100000 in
set_option maxHeartbeats 8000000 in
theorem rmove_any (Aa : Option Addr) (na ca : Nat) (a : List ByteArray) (hna : na ≤ 1000) (Ab : Option Addr) (nb cb : Nat) (b : List ByteArray) (hnb : nb ≤ 1000) (w : World) (hRa : Reads w w.heap.size 1 Aa na (strs a)) (hRb : Reads w w.heap.size 1 Ab nb (strs b)) :
    Calls Try.prog 21 #[.agg #[.slice Aa na ca], .agg #[.slice Ab nb cb]] w (RMoveIs a b w) := by
  obtain ⟨i0, hi, hz0, hz1, hz2⟩ := info_parts int9_info
  obtain ⟨ka, kb, b0, hs0⟩ := ntwo w #[.slice Aa na ca] #[.slice Ab nb cb] 24 24
  have HLA := Lib.hid (strs_len hRa)
  have HRA := Lib.hid (hRa.on_ b0)
  have HRB := Lib.hid (hRb.on_ b0)
  have KB := Lib.hid kb
  have B0 := Lib.hid b0
  have z0 := ka.cell 0
  have HJ0 : Hid (∀ s ∈ a.take 0, s ∈ b) := fun s h => by simp at h
  clear ka kb b0 hs0 hRa hRb
  go_enter Try.func21, Try.ntmps21
  go_upto_region 1 with fail
  generalize (w.alloc (.cells #[.slice Aa na ca] 24)).alloc (.cells #[.slice Ab nb cb] 24) = W0 at *
  go_wp2_with fail
  clear z0
  have OO0 : Hid (W0.ownsRow W0.heap.size 3 1 (.slice none 0 0) 0 (ints (numsN (a.take 0) b))) := World.ownsRow_nil _ _ _ _
  have HB0 : Hid (Below W0.heap.size W0 W0) := Below.refl _ _
  go_loopw [6, 14] (fun v i wr => ∃ j : Nat, j ≤ na ∧ i = .int .i64 j ∧ Hid (∀ s ∈ a.take j, s ∈ b) ∧ Hid (wr.ownsRow W0.heap.size 3 1 v j (ints (numsN (a.take j) b))) ∧ Hid (Below W0.heap.size W0 wr)) (fun _ i _ => na - (intOf i).toNat)
  case atStart => exact ⟨0, by omega, rfl, HJ0, OO0, HB0⟩
  case round =>
    clear HJ0 OO0 HB0
    obtain ⟨j, hj, rfl, HJ, OO, HB⟩ := hrel
    by_cases hjn : j < na
    · have hjlt : (j : Int) < (na : Int) := by omega
      obtain ⟨s, hs⟩ : ∃ s, a[j]? = some s := ⟨a[j]'(by rw [HLA.out]; exact hjn), List.getElem?_eq_getElem _⟩
      obtain ⟨b1, o1, rfl, _, g0⟩ := str_at (HRA.out.on_ HB.out) hs
      have z1 := (KB.out.below HB.out KB.out.lt).cell 0
      have HF := Lib.hid (rfind_any Ab nb cb b s (by omega) wr (HRB.out.on_ HB.out))
      unfold RFind at HF
      have HS := Lib.hid hs
      have hlen : j ≤ 1000 := by omega
      clear hs
      by_cases hm : s ∈ b
      · have HRF : Hid (rfN b s = (idxN b s : Int)) := by show _ = _; unfold rfN; rw [if_pos hm]
        rw [decide_eq_true hm, HRF.out] at HF
        have HM := Lib.hid hm
        clear hm
        have HTK := Lib.hid (take_snoc HS.out)
        have HN : Hid (numsN (a.take (j + 1)) b = numsN (a.take j) b ++ [(idxN b s : Int)]) := by show _ = _; rw [HTK.out]; unfold numsN; rw [List.map_append]; rfl
        have HJ1 : Hid (∀ t ∈ a.take (j + 1), t ∈ b) := fun t ht => by
          rw [HTK.out, List.mem_append] at ht
          rcases ht with ht | ht
          · exact HJ.out t ht
          · rw [List.mem_singleton] at ht; rw [ht]; exact HM.out
        have hb1 := HB.out.size
        go_wp2_with fail
        refine HF.out.mono ?_
        rintro e w1 ⟨rfl, rfl⟩
        obtain ⟨Ao, co, rfl, -, -⟩ := own_form2 OO.out
        go_wp2_with (at_builtin; refine wpList_append_own _ rfl _ _ 25 rfl W0.heap.size 3 i0 _ 1 8 Try.underlying25 hi hz0 hz1 hz2 rfl (by decide) _ _ _ rfl (OO.out.alloc _) ⟨wr.heap.size, 0, none⟩ 1 1 [_] rfl rfl (cell_one_new _ _ _) (int_one _) (by unfold maxLen; omega) (by omega) (by simp; omega) ?_; intro v' w6 hown' hgrow _)
        have OO6 : Hid (w6.ownsRow W0.heap.size 3 1 v' (j + 1) (ints (numsN (a.take (j + 1)) b))) := by
          show World.ownsRow _ _ _ _ _ _ _
          rw [HN.out, ints_append]
          exact hown'
        have HB6 : Hid (Below W0.heap.size W0 w6) := (HB.out.alloc hb1 _).grown hgrow (by simp; omega) (own_block9 OO.out)
        clear hown' hgrow HB OO hb1 g0 z1
        go_wp2_with fail
        go_roundw
        case rel => exact ⟨j + 1, by omega, by go_num, HJ1, OO6, HB6⟩
        case measure => simp [intOf]; omega
      · have HRF : Hid (rfN b s = 0) := by show _ = _; unfold rfN; rw [if_neg hm]
        rw [decide_eq_false hm, HRF.out] at HF
        have HOK : Hid (okB a b = false) := by show _ = _; unfold okB; exact decide_eq_false fun h => hm (h s (List.mem_of_getElem? HS.out))
        clear hm
        go_wp2_with fail
        refine HF.out.mono ?_
        rintro e w1 ⟨rfl, rfl⟩
        go_wp2_with fail
        go_ret2
        exact ⟨none, 0, 0, [], by rw [HOK.out]; rfl, World.ownsRow_nil _ _ _ _, by rw [HOK.out]; rfl, B0.out.trans (HB.out.mono B0.out.size)⟩
    · obtain rfl : j = na := by omega
      obtain ⟨Ao, co, rfl, -, -⟩ := own_form2 OO.out
      have ht : a.take j = a := List.take_of_length_le (by rw [HLA.out]; exact Nat.le_refl _)
      rw [ht] at OO HJ
      have HOK : Hid (okB a b = true) := by show _ = _; unfold okB; exact decide_eq_true HJ.out
      clear ht
      go_wp2_with fail
      go_ret2
      exact ⟨Ao, j, co, numsN a b, by rw [HOK.out]; rfl, own_mono OO.out B0.out.size, by rw [HOK.out, if_pos rfl], B0.out.trans (HB.out.mono B0.out.size)⟩
end Go.Proofs.Ythamkpmbfefpfaa
