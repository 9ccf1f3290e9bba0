/- Law LexAll: its walk. -/
import Derived.Test.YthccgpjbchlocaaLah
import Derived.Test.YthccgpjbchlocaaLai
import Derived.Test.YthccgpjbchlocaaLaf
import Derived.Test.YthccgpjbchlocaaLl
import Derived.Deep.DeepCutAuto
import Derived.Deep.CutBlock
import Derived.Outline
namespace Go.Proofs.Ythccgpjbchlocaa
open Go.RowKit

theorem all_len2 (l : List UInt8) : (allL l).1.length ≤ l.length + 1 := by
  rw [allL_seq]
  have key : ∀ xs : List Ans, (resOf l.length xs).1.length ≤ xs.length := by
    intro xs
    induction xs with
    | nil => exact Nat.le_refl _
    | cons x xs ih =>
      rw [resOf]
      split
      · simp
      · split
        · simp; exact ih
        · simp
  have := key (seqL l)
  have := seqL_len l
  omega
theorem readsZ_take {w : World} {B n : Nat} {A : Option Addr} {zs : List Tz} (h : Reads w B 4 A n (cellsZ zs)) (k : Nat) (hk : k ≤ n) : Reads w B 4 A k (cellsZ (zs.take k)) := by
  have hl := h.1
  rw [cellsZ_length] at hl
  refine ⟨by rw [cellsZ_length, List.length_take]; congr 1; omega, fun h0 => ?_⟩
  obtain ⟨ad, rfl, hb, hc⟩ := h.2 (by omega)
  refine ⟨ad, rfl, hb, fun j u hu => hc j u ?_⟩
  have hp : cellsZ zs = cellsZ (zs.take k) ++ cellsZ (zs.drop k) := by
    unfold cellsZ
    rw [← List.flatMap_append, List.take_append_drop]
  rw [hp, List.getElem?_append_left (List.getElem?_eq_some_iff.1 hu).1]
  exact hu
/-- A copy of a row of the call's own. -/
theorem sclone_own (A : Option Addr) (n c base : Nat) (zs : List Tz) (hn : n ≤ 1000000) (w : World) (h : w.ownsRow base 29 4 (.slice A n c) n (cellsZ zs)) :
    Calls Try.prog 17 #[.slice A n c] w (CloneIs n (cellsZ zs) w) := by
  have hR := Reads.of_own h
  rcases h.2 with ⟨hv, h0⟩ | ⟨g, cap, cur, hv, _⟩
  · injection hv with h1 h2 h3
    subst h1; subst h2; subst h3
    have hz : cellsZ zs = [] := List.eq_nil_of_length_eq_zero (by have := hR.1; omega)
    rw [hz]
    exact sclone_none w
  · injection hv with h1 h2 h3
    subst h1
    exact sclone_some _ n c zs hn w hR
theorem own_addr {w : World} {base n c : Nat} {A : Option Addr} {e : TypeId} {xs : List Value} (h : w.ownsRow base e 4 (.slice A n c) n xs) (h0 : 0 < n) : ∃ g, A = some ⟨g, 0, none⟩ ∧ base ≤ g := by
  rcases h.2 with ⟨hv, hz⟩ | ⟨g, cap, cur, hv, hb, _⟩
  · injection hv with h1 h2 h3
    omega
  · injection hv with h1 h2 h3
    exact ⟨g, h1, hb⟩
/-- One text more is cut: the row is the call's own still. -/
theorem own_cut {w : World} {base n c g k : Nat} {zs : List Tz} {t : Tz} {ad : Addr} (had : ad = ⟨g, 0, none⟩) (h : w.ownsRow base 29 4 (.slice (some ad) n c) n (cellsZ (cutT zs k))) (ht : zs[k]? = some t) :
    (w.setCell ⟨(ad.add (k * 4)).block, (ad.add (k * 4)).off + 2, none⟩ (.string ⟨(t.tx.take 40).toArray⟩)).ownsRow base 29 4 (.slice (some ad) n c) n (cellsZ (cutT zs (k + 1))) := by
  subst had
  rw [cutT_succ ht, cellsZ_set (cutT_at ht), Go.WideShapes.add_plain]
  simp only [Nat.zero_add]
  exact (h.stored (k * 4 + 2) _).1
theorem own_thaw {w : World} {base n c g k : Nat} {xs : List Value} {ad : Addr} (had : ad = ⟨g, 0, none⟩) (h : w.ownsRow base 29 4 (.slice (some ad) n c) n xs) : w.frozen? ⟨(ad.add (k * 4)).block, (ad.add (k * 4)).off + 2, none⟩ = false := by
  subst had
  rw [Go.WideShapes.add_plain]
  exact h.frozenAt _

set_option maxRecDepth 100000 in
set_option maxHeartbeats 4000000 in
theorem alls_core (A : Option Addr) (n c : Nat) (ss : List ByteArray) (A2 : Option Addr) (n2 c2 : Nat) (zs : List Tz) (hss : ∀ s ∈ ss, s.size ≤ 9223372036854775807) (w : World) (hr : Reads w w.heap.size 1 A n (strs ss)) (hn : n ≤ 9223372036854775807)
    (hr2 : Reads w w.heap.size 4 A2 n2 (cellsZ zs)) (hnil : A2 = none → c2 = 0) (hn2 : n2 ≤ c2) (hc2 : c2 ≤ 9223372036854775807) :
    Calls Try.prog 5 #[.slice A n c, .slice A2 n2 c2] w fun e w' => e = .returned (.bool true) ∧ Below w.heap.size w w' := by
  have H0 := Lib.hid (wakes_lex w)
  have HS := Lib.hid hr
  have HSS := Lib.hid hss
  have HR2 := Lib.hid hr2
  have HNIL := Lib.hid hnil
  clear hr hss hr2 hnil
  go_enter Try.func5, Try.ntmps5
  go_wp2_with fail
  refine H0.out.mono ?_
  rintro e w1 ⟨rfl, b1⟩
  go_upto_block 0 with fail
  go_cut [19] (fun s19 wx => Below w.heap.size w wx)
  case first =>
    go_wp2_with fail
    go_loopw [19] (fun i wr => ∃ k : Nat, k ≤ n ∧ i = .int .i64 k ∧ Below w.heap.size w wr) (fun i wr => n - (intOf i).toNat)
    case atStart => exact ⟨0, Nat.zero_le _, rfl, b1⟩
    case round =>
      obtain ⟨k, hk, rfl, b2⟩ := hrel
      by_cases hlt : k < n
      · obtain ⟨b, off, s, rfl, hb, hz, hc0⟩ := at_str HS.out hlt
        have hcell : wr.cell? ⟨b, off + k, none⟩ = some (.string s) := (b2.cell (p := ⟨b, off + k, none⟩) hb).trans hc0
        have hs := HSS.out s hz
        clear hz hc0
        by_cases h5 : k = 5
        · have h5b : ((k : Int) == 5) = true := by simp; omega
          clear h5
          go_wp2_with fail
          go_meet
          exact b2
        · have h5b : ((k : Int) == 5) = false := by simp; omega
          have hca := cutS_size s
          have HC := Lib.hid fun w => cut_any2 s hs w
          generalize cutS s = a at *
          have hln := all_len2 a.data.toList
          rw [← Lib.size_eq] at hln
          have HA := Lib.hid fun w => all_is a (by omega) (ts := (allL a.data.toList).1) (p := (allL a.data.toList).2.1) (er := (allL a.data.toList).2.2) rfl rfl w
          have HRA := Lib.hid fun w => rall_any a (by omega) w
          unfold RAllOk at HRA
          generalize (allL a.data.toList).1 = ts at *
          generalize (allL a.data.toList).2.1 = p at *
          generalize (allL a.data.toList).2.2 = er at *
          clear h5
          go_wp2_with fail
          refine (HC.out _).mono ?_
          rintro e wx ⟨rfl, rfl⟩
          go_wp2_with fail
          refine (HA.out _).mono ?_
          rintro e w3 ⟨A3, c3, rfl, r3, q3, l3, m3, _⟩
          have b3 := b2.trans (q3.mono b2.size)
          clear q3 b2
          go_wp2_with fail
          refine (HRA.out _).mono ?_
          rintro e w4 ⟨A4, c4, rfl, r4, q4⟩
          have b4 := b3.trans (q4.mono b3.size)
          have r3' := (r3.below q4).more (B' := w4.heap.size) q4.size
          rw [cells_toZ] at r3' r4
          have R3 := Lib.hid r3'
          have R4 := Lib.hid r4
          clear q4 b3 r3 r3' r4
          go_wp2_with fail
          refine (equal_same A3 A4 ts.length c3 c4 (ts.map toZ) (by omega) w4 R3.out R4.out).mono ?_
          rintro e w5 ⟨rfl, q5⟩
          have b5 := Lib.hid (b4.trans (q5.mono b4.size))
          clear q5 b4
          go_wp2_with fail
          go_roundw
          case rel => exact ⟨k + 1, by omega, by go_num, b5.out⟩
          case measure => simp [intOf]; omega
      · have hge : ¬ (k : Int) < (n : Int) := by omega
        go_wp2_with fail
        go_meet
        exact b2
  case rest =>
    have hl2 : zs.length = n2 := by have := HR2.out.1; rw [cellsZ_length] at this; omega
    obtain ⟨m, hm⟩ : ∃ m, (min (n2 : Int) 30).toNat = m := ⟨_, rfl⟩
    have hmn : m ≤ n2 := by omega
    have hm30 : m ≤ 30 := by omega
    have hB := Lib.hid hcut
    have HL2 := Lib.hid hl2
    clear hcut hl2
    go_upto_region 13 with fail
    go_cut [1] (fun s1 wx => ∃ (A' : Option Addr) (c' base : Nat), s1 = .slice A' m c' ∧ w.heap.size ≤ base ∧ Hid (wx.ownsRow base 29 4 (.slice A' m c') m (cellsZ (cutT (zs.take m) 0))) ∧ Below w.heap.size w wx)
    case first =>
      have hbs := hB.out.size
      rcases A2 with _ | ad2
      · have h0 : n2 = 0 := by
          rcases Nat.eq_zero_or_pos n2 with h | h
          · exact h
          · obtain ⟨ad, h, _⟩ := HR2.out.2 h
            cases h
        have hc0 := HNIL.out rfl
        subst h0
        subst hc0
        have hm0 : m = 0 := by omega
        subst hm0
        clear hm
        go_wp2_with fail
        refine (sclone_none _).mono ?_
        rintro e w2 ⟨A', c', rfl, hown, q2⟩
        go_wp2_with fail
        go_meet
        exact ⟨A', c', _, rfl, hbs, hown, hB.out.trans (q2.mono hbs)⟩
      · have HRT := Lib.hid (readsZ_take (HR2.out.below hB.out) m hmn)
        go_wp2_with fail
        refine (sclone_some ad2 m _ (zs.take m) (by omega) _ (HRT.out.more hbs)).mono ?_
        rintro e w2 ⟨A', c', rfl, hown, q2⟩
        go_wp2_with fail
        go_meet
        exact ⟨A', c', _, rfl, hbs, hown, hB.out.trans (q2.mono hbs)⟩
    case rest =>
      obtain ⟨A', c', base, rfl, hbase, hown, hB2⟩ := hcut
      have hyl : (zs.take m).length = m := by rw [List.length_take]; have := HL2.out; omega
      generalize zs.take m = ys at *
      have HYL := Lib.hid hyl
      have HO := hown
      have HB2 := Lib.hid hB2
      clear hyl hown hB2 hm
      go_wp2_with fail
      go_loopw [63] (fun i wr => ∃ k : Nat, k ≤ m ∧ i = .int .i64 k ∧ Hid (wr.ownsRow base 29 4 (.slice A' m c') m (cellsZ (cutT ys k))) ∧ Below w.heap.size w wr) (fun i _ => m - (intOf i).toNat)
      case atStart => exact ⟨0, Nat.zero_le _, rfl, HO.out, HB2.out⟩
      case round =>
        obtain ⟨k, hk, rfl, hok, hBk⟩ := hrel
        by_cases hlt : k < m
        · obtain ⟨t, ht⟩ : ∃ t, ys[k]? = some t := ⟨ys[k]'(by rw [HYL.out]; exact hlt), List.getElem?_eq_getElem _⟩
          obtain ⟨g, hA, hg⟩ := own_addr hok.out (by omega)
          obtain ⟨ad, had⟩ : ∃ ad : Addr, ad = ⟨g, 0, none⟩ := ⟨_, rfl⟩
          rw [← had] at hA
          subst hA
          have HAD := Lib.hid had
          have hfz := own_thaw (k := k) had hok.out
          obtain ⟨ad', hA, g0, g1, g2, g3, _⟩ := toz_cells (Reads.of_own hok.out) (cutT_at ht)
          obtain rfl := Option.some.inj hA
          have HT := Lib.hid (own_cut had hok.out ht)
          have HBl := Lib.hid (hBk.setCell (p := ⟨(ad.add (k * 4)).block, (ad.add (k * 4)).off + 2, none⟩) (by rw [block_of_add, had]; exact Nat.le_trans hbase hg) (.string ⟨(t.tx.take 40).toArray⟩))
          obtain ⟨y, hy⟩ : ∃ y : ByteArray, (⟨t.tx.toArray⟩ : ByteArray) = y := ⟨_, rfl⟩
          rw [hy] at g2
          have hex : y.extract 0 (min (y.size : Int) 40).toNat = ⟨(t.tx.take 40).toArray⟩ := by
            rw [← hy]
            apply ByteArray.ext
            apply Array.ext'
            simp only [ByteArray.data_extract, Array.toList_extract]
            rw [List.extract_eq_take_drop, List.drop_zero, Nat.sub_zero]
            show t.tx.take _ = t.tx.take 40
            have hsz : (⟨t.tx.toArray⟩ : ByteArray).size = t.tx.length := by rw [Lib.size_eq]
            rw [hsz]
            rcases Nat.lt_or_ge t.tx.length 40 with h | h
            · rw [List.take_of_length_le (by omega), List.take_of_length_le (by omega)]
            · congr 1
              omega
          have hm1 : 0 ≤ min (y.size : Int) 40 := by omega
          have hm2 : min (y.size : Int) 40 ≤ (y.size : Int) := by omega
          have hm40 : min (y.size : Int) 40 ≤ 40 := by omega
          generalize (⟨(t.tx.take 40).toArray⟩ : ByteArray) = z at *
          clear hy hA ht had hok hBk
          go_wp2_with fail
          go_region
          go_wp2_with fail
          go_roundw
          case rel => exact ⟨k + 1, by omega, by go_num, HT.out.drew, HBl.out.drew⟩
          case measure => simp [intOf]; omega
        · have hge : ¬ (k : Int) < (m : Int) := by omega
          have hkm : k = m := by omega
          have hsp := spell_cut (cutT ys m) 4 (cut_all ys m (by rw [HYL.out]; exact Nat.le_refl _))
          rw [cutT_length, HYL.out] at hsp
          have hcl : (cutT ys m).length = m := by rw [cutT_length, HYL.out]
          rw [hkm] at hok
          generalize cutT ys m = xs at *
          have HCL := Lib.hid hcl
          have HC := Lib.hid fun w' hw => sclone_own A' m c' base xs (by omega) w' hw
          have HSP := Lib.hid fun w' hw => spellZ_any A' m c' xs hcl.symm (by omega) (by show (spellZF 4 xs).length ≤ _; omega) w' hw
          have HRS := Lib.hid fun (A3 : Option Addr) (c3 : Nat) w' hw => rspellZ_any A3 m c3 xs hcl.symm (by omega) (by show (spellZF 4 xs).length ≤ _; omega) w' hw
          have HEQ := Lib.hid fun (A3 : Option Addr) (c3 : Nat) w' hw hw2 => equal_same A' A3 m c' c3 xs (by omega) w' hw hw2
          generalize (⟨(spellZ xs).toArray⟩ : ByteArray) = txt at *
          clear hkm hsp hcl
          go_wp2_with fail
          refine (HC.out _ hok.out).mono ?_
          rintro e w2 ⟨A3, c3, rfl, own3, q2⟩
          have R2 := Lib.hid (((Reads.of_own hok.out).below q2).more (B' := w2.heap.size) q2.size)
          have R3 := Lib.hid (Reads.of_own own3)
          have B3 := Lib.hid (hBk.trans (q2.mono hBk.size))
          clear own3 q2 hok hBk
          go_wp2_with fail
          refine (HSP.out _ R2.out).mono ?_
          rintro e w3 ⟨rfl, q3⟩
          have R2' := Lib.hid ((R2.out.below q3).more (B' := w3.heap.size) q3.size)
          have R3' := Lib.hid ((R3.out.below q3).more (B' := w3.heap.size) q3.size)
          have B4 := Lib.hid (B3.out.trans (q3.mono B3.out.size))
          clear q3
          go_wp2_with fail
          refine (HRS.out _ _ _ R3'.out).mono ?_
          rintro e w4 ⟨rfl, q4⟩
          have R2'' := Lib.hid ((R2'.out.below q4).more (B' := w4.heap.size) q4.size)
          have R3'' := Lib.hid ((R3'.out.below q4).more (B' := w4.heap.size) q4.size)
          have B5 := Lib.hid (B4.out.trans (q4.mono B4.out.size))
          clear q4
          go_wp2_with fail
          refine (HEQ.out _ _ _ R2''.out R3''.out).mono ?_
          rintro e w5 ⟨rfl, q5⟩
          have B6 := B5.out.trans (q5.mono B5.out.size)
          clear q5
          go_wp2_with fail
          go_ret
          exact ⟨rfl, B6⟩
end Go.Proofs.Ythccgpjbchlocaa
