/- Law LexAgain: its walk. -/
import Derived.Test.YthccgpjbchlocaaLr
import Derived.Test.YthccgpjbchlocaaLl
import Derived.Laws.StructEq
namespace Go.Proofs.Ythccgpjbchlocaa
open Go.RowKit

set_option maxRecDepth 100000 in
set_option maxHeartbeats 4000000 in
theorem again_bad (s a : ByteArray) (ta : List Tk) (na pa : Nat) (ea : Int) (hea : (ea != 0) = true)
    (HC : Hid (∀ w : World, Calls Try.prog 11 #[.string s] w fun e w' => e = .returned (.string a) ∧ w = w'))
    (HA : Hid (∀ w : World, Calls Try.prog 14 #[.string a] w (AllIs ta na pa ea w))) (w : World) :
    Calls Try.prog 6 #[.string s] w fun e w' => e = .returned (.bool true) ∧ Below w.heap.size w w' := by
  have H0 := Lib.hid (wakes_lex w)
  go_enter Try.func6, Try.ntmps6
  go_wp2_with fail
  refine H0.out.mono ?_
  rintro e w1 ⟨rfl, b1⟩
  go_wp2_with fail
  refine (HC.out _).mono ?_
  rintro e wx ⟨rfl, rfl⟩
  go_wp2_with fail
  refine (HA.out _).mono ?_
  rintro e w2 ⟨A2, c2, rfl, _, q2, _, _, _⟩
  have b2 := b1.trans (q2.mono b1.size)
  clear b1 q2
  go_wp2_with fail
  go_ret
  exact ⟨rfl, b2⟩

set_option maxRecDepth 100000 in
set_option maxHeartbeats 4000000 in
theorem again_good (s a sp : ByteArray) (ts us : List Tk) (n pa pj : Nat) (hn : n = ts.length) (hm : n = us.length) (hst : us.map strip = ts.map strip)
    (HC : Hid (∀ w : World, Calls Try.prog 11 #[.string s] w fun e w' => e = .returned (.string a) ∧ w = w'))
    (HA : Hid (∀ w : World, Calls Try.prog 14 #[.string a] w (AllIs ts n pa 0 w)))
    (HS : Hid (∀ (A : Option Addr) (c : Nat) (w : World), Reads w w.heap.size 4 A n (cellsT ts) → Calls Try.prog 18 #[.slice A n c] w fun e w' => e = .returned (.string sp) ∧ Below w.heap.size w w'))
    (HS2 : Hid (∀ (A : Option Addr) (c : Nat) (w : World), Reads w w.heap.size 4 A n (cellsT us) → Calls Try.prog 18 #[.slice A n c] w fun e w' => e = .returned (.string sp) ∧ Below w.heap.size w w'))
    (HA2 : Hid (∀ w : World, Calls Try.prog 14 #[.string sp] w (AllIs us n pj 0 w))) (w : World) :
    Calls Try.prog 6 #[.string s] w fun e w' => e = .returned (.bool true) ∧ Below w.heap.size w w' := by
  have H0 := Lib.hid (wakes_lex w)
  have HN := Lib.hid hn
  have HM := Lib.hid hm
  have HST := Lib.hid hst
  clear hn hm hst
  go_enter Try.func6, Try.ntmps6
  go_wp2_with fail
  refine H0.out.mono ?_
  rintro e w1 ⟨rfl, b1⟩
  go_wp2_with fail
  refine (HC.out _).mono ?_
  rintro e wx ⟨rfl, rfl⟩
  go_wp2_with fail
  refine (HA.out _).mono ?_
  rintro e w2 ⟨A2, c2, rfl, r2, q2, l2, m2, _⟩
  have b2 := b1.trans (q2.mono b1.size)
  clear b1 q2
  go_wp2_with fail
  refine (HS.out A2 c2 _ r2).mono ?_
  rintro e w3 ⟨rfl, q3⟩
  have b3 := b2.trans (q3.mono b2.size)
  have R3 := (r2.below q3).more (B' := w3.heap.size) q3.size
  clear b2 q3 r2
  go_wp2_with fail
  refine (HA2.out _).mono ?_
  rintro e w4 ⟨A4, c4, rfl, r4, q4, l4, m4, _⟩
  have b4 := b3.trans (q4.mono b3.size)
  have R2' := Lib.hid ((R3.below q4).more (B' := w4.heap.size) q4.size)
  have R4 := Lib.hid r4
  clear b3 q4 R3 r4
  go_wp2_with fail
  go_loopw [40] (fun i wr => ∃ k : Nat, k ≤ n ∧ i = .int .i64 k ∧ Below w4.heap.size w4 wr) (fun i _ => n - (intOf i).toNat)
  case atStart => exact ⟨0, Nat.zero_le _, rfl, Below.refl _ _⟩
  case round =>
    obtain ⟨k, hk, rfl, bk⟩ := hrel
    have hsz := bk.size
    by_cases hlt : k < n
    · obtain ⟨t, ht⟩ : ∃ t, ts[k]? = some t := ⟨ts[k]'(by rw [← HN.out]; exact hlt), List.getElem?_eq_getElem _⟩
      obtain ⟨u, hu⟩ : ∃ u, us[k]? = some u := ⟨us[k]'(by rw [← HM.out]; exact hlt), List.getElem?_eq_getElem _⟩
      have hsu : strip u = strip t := by
        have := congrArg (fun l => l[k]?) HST.out
        simp only [List.getElem?_map, hu, ht, Option.map_some, Option.some.injEq] at this
        exact this
      unfold strip at hsu
      injection hsu with e1 hsu
      injection hsu with e2 e3
      obtain ⟨ad, rfl, g0, g1, g2, g3, had⟩ := tok_cells (R2'.out.below bk) ht
      obtain ⟨ad2, rfl, x0, x1, x2, x3, xad⟩ := tok_cells ((R4.out.below bk).alloc hsz (.cells #[.int .i64 t.k, .int .i64 t.a, .string ⟨t.tx.toArray⟩, .bool t.gl] 29)) hu
      rw [e1] at x0
      rw [e2] at x2
      rw [e3] at x3
      have bk1 := Lib.hid ((bk.alloc hsz (.cells #[.int .i64 t.k, .int .i64 t.a, .string ⟨t.tx.toArray⟩, .bool t.gl] 29)).alloc (by simp; omega) (.cells #[.int .i64 t.k, .int .i64 u.a, .string ⟨t.tx.toArray⟩, .bool t.gl] 29))
      clear ht hu e1 e2 e3
      go_wp2_with fail
      go_roundw
      case rel => exact ⟨k + 1, by omega, by go_num, bk1.out⟩
      case measure => simp [intOf]; omega
    · have hge : ¬ (k : Int) < (n : Int) := by omega
      have B5 := b4.trans (bk.mono b4.size)
      have R2k := Lib.hid ((R2'.out.below bk).more (B' := wr.heap.size) hsz)
      have R4k := Lib.hid ((R4.out.below bk).more (B' := wr.heap.size) hsz)
      go_wp2_with fail
      refine (HS2.out A4 c4 _ R4k.out).mono ?_
      rintro e w5 ⟨rfl, q5⟩
      have R5 := Lib.hid ((R2k.out.below q5).more (B' := w5.heap.size) q5.size)
      have B6 := B5.trans (q5.mono B5.size)
      clear q5 B5
      go_wp2_with fail
      refine (HS.out A2 c2 _ R5.out).mono ?_
      rintro e w6 ⟨rfl, q6⟩
      have B7 := B6.trans (q6.mono B6.size)
      clear q6 B6
      go_wp2_with fail
      go_ret
      exact ⟨by simp, B7⟩

/-- LexAgain answers true, whatever the text. -/
theorem again_core (s : ByteArray) (hs : s.size ≤ 9223372036854775807) (w : World) :
    Calls Try.prog 6 #[.string s] w fun e w' => e = .returned (.bool true) ∧ Below w.heap.size w w' := by
  have hca := cutS_size s
  have HC := Lib.hid fun w => cut_any2 s hs w
  generalize cutS s = a at *
  have sa := Lib.size_eq a
  by_cases h0 : (allL a.data.toList).2.2 = 0
  · obtain ⟨us, h1, h2⟩ := again_all h0
    have hsz := spell_size (l := a.data.toList)
    have hln : (allL a.data.toList).1.length ≤ a.data.toList.length + 1 := by
      rw [allL_seq]
      have key : ∀ xs : List Ans, (resOf a.data.toList.length xs).1.length ≤ xs.length := by
        intro xs
        induction xs with
        | nil => exact Nat.le_refl _
        | cons x xs ih =>
          rw [resOf]
          split
          · simp
          · split
            · simp; exact ih
            · simp
      have := key (seqL a.data.toList)
      have := seqL_len a.data.toList
      omega
    have hul : us.length = (allL a.data.toList).1.length := by
      have := congrArg List.length h2
      simpa using this
    have HA := fun w => all_is a (by omega) (ts := (allL a.data.toList).1) (p := (allL a.data.toList).2.1) (er := 0) (by rw [← h0]) rfl w
    have hus : spellL us = spellL (allL a.data.toList).1 := spell_strip _ _ _ h2
    have HS := fun A c w hr => spell_any A (allL a.data.toList).1.length c (allL a.data.toList).1 rfl (by omega) (by omega) w hr
    have HS2 := fun A c w hr => spell_any A (allL a.data.toList).1.length c us hul.symm (by omega) (by rw [hus]; omega) w hr
    rw [hus] at HS2
    have HA2 := fun w => all_is ⟨(spellL (allL a.data.toList).1).toArray⟩ (by show (spellL (allL a.data.toList).1).toArray.size ≤ _; simp; omega) h1 hul w
    exact again_good s a ⟨(spellL (allL a.data.toList).1).toArray⟩ _ us _ _ _ rfl hul.symm h2 HC HA HS HS2 HA2 w
  · have HA := fun w => all_is a (by omega) (ts := (allL a.data.toList).1) (p := (allL a.data.toList).2.1) (er := (allL a.data.toList).2.2) rfl rfl w
    exact again_bad s a _ _ _ _ (by simpa using h0) HC HA w
end Go.Proofs.Ythccgpjbchlocaa
