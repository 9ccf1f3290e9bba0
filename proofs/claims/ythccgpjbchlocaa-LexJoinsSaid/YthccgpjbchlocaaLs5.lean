/- Law LexJoins: its walk. -/
import Derived.Test.YthccgpjbchlocaaLp
import Derived.Test.YthccgpjbchlocaaLl
import Derived.Laws.StructEq
namespace Go.Proofs.Ythccgpjbchlocaa
open Go.RowKit

theorem joined_list (a b : ByteArray) : (a ++ ⟨#[10]⟩ ++ b).data.toList = a.data.toList ++ 10 :: b.data.toList := by
  simp [ByteArray.data_append]
theorem joined_size (a b : ByteArray) : (a ++ ⟨#[10]⟩ ++ b).size = a.size + 1 + b.size := by
  rw [ByteArray.size_append, ByteArray.size_append]
  rfl

set_option maxRecDepth 100000 in
set_option maxHeartbeats 4000000 in
theorem joins_bad (s t a b j : ByteArray) (ha : a.size ≤ 1500) (hb : b.size ≤ 1500) (hj : a ++ ⟨#[10]⟩ ++ b = j) (ta tb : List Tk) (na nb pa pb : Nat) (ea eb : Int) (hea : (ea != 0) = true)
    (HCa : Hid (∀ w : World, Calls Try.prog 11 #[.string s] w fun e w' => e = .returned (.string a) ∧ w = w'))
    (HCb : Hid (∀ w : World, Calls Try.prog 11 #[.string t] w fun e w' => e = .returned (.string b) ∧ w = w'))
    (HA : Hid (∀ w : World, Calls Try.prog 14 #[.string a] w (AllIs ta na pa ea w)))
    (HB : Hid (∀ w : World, Calls Try.prog 14 #[.string b] w (AllIs tb nb pb eb w)))
    (HJ : Hid (∀ w : World, Calls Try.prog 14 #[.string j] w (AllIs [] 0 pa ea w))) (w : World) :
    Calls Try.prog 7 #[.string s, .string t] w fun e w' => e = .returned (.bool true) ∧ Below w.heap.size w w' := by
  have H0 := Lib.hid (wakes_lex w)
  go_enter Try.func7, Try.ntmps7
  go_wp2_with fail
  refine H0.out.mono ?_
  rintro e w1 ⟨rfl, b1⟩
  go_wp2_with fail
  refine (HCa.out _).mono ?_
  rintro e wx ⟨rfl, rfl⟩
  go_wp2_with fail
  refine (HCb.out _).mono ?_
  rintro e wx ⟨rfl, rfl⟩
  go_wp2_with fail
  refine (HA.out _).mono ?_
  rintro e w2 ⟨A2, c2, rfl, _, q2, _, _, _⟩
  have b2 := b1.trans (q2.mono b1.size)
  clear b1 q2
  go_wp2_with fail
  refine (HB.out _).mono ?_
  rintro e w3 ⟨A3, c3, rfl, _, q3, _, _, _⟩
  have b3 := b2.trans (q3.mono b2.size)
  clear b2 q3
  go_wp2_with fail
  refine (HJ.out _).mono ?_
  rintro e w4 ⟨A4, c4, rfl, _, q4, _, _, _⟩
  have b4 := b3.trans (q4.mono b3.size)
  clear b3 q4
  go_wp2_with fail
  go_ret
  exact ⟨rfl, b4⟩

set_option maxRecDepth 100000 in
set_option maxHeartbeats 4000000 in
theorem joins_bad2 (s t a b j : ByteArray) (ha : a.size ≤ 1500) (hb : b.size ≤ 1500) (hj : a ++ ⟨#[10]⟩ ++ b = j) (ta tb : List Tk) (na nb pa pb : Nat) (hpa : pa ≤ 1500) (hpb : pb ≤ 1500) (eb : Int) (heb : (eb != 0) = true)
    (HCa : Hid (∀ w : World, Calls Try.prog 11 #[.string s] w fun e w' => e = .returned (.string a) ∧ w = w'))
    (HCb : Hid (∀ w : World, Calls Try.prog 11 #[.string t] w fun e w' => e = .returned (.string b) ∧ w = w'))
    (HA : Hid (∀ w : World, Calls Try.prog 14 #[.string a] w (AllIs ta na pa 0 w)))
    (HB : Hid (∀ w : World, Calls Try.prog 14 #[.string b] w (AllIs tb nb pb eb w)))
    (HJ : Hid (∀ w : World, Calls Try.prog 14 #[.string j] w (AllIs [] 0 (pa + 1 + pb) eb w))) (w : World) :
    Calls Try.prog 7 #[.string s, .string t] w fun e w' => e = .returned (.bool true) ∧ Below w.heap.size w w' := by
  have H0 := Lib.hid (wakes_lex w)
  go_enter Try.func7, Try.ntmps7
  go_wp2_with fail
  refine H0.out.mono ?_
  rintro e w1 ⟨rfl, b1⟩
  go_wp2_with fail
  refine (HCa.out _).mono ?_
  rintro e wx ⟨rfl, rfl⟩
  go_wp2_with fail
  refine (HCb.out _).mono ?_
  rintro e wx ⟨rfl, rfl⟩
  go_wp2_with fail
  refine (HA.out _).mono ?_
  rintro e w2 ⟨A2, c2, rfl, _, q2, _, _, _⟩
  have b2 := b1.trans (q2.mono b1.size)
  clear b1 q2
  go_wp2_with fail
  refine (HB.out _).mono ?_
  rintro e w3 ⟨A3, c3, rfl, _, q3, _, _, _⟩
  have b3 := b2.trans (q3.mono b2.size)
  clear b2 q3
  go_wp2_with fail
  refine (HJ.out _).mono ?_
  rintro e w4 ⟨A4, c4, rfl, _, q4, _, _, _⟩
  have b4 := b3.trans (q4.mono b3.size)
  clear b3 q4
  go_wp2_with fail
  go_ret
  exact ⟨by simp, b4⟩

set_option maxRecDepth 100000 in
set_option maxHeartbeats 4000000 in
theorem joins_good (s t a b j : ByteArray) (ha : a.size ≤ 1500) (hb : b.size ≤ 1500) (hj : a ++ ⟨#[10]⟩ ++ b = j) (ta tb : List Tk) (na nb pj : Nat) (hna : ta.length = na) (hnb : tb.length = nb) (hnal : na ≤ 2000) (hnbl : nb ≤ 2000) (hat : Hid (∀ u ∈ tb, u.a ≤ 1500))
    (HCa : Hid (∀ w : World, Calls Try.prog 11 #[.string s] w fun e w' => e = .returned (.string a) ∧ w = w'))
    (HCb : Hid (∀ w : World, Calls Try.prog 11 #[.string t] w fun e w' => e = .returned (.string b) ∧ w = w'))
    (HA : Hid (∀ w : World, Calls Try.prog 14 #[.string a] w (AllIs ta na a.size 0 w)))
    (HB : Hid (∀ w : World, Calls Try.prog 14 #[.string b] w (AllIs tb nb b.size 0 w)))
    (HJ : Hid (∀ w : World, Calls Try.prog 14 #[.string j] w (AllIs (ta ++ ⟨4, a.size, [10], false⟩ :: tb.map (shiftT (a.size + 1))) (na + 1 + nb) pj 0 w))) (w : World) :
    Calls Try.prog 7 #[.string s, .string t] w fun e w' => e = .returned (.bool true) ∧ Below w.heap.size w w' := by
  have H0 := Lib.hid (wakes_lex w)
  have HNA := Lib.hid hna
  have HNB := Lib.hid hnb
  clear hna hnb
  go_enter Try.func7, Try.ntmps7
  go_wp2_with fail
  refine H0.out.mono ?_
  rintro e w1 ⟨rfl, b1⟩
  go_wp2_with fail
  refine (HCa.out _).mono ?_
  rintro e wx ⟨rfl, rfl⟩
  go_wp2_with fail
  refine (HCb.out _).mono ?_
  rintro e wx ⟨rfl, rfl⟩
  go_wp2_with fail
  refine (HA.out _).mono ?_
  rintro e w2 ⟨A2, c2, rfl, r2, q2, l2, m2, _⟩
  have b2 := b1.trans (q2.mono b1.size)
  clear b1 q2
  go_wp2_with fail
  refine (HB.out _).mono ?_
  rintro e w3 ⟨A3, c3, rfl, r3, q3, l3, m3, _⟩
  have b3 := b2.trans (q3.mono b2.size)
  have R2 := r2.below q3
  have s3 := q3.size
  clear b2 q3 r2
  go_wp2_with fail
  refine (HJ.out _).mono ?_
  rintro e w4 ⟨A4, c4, rfl, r4, q4, l4, m4, _⟩
  have b4 := b3.trans (q4.mono b3.size)
  have R2' := Lib.hid (((R2.more s3).below q4).more (B' := w4.heap.size) q4.size)
  have R3' := Lib.hid ((r3.below q4).more (B' := w4.heap.size) q4.size)
  have R4 := Lib.hid r4
  clear b3 q4 R2 r3 r4 s3
  have hmid : (ta ++ ⟨4, a.size, [10], false⟩ :: tb.map (shiftT (a.size + 1)))[na]? = some ⟨4, a.size, [10], false⟩ := by
    rw [← HNA.out, List.getElem?_append_right (Nat.le_refl _), Nat.sub_self]
    rfl
  obtain ⟨ad, rfl, g0, g1, g2, g3, had⟩ := tok_cells R4.out hmid
  clear hmid
  go_wp2_with fail
  clear g0 g1 g2 g3 had
  go_loopw [103] (fun i wr => ∃ k : Nat, k ≤ na + 1 + nb ∧ i = .int .i64 k ∧ Below w4.heap.size w4 wr) (fun i _ => na + 1 + nb - (intOf i).toNat)
  case atStart => exact ⟨0, Nat.zero_le _, rfl, Below.refl _ _⟩
  case round =>
    obtain ⟨k, hk, rfl, bk⟩ := hrel
    have hsz := bk.size
    by_cases hlt : k < na + 1 + nb
    · rcases Nat.lt_trichotomy k na with h1 | h1 | h1
      · obtain ⟨u, hu⟩ : ∃ u, ta[k]? = some u := ⟨ta[k]'(by rw [HNA.out]; exact h1), List.getElem?_eq_getElem _⟩
        have hu2 : (ta ++ ⟨4, a.size, [10], false⟩ :: tb.map (shiftT (a.size + 1)))[k]? = some u := by rw [List.getElem?_append_left (by rw [HNA.out]; exact h1)]; exact hu
        obtain ⟨ad', hA, g0, g1, g2, g3, had⟩ := tok_cells (R4.out.below bk) hu2
        obtain rfl := Option.some.inj hA
        obtain ⟨ad2, rfl, x0, x1, x2, x3, xad⟩ := tok_cells ((R2'.out.below bk).alloc hsz (.cells #[.int .i64 u.k, .int .i64 u.a, .string ⟨u.tx.toArray⟩, .bool u.gl] 29)) hu
        have bk1 := Lib.hid (bk.alloc hsz (.cells #[.int .i64 u.k, .int .i64 u.a, .string ⟨u.tx.toArray⟩, .bool u.gl] 29))
        clear hu hu2 hA
        go_wp2_with fail
        go_quiet (fail)
        go_wp2_with fail
        go_roundw
        case rel => exact ⟨k + 1, by omega, by go_num, drewN_below bk1.out _⟩
        case measure => simp [intOf]; omega
      · have hu2 : (ta ++ ⟨4, a.size, [10], false⟩ :: tb.map (shiftT (a.size + 1)))[k]? = some ⟨4, a.size, [10], false⟩ := by
          rw [h1, ← HNA.out, List.getElem?_append_right (Nat.le_refl _), Nat.sub_self]
          rfl
        obtain ⟨ad', hA, g0, g1, g2, g3, had⟩ := tok_cells (R4.out.below bk) hu2
        obtain rfl := Option.some.inj hA
        have bk1 := Lib.hid (bk.alloc hsz (.cells #[.int .i64 4, .int .i64 a.size, .string ⟨#[10]⟩, .bool false] 29))
        have hk1 : na ≤ k := by omega
        have hk2 : k ≤ na := by omega
        clear hu2 hA h1
        go_wp2_with fail
        go_roundw
        case rel => exact ⟨k + 1, by omega, by go_num, bk1.out⟩
        case measure => simp [intOf]; omega
      · obtain ⟨u, hu⟩ : ∃ u, tb[k - na - 1]? = some u := ⟨tb[k - na - 1]'(by rw [HNB.out]; omega), List.getElem?_eq_getElem _⟩
        have hu2 : (ta ++ ⟨4, a.size, [10], false⟩ :: tb.map (shiftT (a.size + 1)))[k]? = some (shiftT (a.size + 1) u) := by
          rw [List.getElem?_append_right (by rw [HNA.out]; omega), HNA.out]
          obtain ⟨m, hm⟩ : ∃ m, k - na = m + 1 := ⟨k - na - 1, by omega⟩
          rw [hm, List.getElem?_cons_succ, List.getElem?_map, show m = k - na - 1 by omega, hu]
          rfl
        have hua := hat.out u (List.mem_of_getElem? hu)
        obtain ⟨ad', hA, g0, g1, g2, g3, had⟩ := tok_cells (R4.out.below bk) hu2
        obtain rfl := Option.some.inj hA
        have hsh : ((shiftT (a.size + 1) u).a : Int) = (u.a : Int) + ((a.size : Int) + 1) := by unfold shiftT; simp
        rw [hsh] at g1
        replace g0 : wr.cell? (ad.add (k * 4)) = some (.int .i64 u.k) := g0
        replace g2 : wr.cell? ⟨(ad.add (k * 4)).block, (ad.add (k * 4)).off + 2, none⟩ = some (.string ⟨u.tx.toArray⟩) := g2
        replace g3 : wr.cell? ⟨(ad.add (k * 4)).block, (ad.add (k * 4)).off + 3, none⟩ = some (.bool u.gl) := g3
        obtain ⟨ad2, rfl, x0, x1, x2, x3, xad⟩ := tok_cells ((R3'.out.below bk).alloc hsz (.cells #[.int .i64 u.k, .int .i64 ((u.a : Int) + ((a.size : Int) + 1)), .string ⟨u.tx.toArray⟩, .bool u.gl] 29)) hu
        have bk1 := Lib.hid ((bk.alloc hsz (.cells #[.int .i64 u.k, .int .i64 ((u.a : Int) + ((a.size : Int) + 1)), .string ⟨u.tx.toArray⟩, .bool u.gl] 29)).alloc (by simp; omega) (.cells #[.int .i64 u.k, .int .i64 ((u.a : Int) + ((a.size : Int) + 1)), .string ⟨u.tx.toArray⟩, .bool u.gl] 29))
        clear hu hu2 hA hsh
        go_wp2_with fail
        go_roundw
        case rel => exact ⟨k + 1, by omega, by go_num, bk1.out⟩
        case measure => simp [intOf]; omega
    · have hge : ¬ (k : Int) < ((na + 1 + nb : Nat) : Int) := by omega
      have B5 := Lib.hid (b4.trans (bk.mono b4.size))
      go_wp2_with fail
      go_ret
      exact ⟨rfl, B5.out⟩

theorem place_le (l : List UInt8) : (allL l).2.1 ≤ l.length := by
  rw [allL_seq]
  have key : ∀ (f p : Nat), p ≤ l.length → l.length < f + p → (resOf l.length (seqF l f p)).2.1 ≤ l.length := by
    intro f
    induction f with
    | zero => intro p h1 h2; omega
    | succ f ih =>
      intro p h1 h2
      rcases seq_step h1 h2 with h | h | h
      · rw [h.2]; exact Nat.le_refl _
      · rw [h.2.2, resOf, if_pos h.2.1]
        exact next_p_le l p h1
      · obtain ⟨h5, he, h3, h4, g, hg, hs⟩ := h
        rw [seqF, if_neg h5, if_neg (by simpa using he), resOf, if_neg (by simpa using he)]
        have := ih _ h4 (by omega)
        split
        · exact this
        · exact this
  exact key _ _ (Nat.zero_le _) (by omega)
theorem all_len (l : List UInt8) : (allL l).1.length ≤ l.length + 1 := by
  rw [allL_seq]
  have key : ∀ xs : List Ans, (resOf l.length xs).1.length ≤ xs.length := by
    intro xs
    induction xs with
    | nil => exact Nat.le_refl _
    | cons x xs ih =>
      rw [resOf]
      split
      · simp
      · split
        · simp; exact ih
        · simp
  have := key (seqL l)
  have := seqL_len l
  omega

/-- LexJoins answers true, whatever the texts. -/
theorem joins_core (s t : ByteArray) (hs : s.size ≤ 9223372036854775807) (ht : t.size ≤ 9223372036854775807) (w : World) :
    Calls Try.prog 7 #[.string s, .string t] w fun e w' => e = .returned (.bool true) ∧ Below w.heap.size w w' := by
  have hca := cutS_size s
  have hcb := cutS_size t
  have HCa := Lib.hid fun w => cut_any2 s hs w
  have HCb := Lib.hid fun w => cut_any2 t ht w
  generalize cutS s = a at *
  generalize cutS t = b at *
  have hjs := joined_size a b
  have hj := all_join a.data.toList b.data.toList
  rw [← joined_list] at hj
  have sa := Lib.size_eq a
  have sb := Lib.size_eq b
  have pa := place_le a.data.toList
  have pb := place_le b.data.toList
  by_cases h0 : (allL a.data.toList).2.2 = 0
  · rw [if_pos h0] at hj
    have HA := fun w => all_is a (by omega) (ts := (allL a.data.toList).1) (p := a.size) (er := 0) (by rw [sa, ← all_place h0, ← h0]) rfl w
    by_cases h1 : (allL b.data.toList).2.2 = 0
    · rw [if_pos h1] at hj
      have HB := fun w => all_is b (by omega) (ts := (allL b.data.toList).1) (p := b.size) (er := 0) (by rw [sb, ← all_place h1, ← h1]) rfl w
      have HJ := fun w => all_is (a ++ ⟨#[10]⟩ ++ b) (by omega) hj (n := (allL a.data.toList).1.length + 1 + (allL b.data.toList).1.length) (by simp; omega) w
      rw [← sa] at HJ
      have la := all_len a.data.toList
      have lb := all_len b.data.toList
      exact joins_good s t a b _ hca hcb rfl _ _ _ _ _ rfl rfl (by omega) (by omega) (fun u hu => by have := all_at u hu; omega) HCa HCb HA HB HJ w
    · rw [if_neg h1] at hj
      have HB := fun w => all_is b (by omega) (ts := (allL b.data.toList).1) (p := (allL b.data.toList).2.1) (er := (allL b.data.toList).2.2) rfl rfl w
      have HJ := fun w => all_is (a ++ ⟨#[10]⟩ ++ b) (by omega) hj (n := 0) rfl w
      rw [← sa] at HJ
      exact joins_bad2 s t a b _ hca hcb rfl _ _ _ _ a.size _ (by omega) (by omega) _ (by simpa using h1) HCa HCb HA HB HJ w
  · rw [if_neg h0] at hj
    have HA := fun w => all_is a (by omega) (ts := (allL a.data.toList).1) (p := (allL a.data.toList).2.1) (er := (allL a.data.toList).2.2) rfl rfl w
    have HB := fun w => all_is b (by omega) (ts := (allL b.data.toList).1) (p := (allL b.data.toList).2.1) (er := (allL b.data.toList).2.2) rfl rfl w
    have HJ := fun w => all_is (a ++ ⟨#[10]⟩ ++ b) (by omega) hj (n := 0) rfl w
    exact joins_bad s t a b _ hca hcb rfl _ _ _ _ _ _ _ _ (by simpa using h0) HCa HCb HA HB HJ w
end Go.Proofs.Ythccgpjbchlocaa
