/- BitsTurns: the walk. -/
import Derived.Test.YtpkpfnilfabkaaaDoorBs
import Derived.Test.YtpkpfnilfabkaaaDoorBu
namespace Go.Proofs.YtpkpfnilfabkaaaDoor
open Go.RowKit

theorem Env.zero {w W : World} (hT : Tab W) (hb : Below w.heap.size w W) : Env w [] W := ⟨hb, hT, fun p hp => by simp at hp⟩
theorem in_with {xs : List Nat} {m : Nat} (hm : m < 10000) (n : Nat) : inW (setW fun n => inW xs n || decide (n = m)) n = (inW xs n || decide (n = m)) :=
  in_set (fun k hk => by
    simp only [Bool.or_eq_true, decide_eq_true_eq] at hk
    rcases hk with h | h
    · exact in_lt h
    · omega) n
theorem in_without {xs : List Nat} {z : Int} (n : Nat) : inW (setW fun n => inW xs n && !decide ((n : Int) = z)) n = (inW xs n && !decide ((n : Int) = z)) :=
  in_set (fun k hk => by
    simp only [Bool.and_eq_true] at hk
    exact in_lt hk.1) n
theorem right_with {xs : List Nat} {m : Nat} (hm : m < 10000) : checkE (setW fun n => inW xs n || decide (n = m)) = 0 := by
  unfold checkE
  rw [if_pos (right_set fun k hk => ?_)]
  simp only [Bool.or_eq_true, decide_eq_true_eq] at hk
  rcases hk with h | h
  · exact in_lt h
  · omega
theorem right_without {xs : List Nat} {z : Int} : checkE (setW fun n => inW xs n && !decide ((n : Int) = z)) = 0 := by
  unfold checkE
  rw [if_pos (right_set fun k hk => ?_)]
  simp only [Bool.and_eq_true] at hk
  exact in_lt hk.1

set_option maxRecDepth 100000 in
set_option maxHeartbeats 4000000 in
theorem turns_core (A : Option Addr) (n c : Nat) (xs : List Nat) (z : Int) (h64 : W64 xs) (hnc : n ≤ c) (hcm : c ≤ 9223372036854775807) (hz0 : -9223372036854775808 ≤ z) (hz1 : z ≤ 9223372036854775807) (w : World) (hT : Tab w) (hA : RW w w.heap.size A n xs) :
    Calls Tryd.prog 8 #[.agg #[.slice A n c], .int .i64 z] w fun e w' => e = .returned (.bool true) ∧ Below w.heap.size w w' := by
  have bx : Below w.heap.size w (w.alloc (.cells #[.slice A n c] 24)) := one_more w _
  have HK := Lib.hid ((Blk.new w 24 #[.slice A n c]))
  have HWK := Lib.hid (wakes_any _ (hT.on bx))
  have HT := Lib.hid fun W h => hT.on (w' := W) h
  have HO := Lib.hid fun W (h : Below w.heap.size w W) => own_any A n c xs h64 hnc hcm W ((hA.below h).more h.size)
  clear hT hA
  go_enter Tryd.func8, Tryd.ntmps8
  go_wp2_with fail
  refine HWK.out.mono ?_
  rintro e w1 ⟨rfl, b1⟩
  have B1 : Hid (Below w.heap.size w w1) := bx.trans (b1.mono bx.size)
  have K1 := Lib.hid (HK.out.below b1 (by simp))
  have x0 := K1.out.cell 0
  clear b1 bx HK HWK
  go_wp2_with fail
  refine (HO.out _ B1.out).mono ?_
  rintro e w2 ⟨s, rfl, hsw, hok, _, b2⟩
  have E0 : Hid (Env w [] w2) := Env.zero (HT.out _ (B1.out.trans (b2.mono B1.out.size))) (B1.out.trans (b2.mono B1.out.size))
  have E1 := Lib.hid (E0.out.add hok)
  clear hsw hok b2 B1 K1 HO x0 HT E0
  have hb5 : w2.heap.size < (w2.alloc (.cells #[.slice s.A s.n s.c] 24)).heap.size := by simp
  go_wp2_with fail
  generalize w2.alloc (.cells #[.slice s.A s.n s.c] 24) = W2 at *
  generalize w2.heap.size = p5 at *
  by_cases hm : mayB z = true
  · obtain ⟨m, rfl, hm2⟩ := may_nat hm
    have x5 := E1.out.cell (.head _)
    go_wp2_with fail
    refine (s_with s W2 m hm2 (E1.out.ok (.head _))).mono ?_
    rintro e w3 ⟨t6, rfl, ht6, hok6, _, b3⟩
    have F6 := Lib.hid (fun n => in_with (xs := s.ws) hm2 n)
    have CK6 := Lib.hid (right_with (xs := s.ws) hm2)
    have E2 := Lib.hid ((E1.out.on b3).add hok6)
    clear b3 hok6 x5 hb5
    rw [← ht6] at F6 CK6
    clear ht6
    have x5 := E2.out.cell (.tail _ (.head _))
    go_wp2_with fail
    generalize w3.alloc (.cells #[.slice t6.A t6.n t6.c] 24) = W3 at *
    generalize w3.heap.size = p6 at *
    refine (s_without s W3 (m : Int) hz0 hz1 (E2.out.ok (.tail _ (.head _)))).mono ?_
    rintro e w4 ⟨t8, rfl, ht8, hok8, _, b4⟩
    have F8 := Lib.hid (fun n => in_without (xs := s.ws) (z := (m : Int)) n)
    have CK8 := Lib.hid (right_without (xs := s.ws) (z := (m : Int)))
    have E3 := Lib.hid ((E2.out.on b4).add hok8)
    clear b4 hok8 x5
    rw [← ht8] at F8 CK8
    clear ht8
    go_wp2_with fail
    generalize w4.alloc (.cells #[.slice t8.A t8.n t8.c] 24) = W4 at *
    generalize w4.heap.size = p8 at *
    have x8 := E3.out.cell (.head _)
    go_wp2_with fail
    refine (s_with t8 W4 m hm2 (E3.out.ok (.head _))).mono ?_
    rintro e w5 ⟨t9, rfl, ht9, hok9, _, b5⟩
    have F9 := Lib.hid (fun n => in_with (xs := t8.ws) hm2 n)
    have E4 := Lib.hid ((E3.out.on b5).add hok9)
    clear b5 hok9 x8
    rw [← ht9] at F9
    clear ht9
    -- what is told of them
    have hmi : (m : Int) = (m : Int) := rfl
    have G6 : Hid (∀ W, t6.ok W W.heap.size → Calls Tryd.prog 28 #[.agg #[.slice t6.A t6.n t6.c], .int .i64 (m : Int)] W fun e w' => e = .returned (.bool true) ∧ Below W.heap.size W w') := fun W h => by
      have := s_has t6 W (m : Int) hz0 hz1 h
      rwa [show hasZ t6.ws (m : Int) = true by unfold hasZ; rw [hm]; simp [F6.out]] at this
    have G8 : Hid (∀ W, t8.ok W W.heap.size → Calls Tryd.prog 28 #[.agg #[.slice t8.A t8.n t8.c], .int .i64 (m : Int)] W fun e w' => e = .returned (.bool false) ∧ Below W.heap.size W w') := fun W h => by
      have := s_has t8 W (m : Int) hz0 hz1 h
      rwa [show hasZ t8.ws (m : Int) = false by unfold hasZ; simp [F8.out]] at this
    have G96 : Hid (∀ W, t9.ok W W.heap.size → t6.ok W W.heap.size → Calls Tryd.prog 14 #[.agg #[.slice t9.A t9.n t9.c], .agg #[.slice t6.A t6.n t6.c]] W fun e w' => e = .returned (.bool true) ∧ Below W.heap.size W w') := fun W h h' => by
      have := s_same t9 t6 W h h'
      rwa [show sameF (inW t9.ws) (inW t6.ws) = true by
        rw [sameF_iff]; intro n _; rw [F9.out, F8.out, F6.out]
        by_cases e : n = m
        · simp [e]
        · have : ¬ ((n : Int) = (m : Int)) := by omega
          simp [e, this]] at this
    have G7 : Hid (∀ W (u : SV), t8.ok W W.heap.size → u.ok W W.heap.size → u.ws = setW (fun n => inW t6.ws n && !decide ((n : Int) = (m : Int))) → Calls Tryd.prog 14 #[.agg #[.slice u.A u.n u.c], .agg #[.slice t8.A t8.n t8.c]] W fun e w' => e = .returned (.bool true) ∧ Below W.heap.size W w') := fun W u h h' hu => by
      have := s_same u t8 W h' h
      rwa [show sameF (inW u.ws) (inW t8.ws) = true by
        rw [sameF_iff]; intro n _; rw [hu, in_without, F8.out, F6.out]
        by_cases e : n = m
        · simp [e]
        · have : ¬ ((n : Int) = (m : Int)) := by omega
          simp [e, this]] at this
    clear hmi
    go_wp2_with fail
    generalize w5.alloc (.cells #[.slice t9.A t9.n t9.c] 24) = W5 at *
    generalize w5.heap.size = p9 at *
    have D0 := Lib.hid E4.out.drew
    have c5 := E4.out.cell (.tail _ (.tail _ (.tail _ (.head _))))
    have c6 := E4.out.cell (.tail _ (.tail _ (.head _)))
    have c8 := E4.out.cell (.tail _ (.head _))
    have c9 := E4.out.cell (.head _)
    clear E1 E2 E3 E4
    go_region_held3 (fun w' => w'.cell? ⟨p6, 0, none⟩ = some (.slice t6.A t6.n t6.c) ∧ w'.cell? ⟨p8, 0, none⟩ = some (.slice t8.A t8.n t8.c) ∧ w'.cell? ⟨p9, 0, none⟩ = some (.slice t9.A t9.n t9.c)) (first | exact ⟨c6, c8, c9⟩ | exact ⟨d6, d8, d9⟩ | exact ⟨e6, e8, e9⟩ | exact ⟨f6, f8, f9⟩ | exact ⟨g6, g8, g9⟩ | exact ⟨h6, h8, h9⟩ | fail) (first
      | (have _t := D4; go_at_call 14; refine (G7.out v4 u (D4.out.ok (.tail _ (.head _))) U4.out HU.out).mono ?_; rintro e v5 ⟨rfl, b⟩; have D5 := Lib.hid (D4.out.on b); have h6 := D5.out.cell (.tail _ (.tail _ (.head _))); have h8 := D5.out.cell (.tail _ (.head _)); have h9 := D5.out.cell (.head _); clear b g6 g8 g9)
      | (have _t := D3; go_at_call 27; refine (s_without t6 v3 (m : Int) hz0 hz1 (D3.out.ok (.tail _ (.tail _ (.head _))))).mono ?_; rintro e v4 ⟨u, rfl, hu, ho, _, b⟩; have D4 := Lib.hid (D3.out.on b); have U4 := Lib.hid ho; have HU := Lib.hid hu; have g6 := D4.out.cell (.tail _ (.tail _ (.head _))); have g8 := D4.out.cell (.tail _ (.head _)); have g9 := D4.out.cell (.head _); clear b f6 f8 f9 hu ho)
      | (have _t := D2; go_at_call 14; refine (G96.out v2 (D2.out.ok (.head _)) (D2.out.ok (.tail _ (.tail _ (.head _))))).mono ?_; rintro e v3 ⟨rfl, b⟩; have D3 := Lib.hid (D2.out.on b); have f6 := D3.out.cell (.tail _ (.tail _ (.head _))); have f8 := D3.out.cell (.tail _ (.head _)); have f9 := D3.out.cell (.head _); clear b e6 e8 e9)
      | (have _t := D1; go_at_call 28; refine (G8.out v1 (D1.out.ok (.tail _ (.head _)))).mono ?_; rintro e v2 ⟨rfl, b⟩; have D2 := Lib.hid (D1.out.on b); have e6 := D2.out.cell (.tail _ (.tail _ (.head _))); have e8 := D2.out.cell (.tail _ (.head _)); have e9 := D2.out.cell (.head _); clear b d6 d8 d9)
      | (go_at_call 28; refine (G6.out W5.drew (D0.out.ok (.tail _ (.tail _ (.head _))))).mono ?_; rintro e v1 ⟨rfl, b⟩; have D1 := Lib.hid (D0.out.on b); have d6 := D1.out.cell (.tail _ (.tail _ (.head _))); have d8 := D1.out.cell (.tail _ (.head _)); have d9 := D1.out.cell (.head _); clear b c6 c8 c9)
      | fail)
    have C6 : Hid (∃ k6 : Nat, cN (inW t6.ws) = k6) := ⟨_, rfl⟩
    obtain ⟨k6, hk6⟩ := C6.out
    obtain ⟨k5, hk5⟩ : ∃ k5 : Nat, cN (inW s.ws) = k5 := ⟨_, rfl⟩
    obtain ⟨k8, hk8⟩ : ∃ k8 : Nat, cN (inW t8.ws) = k8 := ⟨_, rfl⟩
    have hb5 : k5 ≤ 10048 := by rw [← hk5]; exact cN_le _
    have r6 : k6 + (if inW s.ws m then 1 else 0) = k5 + 1 := by
      rw [← hk6, ← hk5, ← cN_with (inW s.ws) (m := m) (by omega)]
      congr 1
      exact cN_congr fun n _ => F6.out n
    have r8 : k8 + (if inW s.ws m then 1 else 0) = k5 := by
      rw [← hk8, ← hk5, ← cN_without (inW s.ws) (m := m) (by omega)]
      congr 1
      exact cN_congr fun n _ => by
        rw [F8.out n]; congr 2; exact decide_eq_decide.2 (by omega)
    have M6 : Hid (∀ W, t6.ok W W.heap.size → Calls Tryd.prog 17 #[.agg #[.slice t6.A t6.n t6.c]] W fun e w' => e = .returned (.int .i64 (k6 : Int)) ∧ Below W.heap.size W w') := fun W h => by
      have := s_count t6 W h
      rwa [show (numsF (inW t6.ws)).length = k6 from hk6] at this
    have M5 : Hid (∀ W, s.ok W W.heap.size → Calls Tryd.prog 17 #[.agg #[.slice s.A s.n s.c]] W fun e w' => e = .returned (.int .i64 (k5 : Int)) ∧ Below W.heap.size W w') := fun W h => by
      have := s_count s W h
      rwa [show (numsF (inW s.ws)).length = k5 from hk5] at this
    have M8 : Hid (∀ W, t8.ok W W.heap.size → Calls Tryd.prog 17 #[.agg #[.slice t8.A t8.n t8.c]] W fun e w' => e = .returned (.int .i64 (k8 : Int)) ∧ Below W.heap.size W w') := fun W h => by
      have := s_count t8 W h
      rwa [show (numsF (inW t8.ws)).length = k8 from hk8] at this
    have Q6 : Hid (∀ W, t6.ok W W.heap.size → Calls Tryd.prog 12 #[.agg #[.slice t6.A t6.n t6.c]] W fun e w' => e = .returned (.int .i64 0) ∧ Below W.heap.size W w') := fun W h => by
      have := s_check t6 W h
      rwa [CK6.out] at this
    have Q8 : Hid (∀ W, t8.ok W W.heap.size → Calls Tryd.prog 12 #[.agg #[.slice t8.A t8.n t8.c]] W fun e w' => e = .returned (.int .i64 0) ∧ Below W.heap.size W w') := fun W h => by
      have := s_check t8 W h
      rwa [CK8.out] at this
    have HH5 : Hid (∀ W, s.ok W W.heap.size → Calls Tryd.prog 28 #[.agg #[.slice s.A s.n s.c], .int .i64 (m : Int)] W fun e w' => e = .returned (.bool (inW s.ws m)) ∧ Below W.heap.size W w') := fun W h => by
      have := s_has s W (m : Int) hz0 hz1 h
      rwa [show hasZ s.ws (m : Int) = inW s.ws m by unfold hasZ; rw [hm]; simp] at this
    have x5 := D5.out.cell (.tail _ (.tail _ (.tail _ (.head _))))
    clear hk5 hk6 hk8 F6 F8 F9 CK6 CK8 G6 G8 G96 G7 D0 D1 D2 D3 D4 U4 HU C6 h6 h8 h9 c5
    rcases Bool.eq_false_or_eq_true (inW s.ws m) with hb | hb
    · rw [hb] at HH5 r6 r8
      simp only [if_true] at r6 r8
      have q1 : ((k6 : Int) == (k5 : Int)) = true := by simp; omega
      have q2 : ((k8 : Int) == (k5 : Int) - 1) = true := by simp; omega
      have w1' : IntKind.i64.wrap ((k5 : Int) + 1) = (k5 : Int) + 1 := IntWalk.i64_in _ (by omega)
      have w2' : IntKind.i64.wrap ((k5 : Int) - 1) = (k5 : Int) - 1 := IntWalk.i64_in _ (by omega)
      have w3' : IntKind.i64.wrap (k5 : Int) = (k5 : Int) := IntWalk.i64_in _ (by omega)
      clear r6 r8 hb
      go_wp2_with fail
      refine (HH5.out v5 (D5.out.ok (.tail _ (.tail _ (.tail _ (.head _)))))).mono ?_
      rintro e v6 ⟨rfl, b⟩
      have J0 := Lib.hid (D5.out.on b).drew
      have j5 := (D5.out.on b).cell (.tail _ (.tail _ (.tail _ (.head _))))
      have j6 := (D5.out.on b).cell (.tail _ (.tail _ (.head _)))
      have j8 := (D5.out.on b).cell (.tail _ (.head _))
      clear b x5 D5 HH5
      go_wp2_with fail
      go_region_held3 (fun w' => w'.cell? ⟨p5, 0, none⟩ = some (.slice s.A s.n s.c) ∧ w'.cell? ⟨p6, 0, none⟩ = some (.slice t6.A t6.n t6.c) ∧ w'.cell? ⟨p8, 0, none⟩ = some (.slice t8.A t8.n t8.c)) (first | exact ⟨j5, j6, j8⟩ | fail) (first
        | (have _t := J5; go_at_call 12; refine (Q8.out y5 (J5.out.ok (.tail _ (.head _)))).mono ?_; rintro e y6 ⟨rfl, b⟩; have J6 := Lib.hid (J5.out.on b); clear j5 j6 j8; have j5 := J6.out.cell (.tail _ (.tail _ (.tail _ (.head _)))); have j6 := J6.out.cell (.tail _ (.tail _ (.head _))); have j8 := J6.out.cell (.tail _ (.head _)); clear b)
        | (have _t := J4; go_at_call 12; refine (Q6.out y4 (J4.out.ok (.tail _ (.tail _ (.head _))))).mono ?_; rintro e y5 ⟨rfl, b⟩; have J5 := Lib.hid (J4.out.on b); clear j5 j6 j8; have j5 := J5.out.cell (.tail _ (.tail _ (.tail _ (.head _)))); have j6 := J5.out.cell (.tail _ (.tail _ (.head _))); have j8 := J5.out.cell (.tail _ (.head _)); clear b)
        | (have _t := J3; go_at_call 17; refine (M5.out y3 (J3.out.ok (.tail _ (.tail _ (.tail _ (.head _)))))).mono ?_; rintro e y4 ⟨rfl, b⟩; have J4 := Lib.hid (J3.out.on b); clear j5 j6 j8; have j5 := J4.out.cell (.tail _ (.tail _ (.tail _ (.head _)))); have j6 := J4.out.cell (.tail _ (.tail _ (.head _))); have j8 := J4.out.cell (.tail _ (.head _)); clear b)
        | (have _t := J2; go_at_call 17; refine (M8.out y2 (J2.out.ok (.tail _ (.head _)))).mono ?_; rintro e y3 ⟨rfl, b⟩; have J3 := Lib.hid (J2.out.on b); clear j5 j6 j8; have j5 := J3.out.cell (.tail _ (.tail _ (.tail _ (.head _)))); have j6 := J3.out.cell (.tail _ (.tail _ (.head _))); have j8 := J3.out.cell (.tail _ (.head _)); clear b)
        | (have _t := J1; go_at_call 17; refine (M5.out y1 (J1.out.ok (.tail _ (.tail _ (.tail _ (.head _)))))).mono ?_; rintro e y2 ⟨rfl, b⟩; have J2 := Lib.hid (J1.out.on b); clear j5 j6 j8; have j5 := J2.out.cell (.tail _ (.tail _ (.tail _ (.head _)))); have j6 := J2.out.cell (.tail _ (.tail _ (.head _))); have j8 := J2.out.cell (.tail _ (.head _)); clear b)
        | (have _t := J0; go_at_call 17; refine (M6.out v6.drew (J0.out.ok (.tail _ (.tail _ (.head _))))).mono ?_; rintro e y1 ⟨rfl, b⟩; have J1 := Lib.hid (J0.out.on b); clear j5 j6 j8; have j5 := J1.out.cell (.tail _ (.tail _ (.tail _ (.head _)))); have j6 := J1.out.cell (.tail _ (.tail _ (.head _))); have j8 := J1.out.cell (.tail _ (.head _)); clear b)
        | fail)
      go_wp2_with fail
      go_ret
      exact ⟨rfl, J6.out.below⟩
    · rw [hb] at HH5 r6 r8
      simp only [if_false, Bool.false_eq_true] at r6 r8
      have q1 : ((k6 : Int) == (k5 : Int) + 1) = true := by simp; omega
      have q2 : ((k8 : Int) == (k5 : Int)) = true := by simp; omega
      have w1' : IntKind.i64.wrap ((k5 : Int) + 1) = (k5 : Int) + 1 := IntWalk.i64_in _ (by omega)
      have w2' : IntKind.i64.wrap ((k5 : Int) - 1) = (k5 : Int) - 1 := IntWalk.i64_in _ (by omega)
      have w3' : IntKind.i64.wrap (k5 : Int) = (k5 : Int) := IntWalk.i64_in _ (by omega)
      clear r6 r8 hb
      go_wp2_with fail
      refine (HH5.out v5 (D5.out.ok (.tail _ (.tail _ (.tail _ (.head _)))))).mono ?_
      rintro e v6 ⟨rfl, b⟩
      have J0 := Lib.hid (D5.out.on b).drew
      have j5 := (D5.out.on b).cell (.tail _ (.tail _ (.tail _ (.head _))))
      have j6 := (D5.out.on b).cell (.tail _ (.tail _ (.head _)))
      have j8 := (D5.out.on b).cell (.tail _ (.head _))
      clear b x5 D5 HH5
      go_wp2_with fail
      go_region_held3 (fun w' => w'.cell? ⟨p5, 0, none⟩ = some (.slice s.A s.n s.c) ∧ w'.cell? ⟨p6, 0, none⟩ = some (.slice t6.A t6.n t6.c) ∧ w'.cell? ⟨p8, 0, none⟩ = some (.slice t8.A t8.n t8.c)) (first | exact ⟨j5, j6, j8⟩ | fail) (first
        | (have _t := J5; go_at_call 12; refine (Q8.out y5 (J5.out.ok (.tail _ (.head _)))).mono ?_; rintro e y6 ⟨rfl, b⟩; have J6 := Lib.hid (J5.out.on b); clear j5 j6 j8; have j5 := J6.out.cell (.tail _ (.tail _ (.tail _ (.head _)))); have j6 := J6.out.cell (.tail _ (.tail _ (.head _))); have j8 := J6.out.cell (.tail _ (.head _)); clear b)
        | (have _t := J4; go_at_call 12; refine (Q6.out y4 (J4.out.ok (.tail _ (.tail _ (.head _))))).mono ?_; rintro e y5 ⟨rfl, b⟩; have J5 := Lib.hid (J4.out.on b); clear j5 j6 j8; have j5 := J5.out.cell (.tail _ (.tail _ (.tail _ (.head _)))); have j6 := J5.out.cell (.tail _ (.tail _ (.head _))); have j8 := J5.out.cell (.tail _ (.head _)); clear b)
        | (have _t := J3; go_at_call 17; refine (M5.out y3 (J3.out.ok (.tail _ (.tail _ (.tail _ (.head _)))))).mono ?_; rintro e y4 ⟨rfl, b⟩; have J4 := Lib.hid (J3.out.on b); clear j5 j6 j8; have j5 := J4.out.cell (.tail _ (.tail _ (.tail _ (.head _)))); have j6 := J4.out.cell (.tail _ (.tail _ (.head _))); have j8 := J4.out.cell (.tail _ (.head _)); clear b)
        | (have _t := J2; go_at_call 17; refine (M8.out y2 (J2.out.ok (.tail _ (.head _)))).mono ?_; rintro e y3 ⟨rfl, b⟩; have J3 := Lib.hid (J2.out.on b); clear j5 j6 j8; have j5 := J3.out.cell (.tail _ (.tail _ (.tail _ (.head _)))); have j6 := J3.out.cell (.tail _ (.tail _ (.head _))); have j8 := J3.out.cell (.tail _ (.head _)); clear b)
        | (have _t := J1; go_at_call 17; refine (M5.out y1 (J1.out.ok (.tail _ (.tail _ (.tail _ (.head _)))))).mono ?_; rintro e y2 ⟨rfl, b⟩; have J2 := Lib.hid (J1.out.on b); clear j5 j6 j8; have j5 := J2.out.cell (.tail _ (.tail _ (.tail _ (.head _)))); have j6 := J2.out.cell (.tail _ (.tail _ (.head _))); have j8 := J2.out.cell (.tail _ (.head _)); clear b)
        | (have _t := J0; go_at_call 17; refine (M6.out v6.drew (J0.out.ok (.tail _ (.tail _ (.head _))))).mono ?_; rintro e y1 ⟨rfl, b⟩; have J1 := Lib.hid (J0.out.on b); clear j5 j6 j8; have j5 := J1.out.cell (.tail _ (.tail _ (.tail _ (.head _)))); have j6 := J1.out.cell (.tail _ (.tail _ (.head _))); have j8 := J1.out.cell (.tail _ (.head _)); clear b)
        | fail)
      go_wp2_with fail
      go_ret
      exact ⟨rfl, J6.out.below⟩
  · have hm' : mayB z = false := by simpa using hm
    have HS : Hid (∀ W (u : SV), s.ok W W.heap.size → u.ok W W.heap.size → u.ws = setW (fun n => inW s.ws n && !decide ((n : Int) = z)) → Calls Tryd.prog 14 #[.agg #[.slice u.A u.n u.c], .agg #[.slice s.A s.n s.c]] W fun e w' => e = .returned (.bool true) ∧ Below W.heap.size W w') := fun W u h h' hu => by
      have := s_same u s W h' h
      rwa [show sameF (inW u.ws) (inW s.ws) = true by
        rw [sameF_iff]; intro n _; rw [hu, in_without]
        cases hn : inW s.ws n with
        | false => rfl
        | true =>
          have h1 := in_lt hn
          have : ¬ ((n : Int) = z) := fun e => by subst e; unfold mayB at hm'; simp at hm'; omega
          simp [this]] at this
    have HW := Lib.hid fun W => s_with_no s W z hm'
    have x5 := E1.out.cell (.head _)
    have hor : z < 0 ∨ 10000 ≤ z := by
      unfold mayB at hm'; simp at hm'; omega
    clear hm hm'
    go_wp2_with fail
    refine (HW.out W2).mono ?_
    rintro e w3 ⟨t6, rfl, ht6, hok6, _, b3⟩
    have hn6 : t6.n = 0 := by have := hok6.1.len; rw [ht6] at this; simpa using this.symm
    have E2 := Lib.hid ((E1.out.on b3).add hok6)
    have HN6 := Lib.hid hn6
    clear b3 hok6 x5 hb5 HW ht6 E1 hn6
    go_wp2_with fail
    generalize w3.alloc (.cells #[.slice t6.A t6.n t6.c] 24) = W3 at *
    generalize w3.heap.size = p6 at *
    have D0 := Lib.hid E2.out.drew
    have c5 := E2.out.cell (.tail _ (.head _))
    have c6 := E2.out.cell (.head _)
    rw [HN6.out] at c6
    clear E2
    rcases hor with hz | hz
    · have d1 : decide (z < 0) = true := by simpa using hz
      refine wp_region_noPanic ?_
      refine wp_region_held_drew (S := fun w' => w'.cell? ⟨p5, 0, none⟩ = some (.slice s.A s.n s.c) ∧ w'.cell? ⟨p6, 0, none⟩ = some (.slice t6.A 0 t6.c)) (by kernel_rfl) ⟨c5, c6⟩ (fun hHeld => ?_)
      refine wpAnyH_take (i := 0) (oi := { dst := some 24, op := Op.move (Operand.tmp 1), type := 3, pos := "outright.go:60", after := #[], guard := none }) (v := .int .i64 z) rfl (by kernel_rfl) (by kernel_rfl) (by kernel_rfl) (fun _ _ _ h => h) (Or.inl ⟨by kernel_rfl, fun w' hSw => by (try dsimp only at hSw); go_simp⟩) (by assumption) ?_
      try simp only [Act.put, List.setIfInBounds_toArray, List.set_cons_zero, List.set_cons_succ]
      refine wpAnyH_take (i := 1) (oi := { dst := some 25, op := Op.binOp BinOp.lss 3 (Operand.tmp 24) (Operand.const (Value.int IntKind.i64 0)) 3, type := 4, pos := "outright.go:60", after := #[{ on := 0, ground := Ground.data }], guard := none }) (v := .bool true) rfl (by kernel_rfl) (by kernel_rfl) (by kernel_rfl) (fun _ _ _ h => h) (Or.inl ⟨by kernel_rfl, fun w' hSw => by (try dsimp only at hSw); go_simp⟩) (by assumption) ?_
      try simp only [Act.put, List.setIfInBounds_toArray, List.set_cons_zero, List.set_cons_succ]
      refine wpAnyH_take (i := 2) (oi := { dst := some 26, op := Op.move (Operand.tmp 25), type := 4, pos := "outright.go:60", after := #[{ on := 1, ground := Ground.data }], guard := none }) (v := .bool true) rfl (by kernel_rfl) (by kernel_rfl) (by kernel_rfl) (fun _ _ _ h => h) (Or.inl ⟨by kernel_rfl, fun w' hSw => by (try dsimp only at hSw); go_simp⟩) (by assumption) ?_
      try simp only [Act.put, List.setIfInBounds_toArray, List.set_cons_zero, List.set_cons_succ]
      refine wpAnyH_take (i := 3) (oi := { dst := some 27, op := Op.move (Operand.tmp 1), type := 3, pos := "outright.go:60", after := #[{ on := 2, ground := Ground.guard }], guard := some (2, false) }) (v := undef) rfl (by kernel_rfl) (by kernel_rfl) (by kernel_rfl) (fun _ _ _ h => h) (Or.inr ⟨by kernel_rfl, rfl⟩) (by assumption) ?_
      try simp only [Act.put, List.setIfInBounds_toArray, List.set_cons_zero, List.set_cons_succ]
      refine wpAnyH_take (i := 4) (oi := { dst := some 28, op := Op.binOp BinOp.geq 3 (Operand.tmp 27) (Operand.const (Value.int IntKind.i64 10000)) 3, type := 4, pos := "outright.go:60", after := #[{ on := 3, ground := Ground.data }, { on := 2, ground := Ground.guard }], guard := some (2, false) }) (v := undef) rfl (by kernel_rfl) (by kernel_rfl) (by kernel_rfl) (fun _ _ _ h => h) (Or.inr ⟨by kernel_rfl, rfl⟩) (by assumption) ?_
      try simp only [Act.put, List.setIfInBounds_toArray, List.set_cons_zero, List.set_cons_succ]
      refine wpAnyH_take (i := 5) (oi := { dst := some 29, op := Op.pick (Operand.tmp 26) (Operand.const (Value.bool true)) (Operand.tmp 28), type := 4, pos := "outright.go:60", after := #[{ on := 2, ground := Ground.data }, { on := 4, ground := Ground.data }], guard := none }) (v := .bool true) rfl (by kernel_rfl) (by kernel_rfl) (by kernel_rfl) (fun _ _ _ h => h) (Or.inl ⟨by kernel_rfl, fun w' hSw => by (try dsimp only at hSw); go_simp⟩) (by assumption) ?_
      try simp only [Act.put, List.setIfInBounds_toArray, List.set_cons_zero, List.set_cons_succ]
      refine wpAnyH_take (i := 6) (oi := { dst := some 30, op := Op.move (Operand.tmp 29), type := 4, pos := "outright.go:60", after := #[{ on := 5, ground := Ground.data }, { on := 2, ground := Ground.chain }], guard := none }) (v := .bool true) rfl (by kernel_rfl) (by kernel_rfl) (by kernel_rfl) (fun _ _ _ h => h) (Or.inl ⟨by kernel_rfl, fun w' hSw => by (try dsimp only at hSw); go_simp⟩) (by assumption) ?_
      try simp only [Act.put, List.setIfInBounds_toArray, List.set_cons_zero, List.set_cons_succ]
      refine wpAnyH_take (i := 7) (oi := { dst := some 31, op := Op.fieldAddr 24 (Operand.tmp 6) 0, type := 0, pos := "outright.go:60", after := #[{ on := 6, ground := Ground.guard }], guard := some (6, true) }) (v := .pointer (some ⟨p6, 0, none⟩)) rfl (by kernel_rfl) (by kernel_rfl) (by kernel_rfl) (fun _ _ _ h => h) (Or.inl ⟨by kernel_rfl, fun w' hSw => by (try dsimp only at hSw); go_simp⟩) (by assumption) ?_
      try simp only [Act.put, List.setIfInBounds_toArray, List.set_cons_zero, List.set_cons_succ]
      refine wpAnyH_take (i := 8) (oi := { dst := some 32, op := Op.load 22 (Operand.tmp 31), type := 22, pos := "outright.go:60", after := #[{ on := 7, ground := Ground.data }, { on := 6, ground := Ground.guard }], guard := some (6, true) }) (v := .slice t6.A 0 t6.c) rfl (by kernel_rfl) (by kernel_rfl) (by kernel_rfl) (fun _ _ _ h => h) (Or.inl ⟨by kernel_rfl, fun w' hSw => by (try dsimp only at hSw); go_simp⟩) (by assumption) ?_
      try simp only [Act.put, List.setIfInBounds_toArray, List.set_cons_zero, List.set_cons_succ]
      refine wpAnyH_take (i := 9) (oi := { dst := some 33, op := Op.call { callee := Callee.builtin Builtin.len, args := #[Operand.tmp 32], argTypes := #[22] }, type := 3, pos := "outright.go:60", after := #[{ on := 8, ground := Ground.data }, { on := 6, ground := Ground.guard }], guard := some (6, true) }) (v := .int .i64 0) rfl (by kernel_rfl) (by kernel_rfl) (by kernel_rfl) (fun _ _ _ h => h) (Or.inl ⟨by kernel_rfl, fun w' hSw => by (try dsimp only at hSw); go_simp⟩) (by assumption) ?_
      try simp only [Act.put, List.setIfInBounds_toArray, List.set_cons_zero, List.set_cons_succ]
      refine wpAnyH_take (i := 10) (oi := { dst := some 34, op := Op.binOp BinOp.eql 3 (Operand.tmp 33) (Operand.const (Value.int IntKind.i64 0)) 3, type := 4, pos := "outright.go:60", after := #[{ on := 9, ground := Ground.data }, { on := 6, ground := Ground.guard }], guard := some (6, true) }) (v := .bool true) rfl (by kernel_rfl) (by kernel_rfl) (by kernel_rfl) (fun _ _ _ h => h) (Or.inl ⟨by kernel_rfl, fun w' hSw => by (try dsimp only at hSw); go_simp⟩) (by assumption) ?_
      try simp only [Act.put, List.setIfInBounds_toArray, List.set_cons_zero, List.set_cons_succ]
      refine wpAnyH_take (i := 11) (oi := { dst := some 35, op := Op.pick (Operand.tmp 30) (Operand.tmp 34) (Operand.const (Value.bool false)), type := 4, pos := "outright.go:60", after := #[{ on := 6, ground := Ground.data }, { on := 10, ground := Ground.data }], guard := none }) (v := .bool true) rfl (by kernel_rfl) (by kernel_rfl) (by kernel_rfl) (fun _ _ _ h => h) (Or.inl ⟨by kernel_rfl, fun w' hSw => by (try dsimp only at hSw); go_simp⟩) (by assumption) ?_
      try simp only [Act.put, List.setIfInBounds_toArray, List.set_cons_zero, List.set_cons_succ]
      refine wpAnyH_take (i := 12) (oi := { dst := some 36, op := Op.move (Operand.tmp 35), type := 4, pos := "outright.go:60", after := #[{ on := 11, ground := Ground.data }, { on := 6, ground := Ground.chain }], guard := none }) (v := .bool true) rfl (by kernel_rfl) (by kernel_rfl) (by kernel_rfl) (fun _ _ _ h => h) (Or.inl ⟨by kernel_rfl, fun w' hSw => by (try dsimp only at hSw); go_simp⟩) (by assumption) ?_
      try simp only [Act.put, List.setIfInBounds_toArray, List.set_cons_zero, List.set_cons_succ]
      refine wpAnyH_take (i := 13) (oi := { dst := some 37, op := Op.load 24 (Operand.tmp 5), type := 24, pos := "outright.go:60", after := #[{ on := 12, ground := Ground.guard }], guard := some (12, true) }) (v := .agg #[.slice s.A s.n s.c]) rfl (by kernel_rfl) (by kernel_rfl) (by kernel_rfl) (fun _ _ _ h => h) (Or.inl ⟨by kernel_rfl, fun w' hSw => by (try dsimp only at hSw); go_simp⟩) (by assumption) ?_
      try simp only [Act.put, List.setIfInBounds_toArray, List.set_cons_zero, List.set_cons_succ]
      refine wpAnyH_take (i := 14) (oi := { dst := some 38, op := Op.move (Operand.tmp 1), type := 3, pos := "outright.go:60", after := #[{ on := 12, ground := Ground.guard }], guard := some (12, true) }) (v := .int .i64 z) rfl (by kernel_rfl) (by kernel_rfl) (by kernel_rfl) (fun _ _ _ h => h) (Or.inl ⟨by kernel_rfl, fun w' hSw => by (try dsimp only at hSw); go_simp⟩) (by assumption) ?_
      try simp only [Act.put, List.setIfInBounds_toArray, List.set_cons_zero, List.set_cons_succ]
      refine wpAnyH_take (i := 16) (oi := { dst := some 40, op := Op.load 24 (Operand.tmp 5), type := 24, pos := "outright.go:60", after := #[{ on := 12, ground := Ground.guard }], guard := some (12, true) }) (v := .agg #[.slice s.A s.n s.c]) rfl (by kernel_rfl) (by kernel_rfl) (by kernel_rfl) (fun _ _ _ h => h) (Or.inl ⟨by kernel_rfl, fun w' hSw => by (try dsimp only at hSw); go_simp⟩) (by assumption) ?_
      try simp only [Act.put, List.setIfInBounds_toArray, List.set_cons_zero, List.set_cons_succ]
      refine wpAnyH_ready (rs := [15]) (by kernel_rfl) (by simp) ?_
      refine AllReadyH.cons (o := { dst := some 39, op := Op.call { callee := Callee.value (Operand.func 27), args := #[Operand.tmp 37, Operand.tmp 38], argTypes := #[24, 3] }, type := 24, pos := "outright.go:60", after := #[{ on := 13, ground := Ground.data }, { on := 14, ground := Ground.data }, { on := 12, ground := Ground.chain }, { on := 12, ground := Ground.guard }], guard := some (12, true) }) rfl (fun K hK => ?_) AllReadyH.nil
      go_simp
      refine (s_without s W3.drew z hz0 hz1 (D0.out.ok (.tail _ (.head _)))).mono ?_
      rintro e v1 ⟨u, rfl, hu, ho, _, b⟩
      have D1 := Lib.hid (D0.out.on b)
      have U1 := Lib.hid ho
      have HU := Lib.hid hu
      have d5 := D1.out.cell (.tail _ (.head _))
      have d6 := D1.out.cell (.head _)
      rw [HN6.out] at d6
      clear b hu ho hHeld
      refine hK.out _ _ ⟨d5, d6⟩ (fun hHeld => ?_)
      clear hK K
      try simp only [Act.put, List.setIfInBounds_toArray, List.set_cons_zero, List.set_cons_succ]
      refine wpAnyH_ready (rs := [17]) (by kernel_rfl) (by simp) ?_
      refine AllReadyH.cons (o := { dst := some 41, op := Op.call { callee := Callee.value (Operand.func 14), args := #[Operand.tmp 39, Operand.tmp 40], argTypes := #[24, 24] }, type := 4, pos := "outright.go:60", after := #[{ on := 15, ground := Ground.data }, { on := 16, ground := Ground.data }, { on := 15, ground := Ground.chain }, { on := 12, ground := Ground.guard }], guard := some (12, true) }) rfl (fun K hK => ?_) AllReadyH.nil
      go_simp
      refine (HS.out v1 u (D1.out.ok (.tail _ (.head _))) U1.out HU.out).mono ?_
      rintro e v2 ⟨rfl, b⟩
      have D2 := Lib.hid (D1.out.on b)
      have e5 := D2.out.cell (.tail _ (.head _))
      have e6 := D2.out.cell (.head _)
      rw [HN6.out] at e6
      clear b hHeld
      refine hK.out _ _ ⟨e5, e6⟩ (fun hHeld => ?_)
      clear hK K
      try simp only [Act.put, List.setIfInBounds_toArray, List.set_cons_zero, List.set_cons_succ]
      refine wpAnyH_take (i := 18) (oi := { dst := some 42, op := Op.pick (Operand.tmp 36) (Operand.tmp 41) (Operand.const (Value.bool false)), type := 4, pos := "outright.go:60", after := #[{ on := 12, ground := Ground.data }, { on := 17, ground := Ground.data }], guard := none }) (v := .bool true) rfl (by kernel_rfl) (by kernel_rfl) (by kernel_rfl) (fun _ _ _ h => h) (Or.inl ⟨by kernel_rfl, fun w' hSw => by (try dsimp only at hSw); go_simp⟩) (by assumption) ?_
      try simp only [Act.put, List.setIfInBounds_toArray, List.set_cons_zero, List.set_cons_succ]
      refine wpAnyH_take (i := 19) (oi := { dst := some 4, op := Op.assign (Operand.tmp 42), type := 4, pos := "outright.go:60", after := #[{ on := 18, ground := Ground.data }, { on := 17, ground := Ground.chain }, { on := 0, ground := Ground.phase }, { on := 1, ground := Ground.phase }, { on := 2, ground := Ground.phase }, { on := 3, ground := Ground.phase }, { on := 4, ground := Ground.phase }, { on := 5, ground := Ground.phase }, { on := 6, ground := Ground.phase }, { on := 7, ground := Ground.phase }, { on := 8, ground := Ground.phase }, { on := 9, ground := Ground.phase }, { on := 10, ground := Ground.phase }, { on := 11, ground := Ground.phase }, { on := 12, ground := Ground.phase }, { on := 13, ground := Ground.phase }, { on := 14, ground := Ground.phase }, { on := 15, ground := Ground.phase }, { on := 16, ground := Ground.phase }, { on := 17, ground := Ground.phase }, { on := 18, ground := Ground.phase }], guard := none }) (v := .bool true) rfl (by kernel_rfl) (by kernel_rfl) (by kernel_rfl) (fun _ _ _ h => h) (Or.inl ⟨by kernel_rfl, fun w' hSw => by (try dsimp only at hSw); go_simp⟩) (by assumption) ?_
      try simp only [Act.put, List.setIfInBounds_toArray, List.set_cons_zero, List.set_cons_succ]
      refine wpAnyH_done (by kernel_rfl) ?_ _
      refine NoPanic.normal ?_
      go_wp2_with fail
      go_ret
      exact ⟨rfl, D2.out.below⟩
    · have d1 : decide (z < 0) = false := by simp; omega
      have d2 : decide (10000 ≤ z) = true := by simpa using hz
      go_region_held3 (fun w' => w'.cell? ⟨p5, 0, none⟩ = some (.slice s.A s.n s.c) ∧ w'.cell? ⟨p6, 0, none⟩ = some (.slice t6.A 0 t6.c)) (first | exact ⟨c5, c6⟩ | exact ⟨d5, d6⟩ | exact ⟨e5, e6⟩ | fail) (first
        | (have _t := D1; go_at_call 14; refine (HS.out v1 u (D1.out.ok (.tail _ (.head _))) U1.out HU.out).mono ?_; rintro e v2 ⟨rfl, b⟩; have D2 := Lib.hid (D1.out.on b); have e5 := D2.out.cell (.tail _ (.head _)); have e6 := D2.out.cell (.head _); rw [HN6.out] at e6; clear b d5 d6)
        | (go_at_call 27; refine (s_without s W3.drew z hz0 hz1 (D0.out.ok (.tail _ (.head _)))).mono ?_; rintro e v1 ⟨u, rfl, hu, ho, _, b⟩; have D1 := Lib.hid (D0.out.on b); have U1 := Lib.hid ho; have HU := Lib.hid hu; have d5 := D1.out.cell (.tail _ (.head _)); have d6 := D1.out.cell (.head _); rw [HN6.out] at d6; clear b c5 c6 hu ho)
        | fail)
      go_wp2_with fail
      go_ret
      exact ⟨rfl, D2.out.below⟩
end Go.Proofs.YtpkpfnilfabkaaaDoor
