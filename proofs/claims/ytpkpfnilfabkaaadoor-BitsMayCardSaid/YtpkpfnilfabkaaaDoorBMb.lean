/- BitsMay: the walk. -/
import Derived.Test.YtpkpfnilfabkaaaDoorBMa
import Derived.Test.YtpkpfnilfabkaaaDoorBt
import Derived.Deep.RegionHeld3
namespace Go.Proofs.YtpkpfnilfabkaaaDoor
open Go.RowKit

theorem check_right {ws : List Nat} (h : rightW ws = true) : checkE ws = 0 := by unfold checkE; rw [if_pos h]
theorem check_wrong {ws : List Nat} (h : rightW ws = false) : checkE ws = 140 := by unfold checkE; rw [if_neg (by rw [h]; decide)]

set_option maxRecDepth 100000 in
set_option maxHeartbeats 8000000 in
theorem may_core (Ax Ay : Option Addr) (nx cx ny cy : Nat) (xs ys : List Nat) (Ar : Option Addr) (nr cr : Nat) (rs : List Row) (hx : W64 xs) (hxc : nx ≤ cx) (hxm : cx ≤ 9223372036854775807) (hy : W64 ys) (hyc : ny ≤ cy) (hym : cy ≤ 9223372036854775807) (hrm : nr ≤ 9223372036854775807)
    (w : World) (hT : Tab w) (hA : RW w w.heap.size Ax nx xs) (hB : RW w w.heap.size Ay ny ys) (hR : RowsAt w w.heap.size Ar nr rs) :
    Calls Tryd.prog 3 #[.agg #[.slice Ax nx cx], .agg #[.slice Ay ny cy], .slice Ar nr cr] w fun e w' => e = .returned (.bool true) ∧ Below w.heap.size w w' := by
  obtain ⟨q0, q1, hsz, hb0⟩ := two_boxes w (.slice Ax nx cx) (.slice Ay ny cy) 24 24
  have bx0 := (Blk.new w 24 #[.slice Ax nx cx]).alloc (.cells #[.slice Ay ny cy] 24)
  have bx1 := Blk.new (w.alloc (.cells #[.slice Ax nx cx] 24)) 24 #[.slice Ay ny cy]
  rw [World.size_alloc] at bx1
  have BX0 := Lib.hid bx0
  have BX1 := Lib.hid bx1
  have HWK := Lib.hid (wakes_any _ (hT.on hb0))
  have HT := Lib.hid fun W h => hT.on (w' := W) h
  have HA := Lib.hid fun W (h : Below w.heap.size w W) => own_any Ax nx cx xs hx hxc hxm W ((hA.below h).more h.size)
  have HB := Lib.hid fun W (h : Below w.heap.size w W) => own_any Ay ny cy ys hy hyc hym W ((hB.below h).more h.size)
  have HR := Lib.hid fun W (h : Below w.heap.size w W) => hR.below h
  clear hT hA hB hR bx0 bx1 q0 q1
  go_enter Tryd.func3, Tryd.ntmps3
  go_wp2_with fail
  generalize (w.alloc (.cells #[.slice Ax nx cx] 24)).alloc (.cells #[.slice Ay ny cy] 24) = V0 at *
  refine HWK.out.mono ?_
  rintro e w1 ⟨rfl, b1⟩
  have B1 : Hid (Below w.heap.size w w1) := hb0.trans (b1.mono hb0.size)
  have X0 := Lib.hid (BX0.out.below b1 BX0.out.lt)
  have X1 := Lib.hid (BX1.out.below b1 BX1.out.lt)
  clear b1 hb0 HWK BX0 BX1 hsz
  go_wp2_with fail
  refine may_own _ w1 _ _ _ _ _ _ _ _ _ _ _ (xs.take 160) (ys.take 160) (fun W h => ⟨(X0.out.below h X0.out.lt).cell 0, (X1.out.below h X1.out.lt).cell 0⟩) (fun W h => HA.out W (B1.out.trans (h.mono B1.out.size))) (fun W h => HB.out W (B1.out.trans (h.mono B1.out.size))) ?_
  intro w2 sa sb g0 g1 b2 hwa hwb i0 i1
  have HWA := Lib.hid hwa
  have HWB := Lib.hid hwb
  have NE : Hid (∀ p ∈ ([(w.heap.size, .slice Ax nx cx), (w.heap.size + 1, .slice Ay ny cy)] : List (Nat × Value)), p.1 < w1.heap.size) := fun p hp => by
    simp only [List.mem_cons, List.not_mem_nil, or_false] at hp
    rcases hp with rfl | rfl
    · exact X0.out.lt
    · exact X1.out.lt
  have E2 : Hid (Hold w [(w.heap.size, .slice Ax nx cx), (w.heap.size + 1, .slice Ay ny cy)] [(g0, sa), (g1, sb)] [] [] w2) := ⟨(Env.zero (HT.out _ B1.out) B1.out).boxes b2 [(g0, sa), (g1, sb)] fun p hp => by
    simp only [List.mem_cons, List.not_mem_nil, or_false] at hp
    rcases hp with rfl | rfl
    · exact i0
    · exact i1, fun p hp => by
    simp only [List.mem_cons, List.not_mem_nil, or_false] at hp
    rcases hp with rfl | rfl
    · exact X0.out.below b2 X0.out.lt
    · exact X1.out.below b2 X1.out.lt, fun _ h => by simp at h, fun _ h => by simp at h⟩
  clear b2 i0 i1 B1 X0 X1 hwa hwb NE
  have HSS : Hid (∀ M Z W, Hold w [(w.heap.size, .slice Ax nx cx), (w.heap.size + 1, .slice Ay ny cy)] [(g0, sa), (g1, sb)] M Z W → (W.cell? ⟨g0, 0, none⟩ = some (.slice sa.A sa.n sa.c) ∧ W.cell? ⟨g1, 0, none⟩ = some (.slice sb.A sb.n sb.c) ∧ W.cell? ⟨w.heap.size, 0, none⟩ = some (.slice Ax nx cx) ∧ W.cell? ⟨w.heap.size + 1, 0, none⟩ = some (.slice Ay ny cy))) := fun M Z W h => ⟨h.cell (.head _), h.cell (.tail _ (.head _)), h.xcell (.head _), h.xcell (.tail _ (.head _))⟩
  go_wp2_with fail
  have J0 : Hid (Hold w [(w.heap.size, .slice Ax nx cx), (w.heap.size + 1, .slice Ay ny cy)] [(g0, sa), (g1, sb)] [] [] w2.drew) := E2.out.drew
  clear E2
  go_region_held3 (fun w' => w'.cell? ⟨g0, 0, none⟩ = some (.slice sa.A sa.n sa.c) ∧ w'.cell? ⟨g1, 0, none⟩ = some (.slice sb.A sb.n sb.c) ∧ w'.cell? ⟨w.heap.size, 0, none⟩ = some (.slice Ax nx cx) ∧ w'.cell? ⟨w.heap.size + 1, 0, none⟩ = some (.slice Ay ny cy)) (first | exact HSS.out _ _ _ J2.out | exact HSS.out _ _ _ J1.out | exact HSS.out _ _ _ J0.out | fail) (first
    | (have _t := J1; go_at_call 11; refine (get_rlist sb v1 (J1.out.ok (.tail _ (.head _)))).mono ?_; rintro e v2 ⟨Am, nm, cm, rfl, hz, _, _, _, b⟩; have J2 := Lib.hid (J1.out.list b hz); have hnm : nm ≤ 10048 := (by have := hz.len; have := la_len sb; omega); clear b hz)
    | (go_at_call 11; refine (get_rlist sa w2.drew (J0.out.ok (.head _))).mono ?_; rintro e v1 ⟨Al, nl, cl, rfl, hz, _, _, _, b⟩; have J1 := Lib.hid (J0.out.list b hz); have hnl : nl ≤ 10048 := (by have := hz.len; have := la_len sa; omega); clear b hz)
    | fail)
  have H0 : Hid (Hold w [(w.heap.size, .slice Ax nx cx), (w.heap.size + 1, .slice Ay ny cy)] [(g0, sa), (g1, sb)] [] [(Am, nm, laS sb), (Al, nl, laS sa)] v2) := J2.out
  have HLL : Hid (cN (inW sa.ws) = nl) := by have := (J2.out.ints (.tail _ (.head _))).len; unfold laS at this; rwa [intsN_len] at this
  clear J0 J1 J2
  have z0 := H0.out.cell (.head _)
  have HCK := Lib.hid (s_check sa)
  have HRT := Lib.hid (get_right sa)
  have HSM := Lib.hid (s_same sa sb)
  rw [la_eq] at HSM
  rcases Bool.eq_false_or_eq_true (rightW sa.ws) with hr | hr
  · rw [check_right hr] at HCK
    rw [hr] at HRT
    clear hr
    go_wp2_with fail
    refine (HCK.out v2 (H0.out.ok (.head _))).mono ?_
    rintro e x1 ⟨rfl, b⟩
    have H1 := Lib.hid (H0.out.on b)
    clear b H0 z0
    have z0 := H1.out.cell (.head _)
    have z1 := H1.out.cell (.tail _ (.head _))
    go_wp2_with fail
    refine (HRT.out x1 (H1.out.ok (.head _))).mono ?_
    rintro e x2 ⟨rfl, b⟩
    have H2 := Lib.hid (H1.out.on b)
    clear b H1 z0 z1
    have z0 := H2.out.cell (.head _)
    have z1 := H2.out.cell (.tail _ (.head _))
    go_wp2_with fail
    refine (HSM.out x2 (H2.out.ok (.head _)) (H2.out.ok (.tail _ (.head _)))).mono ?_
    rintro e x3 ⟨rfl, b⟩
    have H3 := Lib.hid (H2.out.on b)
    clear b H2 z0 z1
    have z0 := H3.out.cell (.head _)
    go_wp2_with fail
    refine (equal_i Al Am nl nm cl cm (laS sa) (laS sb) (by omega) (by omega) x3 (H3.out.ints (.tail _ (.head _))) (H3.out.ints (.head _))).mono ?_
    rintro e x4 ⟨rfl, b⟩
    have H4 := Lib.hid (H3.out.on b)
    clear b H3 z0
    have z0 := H4.out.cell (.head _)
    have hbb : (decide (laS sa = laS sb) != decide (laS sa = laS sb)) = false := by simp
    generalize decide (laS sa = laS sb) = bb at *
    go_wp2_with fail
    refine (get_list sa x4 H4.out.env.tab (H4.out.ok (.head _))).mono ?_
    rintro e x5 ⟨A5, n5, c5, rfl, hz, _, _, _, b⟩
    have hn5 : n5 ≤ 10048 := by have := hz.len; have := la_len sa; omega
    have H5 := Lib.hid (H4.out.list b hz)
    clear b H4 z0 hz
    go_wp2_with fail
    refine (equal_yes x5 (by omega) (by omega) (H5.out.ints (.head _)) (H5.out.ints (.tail _ (.tail _ (.head _))))).mono ?_
    rintro e x6 ⟨rfl, b⟩
    have H6 := Lib.hid (H5.out.on b)
    clear b H5
    have z0 := H6.out.cell (.head _)
    go_wp2_with fail
    refine (count_is sa x6 nl (H6.out.ok (.head _)) HLL.out).mono ?_
    rintro e x7 ⟨rfl, b⟩
    have H9 : Hid (Hold w [(w.heap.size, .slice Ax nx cx), (w.heap.size + 1, .slice Ay ny cy)] [(g0, sa), (g1, sb)] [] [(Am, nm, laS sb), (Al, nl, laS sa)] x7) := (H6.out.on b).sub (fun p hp => hp) (fun p hp => hp) (fun p hp => .tail _ hp)
    clear b H6 z0 hbb HCK HRT HSM HLL
    go_wp2_with fail
    go_loopw [69] (fun i wr => ∃ k : Nat, k ≤ nr ∧ i = .int .i64 k ∧ Hid (Hold w [(w.heap.size, .slice Ax nx cx), (w.heap.size + 1, .slice Ay ny cy)] [(g0, sa), (g1, sb)] [] [(Am, nm, laS sb), (Al, nl, laS sa)] wr)) (fun i _ => nr - (intOf i).toNat)
    case atStart => exact ⟨0, Nat.zero_le _, rfl, H9⟩
    case round =>
      obtain ⟨k, hk, rfl, HN⟩ := hrel
      by_cases hlt : k < nr
      · obtain ⟨b, o, r, rfl, hb, hc, hri, hrn, hrc, hr64⟩ := (HR.out _ HN.out.env.below).at_ hlt
        by_cases h6 : k = 6
        · have hq : ((k : Int) == 6) = true := by simp; omega
          clear hri hr64 h6
          go_wp2_with fail
          have T0 := Lib.hid HN.out.drew
          clear HN
          go_region_held3 (fun w' => w'.cell? ⟨g0, 0, none⟩ = some (.slice sa.A sa.n sa.c) ∧ w'.cell? ⟨g1, 0, none⟩ = some (.slice sb.A sb.n sb.c) ∧ w'.cell? ⟨w.heap.size, 0, none⟩ = some (.slice Ax nx cx) ∧ w'.cell? ⟨w.heap.size + 1, 0, none⟩ = some (.slice Ay ny cy)) (first | exact HSS.out _ _ _ T4.out | exact HSS.out _ _ _ T3.out | exact HSS.out _ _ _ T2.out | exact HSS.out _ _ _ T1.out | exact HSS.out _ _ _ T0.out | fail) (first
            | (have _t := T3; go_at_call 24; refine (rsame_yes sb u2 t3 (T3.out.ok (.tail _ (.head _))) (T3.out.got _ (.head _)) (HWB.out.trans HU2.out.symm)).mono ?_; rintro e t4 ⟨rfl, b⟩; have T4 := Lib.hid (T3.out.on b); clear b)
            | (have _t := T2; go_at_call 10; refine (HB.out t2 (T2.out.env.below)).mono ?_; rintro e t3 ⟨u2, rfl, hu, ho, _, b⟩; have T3 := Lib.hid (T2.out.more b ho); have HU2 := Lib.hid hu; clear b ho hu)
            | (have _t := T1; go_at_call 24; refine (rsame_yes sa u t1 (T1.out.ok (.head _)) (T1.out.got _ (.head _)) (HWA.out.trans HU.out.symm)).mono ?_; rintro e t2 ⟨rfl, b⟩; have T2 := Lib.hid (T1.out.on b); clear b)
            | (go_at_call 10; refine (HA.out wr.drew (T0.out.env.below)).mono ?_; rintro e t1 ⟨u, rfl, hu, ho, _, b⟩; have T1 := Lib.hid (T0.out.more b ho); have HU := Lib.hid hu; clear b ho hu)
            | fail)
          go_wp2_with fail
          go_ret
          exact ⟨rfl, T4.out.env.below⟩
        · have hq : ((k : Int) == 6) = false := by simp; omega
          obtain ⟨kk, hkk⟩ : ∃ q, q = min r.n 40 := ⟨_, rfl⟩
          have hmx : min (r.n : Int) 40 = (kk : Int) := by omega
          have hk40 : kk ≤ 40 := by omega
          have hsl := i_slice_h r.A r.n r.c kk (by omega)
          have h64 : Hid (all64 (r.l.take kk)) := fun z hz => hr64 z (List.mem_of_mem_take hz)
          have HC1 := Lib.hid (clone_i r.A kk r.c (r.l.take kk) (by omega) wr ((hri.take (by omega)).more HN.out.env.below.size))
          clear hri hkk hr64
          generalize r.l.take kk = l at *
          go_wp2_with fail
          refine HC1.out.mono ?_
          rintro e y1 hcp
          obtain ⟨R1, n1, c1, rfl, hz, _, _, _, b1⟩ := gotList_copy hcp
          have hn1 : n1 ≤ 40 := by obtain ⟨A', c', he, ho, _⟩ := hcp; injection he with he; injection he with _ h _; omega
          have H1 := Lib.hid (HN.out.list b1 hz)
          clear hcp hz b1 HN HC1
          go_wp2_with fail
          refine (clone_i R1 n1 c1 l (by omega) y1 (H1.out.ints (.head _))).mono ?_
          rintro e y2 hcp
          obtain ⟨R2, n2, c2, rfl, hz, _, _, _, b1⟩ := gotList_copy hcp
          have hn2 : n2 ≤ 40 := by obtain ⟨A', c', he, ho, _⟩ := hcp; injection he with he; injection he with _ h _; omega
          have H2 := Lib.hid (H1.out.list b1 hz)
          clear hcp hz b1 H1
          by_cases hml : mayL l
          · have HML := Lib.hid hml
            clear hml
            go_wp2_with fail
            refine (of_yes R1 n1 c1 l HML.out (by omega) y2 (H2.out.ints (.tail _ (.head _)))).mono ?_
            rintro e y3 hs
            obtain ⟨s, rfl, hws, hso, _, b3⟩ := gotErr_of (can_set _).1 (setW_le _) hs
            have HWS := Lib.hid hws
            have H3 := Lib.hid ((H2.out.more b3 hso).add hso)
            clear hs hws hso b3 H2
            have HY3 : Hid ((y3.alloc (.cells #[.slice s.A s.n s.c] 24)).heap.size = y3.heap.size + 1) := by show _ = _; simp
            go_wp2_with fail
            generalize y3.alloc (.cells #[.slice s.A s.n s.c] 24) = Y3 at *
            generalize y3.heap.size = gs at *
            have H4 := Lib.hid (H3.out.add (s := ⟨none, 0, 0, []⟩) ⟨RW.none_, by intro x hx; simp at hx, by show 0 ≤ _; omega⟩)
            have NE4 : Hid (∀ p ∈ [(gs, s), (g0, sa), (g1, sb)], p.1 ≠ Y3.heap.size) := fun p hp => Nat.ne_of_lt (H3.out.env.all p hp).1.lt
            have NX4 : Hid (∀ p ∈ ([(w.heap.size, .slice Ax nx cx), (w.heap.size + 1, .slice Ay ny cy)] : List (Nat × Value)), p.1 ≠ Y3.heap.size) := fun p hp => Nat.ne_of_lt (H3.out.box p hp).lt
            have NB4 : Hid (w.heap.size ≤ Y3.heap.size) := H3.out.env.below.size
            rw [HY3.out] at H4 NE4 NX4 NB4
            clear H3
            go_wp2_with fail
            refine (contains_may R1 n1 c1 l HML.out (by omega) _ (H4.out.ints (.tail _ (.head _)))).mono ?_
            rintro e y5 ⟨rfl, rfl⟩
            go_wp2_with fail
            generalize Y3.alloc (.cells #[.slice none 0 0] 24) = Y4 at *
            generalize gs + 1 = gw at *
            refine (get_rof Y4 HML.out (by omega) (H4.out.ints (.head _))).mono ?_
            rintro e y6 ⟨t, rfl, hwt, hto, _, b6⟩
            have H5 := Lib.hid (H4.out.on b6)
            have zc := H5.out.cell (.head _)
            have zf := (H5.out.env.all _ (.head _)).1.frozen 0
            have HEQ : Hid (s.ws = t.ws) := HWS.out.trans hwt.symm
            have H6 := Lib.hid (H5.out.put (s := t) NE4.out NX4.out NB4.out (HT.out _ (H5.out.env.below.setCell (p := ⟨gw, 0, none⟩) (by show w.heap.size ≤ gw; exact NB4.out) _)) hto)
            clear hwt hto b6 H4 HWS NE4 NX4 NB4
            have z1 := H6.out.cell (.head _)
            have z2 := H6.out.cell (.tail _ (.head _))
            go_wp2_with fail
            generalize y6.setCell ⟨gw, 0, none⟩ (.slice t.A t.n t.c) = Y6 at *
            clear zc zf H5
            refine (rsame_yes s t Y6 (H6.out.ok (.tail _ (.head _))) (H6.out.ok (.head _)) HEQ.out).mono ?_
            rintro e y7 ⟨rfl, b7⟩
            have H7 := Lib.hid (H6.out.on b7)
            clear b7 H6 z1 z2
            go_wp2_with fail
            refine (equal_yes y7 (by omega) (by omega) (H7.out.ints (.tail _ (.head _))) (H7.out.ints (.head _))).mono ?_
            rintro e y8 ⟨rfl, b8⟩
            have H8 : Hid (Hold w [(w.heap.size, .slice Ax nx cx), (w.heap.size + 1, .slice Ay ny cy)] [(g0, sa), (g1, sb)] [] [(Am, nm, laS sb), (Al, nl, laS sa)] y8) := (H7.out.on b8).sub (fun p hp => .tail _ (.tail _ hp)) (fun p hp => by simp at hp) (fun p hp => .tail _ (.tail _ hp))
            clear b8 H7
            go_wp2_with fail
            go_roundw
            case rel => exact ⟨k + 1, by omega, by go_num, H8⟩
            case measure => simp [intOf]; omega
          · have HML := Lib.hid hml
            clear hml
            go_wp2_with fail
            refine (of_no R1 n1 c1 l HML.out h64.out (by omega) y2 (H2.out.ints (.tail _ (.head _)))).mono ?_
            rintro e y3 hs
            obtain ⟨s, rfl, hws, hso, _, b3⟩ := gotErr_of (by intro x hx; simp at hx) (by simp) hs
            have HWS := Lib.hid hws
            have H3 := Lib.hid ((H2.out.more b3 hso).add hso)
            clear hs hws hso b3 H2
            have HY3 : Hid ((y3.alloc (.cells #[.slice s.A s.n s.c] 24)).heap.size = y3.heap.size + 1) := by show _ = _; simp
            go_wp2_with fail
            generalize y3.alloc (.cells #[.slice s.A s.n s.c] 24) = Y3 at *
            generalize y3.heap.size = gs at *
            have H4 := Lib.hid (H3.out.add (s := ⟨none, 0, 0, []⟩) ⟨RW.none_, by intro x hx; simp at hx, by show 0 ≤ _; omega⟩)
            rw [HY3.out] at H4
            clear H3
            go_wp2_with fail
            refine (contains_not R1 n1 c1 l HML.out (by omega) _ (H4.out.ints (.tail _ (.head _)))).mono ?_
            rintro e y5 ⟨rfl, rfl⟩
            have z1 := H4.out.cell (.head _)
            have z2 := H4.out.cell (.tail _ (.head _))
            go_wp2_with fail
            refine (rsame_yes s ⟨none, 0, 0, []⟩ _ (H4.out.ok (.tail _ (.head _))) (H4.out.ok (.head _)) HWS.out).mono ?_
            rintro e y7 ⟨rfl, b7⟩
            have H7 := Lib.hid (H4.out.on b7)
            clear b7 H4 z1 z2
            go_wp2_with fail
            refine (equal_yes y7 (by omega) (by omega) (H7.out.ints (.tail _ (.head _))) (H7.out.ints (.head _))).mono ?_
            rintro e y8 ⟨rfl, b8⟩
            have H8 : Hid (Hold w [(w.heap.size, .slice Ax nx cx), (w.heap.size + 1, .slice Ay ny cy)] [(g0, sa), (g1, sb)] [] [(Am, nm, laS sb), (Al, nl, laS sa)] y8) := (H7.out.on b8).sub (fun p hp => .tail _ (.tail _ hp)) (fun p hp => by simp at hp) (fun p hp => .tail _ (.tail _ hp))
            clear b8 H7
            go_wp2_with fail
            go_roundw
            case rel => exact ⟨k + 1, by omega, by go_num, H8⟩
            case measure => simp [intOf]; omega
      · obtain rfl : k = nr := by omega
        go_wp2_with fail
        have T0 := Lib.hid HN.out.drew
        clear HN
        go_region_held3 (fun w' => w'.cell? ⟨g0, 0, none⟩ = some (.slice sa.A sa.n sa.c) ∧ w'.cell? ⟨g1, 0, none⟩ = some (.slice sb.A sb.n sb.c) ∧ w'.cell? ⟨w.heap.size, 0, none⟩ = some (.slice Ax nx cx) ∧ w'.cell? ⟨w.heap.size + 1, 0, none⟩ = some (.slice Ay ny cy)) (first | exact HSS.out _ _ _ T4.out | exact HSS.out _ _ _ T3.out | exact HSS.out _ _ _ T2.out | exact HSS.out _ _ _ T1.out | exact HSS.out _ _ _ T0.out | fail) (first
          | (have _t := T3; go_at_call 24; refine (rsame_yes sb u2 t3 (T3.out.ok (.tail _ (.head _))) (T3.out.got _ (.head _)) (HWB.out.trans HU2.out.symm)).mono ?_; rintro e t4 ⟨rfl, b⟩; have T4 := Lib.hid (T3.out.on b); clear b)
          | (have _t := T2; go_at_call 10; refine (HB.out t2 (T2.out.env.below)).mono ?_; rintro e t3 ⟨u2, rfl, hu, ho, _, b⟩; have T3 := Lib.hid (T2.out.more b ho); have HU2 := Lib.hid hu; clear b ho hu)
          | (have _t := T1; go_at_call 24; refine (rsame_yes sa u t1 (T1.out.ok (.head _)) (T1.out.got _ (.head _)) (HWA.out.trans HU.out.symm)).mono ?_; rintro e t2 ⟨rfl, b⟩; have T2 := Lib.hid (T1.out.on b); clear b)
          | (go_at_call 10; refine (HA.out wr.drew (T0.out.env.below)).mono ?_; rintro e t1 ⟨u, rfl, hu, ho, _, b⟩; have T1 := Lib.hid (T0.out.more b ho); have HU := Lib.hid hu; clear b ho hu)
          | fail)
        go_wp2_with fail
        go_ret
        exact ⟨rfl, T4.out.env.below⟩
  · rw [check_wrong hr] at HCK
    rw [hr] at HRT
    clear hr
    go_wp2_with fail
    refine (HCK.out v2 (H0.out.ok (.head _))).mono ?_
    rintro e x1 ⟨rfl, b⟩
    have H1 := Lib.hid (H0.out.on b)
    clear b H0 z0
    have z0 := H1.out.cell (.head _)
    have z1 := H1.out.cell (.tail _ (.head _))
    go_wp2_with fail
    refine (HRT.out x1 (H1.out.ok (.head _))).mono ?_
    rintro e x2 ⟨rfl, b⟩
    have H2 := Lib.hid (H1.out.on b)
    clear b H1 z0 z1
    have z0 := H2.out.cell (.head _)
    have z1 := H2.out.cell (.tail _ (.head _))
    go_wp2_with fail
    refine (HSM.out x2 (H2.out.ok (.head _)) (H2.out.ok (.tail _ (.head _)))).mono ?_
    rintro e x3 ⟨rfl, b⟩
    have H3 := Lib.hid (H2.out.on b)
    clear b H2 z0 z1
    have z0 := H3.out.cell (.head _)
    go_wp2_with fail
    refine (equal_i Al Am nl nm cl cm (laS sa) (laS sb) (by omega) (by omega) x3 (H3.out.ints (.tail _ (.head _))) (H3.out.ints (.head _))).mono ?_
    rintro e x4 ⟨rfl, b⟩
    have H4 := Lib.hid (H3.out.on b)
    clear b H3 z0
    have z0 := H4.out.cell (.head _)
    have hbb : (decide (laS sa = laS sb) != decide (laS sa = laS sb)) = false := by simp
    generalize decide (laS sa = laS sb) = bb at *
    go_wp2_with fail
    refine (get_list sa x4 H4.out.env.tab (H4.out.ok (.head _))).mono ?_
    rintro e x5 ⟨A5, n5, c5, rfl, hz, _, _, _, b⟩
    have hn5 : n5 ≤ 10048 := by have := hz.len; have := la_len sa; omega
    have H5 := Lib.hid (H4.out.list b hz)
    clear b H4 z0 hz
    go_wp2_with fail
    refine (equal_yes x5 (by omega) (by omega) (H5.out.ints (.head _)) (H5.out.ints (.tail _ (.tail _ (.head _))))).mono ?_
    rintro e x6 ⟨rfl, b⟩
    have H6 := Lib.hid (H5.out.on b)
    clear b H5
    have z0 := H6.out.cell (.head _)
    go_wp2_with fail
    refine (count_is sa x6 nl (H6.out.ok (.head _)) HLL.out).mono ?_
    rintro e x7 ⟨rfl, b⟩
    have H9 : Hid (Hold w [(w.heap.size, .slice Ax nx cx), (w.heap.size + 1, .slice Ay ny cy)] [(g0, sa), (g1, sb)] [] [(Am, nm, laS sb), (Al, nl, laS sa)] x7) := (H6.out.on b).sub (fun p hp => hp) (fun p hp => hp) (fun p hp => .tail _ hp)
    clear b H6 z0 hbb HCK HRT HSM HLL
    go_wp2_with fail
    go_loopw [69] (fun i wr => ∃ k : Nat, k ≤ nr ∧ i = .int .i64 k ∧ Hid (Hold w [(w.heap.size, .slice Ax nx cx), (w.heap.size + 1, .slice Ay ny cy)] [(g0, sa), (g1, sb)] [] [(Am, nm, laS sb), (Al, nl, laS sa)] wr)) (fun i _ => nr - (intOf i).toNat)
    case atStart => exact ⟨0, Nat.zero_le _, rfl, H9⟩
    case round =>
      obtain ⟨k, hk, rfl, HN⟩ := hrel
      by_cases hlt : k < nr
      · obtain ⟨b, o, r, rfl, hb, hc, hri, hrn, hrc, hr64⟩ := (HR.out _ HN.out.env.below).at_ hlt
        by_cases h6 : k = 6
        · have hq : ((k : Int) == 6) = true := by simp; omega
          clear hri hr64 h6
          go_wp2_with fail
          have T0 := Lib.hid HN.out.drew
          clear HN
          go_region_held3 (fun w' => w'.cell? ⟨g0, 0, none⟩ = some (.slice sa.A sa.n sa.c) ∧ w'.cell? ⟨g1, 0, none⟩ = some (.slice sb.A sb.n sb.c) ∧ w'.cell? ⟨w.heap.size, 0, none⟩ = some (.slice Ax nx cx) ∧ w'.cell? ⟨w.heap.size + 1, 0, none⟩ = some (.slice Ay ny cy)) (first | exact HSS.out _ _ _ T4.out | exact HSS.out _ _ _ T3.out | exact HSS.out _ _ _ T2.out | exact HSS.out _ _ _ T1.out | exact HSS.out _ _ _ T0.out | fail) (first
            | (have _t := T3; go_at_call 24; refine (rsame_yes sb u2 t3 (T3.out.ok (.tail _ (.head _))) (T3.out.got _ (.head _)) (HWB.out.trans HU2.out.symm)).mono ?_; rintro e t4 ⟨rfl, b⟩; have T4 := Lib.hid (T3.out.on b); clear b)
            | (have _t := T2; go_at_call 10; refine (HB.out t2 (T2.out.env.below)).mono ?_; rintro e t3 ⟨u2, rfl, hu, ho, _, b⟩; have T3 := Lib.hid (T2.out.more b ho); have HU2 := Lib.hid hu; clear b ho hu)
            | (have _t := T1; go_at_call 24; refine (rsame_yes sa u t1 (T1.out.ok (.head _)) (T1.out.got _ (.head _)) (HWA.out.trans HU.out.symm)).mono ?_; rintro e t2 ⟨rfl, b⟩; have T2 := Lib.hid (T1.out.on b); clear b)
            | (go_at_call 10; refine (HA.out wr.drew (T0.out.env.below)).mono ?_; rintro e t1 ⟨u, rfl, hu, ho, _, b⟩; have T1 := Lib.hid (T0.out.more b ho); have HU := Lib.hid hu; clear b ho hu)
            | fail)
          go_wp2_with fail
          go_ret
          exact ⟨rfl, T4.out.env.below⟩
        · have hq : ((k : Int) == 6) = false := by simp; omega
          obtain ⟨kk, hkk⟩ : ∃ q, q = min r.n 40 := ⟨_, rfl⟩
          have hmx : min (r.n : Int) 40 = (kk : Int) := by omega
          have hk40 : kk ≤ 40 := by omega
          have hsl := i_slice_h r.A r.n r.c kk (by omega)
          have h64 : Hid (all64 (r.l.take kk)) := fun z hz => hr64 z (List.mem_of_mem_take hz)
          have HC1 := Lib.hid (clone_i r.A kk r.c (r.l.take kk) (by omega) wr ((hri.take (by omega)).more HN.out.env.below.size))
          clear hri hkk hr64
          generalize r.l.take kk = l at *
          go_wp2_with fail
          refine HC1.out.mono ?_
          rintro e y1 hcp
          obtain ⟨R1, n1, c1, rfl, hz, _, _, _, b1⟩ := gotList_copy hcp
          have hn1 : n1 ≤ 40 := by obtain ⟨A', c', he, ho, _⟩ := hcp; injection he with he; injection he with _ h _; omega
          have H1 := Lib.hid (HN.out.list b1 hz)
          clear hcp hz b1 HN HC1
          go_wp2_with fail
          refine (clone_i R1 n1 c1 l (by omega) y1 (H1.out.ints (.head _))).mono ?_
          rintro e y2 hcp
          obtain ⟨R2, n2, c2, rfl, hz, _, _, _, b1⟩ := gotList_copy hcp
          have hn2 : n2 ≤ 40 := by obtain ⟨A', c', he, ho, _⟩ := hcp; injection he with he; injection he with _ h _; omega
          have H2 := Lib.hid (H1.out.list b1 hz)
          clear hcp hz b1 H1
          by_cases hml : mayL l
          · have HML := Lib.hid hml
            clear hml
            go_wp2_with fail
            refine (of_yes R1 n1 c1 l HML.out (by omega) y2 (H2.out.ints (.tail _ (.head _)))).mono ?_
            rintro e y3 hs
            obtain ⟨s, rfl, hws, hso, _, b3⟩ := gotErr_of (can_set _).1 (setW_le _) hs
            have HWS := Lib.hid hws
            have H3 := Lib.hid ((H2.out.more b3 hso).add hso)
            clear hs hws hso b3 H2
            have HY3 : Hid ((y3.alloc (.cells #[.slice s.A s.n s.c] 24)).heap.size = y3.heap.size + 1) := by show _ = _; simp
            go_wp2_with fail
            generalize y3.alloc (.cells #[.slice s.A s.n s.c] 24) = Y3 at *
            generalize y3.heap.size = gs at *
            have H4 := Lib.hid (H3.out.add (s := ⟨none, 0, 0, []⟩) ⟨RW.none_, by intro x hx; simp at hx, by show 0 ≤ _; omega⟩)
            have NE4 : Hid (∀ p ∈ [(gs, s), (g0, sa), (g1, sb)], p.1 ≠ Y3.heap.size) := fun p hp => Nat.ne_of_lt (H3.out.env.all p hp).1.lt
            have NX4 : Hid (∀ p ∈ ([(w.heap.size, .slice Ax nx cx), (w.heap.size + 1, .slice Ay ny cy)] : List (Nat × Value)), p.1 ≠ Y3.heap.size) := fun p hp => Nat.ne_of_lt (H3.out.box p hp).lt
            have NB4 : Hid (w.heap.size ≤ Y3.heap.size) := H3.out.env.below.size
            rw [HY3.out] at H4 NE4 NX4 NB4
            clear H3
            go_wp2_with fail
            refine (contains_may R1 n1 c1 l HML.out (by omega) _ (H4.out.ints (.tail _ (.head _)))).mono ?_
            rintro e y5 ⟨rfl, rfl⟩
            go_wp2_with fail
            generalize Y3.alloc (.cells #[.slice none 0 0] 24) = Y4 at *
            generalize gs + 1 = gw at *
            refine (get_rof Y4 HML.out (by omega) (H4.out.ints (.head _))).mono ?_
            rintro e y6 ⟨t, rfl, hwt, hto, _, b6⟩
            have H5 := Lib.hid (H4.out.on b6)
            have zc := H5.out.cell (.head _)
            have zf := (H5.out.env.all _ (.head _)).1.frozen 0
            have HEQ : Hid (s.ws = t.ws) := HWS.out.trans hwt.symm
            have H6 := Lib.hid (H5.out.put (s := t) NE4.out NX4.out NB4.out (HT.out _ (H5.out.env.below.setCell (p := ⟨gw, 0, none⟩) (by show w.heap.size ≤ gw; exact NB4.out) _)) hto)
            clear hwt hto b6 H4 HWS NE4 NX4 NB4
            have z1 := H6.out.cell (.head _)
            have z2 := H6.out.cell (.tail _ (.head _))
            go_wp2_with fail
            generalize y6.setCell ⟨gw, 0, none⟩ (.slice t.A t.n t.c) = Y6 at *
            clear zc zf H5
            refine (rsame_yes s t Y6 (H6.out.ok (.tail _ (.head _))) (H6.out.ok (.head _)) HEQ.out).mono ?_
            rintro e y7 ⟨rfl, b7⟩
            have H7 := Lib.hid (H6.out.on b7)
            clear b7 H6 z1 z2
            go_wp2_with fail
            refine (equal_yes y7 (by omega) (by omega) (H7.out.ints (.tail _ (.head _))) (H7.out.ints (.head _))).mono ?_
            rintro e y8 ⟨rfl, b8⟩
            have H8 : Hid (Hold w [(w.heap.size, .slice Ax nx cx), (w.heap.size + 1, .slice Ay ny cy)] [(g0, sa), (g1, sb)] [] [(Am, nm, laS sb), (Al, nl, laS sa)] y8) := (H7.out.on b8).sub (fun p hp => .tail _ (.tail _ hp)) (fun p hp => by simp at hp) (fun p hp => .tail _ (.tail _ hp))
            clear b8 H7
            go_wp2_with fail
            go_roundw
            case rel => exact ⟨k + 1, by omega, by go_num, H8⟩
            case measure => simp [intOf]; omega
          · have HML := Lib.hid hml
            clear hml
            go_wp2_with fail
            refine (of_no R1 n1 c1 l HML.out h64.out (by omega) y2 (H2.out.ints (.tail _ (.head _)))).mono ?_
            rintro e y3 hs
            obtain ⟨s, rfl, hws, hso, _, b3⟩ := gotErr_of (by intro x hx; simp at hx) (by simp) hs
            have HWS := Lib.hid hws
            have H3 := Lib.hid ((H2.out.more b3 hso).add hso)
            clear hs hws hso b3 H2
            have HY3 : Hid ((y3.alloc (.cells #[.slice s.A s.n s.c] 24)).heap.size = y3.heap.size + 1) := by show _ = _; simp
            go_wp2_with fail
            generalize y3.alloc (.cells #[.slice s.A s.n s.c] 24) = Y3 at *
            generalize y3.heap.size = gs at *
            have H4 := Lib.hid (H3.out.add (s := ⟨none, 0, 0, []⟩) ⟨RW.none_, by intro x hx; simp at hx, by show 0 ≤ _; omega⟩)
            rw [HY3.out] at H4
            clear H3
            go_wp2_with fail
            refine (contains_not R1 n1 c1 l HML.out (by omega) _ (H4.out.ints (.tail _ (.head _)))).mono ?_
            rintro e y5 ⟨rfl, rfl⟩
            have z1 := H4.out.cell (.head _)
            have z2 := H4.out.cell (.tail _ (.head _))
            go_wp2_with fail
            refine (rsame_yes s ⟨none, 0, 0, []⟩ _ (H4.out.ok (.tail _ (.head _))) (H4.out.ok (.head _)) HWS.out).mono ?_
            rintro e y7 ⟨rfl, b7⟩
            have H7 := Lib.hid (H4.out.on b7)
            clear b7 H4 z1 z2
            go_wp2_with fail
            refine (equal_yes y7 (by omega) (by omega) (H7.out.ints (.tail _ (.head _))) (H7.out.ints (.head _))).mono ?_
            rintro e y8 ⟨rfl, b8⟩
            have H8 : Hid (Hold w [(w.heap.size, .slice Ax nx cx), (w.heap.size + 1, .slice Ay ny cy)] [(g0, sa), (g1, sb)] [] [(Am, nm, laS sb), (Al, nl, laS sa)] y8) := (H7.out.on b8).sub (fun p hp => .tail _ (.tail _ hp)) (fun p hp => by simp at hp) (fun p hp => .tail _ (.tail _ hp))
            clear b8 H7
            go_wp2_with fail
            go_roundw
            case rel => exact ⟨k + 1, by omega, by go_num, H8⟩
            case measure => simp [intOf]; omega
      · obtain rfl : k = nr := by omega
        go_wp2_with fail
        have T0 := Lib.hid HN.out.drew
        clear HN
        go_region_held3 (fun w' => w'.cell? ⟨g0, 0, none⟩ = some (.slice sa.A sa.n sa.c) ∧ w'.cell? ⟨g1, 0, none⟩ = some (.slice sb.A sb.n sb.c) ∧ w'.cell? ⟨w.heap.size, 0, none⟩ = some (.slice Ax nx cx) ∧ w'.cell? ⟨w.heap.size + 1, 0, none⟩ = some (.slice Ay ny cy)) (first | exact HSS.out _ _ _ T4.out | exact HSS.out _ _ _ T3.out | exact HSS.out _ _ _ T2.out | exact HSS.out _ _ _ T1.out | exact HSS.out _ _ _ T0.out | fail) (first
          | (have _t := T3; go_at_call 24; refine (rsame_yes sb u2 t3 (T3.out.ok (.tail _ (.head _))) (T3.out.got _ (.head _)) (HWB.out.trans HU2.out.symm)).mono ?_; rintro e t4 ⟨rfl, b⟩; have T4 := Lib.hid (T3.out.on b); clear b)
          | (have _t := T2; go_at_call 10; refine (HB.out t2 (T2.out.env.below)).mono ?_; rintro e t3 ⟨u2, rfl, hu, ho, _, b⟩; have T3 := Lib.hid (T2.out.more b ho); have HU2 := Lib.hid hu; clear b ho hu)
          | (have _t := T1; go_at_call 24; refine (rsame_yes sa u t1 (T1.out.ok (.head _)) (T1.out.got _ (.head _)) (HWA.out.trans HU.out.symm)).mono ?_; rintro e t2 ⟨rfl, b⟩; have T2 := Lib.hid (T1.out.on b); clear b)
          | (go_at_call 10; refine (HA.out wr.drew (T0.out.env.below)).mono ?_; rintro e t1 ⟨u, rfl, hu, ho, _, b⟩; have T1 := Lib.hid (T0.out.more b ho); have HU := Lib.hid hu; clear b ho hu)
          | fail)
        go_wp2_with fail
        go_ret
        exact ⟨rfl, T4.out.env.below⟩
end Go.Proofs.YtpkpfnilfabkaaaDoor
