/- BitsSets: the walk. -/
import Derived.Test.YtpkpfnilfabkaaaDoorBSc
import Derived.Test.YtpkpfnilfabkaaaDoorBSd
import Derived.Deep.RegionHeld3
namespace Go.Proofs.YtpkpfnilfabkaaaDoor
open Go.RowKit

set_option maxRecDepth 100000 in
set_option maxHeartbeats 8000000 in
theorem sets_core (Ax Ay Az : Option Addr) (nx cx ny cy nz cz : Nat) (xs ys zs : List Nat) (hx : W64 xs) (hxc : nx ≤ cx) (hxm : cx ≤ 9223372036854775807) (hy : W64 ys) (hyc : ny ≤ cy) (hym : cy ≤ 9223372036854775807) (hz : W64 zs) (hzc : nz ≤ cz) (hzm : cz ≤ 9223372036854775807)
    (w : World) (hT : Tab w) (hA : RW w w.heap.size Ax nx xs) (hB : RW w w.heap.size Ay ny ys) (hC : RW w w.heap.size Az nz zs) :
    Calls Tryd.prog 5 #[.agg #[.slice Ax nx cx], .agg #[.slice Ay ny cy], .agg #[.slice Az nz cz]] w fun e w' => e = .returned (.bool true) ∧ Below w.heap.size w w' := by
  obtain ⟨q0, q1, q2, bx2, hsz, hb0⟩ := three_boxes w (.slice Ax nx cx) (.slice Ay ny cy) (.slice Az nz cz) 24 24 24
  have bx0 := ((Blk.new w 24 #[.slice Ax nx cx]).alloc (.cells #[.slice Ay ny cy] 24)).alloc (.cells #[.slice Az nz cz] 24)
  have bx1 := (Blk.new (w.alloc (.cells #[.slice Ax nx cx] 24)) 24 #[.slice Ay ny cy]).alloc (.cells #[.slice Az nz cz] 24)
  rw [World.size_alloc] at bx1
  have BX0 := Lib.hid bx0
  have BX1 := Lib.hid bx1
  have BX2 := Lib.hid bx2
  have HWK := Lib.hid (wakes_any _ (hT.on hb0))
  have HT := Lib.hid fun W h => hT.on (w' := W) h
  have HA := Lib.hid fun W (h : Below w.heap.size w W) => own_any Ax nx cx xs hx hxc hxm W ((hA.below h).more h.size)
  have HOB := Lib.hid fun W (h : Below w.heap.size w W) => own_any Ay ny cy ys hy hyc hym W ((hB.below h).more h.size)
  have HC := Lib.hid fun W (h : Below w.heap.size w W) => own_any Az nz cz zs hz hzc hzm W ((hC.below h).more h.size)
  clear hT hA hB hC bx0 bx1 bx2 q0 q1 q2
  go_enter Tryd.func5, Tryd.ntmps5
  go_wp2_with fail
  generalize ((w.alloc (.cells #[.slice Ax nx cx] 24)).alloc (.cells #[.slice Ay ny cy] 24)).alloc (.cells #[.slice Az nz cz] 24) = V0 at *
  refine HWK.out.mono ?_
  rintro e w1 ⟨rfl, b1⟩
  have B1 : Hid (Below w.heap.size w w1) := hb0.trans (b1.mono hb0.size)
  have X0 := Lib.hid (BX0.out.below b1 BX0.out.lt)
  have X1 := Lib.hid (BX1.out.below b1 BX1.out.lt)
  have X2 := Lib.hid (BX2.out.below b1 BX2.out.lt)
  clear b1 hb0 HWK BX0 BX1 BX2 hsz
  go_wp2_with fail
  refine sets_own _ w1 _ _ _ _ _ _ _ _ _ _ _ _ _ _ _ (xs.take 160) (ys.take 160) (zs.take 160) (fun W h => ⟨(X0.out.below h X0.out.lt).cell 0, (X1.out.below h X1.out.lt).cell 0, (X2.out.below h X2.out.lt).cell 0⟩) (fun W h => HA.out W (B1.out.trans (h.mono B1.out.size))) (fun W h => HOB.out W (B1.out.trans (h.mono B1.out.size))) (fun W h => HC.out W (B1.out.trans (h.mono B1.out.size))) ?_
  intro w2 sa sb sc g0 g1 g2 b2 hwa hwb hwc i0 i1 i2
  have HWA := Lib.hid hwa
  have HWB := Lib.hid hwb
  have HWC := Lib.hid hwc
  have E2 : Hid (Hold w [(w.heap.size, .slice Ax nx cx), (w.heap.size + 1, .slice Ay ny cy), (w.heap.size + 1 + 1, .slice Az nz cz)] [(g0, sa), (g1, sb), (g2, sc)] [] [] w2) := ⟨(Env.zero (HT.out _ B1.out) B1.out).boxes b2 [(g0, sa), (g1, sb), (g2, sc)] fun p hp => by
    simp only [List.mem_cons, List.not_mem_nil, or_false] at hp
    rcases hp with rfl | rfl | rfl
    · exact i0
    · exact i1
    · exact i2, fun p hp => by
    simp only [List.mem_cons, List.not_mem_nil, or_false] at hp
    rcases hp with rfl | rfl | rfl
    · exact X0.out.below b2 X0.out.lt
    · exact X1.out.below b2 X1.out.lt
    · exact X2.out.below b2 X2.out.lt, fun _ h => by simp at h, fun _ h => by simp at h⟩
  clear b2 i0 i1 i2 B1 X0 X1 X2 hwa hwb hwc
  go_wp2_with fail
  have J0 : Hid (Hold w [(w.heap.size, .slice Ax nx cx), (w.heap.size + 1, .slice Ay ny cy), (w.heap.size + 1 + 1, .slice Az nz cz)] [(g0, sa), (g1, sb), (g2, sc)] [] [] w2.drew) := E2.out.drew
  clear E2
  go_region_held3 (fun w' => w'.cell? ⟨g0, 0, none⟩ = some (.slice sa.A sa.n sa.c) ∧ w'.cell? ⟨g1, 0, none⟩ = some (.slice sb.A sb.n sb.c) ∧ w'.cell? ⟨g2, 0, none⟩ = some (.slice sc.A sc.n sc.c)) (first | exact ⟨J3.out.cell (.head _), J3.out.cell (.tail _ (.head _)), J3.out.cell (.tail _ (.tail _ (.head _)))⟩ | exact ⟨J2.out.cell (.head _), J2.out.cell (.tail _ (.head _)), J2.out.cell (.tail _ (.tail _ (.head _)))⟩ | exact ⟨J1.out.cell (.head _), J1.out.cell (.tail _ (.head _)), J1.out.cell (.tail _ (.tail _ (.head _)))⟩ | exact ⟨J0.out.cell (.head _), J0.out.cell (.tail _ (.head _)), J0.out.cell (.tail _ (.tail _ (.head _)))⟩ | fail) (first
    | (have _t := J2; go_at_call 11; refine (get_rlist sc v2 (J2.out.ok (.tail _ (.tail _ (.head _))))).mono ?_; rintro e v3 ⟨An, nn, cn, rfl, hz', h1, h2, h3, b⟩; have J3 := Lib.hid (J2.out.list b hz'); have LN := Lib.hid (ls_of (la_len sc) hz' h1 h2 h3); clear b hz' h1 h2 h3)
    | (have _t := J1; go_at_call 11; refine (get_rlist sb v1 (J1.out.ok (.tail _ (.head _)))).mono ?_; rintro e v2 ⟨Am, nm, cm, rfl, hz', h1, h2, h3, b⟩; have J2 := Lib.hid (J1.out.list b hz'); have LM := Lib.hid (ls_of (la_len sb) hz' h1 h2 h3); clear b hz' h1 h2 h3)
    | (go_at_call 11; refine (get_rlist sa w2.drew (J0.out.ok (.head _))).mono ?_; rintro e v1 ⟨Al, nl, cl, rfl, hz', h1, h2, h3, b⟩; have J1 := Lib.hid (J0.out.list b hz'); have LL := Lib.hid (ls_of (la_len sa) hz' h1 h2 h3); clear b hz' h1 h2 h3)
    | fail)
  have HN : Hid (Hold w [(w.heap.size, .slice Ax nx cx), (w.heap.size + 1, .slice Ay ny cy), (w.heap.size + 1 + 1, .slice Az nz cz)] [(g0, sa), (g1, sb), (g2, sc)] [] [(An, nn, laS sc), (Am, nm, laS sb), (Al, nl, laS sa)] v3) := J3.out
  clear J0 J1 J2 J3
  go_wp2_with fail
  refine sets_three _ v3 _ _ _ _ _ _ _ _ _ _ _ _ _ _ _ _ _ _ _ _ _ g0 g1 g2 sa sb sc (setW (unionF [sa, sb, sc])) (setW fun n => inW sa.ws n && inW sb.ws n) (setW fun n => inW sa.ws n && !inW sb.ws n) (fun W h => ⟨(HN.out.on h).cell (.head _), (HN.out.on h).cell (.tail _ (.head _)), (HN.out.on h).cell (.tail _ (.tail _ (.head _)))⟩) (fun W g h hr => Calls.got_row rfl (by decide) hr fun s hs => ?_) (fun W h => s_meet sa sb W ((HN.out.on h).ok (.head _)) ((HN.out.on h).ok (.tail _ (.head _)))) (fun W h => s_minus sa sb W ((HN.out.on h).ok (.head _)) ((HN.out.on h).ok (.tail _ (.head _)))) ?_
  · simp only [List.mem_cons, List.not_mem_nil, or_false] at hs
    rcases hs with rfl | rfl | rfl
    · exact (HN.out.on h).ok (.head _)
    · exact (HN.out.on h).ok (.tail _ (.head _))
    · exact (HN.out.on h).ok (.tail _ (.tail _ (.head _)))
  intro w5 sl sm sd g3 g4 g5 _ b5 hl hm hd i3 i4 i5 r3 r4 r5
  have HSL := Lib.hid hl
  have HSM := Lib.hid hm
  have HSD := Lib.hid hd
  have K00 : Hid (Rise w [(w.heap.size, .slice Ax nx cx), (w.heap.size + 1, .slice Ay ny cy), (w.heap.size + 1 + 1, .slice Az nz cz)] [(g3, sl), (g4, sm), (g5, sd), (g0, sa), (g1, sb), (g2, sc)] [] [(An, nn, laS sc), (Am, nm, laS sb), (Al, nl, laS sa)] v3 [(sl.A, sl.n), (sm.A, sm.n), (sd.A, sd.n)] w5) := ⟨⟨HN.out.env.boxes b5 [(g3, sl), (g4, sm), (g5, sd)] fun p hp => by
    simp only [List.mem_cons, List.not_mem_nil, or_false] at hp
    rcases hp with rfl | rfl | rfl
    · exact i3
    · exact i4
    · exact i5, (HN.out.on b5).box, (HN.out.on b5).got, (HN.out.on b5).lst⟩, b5, fun r hr => by
    simp only [List.mem_cons, List.not_mem_nil, or_false] at hr
    rcases hr with rfl | rfl | rfl
    · exact r3
    · exact r4
    · exact r5⟩
  clear b5 hl hm hd i3 i4 i5 r3 r4 r5
  have HWI := Lib.hid (s_within sa sb)
  have HWS : Hid (∀ k : Nat, (someL sa (laS sb) false).length = k → ((k : Int) == 0) = withinF (inW sa.ws) (inW sb.ws)) := fun k h => within_some sa sb h
  have hbb : (withinF (inW sa.ws) (inW sb.ws) != withinF (inW sa.ws) (inW sb.ws)) = false := by simp
  generalize withinF (inW sa.ws) (inW sb.ws) = wb at *
  go_wp2_with fail
  have K0 := Lib.hid K00.out.drew
  clear K00
  have HSS : Hid (∀ M Z R W, Rise w [(w.heap.size, .slice Ax nx cx), (w.heap.size + 1, .slice Ay ny cy), (w.heap.size + 1 + 1, .slice Az nz cz)] [(g3, sl), (g4, sm), (g5, sd), (g0, sa), (g1, sb), (g2, sc)] M Z v3 R W → (fun w' => w'.cell? ⟨g3, 0, none⟩ = some (.slice sl.A sl.n sl.c) ∧ w'.cell? ⟨g4, 0, none⟩ = some (.slice sm.A sm.n sm.c) ∧ w'.cell? ⟨g5, 0, none⟩ = some (.slice sd.A sd.n sd.c) ∧ w'.cell? ⟨g0, 0, none⟩ = some (.slice sa.A sa.n sa.c) ∧ w'.cell? ⟨g1, 0, none⟩ = some (.slice sb.A sb.n sb.c)) W) := fun M Z R W h => ⟨h.cell (.head _), h.cell (.tail _ (.head _)), h.cell (.tail _ (.tail _ (.head _))), h.cell (.tail _ (.tail _ (.tail _ (.head _)))), h.cell (.tail _ (.tail _ (.tail _ (.tail _ (.head _)))))⟩
  have hll : nl ≤ 10048 := LL.out.le
  have hlm : nm ≤ 10048 := LM.out.le
  go_region_held3 (fun w' => w'.cell? ⟨g3, 0, none⟩ = some (.slice sl.A sl.n sl.c) ∧ w'.cell? ⟨g4, 0, none⟩ = some (.slice sm.A sm.n sm.c) ∧ w'.cell? ⟨g5, 0, none⟩ = some (.slice sd.A sd.n sd.c) ∧ w'.cell? ⟨g0, 0, none⟩ = some (.slice sa.A sa.n sa.c) ∧ w'.cell? ⟨g1, 0, none⟩ = some (.slice sb.A sb.n sb.c)) (first | exact HSS.out _ _ _ _ K11.out | exact HSS.out _ _ _ _ K10.out | exact HSS.out _ _ _ _ K9.out | exact HSS.out _ _ _ _ K8.out | exact HSS.out _ _ _ _ K7.out | exact HSS.out _ _ _ _ K6.out | exact HSS.out _ _ _ _ K5.out | exact HSS.out _ _ _ _ K4.out | exact HSS.out _ _ _ _ K3.out | exact HSS.out _ _ _ _ K2.out | exact HSS.out _ _ _ _ K1.out | exact HSS.out _ _ _ _ K0.out | exact HSS.out _ _ _ _ (K0.out.on (one_more _ _)) | fail) (first
    | (have _t := K10; go_at_call 30; refine (get_rsome (lb := laS sb) sa k10 false (by omega) (by omega) (K10.out.ints (.tail _ (.tail _ (.tail _ (.tail _ (.tail _ (.head _))))))) (K10.out.ints (.tail _ (.tail _ (.tail _ (.tail _ (.head _))))))).mono ?_; rintro e k11 ⟨A3, n3, c3, rfl, hz', _, _, _, b⟩; have hn3 : n3 ≤ 10048 := (by have := hz'.len; rw [intsN_len] at this; have := some_len sa (laS sb) false; omega); have hq8 := HWS.out n3 (by have := hz'.len; rwa [intsN_len] at this); have K11 := Lib.hid (K10.out.list b hz'); clear b hz')
    | (have _t := K9; go_at_call 35; refine (HWI.out k9 (K9.out.ok (.tail _ (.tail _ (.tail _ (.head _))))) (K9.out.ok (.tail _ (.tail _ (.tail _ (.tail _ (.head _))))))).mono ?_; rintro e k10 ⟨rfl, b⟩; have K10 := Lib.hid (K9.out.on b); clear b)
    | (have _t := K8; go_at_call 24; refine (rsame_yes sd t3 k8 (K8.out.ok (.tail _ (.tail _ (.head _)))) (K8.out.hold.got _ (.head _)) (HSD.out.trans Ht3.out.symm)).mono ?_; rintro e k9 ⟨rfl, b⟩; have K9 := Lib.hid (K8.out.on b); clear b)
    | (have _t := K7; go_at_call 23; refine (get_rof k7 (may_some sa (laS sb) false) (by omega) (K7.out.ints (.head _))).mono ?_; rintro e k8 ⟨t3, rfl, hw, hok, _, b⟩; have Ht3 : Hid (t3.ws = _) := hw.trans (of_minus sa sb); have K8 := Lib.hid (K7.out.more b hok); clear b hw hok)
    | (have _t := K6; go_at_call 30; refine (get_rsome (lb := laS sb) sa k6 false (by omega) (by omega) (K6.out.ints (.tail _ (.tail _ (.tail _ (.tail _ (.head _)))))) (K6.out.ints (.tail _ (.tail _ (.tail _ (.head _)))))).mono ?_; rintro e k7 ⟨A2, n2, c2, rfl, hz', _, _, _, b⟩; have hn2 : n2 ≤ 10048 := (by have := hz'.len; rw [intsN_len] at this; have := some_len sa (laS sb) false; omega); have K7 := Lib.hid (K6.out.list b hz'); clear b hz')
    | (have _t := K5; go_at_call 24; refine (rsame_yes sm t2 k5 (K5.out.ok (.tail _ (.head _))) (K5.out.hold.got _ (.head _)) (HSM.out.trans Ht2.out.symm)).mono ?_; rintro e k6 ⟨rfl, b⟩; have K6 := Lib.hid (K5.out.on b); clear b)
    | (have _t := K4; go_at_call 23; refine (get_rof k4 (may_some sa (laS sb) true) (by omega) (K4.out.ints (.head _))).mono ?_; rintro e k5 ⟨t2, rfl, hw, hok, _, b⟩; have Ht2 : Hid (t2.ws = _) := hw.trans (of_meet sa sb); have K5 := Lib.hid (K4.out.more b hok); clear b hw hok)
    | (have _t := K3; go_at_call 30; refine (get_rsome (lb := laS sb) sa k3 true (by omega) (by omega) (K3.out.ints (.tail _ (.tail _ (.tail _ (.head _))))) (K3.out.ints (.tail _ (.tail _ (.head _))))).mono ?_; rintro e k4 ⟨A1, n1, c1, rfl, hz', _, _, _, b⟩; have hn1 : n1 ≤ 10048 := (by have := hz'.len; rw [intsN_len] at this; have := some_len sa (laS sb) true; omega); have K4 := Lib.hid (K3.out.list b hz'); clear b hz')
    | (have _t := K2; go_at_call 24; refine (rsame_yes sl t1 k2 (K2.out.ok (.head _)) (K2.out.hold.got _ (.head _)) (HSL.out.trans Ht1.out.symm)).mono ?_; rintro e k3 ⟨rfl, b⟩; have K3 := Lib.hid (K2.out.on b); clear b)
    | (have _t := K1; go_at_call 23; refine (get_rof k1 (may_cat sa sb sc) (by omega) (K1.out.ints (.head _))).mono ?_; rintro e k2 ⟨t1, rfl, hw, hok, _, b⟩; have Ht1 : Hid (t1.ws = _) := hw.trans (of_cat sa sb sc); have K2 := Lib.hid (K1.out.more b hok); clear b hw hok)
    | (go_at_call 34; refine (cat_rows LL.out LM.out LN.out w5.drew (K0.out.ints (.tail _ (.tail _ (.head _)))) (K0.out.ints (.tail _ (.head _))) (K0.out.ints (.head _))).mono ?_; rintro e k1 ⟨Ac, nc, cc, rfl, hz', hnc, b⟩; have K1 := Lib.hid (K0.out.list b hz'); clear b hz')
    | fail)
  have KA : Hid (Rise w [(w.heap.size, .slice Ax nx cx), (w.heap.size + 1, .slice Ay ny cy), (w.heap.size + 1 + 1, .slice Az nz cz)] [(g3, sl), (g4, sm), (g5, sd), (g0, sa), (g1, sb), (g2, sc)] [] [(An, nn, laS sc), (Am, nm, laS sb), (Al, nl, laS sa)] v3 [(sl.A, sl.n), (sm.A, sm.n), (sd.A, sd.n)] k11) := ⟨K11.out.hold.sub (fun p hp => hp) (fun p hp => by simp at hp) (fun p hp => .tail _ (.tail _ (.tail _ (.tail _ hp)))), K11.out.below, K11.out.rows⟩
  clear K0 K1 K2 K3 K4 K5 K6 K7 K8 K9 K10 K11 Ht1 Ht2 Ht3 HSL HSM HSD HWI HWS hbb HSS hq8 LM LN
  have z0 := KA.out.cell (.tail _ (.tail _ (.tail _ (.head _))))
  go_wp2_with fail
  refine (union_one sa k11 (KA.out.ok (.tail _ (.tail _ (.tail _ (.head _)))))).mono ?_
  rintro e y1 ⟨so, rfl, hwo, hoo, hro, b⟩
  have HWO := Lib.hid hwo
  have KB := Lib.hid (KA.out.got b hoo hro)
  clear hwo hoo hro b KA z0
  go_wp2_with fail
  refine (union_nil y1).mono ?_
  rintro e y2 ⟨se, rfl, hsn, hse, b⟩
  have KC := Lib.hid (KB.out.more b hse)
  have HSN := Lib.hid hsn
  clear b KB hse hsn
  go_wp2_with fail
  have HYD : Hid ((y2.alloc (.cells #[.slice so.A so.n so.c] 24)).heap.size = y2.heap.size + 1) := by show _ = _; simp
  have KD := Lib.hid (KC.out.add (KC.out.hold.got _ (.tail _ (.head _))))
  have KE := Lib.hid (KD.out.add (s := ⟨se.A, 0, se.c, []⟩) ⟨RW.empty rfl, by intro x hx; simp at hx, by show 0 ≤ _; omega⟩)
  rw [HYD.out] at KE
  clear KC KD HYD HSN
  generalize (y2.alloc (.cells #[.slice so.A so.n so.c] 24)).alloc (.cells #[.slice se.A 0 se.c] 24) = YE at *
  generalize y2.heap.size + 1 = gn at *
  generalize y2.heap.size = gq at *
  have Q0 := Lib.hid KE.out.drew
  clear KE
  go_region_held3 (fun w' => w'.cell? ⟨gn, 0, none⟩ = some (.slice se.A 0 se.c) ∧ w'.cell? ⟨gq, 0, none⟩ = some (.slice so.A so.n so.c)) (first | exact ⟨Q2.out.cell (.head _), Q2.out.cell (.tail _ (.head _))⟩ | exact ⟨Q1.out.cell (.head _), Q1.out.cell (.tail _ (.head _))⟩ | exact ⟨Q0.out.cell (.head _), Q0.out.cell (.tail _ (.head _))⟩ | fail) (first
    | (have _t := Q1; go_at_call 24; refine (rsame_yes so t4 q1 (Q1.out.ok (.tail _ (.head _))) (Q1.out.hold.got _ (.head _)) (HWO.out.trans HT4.out.symm)).mono ?_; rintro e q2 ⟨rfl, b⟩; have Q2 := Lib.hid (Q1.out.on b); clear b)
    | (go_at_call 23; refine (get_rof YE.drew (may_la sa) (by omega) (Q0.out.ints (.tail _ (.tail _ (.head _))))).mono ?_; rintro e q1 ⟨t4, rfl, hw, hok, _, b⟩; have HT4 : Hid (t4.ws = _) := hw.trans (of_la sa); have Q1 := Lib.hid (Q0.out.more b hok); clear b hw hok)
    | fail)
  have Ie := Lib.hid (Q2.out.rows _ (.tail _ (.head _)))
  have If := Lib.hid (Q2.out.rows _ (.tail _ (.tail _ (.head _))))
  have Ih := Lib.hid (Q2.out.rows _ (.tail _ (.tail _ (.tail _ (.head _)))))
  have Ik := Lib.hid (Q2.out.rows _ (.head _))
  have HB0 := Lib.hid Q2.out.below
  have ble : sl.n ≤ 100000 := (Q2.out.ok (.tail _ (.tail _ (.head _)))).2.2
  have blf : sm.n ≤ 100000 := (Q2.out.ok (.tail _ (.tail _ (.tail _ (.head _))))).2.2
  have blh : sd.n ≤ 100000 := (Q2.out.ok (.tail _ (.tail _ (.tail _ (.tail _ (.head _)))))).2.2
  have blk : so.n ≤ 100000 := (Q2.out.ok (.tail _ (.head _))).2.2
  have c3 := Q2.out.cell (.tail _ (.tail _ (.head _)))
  have c4 := Q2.out.cell (.tail _ (.tail _ (.tail _ (.head _))))
  have c5 := Q2.out.cell (.tail _ (.tail _ (.tail _ (.tail _ (.head _)))))
  have c6 := Q2.out.cell (.tail _ (.head _))
  clear Q0 Q1 Q2 HT4 HWO
  go_wp2_with fail
  clear c3 c4 c5 c6
  generalize sl.A = Ae at *
  generalize sl.n = ne at *
  generalize sl.c = ce at *
  generalize sm.A = Af at *
  generalize sm.n = nf at *
  generalize sm.c = cf at *
  generalize sd.A = Ah at *
  generalize sd.n = nh at *
  generalize sd.c = ch at *
  generalize so.A = Ak at *
  generalize so.n = nk at *
  generalize so.c = ck at *
  go_loopw [104] (fun i wq => ∃ q : Nat, q ≤ 4 ∧ i = .int .i64 q ∧ Hid (Below v3.heap.size v3 wq) ∧ Hid (U64Row v3.heap.size wq Ae ne) ∧ Hid (U64Row v3.heap.size wq Af nf) ∧ Hid (U64Row v3.heap.size wq Ah nh) ∧ Hid (U64Row v3.heap.size wq Ak nk)) (fun i _ => 4 - (intOf i).toNat)
  case atStart => exact ⟨0, by omega, rfl, HB0, Ie, If, Ih, Ik⟩
  case round =>
    clear HB0 Ie If Ih Ik
    obtain ⟨q, hq, rfl, HB, Ue, Uf, Uh, Uk⟩ := hrel
    rename World => wq
    by_cases hql : q < 4
    · have hqq : q = 0 ∨ q = 1 ∨ q = 2 ∨ q = 3 := by omega
      rcases hqq with rfl | rfl | rfl | rfl
      · have HX : Hid (Blk (wq.alloc (.cells #[.slice Ae ne ce] 24)) wq.heap.size 24 #[.slice Ae ne ce]) := Blk.new _ _ _
        have HB1 := Lib.hid (HB.out.alloc HB.out.size (.cells #[.slice Ae ne ce] 24))
        have Ve := Lib.hid (Ue.out.on (one_more wq (.cells #[.slice Ae ne ce] 24)))
        have Vf := Lib.hid (Uf.out.on (one_more wq (.cells #[.slice Ae ne ce] 24)))
        have Vh := Lib.hid (Uh.out.on (one_more wq (.cells #[.slice Ae ne ce] 24)))
        have Vk := Lib.hid (Uk.out.on (one_more wq (.cells #[.slice Ae ne ce] 24)))
        have z0 := HX.out.cell 0
        have hix := four_at0 Ae Af Ah Ak ne ce nf cf nh ch nk ck
        clear HB Ue Uf Uh Uk
        go_wp2_with fail
        generalize wq.alloc (.cells #[.slice Ae ne ce] 24) = W1 at *
        generalize wq.heap.size = gx at *
        clear z0 hix
        go_loopw [110] (fun i wz => ∃ j : Nat, j ≤ ne ∧ i = .int .i64 j ∧ Hid (Below v3.heap.size v3 wz) ∧ Hid (Blk wz gx 24 #[.slice Ae ne ce]) ∧ Hid (U64Row v3.heap.size wz Ae ne) ∧ Hid (U64Row v3.heap.size wz Af nf) ∧ Hid (U64Row v3.heap.size wz Ah nh) ∧ Hid (U64Row v3.heap.size wz Ak nk)) (fun i _ => ne - (intOf i).toNat)
        case atStart => exact ⟨0, Nat.zero_le _, rfl, HB1, HX, Ve, Vf, Vh, Vk⟩
        case round =>
          clear HB1 HX Ve Vf Vh Vk
          obtain ⟨j, hj, rfl, HB, HX, Ue, Uf, Uh, Uk⟩ := hrel
          rename World => wz
          by_cases hjl : j < ne
          · obtain ⟨g, cs, v, rfl, hg, hk, hc, hf⟩ := Ue.out.at_ hjl
            obtain ⟨y, hy⟩ := inc_u64 v
            have z0 := HX.out.cell 0
            have HB2 := Lib.hid (HB.out.setCell (p := ⟨g, j, none⟩) (by show v3.heap.size ≤ g; exact hg) (.int .u64 (y : Int)))
            have HX2 := Lib.hid (HX.out.far (p := ⟨g, j, none⟩) (box_not_words HX.out hk) (.int .u64 (y : Int)))
            have Se := Lib.hid (Ue.out.store (g := g) (i := j) (y := y))
            have Sf := Lib.hid (Uf.out.store (g := g) (i := j) (y := y))
            have Sh := Lib.hid (Uh.out.store (g := g) (i := j) (y := y))
            have Sk := Lib.hid (Uk.out.store (g := g) (i := j) (y := y))
            clear HB HX Ue Uf Uh Uk hk hg
            go_wp2_with fail
            go_roundw
            case rel => exact ⟨j + 1, by omega, by go_num, HB2, HX2, Se, Sf, Sh, Sk⟩
            case measure => simp [intOf]; omega
          · obtain rfl : j = ne := by omega
            go_wp2_with fail
            go_roundw
            case rel => exact ⟨1, by omega, by go_num, HB, Ue, Uf, Uh, Uk⟩
            case measure => simp [intOf]
      · have HX : Hid (Blk (wq.alloc (.cells #[.slice Af nf cf] 24)) wq.heap.size 24 #[.slice Af nf cf]) := Blk.new _ _ _
        have HB1 := Lib.hid (HB.out.alloc HB.out.size (.cells #[.slice Af nf cf] 24))
        have Ve := Lib.hid (Ue.out.on (one_more wq (.cells #[.slice Af nf cf] 24)))
        have Vf := Lib.hid (Uf.out.on (one_more wq (.cells #[.slice Af nf cf] 24)))
        have Vh := Lib.hid (Uh.out.on (one_more wq (.cells #[.slice Af nf cf] 24)))
        have Vk := Lib.hid (Uk.out.on (one_more wq (.cells #[.slice Af nf cf] 24)))
        have z0 := HX.out.cell 0
        have hix := four_at1 Ae Af Ah Ak ne ce nf cf nh ch nk ck
        clear HB Ue Uf Uh Uk
        go_wp2_with fail
        generalize wq.alloc (.cells #[.slice Af nf cf] 24) = W1 at *
        generalize wq.heap.size = gx at *
        clear z0 hix
        go_loopw [110] (fun i wz => ∃ j : Nat, j ≤ nf ∧ i = .int .i64 j ∧ Hid (Below v3.heap.size v3 wz) ∧ Hid (Blk wz gx 24 #[.slice Af nf cf]) ∧ Hid (U64Row v3.heap.size wz Ae ne) ∧ Hid (U64Row v3.heap.size wz Af nf) ∧ Hid (U64Row v3.heap.size wz Ah nh) ∧ Hid (U64Row v3.heap.size wz Ak nk)) (fun i _ => nf - (intOf i).toNat)
        case atStart => exact ⟨0, Nat.zero_le _, rfl, HB1, HX, Ve, Vf, Vh, Vk⟩
        case round =>
          clear HB1 HX Ve Vf Vh Vk
          obtain ⟨j, hj, rfl, HB, HX, Ue, Uf, Uh, Uk⟩ := hrel
          rename World => wz
          by_cases hjl : j < nf
          · obtain ⟨g, cs, v, rfl, hg, hk, hc, hf⟩ := Uf.out.at_ hjl
            obtain ⟨y, hy⟩ := inc_u64 v
            have z0 := HX.out.cell 0
            have HB2 := Lib.hid (HB.out.setCell (p := ⟨g, j, none⟩) (by show v3.heap.size ≤ g; exact hg) (.int .u64 (y : Int)))
            have HX2 := Lib.hid (HX.out.far (p := ⟨g, j, none⟩) (box_not_words HX.out hk) (.int .u64 (y : Int)))
            have Se := Lib.hid (Ue.out.store (g := g) (i := j) (y := y))
            have Sf := Lib.hid (Uf.out.store (g := g) (i := j) (y := y))
            have Sh := Lib.hid (Uh.out.store (g := g) (i := j) (y := y))
            have Sk := Lib.hid (Uk.out.store (g := g) (i := j) (y := y))
            clear HB HX Ue Uf Uh Uk hk hg
            go_wp2_with fail
            go_roundw
            case rel => exact ⟨j + 1, by omega, by go_num, HB2, HX2, Se, Sf, Sh, Sk⟩
            case measure => simp [intOf]; omega
          · obtain rfl : j = nf := by omega
            go_wp2_with fail
            go_roundw
            case rel => exact ⟨2, by omega, by go_num, HB, Ue, Uf, Uh, Uk⟩
            case measure => simp [intOf]
      · have HX : Hid (Blk (wq.alloc (.cells #[.slice Ah nh ch] 24)) wq.heap.size 24 #[.slice Ah nh ch]) := Blk.new _ _ _
        have HB1 := Lib.hid (HB.out.alloc HB.out.size (.cells #[.slice Ah nh ch] 24))
        have Ve := Lib.hid (Ue.out.on (one_more wq (.cells #[.slice Ah nh ch] 24)))
        have Vf := Lib.hid (Uf.out.on (one_more wq (.cells #[.slice Ah nh ch] 24)))
        have Vh := Lib.hid (Uh.out.on (one_more wq (.cells #[.slice Ah nh ch] 24)))
        have Vk := Lib.hid (Uk.out.on (one_more wq (.cells #[.slice Ah nh ch] 24)))
        have z0 := HX.out.cell 0
        have hix := four_at2 Ae Af Ah Ak ne ce nf cf nh ch nk ck
        clear HB Ue Uf Uh Uk
        go_wp2_with fail
        generalize wq.alloc (.cells #[.slice Ah nh ch] 24) = W1 at *
        generalize wq.heap.size = gx at *
        clear z0 hix
        go_loopw [110] (fun i wz => ∃ j : Nat, j ≤ nh ∧ i = .int .i64 j ∧ Hid (Below v3.heap.size v3 wz) ∧ Hid (Blk wz gx 24 #[.slice Ah nh ch]) ∧ Hid (U64Row v3.heap.size wz Ae ne) ∧ Hid (U64Row v3.heap.size wz Af nf) ∧ Hid (U64Row v3.heap.size wz Ah nh) ∧ Hid (U64Row v3.heap.size wz Ak nk)) (fun i _ => nh - (intOf i).toNat)
        case atStart => exact ⟨0, Nat.zero_le _, rfl, HB1, HX, Ve, Vf, Vh, Vk⟩
        case round =>
          clear HB1 HX Ve Vf Vh Vk
          obtain ⟨j, hj, rfl, HB, HX, Ue, Uf, Uh, Uk⟩ := hrel
          rename World => wz
          by_cases hjl : j < nh
          · obtain ⟨g, cs, v, rfl, hg, hk, hc, hf⟩ := Uh.out.at_ hjl
            obtain ⟨y, hy⟩ := inc_u64 v
            have z0 := HX.out.cell 0
            have HB2 := Lib.hid (HB.out.setCell (p := ⟨g, j, none⟩) (by show v3.heap.size ≤ g; exact hg) (.int .u64 (y : Int)))
            have HX2 := Lib.hid (HX.out.far (p := ⟨g, j, none⟩) (box_not_words HX.out hk) (.int .u64 (y : Int)))
            have Se := Lib.hid (Ue.out.store (g := g) (i := j) (y := y))
            have Sf := Lib.hid (Uf.out.store (g := g) (i := j) (y := y))
            have Sh := Lib.hid (Uh.out.store (g := g) (i := j) (y := y))
            have Sk := Lib.hid (Uk.out.store (g := g) (i := j) (y := y))
            clear HB HX Ue Uf Uh Uk hk hg
            go_wp2_with fail
            go_roundw
            case rel => exact ⟨j + 1, by omega, by go_num, HB2, HX2, Se, Sf, Sh, Sk⟩
            case measure => simp [intOf]; omega
          · obtain rfl : j = nh := by omega
            go_wp2_with fail
            go_roundw
            case rel => exact ⟨3, by omega, by go_num, HB, Ue, Uf, Uh, Uk⟩
            case measure => simp [intOf]
      · have HX : Hid (Blk (wq.alloc (.cells #[.slice Ak nk ck] 24)) wq.heap.size 24 #[.slice Ak nk ck]) := Blk.new _ _ _
        have HB1 := Lib.hid (HB.out.alloc HB.out.size (.cells #[.slice Ak nk ck] 24))
        have Ve := Lib.hid (Ue.out.on (one_more wq (.cells #[.slice Ak nk ck] 24)))
        have Vf := Lib.hid (Uf.out.on (one_more wq (.cells #[.slice Ak nk ck] 24)))
        have Vh := Lib.hid (Uh.out.on (one_more wq (.cells #[.slice Ak nk ck] 24)))
        have Vk := Lib.hid (Uk.out.on (one_more wq (.cells #[.slice Ak nk ck] 24)))
        have z0 := HX.out.cell 0
        have hix := four_at3 Ae Af Ah Ak ne ce nf cf nh ch nk ck
        clear HB Ue Uf Uh Uk
        go_wp2_with fail
        generalize wq.alloc (.cells #[.slice Ak nk ck] 24) = W1 at *
        generalize wq.heap.size = gx at *
        clear z0 hix
        go_loopw [110] (fun i wz => ∃ j : Nat, j ≤ nk ∧ i = .int .i64 j ∧ Hid (Below v3.heap.size v3 wz) ∧ Hid (Blk wz gx 24 #[.slice Ak nk ck]) ∧ Hid (U64Row v3.heap.size wz Ae ne) ∧ Hid (U64Row v3.heap.size wz Af nf) ∧ Hid (U64Row v3.heap.size wz Ah nh) ∧ Hid (U64Row v3.heap.size wz Ak nk)) (fun i _ => nk - (intOf i).toNat)
        case atStart => exact ⟨0, Nat.zero_le _, rfl, HB1, HX, Ve, Vf, Vh, Vk⟩
        case round =>
          clear HB1 HX Ve Vf Vh Vk
          obtain ⟨j, hj, rfl, HB, HX, Ue, Uf, Uh, Uk⟩ := hrel
          rename World => wz
          by_cases hjl : j < nk
          · obtain ⟨g, cs, v, rfl, hg, hk, hc, hf⟩ := Uk.out.at_ hjl
            obtain ⟨y, hy⟩ := inc_u64 v
            have z0 := HX.out.cell 0
            have HB2 := Lib.hid (HB.out.setCell (p := ⟨g, j, none⟩) (by show v3.heap.size ≤ g; exact hg) (.int .u64 (y : Int)))
            have HX2 := Lib.hid (HX.out.far (p := ⟨g, j, none⟩) (box_not_words HX.out hk) (.int .u64 (y : Int)))
            have Se := Lib.hid (Ue.out.store (g := g) (i := j) (y := y))
            have Sf := Lib.hid (Uf.out.store (g := g) (i := j) (y := y))
            have Sh := Lib.hid (Uh.out.store (g := g) (i := j) (y := y))
            have Sk := Lib.hid (Uk.out.store (g := g) (i := j) (y := y))
            clear HB HX Ue Uf Uh Uk hk hg
            go_wp2_with fail
            go_roundw
            case rel => exact ⟨j + 1, by omega, by go_num, HB2, HX2, Se, Sf, Sh, Sk⟩
            case measure => simp [intOf]; omega
          · obtain rfl : j = nk := by omega
            go_wp2_with fail
            go_roundw
            case rel => exact ⟨4, by omega, by go_num, HB, Ue, Uf, Uh, Uk⟩
            case measure => simp [intOf]
    · obtain rfl : q = 4 := by omega
      have T0 := Lib.hid (HN.out.on HB.out).drew
      go_wp2_with fail
      go_region_held3 (fun w' => w'.cell? ⟨g0, 0, none⟩ = some (.slice sa.A sa.n sa.c) ∧ w'.cell? ⟨g1, 0, none⟩ = some (.slice sb.A sb.n sb.c) ∧ w'.cell? ⟨g2, 0, none⟩ = some (.slice sc.A sc.n sc.c) ∧ w'.cell? ⟨w.heap.size, 0, none⟩ = some (.slice Ax nx cx) ∧ w'.cell? ⟨w.heap.size + 1, 0, none⟩ = some (.slice Ay ny cy) ∧ w'.cell? ⟨w.heap.size + 1 + 1, 0, none⟩ = some (.slice Az nz cz)) (first | exact ⟨T6.out.cell (.head _), T6.out.cell (.tail _ (.head _)), T6.out.cell (.tail _ (.tail _ (.head _))), T6.out.xcell (.head _), T6.out.xcell (.tail _ (.head _)), T6.out.xcell (.tail _ (.tail _ (.head _)))⟩ | exact ⟨T5.out.cell (.head _), T5.out.cell (.tail _ (.head _)), T5.out.cell (.tail _ (.tail _ (.head _))), T5.out.xcell (.head _), T5.out.xcell (.tail _ (.head _)), T5.out.xcell (.tail _ (.tail _ (.head _)))⟩ | exact ⟨T4.out.cell (.head _), T4.out.cell (.tail _ (.head _)), T4.out.cell (.tail _ (.tail _ (.head _))), T4.out.xcell (.head _), T4.out.xcell (.tail _ (.head _)), T4.out.xcell (.tail _ (.tail _ (.head _)))⟩ | exact ⟨T3.out.cell (.head _), T3.out.cell (.tail _ (.head _)), T3.out.cell (.tail _ (.tail _ (.head _))), T3.out.xcell (.head _), T3.out.xcell (.tail _ (.head _)), T3.out.xcell (.tail _ (.tail _ (.head _)))⟩ | exact ⟨T2.out.cell (.head _), T2.out.cell (.tail _ (.head _)), T2.out.cell (.tail _ (.tail _ (.head _))), T2.out.xcell (.head _), T2.out.xcell (.tail _ (.head _)), T2.out.xcell (.tail _ (.tail _ (.head _)))⟩ | exact ⟨T1.out.cell (.head _), T1.out.cell (.tail _ (.head _)), T1.out.cell (.tail _ (.tail _ (.head _))), T1.out.xcell (.head _), T1.out.xcell (.tail _ (.head _)), T1.out.xcell (.tail _ (.tail _ (.head _)))⟩ | exact ⟨T0.out.cell (.head _), T0.out.cell (.tail _ (.head _)), T0.out.cell (.tail _ (.tail _ (.head _))), T0.out.xcell (.head _), T0.out.xcell (.tail _ (.head _)), T0.out.xcell (.tail _ (.tail _ (.head _)))⟩ | fail) (first
        | (have _t := T5; go_at_call 24; refine (rsame_yes sc u2 p5 (T5.out.ok (.tail _ (.tail _ (.head _)))) (T5.out.got _ (.head _)) (HWC.out.trans HU2.out.symm)).mono ?_; rintro e p6 ⟨rfl, b⟩; have T6 := Lib.hid (T5.out.on b); clear b)
        | (have _t := T4; go_at_call 10; refine (HC.out p4 T4.out.env.below).mono ?_; rintro e p5 ⟨u2, rfl, hu, ho, _, b⟩; have T5 := Lib.hid (T4.out.more b ho); have HU2 := Lib.hid hu; clear b hu ho)
        | (have _t := T3; go_at_call 24; refine (rsame_yes sb u1 p3 (T3.out.ok (.tail _ (.head _))) (T3.out.got _ (.head _)) (HWB.out.trans HU1.out.symm)).mono ?_; rintro e p4 ⟨rfl, b⟩; have T4 := Lib.hid (T3.out.on b); clear b)
        | (have _t := T2; go_at_call 10; refine (HOB.out p2 T2.out.env.below).mono ?_; rintro e p3 ⟨u1, rfl, hu, ho, _, b⟩; have T3 := Lib.hid (T2.out.more b ho); have HU1 := Lib.hid hu; clear b hu ho)
        | (have _t := T1; go_at_call 24; refine (rsame_yes sa u0 p1 (T1.out.ok (.head _)) (T1.out.got _ (.head _)) (HWA.out.trans HU0.out.symm)).mono ?_; rintro e p2 ⟨rfl, b⟩; have T2 := Lib.hid (T1.out.on b); clear b)
        | (go_at_call 10; refine (HA.out wq.drew T0.out.env.below).mono ?_; rintro e p1 ⟨u0, rfl, hu, ho, _, b⟩; have T1 := Lib.hid (T0.out.more b ho); have HU0 := Lib.hid hu; clear b hu ho)
        | fail)
      go_wp2_with fail
      go_ret
      exact ⟨rfl, T6.out.env.below⟩
end Go.Proofs.YtpkpfnilfabkaaaDoor
