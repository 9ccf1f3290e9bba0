/- BitsParts: the walk. -/
import Derived.Test.YtpkpfnilfabkaaaDoorBz
import Derived.Test.YtpkpfnilfabkaaaDoorBt
namespace Go.Proofs.YtpkpfnilfabkaaaDoor
open Go.RowKit

set_option maxRecDepth 100000 in
set_option maxHeartbeats 8000000 in
theorem parts_core (A B C : Option Addr) (n c m d k f : Nat) (xs ys zs : List Nat) (hx : W64 xs) (hnc : n ≤ c) (hcm : c ≤ 9223372036854775807) (hy : W64 ys) (hmd : m ≤ d) (hdm : d ≤ 9223372036854775807) (hz : W64 zs) (hkf : k ≤ f) (hfm : f ≤ 9223372036854775807)
    (w : World) (hT : Tab w) (hA : RW w w.heap.size A n xs) (hB : RW w w.heap.size B m ys) (hC : RW w w.heap.size C k zs) :
    Calls Tryd.prog 7 #[.agg #[.slice A n c], .agg #[.slice B m d], .agg #[.slice C k f]] w fun e w' => e = .returned (.bool true) ∧ Below w.heap.size w w' := by
  obtain ⟨q0, q1, q2, _, hsz, hb0⟩ := three_boxes w (.slice A n c) (.slice B m d) (.slice C k f) 24 24 24
  have HWK := Lib.hid (wakes_any _ (hT.on hb0))
  have HT := Lib.hid fun W h => hT.on (w' := W) h
  have HA := Lib.hid fun W (h : Below w.heap.size w W) => own_any A n c xs hx hnc hcm W ((hA.below h).more h.size)
  have HB := Lib.hid fun W (h : Below w.heap.size w W) => own_any B m d ys hy hmd hdm W ((hB.below h).more h.size)
  have HC := Lib.hid fun W (h : Below w.heap.size w W) => own_any C k f zs hz hkf hfm W ((hC.below h).more h.size)
  clear hT hA hB hC
  go_enter Tryd.func7, Tryd.ntmps7
  go_wp2_with fail
  generalize ((w.alloc (.cells #[.slice A n c] 24)).alloc (.cells #[.slice B m d] 24)).alloc (.cells #[.slice C k f] 24) = V0 at *
  refine HWK.out.mono ?_
  rintro e w1 ⟨rfl, b1⟩
  have B1 : Hid (Below w.heap.size w w1) := hb0.trans (b1.mono hb0.size)
  have X0 := Lib.hid (cell_on b1 q0 (by show w.heap.size < _; omega))
  have X1 := Lib.hid (cell_on b1 q1 (by show w.heap.size + 1 < _; omega))
  have X2 := Lib.hid (cell_on b1 q2 (by show w.heap.size + 1 + 1 < _; omega))
  have hs1 : w.heap.size + 1 + 1 + 1 ≤ w1.heap.size := by have := b1.size; omega
  clear b1 hb0 HWK q0 q1 q2 hsz
  go_wp2_with fail
  refine parts_own _ w1 _ _ _ _ _ _ _ _ _ _ _ _ _ _ _ (xs.take 160) (ys.take 160) (zs.take 160) (fun W h => ⟨cell_on h X0.out (by show w.heap.size < _; omega), cell_on h X1.out (by show w.heap.size + 1 < _; omega), cell_on h X2.out (by show w.heap.size + 1 + 1 < _; omega)⟩) (fun W h => HA.out W (B1.out.trans (h.mono B1.out.size))) (fun W h => HB.out W (B1.out.trans (h.mono B1.out.size))) (fun W h => HC.out W (B1.out.trans (h.mono B1.out.size))) ?_
  intro w2 sa sb sc g0 g1 g2 b2 _ _ _ i0 i1 i2
  have E2 : Hid (Env w [(g0, sa), (g1, sb), (g2, sc)] w2) := (Env.zero (HT.out _ B1.out) B1.out).boxes b2 [(g0, sa), (g1, sb), (g2, sc)] fun p hp => by
    simp only [List.mem_cons, List.not_mem_nil, or_false] at hp
    rcases hp with rfl | rfl | rfl
    · exact i0
    · exact i1
    · exact i2
  clear b2 i0 i1 i2 B1 X0 X1 X2 HA HB HC HT hs1
  go_wp2_with fail
  refine parts_pair _ w2 _ _ _ _ _ _ _ _ _ _ _ _ _ _ _ sa sb (setW (unionF [sa, sb])) (setW fun n => inW sa.ws n && inW sb.ws n) (fun W h => ⟨(E2.out.on h).cell (.head _), (E2.out.on h).cell (.tail _ (.head _))⟩) (fun W g h hr => Calls.got_row rfl (by decide) hr fun s hs => ?_) (fun W h => s_meet sa sb W ((E2.out.on h).ok (.head _)) ((E2.out.on h).ok (.tail _ (.head _)))) ?_
  · simp only [List.mem_cons, List.not_mem_nil, or_false] at hs
    rcases hs with rfl | rfl
    · exact (E2.out.on h).ok (.head _)
    · exact (E2.out.on h).ok (.tail _ (.head _))
  intro w3 sl sm g3 g4 _ b3 hl hm i3 i4
  have FL : Hid (∀ n, inW sl.ws n = (inW sa.ws n || inW sb.ws n)) := fun n => by rw [hl, in_union]; simp [unionF]
  have FM : Hid (∀ n, inW sm.ws n = (inW sa.ws n && inW sb.ws n)) := fun n => by rw [hm, in_meet]
  have E3 : Hid (Env w [(g3, sl), (g4, sm), (g0, sa), (g1, sb), (g2, sc)] w3) := E2.out.boxes b3 [(g3, sl), (g4, sm)] fun p hp => by
    simp only [List.mem_cons, List.not_mem_nil, or_false] at hp
    rcases hp with rfl | rfl
    · exact i3
    · exact i4
  clear b3 i3 i4 hl hm E2
  go_wp2_with fail
  refine parts_rest _ w3 _ _ _ _ _ _ _ _ _ _ _ _ _ _ _ _ _ _ _ _ _ _ _ _ sa sb (setW fun n => inW sa.ws n && !inW sb.ws n) (setW fun n => inW sb.ws n && !inW sa.ws n) (fun W h => ⟨(E3.out.on h).cell (.tail _ (.tail _ (.head _))), (E3.out.on h).cell (.tail _ (.tail _ (.tail _ (.head _))))⟩) (fun W h => s_minus sa sb W ((E3.out.on h).ok (.tail _ (.tail _ (.head _)))) ((E3.out.on h).ok (.tail _ (.tail _ (.tail _ (.head _)))))) (fun W h => s_minus sb sa W ((E3.out.on h).ok (.tail _ (.tail _ (.tail _ (.head _))))) ((E3.out.on h).ok (.tail _ (.tail _ (.head _))))) ?_
  intro w4 sp sq g5 g6 b4 hp hq i5 i6
  have FP : Hid (∀ n, inW sp.ws n = (inW sa.ws n && !inW sb.ws n)) := fun n => by rw [hp, in_minus]
  have FQ : Hid (∀ n, inW sq.ws n = (inW sb.ws n && !inW sa.ws n)) := fun n => by rw [hq, in_minus]
  have E4 : Hid (Env w [(g5, sp), (g6, sq), (g3, sl), (g4, sm), (g0, sa), (g1, sb), (g2, sc)] w4) := E3.out.boxes b4 [(g5, sp), (g6, sq)] fun p hp => by
    simp only [List.mem_cons, List.not_mem_nil, or_false] at hp
    rcases hp with rfl | rfl
    · exact i5
    · exact i6
  clear b4 i5 i6 hp hq E3
  obtain ⟨kp, hkp⟩ : ∃ k : Nat, cN (inW sp.ws) = k := ⟨_, rfl⟩
  obtain ⟨km, hkm⟩ : ∃ k : Nat, cN (inW sm.ws) = k := ⟨_, rfl⟩
  obtain ⟨kq, hkq⟩ : ∃ k : Nat, cN (inW sq.ws) = k := ⟨_, rfl⟩
  have hpl : kp ≤ 10048 := by rw [← hkp]; exact cN_le _
  have hml : km ≤ 10048 := by rw [← hkm]; exact cN_le _
  have hql : kq ≤ 10048 := by rw [← hkq]; exact cN_le _
  have CP := Lib.hid hkp
  have CM := Lib.hid hkm
  have CQ := Lib.hid hkq
  have HSUM : Hid (cN (inW sl.ws) = kp + km + kq) := by
    show _ = _
    rw [← hkp, ← hkm, ← hkq, cN_congr (fun n _ => FL.out n), cN_congr (fun n _ => FP.out n), cN_congr (fun n _ => FM.out n), cN_congr (fun n _ => FQ.out n)]
    exact (cN_parts _ _).symm
  clear hkp hkm hkq
  have x1' : IntKind.i64.wrap ((kp : Int) + (km : Int)) = (kp : Int) + (km : Int) := IntWalk.i64_in _ (by omega)
  have x2' : IntKind.i64.wrap ((kp : Int) + (km : Int) + (kq : Int)) = (kp : Int) + (km : Int) + (kq : Int) := IntWalk.i64_in _ (by omega)
  have HALL : Hid (∀ W, sl.ok W W.heap.size → Calls Tryd.prog 17 #[.agg #[.slice sl.A sl.n sl.c]] W fun e w' => e = .returned (.int .i64 ((kp : Int) + (km : Int) + (kq : Int))) ∧ Below W.heap.size W w') := fun W h =>
    (count_is sl W (kp + km + kq) h HSUM.out).mono fun _ _ h => ⟨h.1.trans (by push_cast; rfl), h.2⟩
  have HSS : Hid (∀ M W, Held w [(g5, sp), (g6, sq), (g3, sl), (g4, sm), (g0, sa), (g1, sb), (g2, sc)] M W → (fun w' => w'.cell? ⟨g5, 0, none⟩ = some (.slice sp.A sp.n sp.c) ∧ w'.cell? ⟨g6, 0, none⟩ = some (.slice sq.A sq.n sq.c) ∧ w'.cell? ⟨g3, 0, none⟩ = some (.slice sl.A sl.n sl.c) ∧ w'.cell? ⟨g4, 0, none⟩ = some (.slice sm.A sm.n sm.c) ∧ w'.cell? ⟨g0, 0, none⟩ = some (.slice sa.A sa.n sa.c) ∧ w'.cell? ⟨g1, 0, none⟩ = some (.slice sb.A sb.n sb.c) ∧ w'.cell? ⟨g2, 0, none⟩ = some (.slice sc.A sc.n sc.c)) W) := fun M W h => ⟨h.cell (.head _), h.cell (.tail _ (.head _)), h.cell (.tail _ (.tail _ (.head _))), h.cell (.tail _ (.tail _ (.tail _ (.head _)))), h.cell (.tail _ (.tail _ (.tail _ (.tail _ (.head _))))), h.cell (.tail _ (.tail _ (.tail _ (.tail _ (.tail _ (.head _)))))), h.cell (.tail _ (.tail _ (.tail _ (.tail _ (.tail _ (.tail _ (.head _)))))))⟩
  have J0 : Hid (Held w [(g5, sp), (g6, sq), (g3, sl), (g4, sm), (g0, sa), (g1, sb), (g2, sc)] [] w4.drew) := Held.start E4.out.drew
  clear E4 HSUM
  go_wp2_with fail
  go_region_held3 (fun w' => w'.cell? ⟨g5, 0, none⟩ = some (.slice sp.A sp.n sp.c) ∧ w'.cell? ⟨g6, 0, none⟩ = some (.slice sq.A sq.n sq.c) ∧ w'.cell? ⟨g3, 0, none⟩ = some (.slice sl.A sl.n sl.c) ∧ w'.cell? ⟨g4, 0, none⟩ = some (.slice sm.A sm.n sm.c) ∧ w'.cell? ⟨g0, 0, none⟩ = some (.slice sa.A sa.n sa.c) ∧ w'.cell? ⟨g1, 0, none⟩ = some (.slice sb.A sb.n sb.c) ∧ w'.cell? ⟨g2, 0, none⟩ = some (.slice sc.A sc.n sc.c)) (first | exact HSS.out _ _ J8.out | exact HSS.out _ _ (J7.out.on (one_more _ _)) | exact HSS.out _ _ J7.out | exact HSS.out _ _ (J6.out.on (one_more _ _)) | exact HSS.out _ _ J6.out | exact HSS.out _ _ (J5.out.on (one_more _ _)) | exact HSS.out _ _ J5.out | exact HSS.out _ _ (J4.out.on (one_more _ _)) | exact HSS.out _ _ J4.out | exact HSS.out _ _ (J3.out.on (one_more _ _)) | exact HSS.out _ _ J3.out | exact HSS.out _ _ (J2.out.on (one_more _ _)) | exact HSS.out _ _ J2.out | exact HSS.out _ _ (J1.out.on (one_more _ _)) | exact HSS.out _ _ J1.out | exact HSS.out _ _ (J0.out.on (one_more _ _)) | exact HSS.out _ _ J0.out | fail) (first
    | (have _t := J7; go_at_call 17; refine (count_zero m1 y7 (J7.out.got _ (.head _)) (fun n => by rw [U_m1.out, FP.out, FQ.out]; cases inW sa.ws n <;> cases inW sb.ws n <;> rfl)).mono ?_; rintro e y8 ⟨rfl, b⟩; have J8 := Lib.hid (J7.out.on b); clear b)
    | (have _t := J6; go_at_call 32; refine (two_meet sp sq y6 (J6.out.ok (.head _)) (J6.out.ok (.tail _ (.head _)))).mono ?_; rintro e y7 ⟨m1, rfl, hu, ho, b⟩; have J7 := Lib.hid (J6.out.more b ho); have U_m1 := Lib.hid hu; clear hu ho b)
    | (have _t := J5; go_at_call 17; refine (HALL.out y5 (J5.out.ok (.tail _ (.tail _ (.head _))))).mono ?_; rintro e y6 ⟨rfl, b⟩; have J6 := Lib.hid (J5.out.on b); clear b)
    | (have _t := J4; go_at_call 17; refine (count_is sq y4 kq (J4.out.ok (.tail _ (.head _))) CQ.out).mono ?_; rintro e y5 ⟨rfl, b⟩; have J5 := Lib.hid (J4.out.on b); clear b)
    | (have _t := J3; go_at_call 17; refine (count_is sm y3 km (J3.out.ok (.tail _ (.tail _ (.tail _ (.head _))))) CM.out).mono ?_; rintro e y4 ⟨rfl, b⟩; have J4 := Lib.hid (J3.out.on b); clear b)
    | (have _t := J2; go_at_call 17; refine (count_is sp y2 kp (J2.out.ok (.head _)) CP.out).mono ?_; rintro e y3 ⟨rfl, b⟩; have J3 := Lib.hid (J2.out.on b); clear b)
    | (have _t := J1; go_at_call 14; refine (same_yes u1 sl y1 (J1.out.got _ (.head _)) (J1.out.ok (.tail _ (.tail _ (.head _)))) (fun n => by rw [U_u1.out, FP.out, FM.out, FQ.out, FL.out]; cases inW sa.ws n <;> cases inW sb.ws n <;> rfl)).mono ?_; rintro e y2 ⟨rfl, b⟩; have J2 := Lib.hid (J1.out.on b); clear b)
    | (go_at_call 31; refine (union_three sp sm sq w4.drew (J0.out.ok (.head _)) (J0.out.ok (.tail _ (.tail _ (.tail _ (.head _))))) (J0.out.ok (.tail _ (.head _)))).mono ?_; rintro e y1 ⟨u1, rfl, hu, ho, b⟩; have J1 := Lib.hid (J0.out.more b ho); have U_u1 := Lib.hid hu; clear hu ho b)
    | fail)
  have E5 : Hid (Env w [(g5, sp), (g6, sq), (g3, sl), (g4, sm), (g0, sa), (g1, sb), (g2, sc)] y8) := J8.out.env
  clear J0 J1 J2 J3 J4 J5 J6 J7 J8 U_u1 U_m1 HALL CP CM CQ x1' x2' hpl hml hql
  go_wp2_with fail
  have J0 : Hid (Held w [(g5, sp), (g6, sq), (g3, sl), (g4, sm), (g0, sa), (g1, sb), (g2, sc)] [] y8.drew) := Held.start E5.out.drew
  clear E5
  go_region_held3 (fun w' => w'.cell? ⟨g5, 0, none⟩ = some (.slice sp.A sp.n sp.c) ∧ w'.cell? ⟨g6, 0, none⟩ = some (.slice sq.A sq.n sq.c) ∧ w'.cell? ⟨g3, 0, none⟩ = some (.slice sl.A sl.n sl.c) ∧ w'.cell? ⟨g4, 0, none⟩ = some (.slice sm.A sm.n sm.c) ∧ w'.cell? ⟨g0, 0, none⟩ = some (.slice sa.A sa.n sa.c) ∧ w'.cell? ⟨g1, 0, none⟩ = some (.slice sb.A sb.n sb.c) ∧ w'.cell? ⟨g2, 0, none⟩ = some (.slice sc.A sc.n sc.c)) (first | exact HSS.out _ _ J7.out | exact HSS.out _ _ (J6.out.on (one_more _ _)) | exact HSS.out _ _ J6.out | exact HSS.out _ _ (J5.out.on (one_more _ _)) | exact HSS.out _ _ J5.out | exact HSS.out _ _ (J4.out.on (one_more _ _)) | exact HSS.out _ _ J4.out | exact HSS.out _ _ (J3.out.on (one_more _ _)) | exact HSS.out _ _ J3.out | exact HSS.out _ _ (J2.out.on (one_more _ _)) | exact HSS.out _ _ J2.out | exact HSS.out _ _ (J1.out.on (one_more _ _)) | exact HSS.out _ _ J1.out | exact HSS.out _ _ (J0.out.on (one_more _ _)) | exact HSS.out _ _ J0.out | fail) (first
    | (have _t := J6; go_at_call 14; refine (same_yes m1 sm z6 (J6.out.got _ (.head _)) (J6.out.ok (.tail _ (.tail _ (.tail _ (.head _))))) (fun n => by rw [U_m1.out, FM.out]; cases inW sa.ws n <;> cases inW sb.ws n <;> rfl)).mono ?_; rintro e z7 ⟨rfl, b⟩; have J7 := Lib.hid (J6.out.on b); clear b)
    | (have _t := J5; go_at_call 32; refine (two_meet sb sa z5 (J5.out.ok (.tail _ (.tail _ (.tail _ (.tail _ (.tail _ (.head _))))))) (J5.out.ok (.tail _ (.tail _ (.tail _ (.tail _ (.head _))))))).mono ?_; rintro e z6 ⟨m1, rfl, hu, ho, b⟩; have J6 := Lib.hid (J5.out.more b ho); have U_m1 := Lib.hid hu; clear hu ho b)
    | (have _t := J4; go_at_call 14; refine (same_yes u1 sl z4 (J4.out.got _ (.head _)) (J4.out.ok (.tail _ (.tail _ (.head _)))) (fun n => by rw [U_u1.out, FL.out]; cases inW sa.ws n <;> cases inW sb.ws n <;> rfl)).mono ?_; rintro e z5 ⟨rfl, b⟩; have J5 := Lib.hid (J4.out.on b); clear b)
    | (have _t := J3; go_at_call 31; refine (union_two sb sa z3 (J3.out.ok (.tail _ (.tail _ (.tail _ (.tail _ (.tail _ (.head _))))))) (J3.out.ok (.tail _ (.tail _ (.tail _ (.tail _ (.head _))))))).mono ?_; rintro e z4 ⟨u1, rfl, hu, ho, b⟩; have J4 := Lib.hid (J3.out.more b ho); have U_u1 := Lib.hid hu; clear hu ho b)
    | (have _t := J2; go_at_call 35; refine (within_yes sp sa z2 (J2.out.ok (.head _)) (J2.out.ok (.tail _ (.tail _ (.tail _ (.tail _ (.head _)))))) (fun n h => by rw [FP.out] at h; revert h; cases inW sa.ws n <;> simp)).mono ?_; rintro e z3 ⟨rfl, b⟩; have J3 := Lib.hid (J2.out.on b); clear b)
    | (have _t := J1; go_at_call 35; refine (within_yes sm sa z1 (J1.out.ok (.tail _ (.tail _ (.tail _ (.head _))))) (J1.out.ok (.tail _ (.tail _ (.tail _ (.tail _ (.head _)))))) (fun n h => by rw [FM.out] at h; revert h; cases inW sa.ws n <;> simp)).mono ?_; rintro e z2 ⟨rfl, b⟩; have J2 := Lib.hid (J1.out.on b); clear b)
    | (go_at_call 35; refine (within_yes sa sl y8.drew (J0.out.ok (.tail _ (.tail _ (.tail _ (.tail _ (.head _)))))) (J0.out.ok (.tail _ (.tail _ (.head _)))) (fun n h => by rw [FL.out, h]; rfl)).mono ?_; rintro e z1 ⟨rfl, b⟩; have J1 := Lib.hid (J0.out.on b); clear b)
    | fail)
  have E6 : Hid (Env w [(g5, sp), (g6, sq), (g3, sl), (g4, sm), (g0, sa), (g1, sb), (g2, sc)] z7) := J7.out.env
  clear J0 J1 J2 J3 J4 J5 J6 J7 U_u1 U_m1
  go_wp2_with fail
  have J0 : Hid (Held w [(g5, sp), (g6, sq), (g3, sl), (g4, sm), (g0, sa), (g1, sb), (g2, sc)] [] z7.drew) := Held.start E6.out.drew
  clear E6
  go_region_held3 (fun w' => w'.cell? ⟨g5, 0, none⟩ = some (.slice sp.A sp.n sp.c) ∧ w'.cell? ⟨g6, 0, none⟩ = some (.slice sq.A sq.n sq.c) ∧ w'.cell? ⟨g3, 0, none⟩ = some (.slice sl.A sl.n sl.c) ∧ w'.cell? ⟨g4, 0, none⟩ = some (.slice sm.A sm.n sm.c) ∧ w'.cell? ⟨g0, 0, none⟩ = some (.slice sa.A sa.n sa.c) ∧ w'.cell? ⟨g1, 0, none⟩ = some (.slice sb.A sb.n sb.c) ∧ w'.cell? ⟨g2, 0, none⟩ = some (.slice sc.A sc.n sc.c)) (first | exact HSS.out _ _ J9.out | exact HSS.out _ _ (J8.out.on (one_more _ _)) | exact HSS.out _ _ J8.out | exact HSS.out _ _ (J7.out.on (one_more _ _)) | exact HSS.out _ _ J7.out | exact HSS.out _ _ (J6.out.on (one_more _ _)) | exact HSS.out _ _ J6.out | exact HSS.out _ _ (J5.out.on (one_more _ _)) | exact HSS.out _ _ J5.out | exact HSS.out _ _ (J4.out.on (one_more _ _)) | exact HSS.out _ _ J4.out | exact HSS.out _ _ (J3.out.on (one_more _ _)) | exact HSS.out _ _ J3.out | exact HSS.out _ _ (J2.out.on (one_more _ _)) | exact HSS.out _ _ J2.out | exact HSS.out _ _ (J1.out.on (one_more _ _)) | exact HSS.out _ _ J1.out | exact HSS.out _ _ (J0.out.on (one_more _ _)) | exact HSS.out _ _ J0.out | fail) (first
    | (have _t := J8; go_at_call 14; refine (same_yes r1 r2 t8 (J8.out.got _ (.tail _ (.head _))) (J8.out.got _ (.head _)) (fun n => by rw [U_r1.out, U_u3.out, U_r2.out, FP.out]; cases inW sa.ws n <;> cases inW sb.ws n <;> cases inW sc.ws n <;> rfl)).mono ?_; rintro e t9 ⟨rfl, b⟩; have J9 := Lib.hid (J8.out.on b); clear b)
    | (have _t := J7; go_at_call 33; refine (two_minus sp sc t7 (J7.out.ok (.head _)) (J7.out.ok (.tail _ (.tail _ (.tail _ (.tail _ (.tail _ (.tail _ (.head _))))))))).mono ?_; rintro e t8 ⟨r2, rfl, hu, ho, b⟩; have J8 := Lib.hid (J7.out.more b ho); have U_r2 := Lib.hid hu; clear hu ho b)
    | (have _t := J6; go_at_call 33; refine (two_minus sa u3 t6 (J6.out.ok (.tail _ (.tail _ (.tail _ (.tail _ (.head _)))))) (J6.out.got _ (.head _))).mono ?_; rintro e t7 ⟨r1, rfl, hu, ho, b⟩; have J7 := Lib.hid (J6.out.more b ho); have U_r1 := Lib.hid hu; clear hu ho b)
    | (have _t := J5; go_at_call 31; refine (union_two sb sc t5 (J5.out.ok (.tail _ (.tail _ (.tail _ (.tail _ (.tail _ (.head _))))))) (J5.out.ok (.tail _ (.tail _ (.tail _ (.tail _ (.tail _ (.tail _ (.head _))))))))).mono ?_; rintro e t6 ⟨u3, rfl, hu, ho, b⟩; have J6 := Lib.hid (J5.out.more b ho); have U_u3 := Lib.hid hu; clear hu ho b)
    | (have _t := J4; go_at_call 14; refine (same_yes m1 u2 t4 (J4.out.got _ (.tail _ (.tail _ (.head _)))) (J4.out.got _ (.head _)) (fun n => by rw [U_m1.out, U_u1.out, U_u2.out, U_m2.out, FM.out]; cases inW sa.ws n <;> cases inW sb.ws n <;> cases inW sc.ws n <;> rfl)).mono ?_; rintro e t5 ⟨rfl, b⟩; have J5 := Lib.hid (J4.out.on b); clear b)
    | (have _t := J3; go_at_call 31; refine (union_two sm m2 t3 (J3.out.ok (.tail _ (.tail _ (.tail _ (.head _))))) (J3.out.got _ (.head _))).mono ?_; rintro e t4 ⟨u2, rfl, hu, ho, b⟩; have J4 := Lib.hid (J3.out.more b ho); have U_u2 := Lib.hid hu; clear hu ho b)
    | (have _t := J2; go_at_call 32; refine (two_meet sa sc t2 (J2.out.ok (.tail _ (.tail _ (.tail _ (.tail _ (.head _)))))) (J2.out.ok (.tail _ (.tail _ (.tail _ (.tail _ (.tail _ (.tail _ (.head _))))))))).mono ?_; rintro e t3 ⟨m2, rfl, hu, ho, b⟩; have J3 := Lib.hid (J2.out.more b ho); have U_m2 := Lib.hid hu; clear hu ho b)
    | (have _t := J1; go_at_call 32; refine (two_meet sa u1 t1 (J1.out.ok (.tail _ (.tail _ (.tail _ (.tail _ (.head _)))))) (J1.out.got _ (.head _))).mono ?_; rintro e t2 ⟨m1, rfl, hu, ho, b⟩; have J2 := Lib.hid (J1.out.more b ho); have U_m1 := Lib.hid hu; clear hu ho b)
    | (go_at_call 31; refine (union_two sb sc z7.drew (J0.out.ok (.tail _ (.tail _ (.tail _ (.tail _ (.tail _ (.head _))))))) (J0.out.ok (.tail _ (.tail _ (.tail _ (.tail _ (.tail _ (.tail _ (.head _))))))))).mono ?_; rintro e t1 ⟨u1, rfl, hu, ho, b⟩; have J1 := Lib.hid (J0.out.more b ho); have U_u1 := Lib.hid hu; clear hu ho b)
    | fail)
  have E7 : Hid (Env w [(g5, sp), (g6, sq), (g3, sl), (g4, sm), (g0, sa), (g1, sb), (g2, sc)] t9) := J9.out.env
  clear J0 J1 J2 J3 J4 J5 J6 J7 J8 J9 U_u1 U_m1 U_m2 U_u2 U_u3 U_r1 U_r2 FL FM FP FQ
  have HWAB := Lib.hid (s_within sa sb)
  have HWBA := Lib.hid (s_within sb sa)
  have HSAB := Lib.hid (s_same sa sb)
  have hse : sameF (inW sa.ws) (inW sb.ws) = (withinF (inW sa.ws) (inW sb.ws) && withinF (inW sb.ws) (inW sa.ws)) := by
    rw [Bool.eq_iff_iff, Bool.and_eq_true, sameF_iff, withinF_iff, withinF_iff]
    refine ⟨fun h => ⟨fun n hn hf => by rw [← h n hn]; exact hf, fun n hn hf => by rw [h n hn]; exact hf⟩, fun h n hn => ?_⟩
    have h1 := h.1 n hn
    have h2 := h.2 n hn
    revert h1 h2
    cases inW sa.ws n <;> cases inW sb.ws n <;> simp
  rw [hse] at HSAB
  clear hse
  go_wp2_with fail
  have J0 : Hid (Held w [(g5, sp), (g6, sq), (g3, sl), (g4, sm), (g0, sa), (g1, sb), (g2, sc)] [] t9.drew) := Held.start E7.out.drew
  clear E7
  rcases Bool.eq_false_or_eq_true (withinF (inW sa.ws) (inW sb.ws)) with h1 | h1
  · rw [h1] at HWAB HSAB
    rcases Bool.eq_false_or_eq_true (withinF (inW sb.ws) (inW sa.ws)) with h2 | h2
    · rw [h2] at HWBA HSAB
      clear h1 h2
      go_region_held3 (fun w' => w'.cell? ⟨g5, 0, none⟩ = some (.slice sp.A sp.n sp.c) ∧ w'.cell? ⟨g6, 0, none⟩ = some (.slice sq.A sq.n sq.c) ∧ w'.cell? ⟨g3, 0, none⟩ = some (.slice sl.A sl.n sl.c) ∧ w'.cell? ⟨g4, 0, none⟩ = some (.slice sm.A sm.n sm.c) ∧ w'.cell? ⟨g0, 0, none⟩ = some (.slice sa.A sa.n sa.c) ∧ w'.cell? ⟨g1, 0, none⟩ = some (.slice sb.A sb.n sb.c) ∧ w'.cell? ⟨g2, 0, none⟩ = some (.slice sc.A sc.n sc.c)) (first | exact HSS.out _ _ J3.out | exact HSS.out _ _ (J2.out.on (one_more _ _)) | exact HSS.out _ _ J2.out | exact HSS.out _ _ (J1.out.on (one_more _ _)) | exact HSS.out _ _ J1.out | exact HSS.out _ _ (J0.out.on (one_more _ _)) | exact HSS.out _ _ J0.out | fail) (first
        | (have _t := J2; go_at_call 14; refine (HSAB.out s2 (J2.out.ok (.tail _ (.tail _ (.tail _ (.tail _ (.head _)))))) (J2.out.ok (.tail _ (.tail _ (.tail _ (.tail _ (.tail _ (.head _)))))))).mono ?_; rintro e s3 ⟨rfl, b⟩; have J3 := Lib.hid (J2.out.on b); clear b)
        | (have _t := J1; go_at_call 35; refine (HWBA.out s1 (J1.out.ok (.tail _ (.tail _ (.tail _ (.tail _ (.tail _ (.head _))))))) (J1.out.ok (.tail _ (.tail _ (.tail _ (.tail _ (.head _))))))).mono ?_; rintro e s2 ⟨rfl, b⟩; have J2 := Lib.hid (J1.out.on b); clear b)
        | (go_at_call 35; refine (HWAB.out t9.drew (J0.out.ok (.tail _ (.tail _ (.tail _ (.tail _ (.head _)))))) (J0.out.ok (.tail _ (.tail _ (.tail _ (.tail _ (.tail _ (.head _)))))))).mono ?_; rintro e s1 ⟨rfl, b⟩; have J1 := Lib.hid (J0.out.on b); clear b)
        | fail)
      go_wp2_with fail
      go_ret
      exact ⟨rfl, J3.out.env.below⟩
    · rw [h2] at HWBA HSAB
      clear h1 h2
      go_region_held3 (fun w' => w'.cell? ⟨g5, 0, none⟩ = some (.slice sp.A sp.n sp.c) ∧ w'.cell? ⟨g6, 0, none⟩ = some (.slice sq.A sq.n sq.c) ∧ w'.cell? ⟨g3, 0, none⟩ = some (.slice sl.A sl.n sl.c) ∧ w'.cell? ⟨g4, 0, none⟩ = some (.slice sm.A sm.n sm.c) ∧ w'.cell? ⟨g0, 0, none⟩ = some (.slice sa.A sa.n sa.c) ∧ w'.cell? ⟨g1, 0, none⟩ = some (.slice sb.A sb.n sb.c) ∧ w'.cell? ⟨g2, 0, none⟩ = some (.slice sc.A sc.n sc.c)) (first | exact HSS.out _ _ J3.out | exact HSS.out _ _ (J2.out.on (one_more _ _)) | exact HSS.out _ _ J2.out | exact HSS.out _ _ (J1.out.on (one_more _ _)) | exact HSS.out _ _ J1.out | exact HSS.out _ _ (J0.out.on (one_more _ _)) | exact HSS.out _ _ J0.out | fail) (first
        | (have _t := J2; go_at_call 14; refine (HSAB.out s2 (J2.out.ok (.tail _ (.tail _ (.tail _ (.tail _ (.head _)))))) (J2.out.ok (.tail _ (.tail _ (.tail _ (.tail _ (.tail _ (.head _)))))))).mono ?_; rintro e s3 ⟨rfl, b⟩; have J3 := Lib.hid (J2.out.on b); clear b)
        | (have _t := J1; go_at_call 35; refine (HWBA.out s1 (J1.out.ok (.tail _ (.tail _ (.tail _ (.tail _ (.tail _ (.head _))))))) (J1.out.ok (.tail _ (.tail _ (.tail _ (.tail _ (.head _))))))).mono ?_; rintro e s2 ⟨rfl, b⟩; have J2 := Lib.hid (J1.out.on b); clear b)
        | (go_at_call 35; refine (HWAB.out t9.drew (J0.out.ok (.tail _ (.tail _ (.tail _ (.tail _ (.head _)))))) (J0.out.ok (.tail _ (.tail _ (.tail _ (.tail _ (.tail _ (.head _)))))))).mono ?_; rintro e s1 ⟨rfl, b⟩; have J1 := Lib.hid (J0.out.on b); clear b)
        | fail)
      go_wp2_with fail
      go_ret
      exact ⟨rfl, J3.out.env.below⟩
  · rw [h1] at HWAB HSAB
    rw [Bool.false_and] at HSAB
    clear h1
    refine wp_region_noPanic ?_
    refine wp_region_held_drew (S := (fun w' => w'.cell? ⟨g5, 0, none⟩ = some (.slice sp.A sp.n sp.c) ∧ w'.cell? ⟨g6, 0, none⟩ = some (.slice sq.A sq.n sq.c) ∧ w'.cell? ⟨g3, 0, none⟩ = some (.slice sl.A sl.n sl.c) ∧ w'.cell? ⟨g4, 0, none⟩ = some (.slice sm.A sm.n sm.c) ∧ w'.cell? ⟨g0, 0, none⟩ = some (.slice sa.A sa.n sa.c) ∧ w'.cell? ⟨g1, 0, none⟩ = some (.slice sb.A sb.n sb.c) ∧ w'.cell? ⟨g2, 0, none⟩ = some (.slice sc.A sc.n sc.c))) (by kernel_rfl) (HSS.out _ _ J0.out) (fun hHeld => ?_)
    refine wpAnyH_take (i := 0) (oi := { dst := some 123, op := Op.load 24 (Operand.tmp 7), type := 24, pos := "outright.go:49", after := #[], guard := none }) (v := .agg #[.slice sa.A sa.n sa.c]) rfl (by kernel_rfl) (by kernel_rfl) (by kernel_rfl) (fun _ _ _ h => h) (Or.inl ⟨by kernel_rfl, fun w' hSw => by (try dsimp only at hSw); go_simp⟩) (by assumption) ?_
    try simp only [Act.put, List.setIfInBounds_toArray, List.set_cons_zero, List.set_cons_succ]
    refine wpAnyH_take (i := 1) (oi := { dst := some 124, op := Op.load 24 (Operand.tmp 8), type := 24, pos := "outright.go:49", after := #[], guard := none }) (v := .agg #[.slice sb.A sb.n sb.c]) rfl (by kernel_rfl) (by kernel_rfl) (by kernel_rfl) (fun _ _ _ h => h) (Or.inl ⟨by kernel_rfl, fun w' hSw => by (try dsimp only at hSw); go_simp⟩) (by assumption) ?_
    try simp only [Act.put, List.setIfInBounds_toArray, List.set_cons_zero, List.set_cons_succ]
    refine wpAnyH_take (i := 8) (oi := { dst := some 131, op := Op.load 24 (Operand.tmp 7), type := 24, pos := "outright.go:49", after := #[], guard := none }) (v := .agg #[.slice sa.A sa.n sa.c]) rfl (by kernel_rfl) (by kernel_rfl) (by kernel_rfl) (fun _ _ _ h => h) (Or.inl ⟨by kernel_rfl, fun w' hSw => by (try dsimp only at hSw); go_simp⟩) (by assumption) ?_
    try simp only [Act.put, List.setIfInBounds_toArray, List.set_cons_zero, List.set_cons_succ]
    refine wpAnyH_take (i := 9) (oi := { dst := some 132, op := Op.load 24 (Operand.tmp 8), type := 24, pos := "outright.go:49", after := #[], guard := none }) (v := .agg #[.slice sb.A sb.n sb.c]) rfl (by kernel_rfl) (by kernel_rfl) (by kernel_rfl) (fun _ _ _ h => h) (Or.inl ⟨by kernel_rfl, fun w' hSw => by (try dsimp only at hSw); go_simp⟩) (by assumption) ?_
    try simp only [Act.put, List.setIfInBounds_toArray, List.set_cons_zero, List.set_cons_succ]
    refine wpAnyH_ready (rs := [2]) (by kernel_rfl) (by simp) ?_
    refine AllReadyH.cons (o := { dst := some 125, op := Op.call { callee := Callee.value (Operand.func 35), args := #[Operand.tmp 123, Operand.tmp 124], argTypes := #[24, 24] }, type := 4, pos := "outright.go:49", after := #[{ on := 0, ground := Ground.data }, { on := 1, ground := Ground.data }], guard := none }) rfl (fun K hK => ?_) AllReadyH.nil
    go_simp
    refine (HWAB.out t9.drew (J0.out.ok (.tail _ (.tail _ (.tail _ (.tail _ (.head _)))))) (J0.out.ok (.tail _ (.tail _ (.tail _ (.tail _ (.tail _ (.head _)))))))).mono ?_
    rintro e s1 ⟨rfl, b⟩
    have J1 := Lib.hid (J0.out.on b)
    clear b hHeld
    refine hK.out _ _ (HSS.out _ _ J1.out) (fun hHeld => ?_)
    clear hK K
    try simp only [Act.put, List.setIfInBounds_toArray, List.set_cons_zero, List.set_cons_succ]
    refine wpAnyH_take (i := 3) (oi := { dst := some 126, op := Op.move (Operand.tmp 125), type := 4, pos := "outright.go:49", after := #[{ on := 2, ground := Ground.data }, { on := 2, ground := Ground.chain }], guard := none }) (v := .bool false) rfl (by kernel_rfl) (by kernel_rfl) (by kernel_rfl) (fun _ _ _ h => h) (Or.inl ⟨by kernel_rfl, fun w' hSw => by (try dsimp only at hSw); go_simp⟩) (by assumption) ?_
    try simp only [Act.put, List.setIfInBounds_toArray, List.set_cons_zero, List.set_cons_succ]
    refine wpAnyH_take (i := 4) (oi := { dst := some 127, op := Op.load 24 (Operand.tmp 8), type := 24, pos := "outright.go:49", after := #[{ on := 3, ground := Ground.guard }], guard := some (3, true) }) (v := undef) rfl (by kernel_rfl) (by kernel_rfl) (by kernel_rfl) (fun _ _ _ h => h) (Or.inr ⟨by kernel_rfl, rfl⟩) (by assumption) ?_
    try simp only [Act.put, List.setIfInBounds_toArray, List.set_cons_zero, List.set_cons_succ]
    refine wpAnyH_take (i := 5) (oi := { dst := some 128, op := Op.load 24 (Operand.tmp 7), type := 24, pos := "outright.go:49", after := #[{ on := 3, ground := Ground.guard }], guard := some (3, true) }) (v := undef) rfl (by kernel_rfl) (by kernel_rfl) (by kernel_rfl) (fun _ _ _ h => h) (Or.inr ⟨by kernel_rfl, rfl⟩) (by assumption) ?_
    try simp only [Act.put, List.setIfInBounds_toArray, List.set_cons_zero, List.set_cons_succ]
    refine wpAnyH_take (i := 6) (oi := { dst := some 129, op := Op.call { callee := Callee.value (Operand.func 35), args := #[Operand.tmp 127, Operand.tmp 128], argTypes := #[24, 24] }, type := 4, pos := "outright.go:49", after := #[{ on := 4, ground := Ground.data }, { on := 5, ground := Ground.data }, { on := 3, ground := Ground.chain }, { on := 3, ground := Ground.guard }], guard := some (3, true) }) (v := undef) rfl (by kernel_rfl) (by kernel_rfl) (by kernel_rfl) (fun _ _ _ h => h) (Or.inr ⟨by kernel_rfl, rfl⟩) (by assumption) ?_
    try simp only [Act.put, List.setIfInBounds_toArray, List.set_cons_zero, List.set_cons_succ]
    refine wpAnyH_take (i := 7) (oi := { dst := some 130, op := Op.pick (Operand.tmp 126) (Operand.tmp 129) (Operand.const (Value.bool false)), type := 4, pos := "outright.go:49", after := #[{ on := 3, ground := Ground.data }, { on := 6, ground := Ground.data }], guard := none }) (v := .bool false) rfl (by kernel_rfl) (by kernel_rfl) (by kernel_rfl) (fun _ _ _ h => h) (Or.inl ⟨by kernel_rfl, fun w' hSw => by (try dsimp only at hSw); go_simp⟩) (by assumption) ?_
    try simp only [Act.put, List.setIfInBounds_toArray, List.set_cons_zero, List.set_cons_succ]
    refine wpAnyH_ready (rs := [10]) (by kernel_rfl) (by simp) ?_
    refine AllReadyH.cons (o := { dst := some 133, op := Op.call { callee := Callee.value (Operand.func 14), args := #[Operand.tmp 131, Operand.tmp 132], argTypes := #[24, 24] }, type := 4, pos := "outright.go:49", after := #[{ on := 8, ground := Ground.data }, { on := 9, ground := Ground.data }, { on := 6, ground := Ground.chain }], guard := none }) rfl (fun K hK => ?_) AllReadyH.nil
    go_simp
    refine (HSAB.out s1 (J1.out.ok (.tail _ (.tail _ (.tail _ (.tail _ (.head _)))))) (J1.out.ok (.tail _ (.tail _ (.tail _ (.tail _ (.tail _ (.head _)))))))).mono ?_
    rintro e s2 ⟨rfl, b⟩
    have J2 := Lib.hid (J1.out.on b)
    clear b hHeld
    refine hK.out _ _ (HSS.out _ _ J2.out) (fun hHeld => ?_)
    clear hK K
    try simp only [Act.put, List.setIfInBounds_toArray, List.set_cons_zero, List.set_cons_succ]
    refine wpAnyH_take (i := 11) (oi := { dst := some 134, op := Op.binOp BinOp.eql 4 (Operand.tmp 130) (Operand.tmp 133) 4, type := 4, pos := "outright.go:49", after := #[{ on := 7, ground := Ground.data }, { on := 10, ground := Ground.data }], guard := none }) (v := .bool true) rfl (by kernel_rfl) (by kernel_rfl) (by kernel_rfl) (fun _ _ _ h => h) (Or.inl ⟨by kernel_rfl, fun w' hSw => by (try dsimp only at hSw); go_simp⟩) (by assumption) ?_
    try simp only [Act.put, List.setIfInBounds_toArray, List.set_cons_zero, List.set_cons_succ]
    refine wpAnyH_take (i := 12) (oi := { dst := some 6, op := Op.assign (Operand.tmp 134), type := 4, pos := "outright.go:49", after := #[{ on := 11, ground := Ground.data }, { on := 10, ground := Ground.chain }, { on := 0, ground := Ground.phase }, { on := 1, ground := Ground.phase }, { on := 2, ground := Ground.phase }, { on := 3, ground := Ground.phase }, { on := 4, ground := Ground.phase }, { on := 5, ground := Ground.phase }, { on := 6, ground := Ground.phase }, { on := 7, ground := Ground.phase }, { on := 8, ground := Ground.phase }, { on := 9, ground := Ground.phase }, { on := 10, ground := Ground.phase }, { on := 11, ground := Ground.phase }], guard := none }) (v := .bool true) rfl (by kernel_rfl) (by kernel_rfl) (by kernel_rfl) (fun _ _ _ h => h) (Or.inl ⟨by kernel_rfl, fun w' hSw => by (try dsimp only at hSw); go_simp⟩) (by assumption) ?_
    try simp only [Act.put, List.setIfInBounds_toArray, List.set_cons_zero, List.set_cons_succ]
    refine wpAnyH_done (by kernel_rfl) ?_ _
    refine NoPanic.normal ?_
    go_wp2_with fail
    go_ret
    exact ⟨rfl, J2.out.env.below⟩
end Go.Proofs.YtpkpfnilfabkaaaDoor
