/- BitsOnes: the walk. -/
import Derived.Test.YtpkpfnilfabkaaaDoorBOd
import Derived.Maps.AppendAt
import Derived.Test.YtpkpfnilfabkaaaDoorWords
import Derived.Deep.RegionHeld3
namespace Go.Proofs.YtpkpfnilfabkaaaDoor
open Go.RowKit Go.Shelf
attribute [local go_sem] Oper.semAt_some

set_option maxRecDepth 100000 in
set_option maxHeartbeats 8000000 in
theorem ones_core (Ax : Option Addr) (nx cx : Nat) (xs : List Nat) (An : Option Addr) (nn cn : Nat) (zs : List Int) (hx : W64 xs) (hxc : nx ≤ cx) (hxm : cx ≤ 9223372036854775807) (h64 : all64 zs) (hnm : nn ≤ 9223372036854775807)
    (w : World) (hT : Tab w) (hA : RW w w.heap.size Ax nx xs) (hN : RI w w.heap.size An nn zs) :
    Calls Tryd.prog 4 #[.agg #[.slice Ax nx cx], .slice An nn cn] w fun e w' => e = .returned (.bool true) ∧ Below w.heap.size w w' := by
  obtain ⟨i0, hi, hz0, hz1, hz2⟩ := info_parts i64_info
  have bx : Below w.heap.size w (w.alloc (.cells #[.slice Ax nx cx] 24)) := one_more w _
  have HK := Lib.hid (Blk.new w 24 #[.slice Ax nx cx])
  have HWK := Lib.hid (wakes_any _ (hT.on bx))
  have HT := Lib.hid fun W h => hT.on (w' := W) h
  have HO := Lib.hid fun W (h : Below w.heap.size w W) => own_any Ax nx cx xs hx hxc hxm W ((hA.below h).more h.size)
  have HZ := Lib.hid fun W (h : Below w.heap.size w W) => hN.below h
  have HZL := Lib.hid hN.len
  have H64 := Lib.hid h64
  clear hT hA hN h64
  go_enter Tryd.func4, Tryd.ntmps4
  go_wp2_with fail
  refine HWK.out.mono ?_
  rintro e w1 ⟨rfl, b1⟩
  have B1 : Hid (Below w.heap.size w w1) := bx.trans (b1.mono bx.size)
  have K1 := Lib.hid (HK.out.below b1 (by simp))
  have x0 := K1.out.cell 0
  clear b1 bx HK HWK
  go_wp2_with fail
  refine (HO.out _ B1.out).mono ?_
  rintro e w2 ⟨s, rfl, hsw, hok, _, b2⟩
  have HSW := Lib.hid hsw
  have B2 : Hid (Below w.heap.size w w2) := B1.out.trans (b2.mono B1.out.size)
  have E1 : Hid (Hold w [(w.heap.size, .slice Ax nx cx)] [(w2.heap.size, s)] [] [] (w2.alloc (.cells #[.slice s.A s.n s.c] 24))) := Hold.add ⟨Env.zero (HT.out _ B2.out) B2.out, fun p hp => by
    simp only [List.mem_cons, List.not_mem_nil, or_false] at hp
    rcases hp with rfl
    exact K1.out.below b2 K1.out.lt, fun _ h => by simp at h, fun _ h => by simp at h⟩ hok
  clear hsw hok b2 B1 B2 K1 x0
  have z0 := E1.out.cell (.head _)
  go_wp2_with fail
  generalize w2.alloc (.cells #[.slice s.A s.n s.c] 24) = W2 at *
  generalize w2.heap.size = g0 at *
  refine (get_rlist s W2 (E1.out.ok (.head _))).mono ?_
  rintro e w3 ⟨Al, nl, cl, rfl, hz, hlc, hlm, _, b⟩
  have hnl : nl ≤ 10048 := by have := hz.len; have := la_len s; omega
  have HLL : Hid ((numsF (inW s.ws)).length = nl) := by have := hz.len; unfold laS at this; rwa [intsN_len] at this
  have E2 : Hid (Hold w [(w.heap.size, .slice Ax nx cx)] [(g0, s)] [] [(Al, nl, laS s)] w3) := E1.out.list b hz
  clear b E1 z0 hz
  go_wp2_with fail
  go_loopw [31] (fun i wr => ∃ k : Nat, k ≤ nn ∧ i = .int .i64 k ∧ Hid (Hold w [(w.heap.size, .slice Ax nx cx)] [(g0, s)] [] [(Al, nl, laS s)] wr)) (fun i _ => nn - (intOf i).toNat)
  case atStart => exact ⟨0, Nat.zero_le _, rfl, E2⟩
  case round =>
    clear E2
    obtain ⟨k, hk, rfl, HN⟩ := hrel
    rename World => w0
    by_cases hlt : k < nn
    · obtain ⟨b, o, rfl, hb, hc⟩ := (HZ.out _ HN.out.env.below).at_ hlt
      have hkl : k < zs.length := by rw [HZL.out]; exact hlt
      have hz6 := H64.out _ (getD_mem' hkl)
      generalize zs.getD k 0 = z at *
      obtain ⟨hz60, hz61⟩ := hz6
      clear hkl
      by_cases h8 : k = 8
      · have hq : ((k : Int) == 8) = true := by simp; omega
        clear h8
        go_wp2_with fail
        go_ret
        exact ⟨rfl, HN.out.env.below⟩
      · have hq : ((k : Int) == 8) = false := by simp; omega
        go_wp2_with fail
        go_loop [9, 10, 40] (fun a b i => ∃ (j q : Nat) (th : Bool), j ≤ nl ∧ a = .int .i64 (q : Int) ∧ b = .bool th ∧ i = .int .i64 j ∧ Hid (FirstIs (numsF (inW s.ws)) z j q th)) (fun _ _ i => nl - (intOf i).toNat)
        case atStart => exact ⟨0, 0, false, Nat.zero_le _, rfl, rfl, rfl, first_start _ _⟩
        case round =>
          obtain ⟨j, q, th, hj, rfl, rfl, rfl, HF⟩ := hrel
          by_cases hjl : j < nl
          · obtain ⟨b2, o2, rfl, hb2, hc2⟩ := (HN.out.ints (.head _)).at_ hjl
            have hjn : j < (numsF (inW s.ws)).length := by rw [HLL.out]; exact hjl
            unfold laS at hc2
            rw [intsN_getD hjn] at hc2
            have HFL := Lib.hid fun x hx => first_less (x := x) HF.out hjn hx
            have HFM := Lib.hid fun x hx => first_more (x := x) HF.out hjn hx
            generalize hxe : (numsF (inW s.ws)).getD j 0 = x at *
            clear hjn
            by_cases hzx : z ≤ (x : Int)
            · have hd : decide (z ≤ (x : Int)) = true := by simpa using hzx
              have H12 := Lib.hid (HFM.out x rfl hzx)
              clear HFM HFL hzx hxe
              cases th with
              | true =>
                have HF2 := Lib.hid (H12.out.1 rfl)
                clear H12 HF
                go_wp2_with fail
                go_round
                case rel => exact ⟨j + 1, q, true, by omega, rfl, rfl, by go_num, HF2⟩
                case measure => simp [intOf]; omega
              | false =>
                have HF2 := Lib.hid (H12.out.2 rfl)
                clear H12 HF
                go_wp2_with fail
                go_round
                case rel => exact ⟨j + 1, x, true, by omega, rfl, rfl, by go_num, HF2⟩
                case measure => simp [intOf]; omega
            · have hd : decide (z ≤ (x : Int)) = false := by simpa using hzx
              have HF2 := Lib.hid (HFL.out x rfl hzx)
              clear HFM HFL hzx hxe HF
              go_wp2_with fail
              go_round
              case rel => exact ⟨j + 1, q, th, by omega, rfl, rfl, by go_num, HF2⟩
              case measure => simp [intOf]; omega
          · obtain rfl : j = nl := by omega
            obtain ⟨f, hf⟩ : ∃ f : Nat, max z 0 = (f : Int) := ⟨(max z 0).toNat, by omega⟩
            rw [← HLL.out] at HF
            have HE := Lib.hid (first_end hf HF.out)
            have HNX : Hid (∀ W, Tab W → s.ok W W.heap.size → Calls Tryd.prog 25 #[.agg #[.slice s.A s.n s.c], .int .i64 z] W fun e w' => e = .returned (.tuple #[.int .i64 (q : Int), .bool th]) ∧ Below W.heap.size W w') := fun W h h' => by
              have := s_next s W z f hf (by omega) h h'
              unfold NextOk at this
              rwa [HE.out.1, HE.out.2] at this
            have z0 := HN.out.cell (.head _)
            clear HF HE hf
            go_wp2_with fail
            refine (HNX.out w0 HN.out.env.tab (HN.out.ok (.head _))).mono ?_
            rintro e y1 ⟨rfl, b⟩
            have J1 := Lib.hid ((Rise.start HN.out).on b)
            have HHAS : Hid (∀ W, s.ok W W.heap.size → Calls Tryd.prog 28 #[.agg #[.slice s.A s.n s.c], .int .i64 z] W fun e w' => e = .returned (.bool (hasZ s.ws z)) ∧ Below W.heap.size W w') := fun W h => s_has s W z hz60 hz61 h
            have HRH := Lib.hid fun (W : World) (h : RI W W.heap.size Al j (laS s)) => get_rhas s W (c := cl) z (by omega) h
            have hbb : (hasZ s.ws z != hasZ s.ws z) = false := by simp
            have hth : (th != th) = false := by simp
            generalize hasZ s.ws z = hb at *
            clear b HNX z0
            have z0 := J1.out.cell (.head _)
            go_wp2_with fail
            rcases Bool.eq_false_or_eq_true (mayB z) with hmay | hmay
            · have hm := Lib.hid hmay
              clear hmay
              obtain ⟨m, rfl, hm2⟩ := may_nat hm.out
              have HLM := Lib.hid fun W => lawMay_any (m : Int) W
              rw [hm.out] at HLM
              refine (s_with s y1 m hm2 (J1.out.ok (.head _))).mono ?_
              rintro e y2 ⟨t, rfl, hwt, hok, ho, b⟩
              have HWT := Lib.hid hwt
              have J3 := Lib.hid ((J1.out.got b hok ho).add hok)
              clear hwt hok ho b J1 z0
              have HY3 : Hid ((y2.alloc (.cells #[.slice t.A t.n t.c] 24)).heap.size = y2.heap.size + 1) := by show _ = _; simp
              go_wp2_with fail
              generalize y2.alloc (.cells #[.slice t.A t.n t.c] 24) = Y3 at *
              generalize y2.heap.size = gs at *
              have J4 := Lib.hid (J3.out.add (s := ⟨none, 0, 0, []⟩) ⟨RW.none_, by intro x hx; simp at hx, by show 0 ≤ _; omega⟩)
              have NE4 : Hid (∀ p ∈ [(gs, t), (g0, s)], p.1 ≠ Y3.heap.size) := fun p hp => Nat.ne_of_lt (J3.out.hold.env.all p hp).1.lt
              have NX4 : Hid (∀ p ∈ ([(w.heap.size, .slice Ax nx cx)] : List (Nat × Value)), p.1 ≠ Y3.heap.size) := fun p hp => Nat.ne_of_lt (J3.out.hold.box p hp).lt
              have NB4 : Hid (w.heap.size ≤ Y3.heap.size) := J3.out.hold.env.below.size
              have NC4 : Hid (w0.heap.size ≤ Y3.heap.size) := J3.out.below.size
              rw [HY3.out] at J4 NE4 NX4 NB4 NC4
              clear J3 HY3
              refine (HLM.out _).mono ?_
              rintro e y4 ⟨rfl, rfl⟩
              go_wp2_with fail
              generalize Y3.alloc (.cells #[.slice none 0 0] 24) = Y4 at *
              generalize gs + 1 = gw at *
              refine (clone_i Al j cl (laS s) (by omega) Y4 (J4.out.ints (.head _))).mono ?_
              rintro e y5 ⟨R1, c1, rfl, hown, _, _, b5⟩
              have OW2 := Lib.hid (hown.alloc (.cells #[.int .i64 (m : Int)] 3))
              have hs5 := b5.size
              have B5 := Lib.hid (b5.alloc hs5 (.cells #[.int .i64 (m : Int)] 3))
              clear hown b5
              go_wp2_with (at_builtin; refine wpList_append_own _ rfl (.tmp 69) (.tmp 71) 28 rfl Y4.heap.size 3 i0 _ 1 8 Tryd.underlying28 hi hz0 hz1 hz2 rfl (by decide) _ _ _ rfl OW2.out ⟨y5.heap.size, 0, none⟩ 1 1 [.int .i64 (m : Int)] rfl rfl (cell_one_new _ _ _) (by simp [Value.oneCell']) (by unfold maxLen; omega) (by omega) (by simp; omega) ?_; intro v' w6 hown' hgrow _)
              obtain ⟨A6, c6, rfl, _, _⟩ := own_form1 hown'
              have B6 : Hid (Below Y4.heap.size Y4 w6) := B5.out.grown hgrow (by simp; omega) (own_block1 OW2.out)
              have R6 : RI w6 w6.heap.size A6 (j + 1) (laS s ++ [(m : Int)]) := RI.of_own (by rw [ints_append]; exact hown')
              have J6 := Lib.hid ((J4.out.on B6.out).list (Below.refl _ _) R6)
              clear hown' hgrow R6 B5 OW2 J4 B6
              refine (get_rof w6 (may_snoc (may_la s) hm.out) (by omega) (J6.out.ints (.head _))).mono ?_
              rintro e y7 ⟨t2, rfl, hw2, hok2, _, b7⟩
              have J7 := Lib.hid (J6.out.on b7)
              have zc := J7.out.cell (.head _)
              have zf := (J7.out.hold.env.all _ (.head _)).1.frozen 0
              have HEQ : Hid (t.ws = t2.ws) := by show _ = _; rw [HWT.out, hw2, of_with]
              have J8 := Lib.hid (J7.out.put (s := t2) NE4.out NX4.out NB4.out NC4.out (HT.out _ (J7.out.hold.env.below.setCell (p := ⟨gw, 0, none⟩) (by show w.heap.size ≤ gw; exact NB4.out) _)) hok2)
              clear hw2 hok2 b7 J6 HWT NE4 NX4 NB4 NC4
              have z1 := J8.out.cell (.tail _ (.tail _ (.head _)))
              go_wp2_with fail
              generalize y7.setCell ⟨gw, 0, none⟩ (.slice t2.A t2.n t2.c) = Y8 at *
              clear zc zf J7
              refine (s_without s Y8 (m : Int) hz60 hz61 (J8.out.ok (.tail _ (.tail _ (.head _))))).mono ?_
              rintro e y9 ⟨t3, rfl, hw3, hok3, ho3, b9⟩
              have HW3 := Lib.hid hw3
              have J10 := Lib.hid ((J8.out.got b9 hok3 ho3).add hok3)
              clear hw3 hok3 ho3 b9 J8 z1
              go_wp2_with fail
              generalize y9.alloc (.cells #[.slice t3.A t3.n t3.c] 24) = Y10 at *
              generalize y9.heap.size = gl at *
              have HS4 : Hid (∀ M Z R W, Rise w [(w.heap.size, .slice Ax nx cx)] [(gl, t3), (gw, t2), (gs, t), (g0, s)] M Z w0 R W → (fun w' => w'.cell? ⟨gl, 0, none⟩ = some (.slice t3.A t3.n t3.c) ∧ w'.cell? ⟨gw, 0, none⟩ = some (.slice t2.A t2.n t2.c) ∧ w'.cell? ⟨gs, 0, none⟩ = some (.slice t.A t.n t.c) ∧ w'.cell? ⟨g0, 0, none⟩ = some (.slice s.A s.n s.c)) W) := fun M Z R W h => ⟨h.cell (.head _), h.cell (.tail _ (.head _)), h.cell (.tail _ (.tail _ (.head _))), h.cell (.tail _ (.tail _ (.tail _ (.head _))))⟩
              have K0 := Lib.hid J10.out.drew
              clear J10
              go_region_held3 (fun w' => w'.cell? ⟨gl, 0, none⟩ = some (.slice t3.A t3.n t3.c) ∧ w'.cell? ⟨gw, 0, none⟩ = some (.slice t2.A t2.n t2.c) ∧ w'.cell? ⟨gs, 0, none⟩ = some (.slice t.A t.n t.c) ∧ w'.cell? ⟨g0, 0, none⟩ = some (.slice s.A s.n s.c)) (first | exact HS4.out _ _ _ _ K6.out | exact HS4.out _ _ _ _ K5.out | exact HS4.out _ _ _ _ K4.out | exact HS4.out _ _ _ _ (K3.out.on (one_more _ _)) | exact HS4.out _ _ _ _ K3.out | exact HS4.out _ _ _ _ K2.out | exact HS4.out _ _ _ _ K1.out | exact HS4.out _ _ _ _ K0.out | fail) (first
                | (have _t := K5; go_at_call 24; refine (rsame_yes t3 t5 k5 (K5.out.ok (.head _)) (K5.out.hold.got _ (.head _)) (HW3.out.trans HW5.out.symm)).mono ?_; rintro e k6 ⟨rfl, b⟩; have K6 := Lib.hid (K5.out.on b); clear b)
                | (have _t := K4; go_at_call 23; refine (get_rof k4 (may_some s [(m : Int)] false) (by omega) (K4.out.ints (.head _))).mono ?_; rintro e k5 ⟨t5, rfl, hw5, hok5, _, b⟩; have HW5 : Hid (t5.ws = setW fun n => inW s.ws n && !decide ((n : Int) = (m : Int))) := hw5.trans (of_some s [(m : Int)] false _ fun n _ => by simp); have K5 := Lib.hid (K4.out.more b hok5); clear b hw5 hok5)
                | (have _t := K3; go_at_call 30; refine (get_rsome (lb := [(m : Int)]) s (k3.alloc (.cells #[.int .i64 (m : Int)] 3)) false (by omega) (by omega) ((K3.out.on (one_more _ _)).ints (.tail _ (.head _))) (one_read k3 (m : Int))).mono ?_; rintro e k4 ⟨A4, n4, c4, rfl, hz, _, _, _, b⟩; have hn4 : n4 ≤ 10048 := (by have := hz.len; rw [intsN_len] at this; have := some_len s [(m : Int)] false; omega); have K4 := Lib.hid ((K3.out.on (one_more _ _)).list b hz); clear b hz)
                | (have _t := K2; go_at_call 24; refine (rsame_yes t t2 k2 (K2.out.ok (.tail _ (.tail _ (.head _)))) (K2.out.ok (.tail _ (.head _))) HEQ.out).mono ?_; rintro e k3 ⟨rfl, b⟩; have K3 := Lib.hid (K2.out.on b); clear b)
                | (have _t := K1; go_at_call 29; refine (HRH.out k1 (K1.out.ints (.tail _ (.head _)))).mono ?_; rintro e k2 ⟨rfl, rfl⟩; have K2 := K1)
                | (go_at_call 28; refine (HHAS.out Y10.drew (K0.out.ok (.tail _ (.tail _ (.tail _ (.head _)))))).mono ?_; rintro e k1 ⟨rfl, b⟩; have K1 := Lib.hid (K0.out.on b); clear b)
                | fail)
              have UA := Lib.hid (K6.out.rows _ (.tail _ (.head _)))
              have UB := Lib.hid (K6.out.rows _ (.head _))
              have HB0 := Lib.hid K6.out.below
              have hla : t.n ≤ 100000 := (K6.out.ok (.tail _ (.tail _ (.head _)))).2.2
              have hlb : t3.n ≤ 100000 := (K6.out.ok (.head _)).2.2
              have z15 := K6.out.cell (.tail _ (.tail _ (.head _)))
              have z19 := K6.out.cell (.head _)
              clear K0 K1 K2 K3 K4 K5 K6 HS4 HW3 HW5 HEQ HRH HHAS HLM hbb hth
              go_wp2_with fail
              clear z15 z19
              generalize t.A = Aa at *
              generalize t.n = na at *
              generalize t.c = ca at *
              generalize t3.A = Ab at *
              generalize t3.n = nb at *
              generalize t3.c = cb at *
              go_loopw [118] (fun i wq => ∃ q : Nat, q ≤ 2 ∧ i = .int .i64 q ∧ Hid (Below w0.heap.size w0 wq) ∧ Hid (U64Row w0.heap.size wq Aa na) ∧ Hid (U64Row w0.heap.size wq Ab nb)) (fun i _ => 2 - (intOf i).toNat)
              case atStart => exact ⟨0, by omega, rfl, HB0, UA, UB⟩
              case round =>
                clear HB0 UA UB
                obtain ⟨q, hq, rfl, HB, UA, UB⟩ := hrel
                rename World => wq
                by_cases hql : q < 2
                · have hqq : q = 0 ∨ q = 1 := by omega
                  rcases hqq with rfl | rfl
                  · have HX : Hid (Blk (wq.alloc (.cells #[.slice Aa na ca] 24)) wq.heap.size 24 #[.slice Aa na ca]) := Blk.new _ _ _
                    have HB1 := Lib.hid (HB.out.alloc HB.out.size (.cells #[.slice Aa na ca] 24))
                    have Va := Lib.hid (UA.out.on (one_more wq (.cells #[.slice Aa na ca] 24)))
                    have Vb := Lib.hid (UB.out.on (one_more wq (.cells #[.slice Aa na ca] 24)))
                    have z0 := HX.out.cell 0
                    have hix := two_at0 Aa Ab na ca nb cb
                    clear HB UA UB
                    go_wp2_with fail
                    generalize wq.alloc (.cells #[.slice Aa na ca] 24) = W1 at *
                    generalize wq.heap.size = gx at *
                    clear z0 hix
                    go_loopw [124] (fun i wz => ∃ j : Nat, j ≤ na ∧ i = .int .i64 j ∧ Hid (Below w0.heap.size w0 wz) ∧ Hid (Blk wz gx 24 #[.slice Aa na ca]) ∧ Hid (U64Row w0.heap.size wz Aa na) ∧ Hid (U64Row w0.heap.size wz Ab nb)) (fun i _ => na - (intOf i).toNat)
                    case atStart => exact ⟨0, Nat.zero_le _, rfl, HB1, HX, Va, Vb⟩
                    case round =>
                      clear HB1 HX Va Vb
                      obtain ⟨j, hj, rfl, HB, HX, UA, UB⟩ := hrel
                      rename World => wz
                      by_cases hjl : j < na
                      · obtain ⟨g, cs, v, rfl, hg, hk, hc, hf⟩ := UA.out.at_ hjl
                        obtain ⟨y, hy⟩ := inc_u64 v
                        have z0 := HX.out.cell 0
                        have HB2 := Lib.hid (HB.out.setCell (p := ⟨g, j, none⟩) (by show w0.heap.size ≤ g; exact hg) (.int .u64 (y : Int)))
                        have HX2 := Lib.hid (HX.out.far (p := ⟨g, j, none⟩) (box_not_words HX.out hk) (.int .u64 (y : Int)))
                        have Sa := Lib.hid (UA.out.store (g := g) (i := j) (y := y))
                        have Sb := Lib.hid (UB.out.store (g := g) (i := j) (y := y))
                        clear HB HX UA UB hk hg
                        go_wp2_with fail
                        go_roundw
                        case rel => exact ⟨j + 1, by omega, by go_num, HB2, HX2, Sa, Sb⟩
                        case measure => simp [intOf]; omega
                      · obtain rfl : j = na := by omega
                        go_wp2_with fail
                        go_roundw
                        case rel => exact ⟨1, by omega, by go_num, HB, UA, UB⟩
                        case measure => simp [intOf]
                  · have HX : Hid (Blk (wq.alloc (.cells #[.slice Ab nb cb] 24)) wq.heap.size 24 #[.slice Ab nb cb]) := Blk.new _ _ _
                    have HB1 := Lib.hid (HB.out.alloc HB.out.size (.cells #[.slice Ab nb cb] 24))
                    have Va := Lib.hid (UA.out.on (one_more wq (.cells #[.slice Ab nb cb] 24)))
                    have Vb := Lib.hid (UB.out.on (one_more wq (.cells #[.slice Ab nb cb] 24)))
                    have z0 := HX.out.cell 0
                    have hix := two_at1 Aa Ab na ca nb cb
                    clear HB UA UB
                    go_wp2_with fail
                    generalize wq.alloc (.cells #[.slice Ab nb cb] 24) = W1 at *
                    generalize wq.heap.size = gx at *
                    clear z0 hix
                    go_loopw [124] (fun i wz => ∃ j : Nat, j ≤ nb ∧ i = .int .i64 j ∧ Hid (Below w0.heap.size w0 wz) ∧ Hid (Blk wz gx 24 #[.slice Ab nb cb]) ∧ Hid (U64Row w0.heap.size wz Aa na) ∧ Hid (U64Row w0.heap.size wz Ab nb)) (fun i _ => nb - (intOf i).toNat)
                    case atStart => exact ⟨0, Nat.zero_le _, rfl, HB1, HX, Va, Vb⟩
                    case round =>
                      clear HB1 HX Va Vb
                      obtain ⟨j, hj, rfl, HB, HX, UA, UB⟩ := hrel
                      rename World => wz
                      by_cases hjl : j < nb
                      · obtain ⟨g, cs, v, rfl, hg, hk, hc, hf⟩ := UB.out.at_ hjl
                        obtain ⟨y, hy⟩ := inc_u64 v
                        have z0 := HX.out.cell 0
                        have HB2 := Lib.hid (HB.out.setCell (p := ⟨g, j, none⟩) (by show w0.heap.size ≤ g; exact hg) (.int .u64 (y : Int)))
                        have HX2 := Lib.hid (HX.out.far (p := ⟨g, j, none⟩) (box_not_words HX.out hk) (.int .u64 (y : Int)))
                        have Sa := Lib.hid (UA.out.store (g := g) (i := j) (y := y))
                        have Sb := Lib.hid (UB.out.store (g := g) (i := j) (y := y))
                        clear HB HX UA UB hk hg
                        go_wp2_with fail
                        go_roundw
                        case rel => exact ⟨j + 1, by omega, by go_num, HB2, HX2, Sa, Sb⟩
                        case measure => simp [intOf]; omega
                      · obtain rfl : j = nb := by omega
                        go_wp2_with fail
                        go_roundw
                        case rel => exact ⟨2, by omega, by go_num, HB, UA, UB⟩
                        case measure => simp [intOf]
                · obtain rfl : q = 2 := by omega
                  have T0 := Lib.hid (HN.out.on HB.out).drew
                  go_wp2_with fail
                  go_region_held3 (fun w' => w'.cell? ⟨g0, 0, none⟩ = some (.slice s.A s.n s.c) ∧ w'.cell? ⟨w.heap.size, 0, none⟩ = some (.slice Ax nx cx)) (first | exact ⟨T2.out.cell (.head _), T2.out.xcell (.head _)⟩ | exact ⟨T1.out.cell (.head _), T1.out.xcell (.head _)⟩ | exact ⟨T0.out.cell (.head _), T0.out.xcell (.head _)⟩ | fail) (first
                    | (have _t := T1; go_at_call 24; refine (rsame_yes s u p1 (T1.out.ok (.head _)) (T1.out.got _ (.head _)) (HSW.out.trans HU.out.symm)).mono ?_; rintro e p2 ⟨rfl, b⟩; have T2 := Lib.hid (T1.out.on b); clear b)
                    | (go_at_call 10; refine (HO.out wq.drew T0.out.env.below).mono ?_; rintro e p1 ⟨u, rfl, hu, ho, _, b⟩; have T1 := Lib.hid (T0.out.more b ho); have HU := Lib.hid hu; clear b hu ho)
                    | fail)
                  have H9 : Hid (Hold w [(w.heap.size, .slice Ax nx cx)] [(g0, s)] [] [(Al, j, laS s)] p2) := T2.out.sub (fun p hp => hp) (fun p hp => by simp at hp) (fun p hp => hp)
                  clear T0 T1 T2 HU HB UA UB
                  go_wp2_with fail
                  go_roundw
                  case rel => exact ⟨k + 1, by omega, by go_num, H9⟩
                  case measure => simp [intOf]; omega
            · have hm := Lib.hid hmay
              clear hmay
              have HLM := Lib.hid fun W => lawMay_any z W
              rw [hm.out] at HLM
              refine (s_with_no s y1 z hm.out).mono ?_
              rintro e y2 ⟨t, rfl, hwt, hok, ho, b⟩
              have HWT := Lib.hid hwt
              have J3 := Lib.hid ((J1.out.got b hok ho).add hok)
              clear hwt hok ho b J1 z0
              have HY3 : Hid ((y2.alloc (.cells #[.slice t.A t.n t.c] 24)).heap.size = y2.heap.size + 1) := by show _ = _; simp
              go_wp2_with fail
              generalize y2.alloc (.cells #[.slice t.A t.n t.c] 24) = Y3 at *
              generalize y2.heap.size = gs at *
              have J4 := Lib.hid (J3.out.add (s := ⟨none, 0, 0, []⟩) ⟨RW.none_, by intro x hx; simp at hx, by show 0 ≤ _; omega⟩)
              have NE4 : Hid (∀ p ∈ [(gs, t), (g0, s)], p.1 ≠ Y3.heap.size) := fun p hp => Nat.ne_of_lt (J3.out.hold.env.all p hp).1.lt
              have NX4 : Hid (∀ p ∈ ([(w.heap.size, .slice Ax nx cx)] : List (Nat × Value)), p.1 ≠ Y3.heap.size) := fun p hp => Nat.ne_of_lt (J3.out.hold.box p hp).lt
              have NB4 : Hid (w.heap.size ≤ Y3.heap.size) := J3.out.hold.env.below.size
              have NC4 : Hid (w0.heap.size ≤ Y3.heap.size) := J3.out.below.size
              rw [HY3.out] at J4 NE4 NX4 NB4 NC4
              clear J3 HY3
              refine (HLM.out _).mono ?_
              rintro e y4 ⟨rfl, rfl⟩
              have HEQ : Hid (t.ws = (⟨none, 0, 0, []⟩ : SV).ws) := HWT.out
              have J8 := Lib.hid J4.out
              have z1 := J8.out.cell (.tail _ (.tail _ (.head _)))
              clear NE4 NX4 NB4 NC4 HWT
              go_wp2_with fail
              generalize Y3.alloc (.cells #[.slice none 0 0] 24) = Y8 at *
              generalize gs + 1 = gw at *
              clear J4
              refine (s_without s Y8 z hz60 hz61 (J8.out.ok (.tail _ (.tail _ (.head _))))).mono ?_
              rintro e y9 ⟨t3, rfl, hw3, hok3, ho3, b9⟩
              have HW3 := Lib.hid hw3
              have J10 := Lib.hid ((J8.out.got b9 hok3 ho3).add hok3)
              clear hw3 hok3 ho3 b9 J8 z1
              go_wp2_with fail
              generalize y9.alloc (.cells #[.slice t3.A t3.n t3.c] 24) = Y10 at *
              generalize y9.heap.size = gl at *
              have HS4 : Hid (∀ M Z R W, Rise w [(w.heap.size, .slice Ax nx cx)] [(gl, t3), (gw, ⟨none, 0, 0, []⟩), (gs, t), (g0, s)] M Z w0 R W → (fun w' => w'.cell? ⟨gl, 0, none⟩ = some (.slice t3.A t3.n t3.c) ∧ w'.cell? ⟨gw, 0, none⟩ = some (.slice none 0 0) ∧ w'.cell? ⟨gs, 0, none⟩ = some (.slice t.A t.n t.c) ∧ w'.cell? ⟨g0, 0, none⟩ = some (.slice s.A s.n s.c)) W) := fun M Z R W h => ⟨h.cell (.head _), h.cell (.tail _ (.head _)), h.cell (.tail _ (.tail _ (.head _))), h.cell (.tail _ (.tail _ (.tail _ (.head _))))⟩
              have K0 := Lib.hid J10.out.drew
              clear J10
              go_region_held3 (fun w' => w'.cell? ⟨gl, 0, none⟩ = some (.slice t3.A t3.n t3.c) ∧ w'.cell? ⟨gw, 0, none⟩ = some (.slice none 0 0) ∧ w'.cell? ⟨gs, 0, none⟩ = some (.slice t.A t.n t.c) ∧ w'.cell? ⟨g0, 0, none⟩ = some (.slice s.A s.n s.c)) (first | exact HS4.out _ _ _ _ K6.out | exact HS4.out _ _ _ _ K5.out | exact HS4.out _ _ _ _ K4.out | exact HS4.out _ _ _ _ (K3.out.on (one_more _ _)) | exact HS4.out _ _ _ _ K3.out | exact HS4.out _ _ _ _ K2.out | exact HS4.out _ _ _ _ K1.out | exact HS4.out _ _ _ _ K0.out | fail) (first
                | (have _t := K5; go_at_call 24; refine (rsame_yes t3 t5 k5 (K5.out.ok (.head _)) (K5.out.hold.got _ (.head _)) (HW3.out.trans HW5.out.symm)).mono ?_; rintro e k6 ⟨rfl, b⟩; have K6 := Lib.hid (K5.out.on b); clear b)
                | (have _t := K4; go_at_call 23; refine (get_rof k4 (may_some s [z] false) (by omega) (K4.out.ints (.head _))).mono ?_; rintro e k5 ⟨t5, rfl, hw5, hok5, _, b⟩; have HW5 : Hid (t5.ws = setW fun n => inW s.ws n && !decide ((n : Int) = z)) := hw5.trans (of_some s [z] false _ fun n _ => by simp); have K5 := Lib.hid (K4.out.more b hok5); clear b hw5 hok5)
                | (have _t := K3; go_at_call 30; refine (get_rsome (lb := [z]) s (k3.alloc (.cells #[.int .i64 z] 3)) false (by omega) (by omega) ((K3.out.on (one_more _ _)).ints (.head _)) (one_read k3 z)).mono ?_; rintro e k4 ⟨A4, n4, c4, rfl, hz, _, _, _, b⟩; have hn4 : n4 ≤ 10048 := (by have := hz.len; rw [intsN_len] at this; have := some_len s [z] false; omega); have K4 := Lib.hid ((K3.out.on (one_more _ _)).list b hz); clear b hz)
                | (have _t := K2; go_at_call 24; refine (rsame_yes t ⟨none, 0, 0, []⟩ k2 (K2.out.ok (.tail _ (.tail _ (.head _)))) (K2.out.ok (.tail _ (.head _))) HEQ.out).mono ?_; rintro e k3 ⟨rfl, b⟩; have K3 := Lib.hid (K2.out.on b); clear b)
                | (have _t := K1; go_at_call 29; refine (HRH.out k1 (K1.out.ints (.head _))).mono ?_; rintro e k2 ⟨rfl, rfl⟩; have K2 := K1)
                | (go_at_call 28; refine (HHAS.out Y10.drew (K0.out.ok (.tail _ (.tail _ (.tail _ (.head _)))))).mono ?_; rintro e k1 ⟨rfl, b⟩; have K1 := Lib.hid (K0.out.on b); clear b)
                | fail)
              have UA := Lib.hid (K6.out.rows _ (.tail _ (.head _)))
              have UB := Lib.hid (K6.out.rows _ (.head _))
              have HB0 := Lib.hid K6.out.below
              have hla : t.n ≤ 100000 := (K6.out.ok (.tail _ (.tail _ (.head _)))).2.2
              have hlb : t3.n ≤ 100000 := (K6.out.ok (.head _)).2.2
              have z15 := K6.out.cell (.tail _ (.tail _ (.head _)))
              have z19 := K6.out.cell (.head _)
              clear K0 K1 K2 K3 K4 K5 K6 HS4 HW3 HW5 HEQ HRH HHAS HLM hbb hth
              go_wp2_with fail
              clear z15 z19
              generalize t.A = Aa at *
              generalize t.n = na at *
              generalize t.c = ca at *
              generalize t3.A = Ab at *
              generalize t3.n = nb at *
              generalize t3.c = cb at *
              go_loopw [118] (fun i wq => ∃ q : Nat, q ≤ 2 ∧ i = .int .i64 q ∧ Hid (Below w0.heap.size w0 wq) ∧ Hid (U64Row w0.heap.size wq Aa na) ∧ Hid (U64Row w0.heap.size wq Ab nb)) (fun i _ => 2 - (intOf i).toNat)
              case atStart => exact ⟨0, by omega, rfl, HB0, UA, UB⟩
              case round =>
                clear HB0 UA UB
                obtain ⟨q, hq, rfl, HB, UA, UB⟩ := hrel
                rename World => wq
                by_cases hql : q < 2
                · have hqq : q = 0 ∨ q = 1 := by omega
                  rcases hqq with rfl | rfl
                  · have HX : Hid (Blk (wq.alloc (.cells #[.slice Aa na ca] 24)) wq.heap.size 24 #[.slice Aa na ca]) := Blk.new _ _ _
                    have HB1 := Lib.hid (HB.out.alloc HB.out.size (.cells #[.slice Aa na ca] 24))
                    have Va := Lib.hid (UA.out.on (one_more wq (.cells #[.slice Aa na ca] 24)))
                    have Vb := Lib.hid (UB.out.on (one_more wq (.cells #[.slice Aa na ca] 24)))
                    have z0 := HX.out.cell 0
                    have hix := two_at0 Aa Ab na ca nb cb
                    clear HB UA UB
                    go_wp2_with fail
                    generalize wq.alloc (.cells #[.slice Aa na ca] 24) = W1 at *
                    generalize wq.heap.size = gx at *
                    clear z0 hix
                    go_loopw [124] (fun i wz => ∃ j : Nat, j ≤ na ∧ i = .int .i64 j ∧ Hid (Below w0.heap.size w0 wz) ∧ Hid (Blk wz gx 24 #[.slice Aa na ca]) ∧ Hid (U64Row w0.heap.size wz Aa na) ∧ Hid (U64Row w0.heap.size wz Ab nb)) (fun i _ => na - (intOf i).toNat)
                    case atStart => exact ⟨0, Nat.zero_le _, rfl, HB1, HX, Va, Vb⟩
                    case round =>
                      clear HB1 HX Va Vb
                      obtain ⟨j, hj, rfl, HB, HX, UA, UB⟩ := hrel
                      rename World => wz
                      by_cases hjl : j < na
                      · obtain ⟨g, cs, v, rfl, hg, hk, hc, hf⟩ := UA.out.at_ hjl
                        obtain ⟨y, hy⟩ := inc_u64 v
                        have z0 := HX.out.cell 0
                        have HB2 := Lib.hid (HB.out.setCell (p := ⟨g, j, none⟩) (by show w0.heap.size ≤ g; exact hg) (.int .u64 (y : Int)))
                        have HX2 := Lib.hid (HX.out.far (p := ⟨g, j, none⟩) (box_not_words HX.out hk) (.int .u64 (y : Int)))
                        have Sa := Lib.hid (UA.out.store (g := g) (i := j) (y := y))
                        have Sb := Lib.hid (UB.out.store (g := g) (i := j) (y := y))
                        clear HB HX UA UB hk hg
                        go_wp2_with fail
                        go_roundw
                        case rel => exact ⟨j + 1, by omega, by go_num, HB2, HX2, Sa, Sb⟩
                        case measure => simp [intOf]; omega
                      · obtain rfl : j = na := by omega
                        go_wp2_with fail
                        go_roundw
                        case rel => exact ⟨1, by omega, by go_num, HB, UA, UB⟩
                        case measure => simp [intOf]
                  · have HX : Hid (Blk (wq.alloc (.cells #[.slice Ab nb cb] 24)) wq.heap.size 24 #[.slice Ab nb cb]) := Blk.new _ _ _
                    have HB1 := Lib.hid (HB.out.alloc HB.out.size (.cells #[.slice Ab nb cb] 24))
                    have Va := Lib.hid (UA.out.on (one_more wq (.cells #[.slice Ab nb cb] 24)))
                    have Vb := Lib.hid (UB.out.on (one_more wq (.cells #[.slice Ab nb cb] 24)))
                    have z0 := HX.out.cell 0
                    have hix := two_at1 Aa Ab na ca nb cb
                    clear HB UA UB
                    go_wp2_with fail
                    generalize wq.alloc (.cells #[.slice Ab nb cb] 24) = W1 at *
                    generalize wq.heap.size = gx at *
                    clear z0 hix
                    go_loopw [124] (fun i wz => ∃ j : Nat, j ≤ nb ∧ i = .int .i64 j ∧ Hid (Below w0.heap.size w0 wz) ∧ Hid (Blk wz gx 24 #[.slice Ab nb cb]) ∧ Hid (U64Row w0.heap.size wz Aa na) ∧ Hid (U64Row w0.heap.size wz Ab nb)) (fun i _ => nb - (intOf i).toNat)
                    case atStart => exact ⟨0, Nat.zero_le _, rfl, HB1, HX, Va, Vb⟩
                    case round =>
                      clear HB1 HX Va Vb
                      obtain ⟨j, hj, rfl, HB, HX, UA, UB⟩ := hrel
                      rename World => wz
                      by_cases hjl : j < nb
                      · obtain ⟨g, cs, v, rfl, hg, hk, hc, hf⟩ := UB.out.at_ hjl
                        obtain ⟨y, hy⟩ := inc_u64 v
                        have z0 := HX.out.cell 0
                        have HB2 := Lib.hid (HB.out.setCell (p := ⟨g, j, none⟩) (by show w0.heap.size ≤ g; exact hg) (.int .u64 (y : Int)))
                        have HX2 := Lib.hid (HX.out.far (p := ⟨g, j, none⟩) (box_not_words HX.out hk) (.int .u64 (y : Int)))
                        have Sa := Lib.hid (UA.out.store (g := g) (i := j) (y := y))
                        have Sb := Lib.hid (UB.out.store (g := g) (i := j) (y := y))
                        clear HB HX UA UB hk hg
                        go_wp2_with fail
                        go_roundw
                        case rel => exact ⟨j + 1, by omega, by go_num, HB2, HX2, Sa, Sb⟩
                        case measure => simp [intOf]; omega
                      · obtain rfl : j = nb := by omega
                        go_wp2_with fail
                        go_roundw
                        case rel => exact ⟨2, by omega, by go_num, HB, UA, UB⟩
                        case measure => simp [intOf]
                · obtain rfl : q = 2 := by omega
                  have T0 := Lib.hid (HN.out.on HB.out).drew
                  go_wp2_with fail
                  go_region_held3 (fun w' => w'.cell? ⟨g0, 0, none⟩ = some (.slice s.A s.n s.c) ∧ w'.cell? ⟨w.heap.size, 0, none⟩ = some (.slice Ax nx cx)) (first | exact ⟨T2.out.cell (.head _), T2.out.xcell (.head _)⟩ | exact ⟨T1.out.cell (.head _), T1.out.xcell (.head _)⟩ | exact ⟨T0.out.cell (.head _), T0.out.xcell (.head _)⟩ | fail) (first
                    | (have _t := T1; go_at_call 24; refine (rsame_yes s u p1 (T1.out.ok (.head _)) (T1.out.got _ (.head _)) (HSW.out.trans HU.out.symm)).mono ?_; rintro e p2 ⟨rfl, b⟩; have T2 := Lib.hid (T1.out.on b); clear b)
                    | (go_at_call 10; refine (HO.out wq.drew T0.out.env.below).mono ?_; rintro e p1 ⟨u, rfl, hu, ho, _, b⟩; have T1 := Lib.hid (T0.out.more b ho); have HU := Lib.hid hu; clear b hu ho)
                    | fail)
                  have H9 : Hid (Hold w [(w.heap.size, .slice Ax nx cx)] [(g0, s)] [] [(Al, j, laS s)] p2) := T2.out.sub (fun p hp => hp) (fun p hp => by simp at hp) (fun p hp => hp)
                  clear T0 T1 T2 HU HB UA UB
                  go_wp2_with fail
                  go_roundw
                  case rel => exact ⟨k + 1, by omega, by go_num, H9⟩
                  case measure => simp [intOf]; omega
    · obtain rfl : k = nn := by omega
      go_wp2_with fail
      go_ret
      exact ⟨rfl, HN.out.env.below⟩
end Go.Proofs.YtpkpfnilfabkaaaDoor
