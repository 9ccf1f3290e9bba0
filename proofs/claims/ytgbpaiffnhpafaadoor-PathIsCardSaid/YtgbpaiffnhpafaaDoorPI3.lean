/- PathIs: the walk. -/
import Derived.Test.YtgbpaiffnhpafaaDoorN1
import Derived.Test.YtgbpaiffnhpafaaDoorPI2
import Derived.Test.YtgbpaiffnhpafaaDoorPI1
-- holds: YtgbpaiffnhpafaaDoorRc
namespace Go.Proofs.YtgbpaiffnhpafaaDoor
open Go.RowKit Go.Shelf

/-- A copy, in memory of its own, and how much it holds. -/
def CopyC (xs : List Int) (w : World) (e : Ending) (w' : World) : Prop :=
  ∃ (A : Option Addr) (c : Nat), e = .returned (.slice A xs.length c) ∧ Reads w' w'.heap.size 1 A xs.length (ints xs) ∧ xs.length ≤ c ∧ Below w.heap.size w w'
theorem clone8_any (A : Option Addr) (n c : Nat) (zs : List Int) (hn : n ≤ 1000000) (w : World) (hR : Reads w w.heap.size 1 A n (ints zs)) :
    Calls Tryd.prog 23 #[.slice A n c] w (CopyC zs w) := by
  have hl := ints_len hR
  rcases Nat.eq_zero_or_pos n with h | h
  · subst h
    obtain rfl : zs = [] := List.eq_nil_of_length_eq_zero hl
    exact (clone7_any A 0 c [] hn w hR).mono fun e w' ⟨A', c', h1, h2, h3⟩ => ⟨A', c', h1, h2, Nat.zero_le _, h3⟩
  · obtain ⟨b, o, rfl, hb, hc⟩ := reads_plain hR h
    refine (Tryd.slices_Clone_int b o n c zs w (by omega) (by omega) (ints_get hc)).mono ?_
    rintro e w' ⟨v', rfl, ho, _, hb⟩
    rw [List.take_of_length_le (by omega)] at ho
    obtain ⟨A', c', rfl, h1, h2⟩ := own_form2 ho
    subst hl
    exact ⟨A', c', rfl, Reads.of_own ho, h1, hb⟩

theorem b2_at0 (a b : Bool) (W : World) : (Instr.index 48 (.agg #[.bool a, .bool b]) (.int .i64 0)).run Tryd.prog W = .ok (.bool a) W := by kernel_rfl
theorem b2_at1 (a b : Bool) (W : World) : (Instr.index 48 (.agg #[.bool a, .bool b]) (.int .i64 1)).run Tryd.prog W = .ok (.bool b) W := by kernel_rfl
set_option maxRecDepth 100000 in
set_option maxHeartbeats 16000000 in
theorem pis_core (nodes : Int) (A : Option Addr) (n c : Nat) (zs : List Ed) (Ar : Option Addr) (nr cr : Nat) (rs : List Row7) (round : Bool) (hc : A = none → c = 0) (hnc : n ≤ c) (hcm : c ≤ 9223372036854775807) (w : World) (hT : Bit.Tab w) (hR : Reads w w.heap.size 3 A n (cellsE zs)) (hRR : Rows7 w w.heap.size Ar nr rs) :
    Calls Tryd.prog 5 #[.agg #[.int .i64 nodes, .slice A n c], .slice Ar nr cr, .bool round] w fun e w' => e = .returned (.bool true) ∧ Below w.heap.size w w' := by
  have E0 := Lib.hid ((Env.start w).add (g := ⟨nodes, A, n, c, zs⟩) ⟨hR, hnc, hcm, hc⟩)
  obtain ⟨gx, hgx⟩ : ∃ gx : GV, (⟨nodes, A, n, c, zs⟩ : GV) = gx := ⟨_, rfl⟩
  have hz : nodes = gx.z := by rw [← hgx]
  have hA : A = gx.A := by rw [← hgx]
  have hn : n = gx.n := by rw [← hgx]
  have hcc : c = gx.c := by rw [← hgx]
  rw [hgx] at E0
  subst hz; subst hA; subst hn; subst hcc
  have HT := Lib.hid hT
  have HRR := Lib.hid hRR
  clear hRR
  clear hR hc hnc hcm hgx hT
  go_enter Tryd.func5, Tryd.ntmps5
  go_wp2_with fail
  generalize w.alloc (.cells #[.int .i64 gx.z, .slice gx.A gx.n gx.c] 24) = W0 at *
  refine (wakes8_any _ (HT.out.on E0.out.below)).mono ?_
  rintro e w1 ⟨rfl, b⟩
  have E1 := Lib.hid (E0.out.on b)
  clear b E0
  have z0 := E1.out.c0 (.head _)
  have z1 := E1.out.c1 (.head _)
  go_wp2_with fail
  have ok1 := E1.out.ok (.head _)
  refine (own8_any gx.z gx.A gx.n gx.c gx.es ok1.2.2.2 ok1.2.1 ok1.2.2.1 w1 ok1.1).mono ?_
  clear ok1
  rintro e w2 hx
  obtain ⟨g, rfl, hz, he, okg, b⟩ := gis_gv hx
  have E3 := Lib.hid ((E1.out.on b).add okg)
  have HN : Hid (g.n ≤ 300) := by
    show _ ≤ _
    have h1 := okg.len
    rw [he, List.length_take] at h1
    omega
  have HL : Hid (g.es.length = g.n) := okg.len
  have HX : Hid (g.z = gx.z ∧ g.es = gx.es.take 300) := ⟨hz, he⟩
  clear hx hz he okg b E1 z0 z1
  have z0 := E3.out.c0 (.head _)
  have z1 := E3.out.c1 (.head _)
  have x0 := E3.out.c0 (.tail _ (.head _))
  have x1 := E3.out.c1 (.tail _ (.head _))
  go_wp2_with fail
  generalize w2.alloc (.cells #[.int .i64 g.z, .slice g.A g.n g.c] 24) = w3 at *
  generalize w2.heap.size = b3 at *
  have HRG := Lib.hid (right_any g.z g.A g.n g.c g.es (by have := HN.out; omega) _ (E3.out.ok (.head _)).1)
  obtain ⟨rt, hrt⟩ : ∃ rt, rightG g.z g.es = rt := ⟨_, rfl⟩
  rw [hrt] at HRG
  have HRT := Lib.hid hrt
  clear hrt
  refine HRG.out.mono ?_
  rintro e w4 ⟨rfl, b⟩
  have E4 := Lib.hid (E3.out.on b)
  clear b E3 HRG z0 z1 x0 x1
  go_wp2_with fail
  go_loopg [22] nr (fun gg s22 wr => ∃ i : Nat, i + gg = nr ∧ i ≤ 8 ∧ s22 = .int .i64 i ∧ Hid (Env w [(b3, g), (w.heap.size, gx)] wr))
  case atStart => exact ⟨0, by omega, by omega, rfl, E4⟩
  case round =>
    clear E4
    obtain ⟨i, hig, hi8, rfl, E3⟩ := hrel
    cases gk with
    | zero =>
      have hge : ¬ (i : Int) < (nr : Int) := by omega
      clear hig
      go_wp2_with fail
      go_ret
      exact ⟨rfl, E3.out.below⟩
    | succ g2 =>
      have hlt : (i : Int) < (nr : Int) := by omega
      have HI : Hid (i + 1 + g2 = nr) := by show _ = _; omega
      obtain ⟨rb, ro, r, hAr, hrb, hcell, hrd, hrnc, hrcm⟩ := (HRR.out.below E3.out.below).at_ (show i < nr by omega)
      subst hAr
      have RR : Hid (Reads wr wr.heap.size 1 r.A r.n (ints r.l)) := hrd.more E3.out.below.size
      clear hrd hrb hig
      by_cases h8 : i = 8
      · subst h8
        have hb8 : (((8 : Nat) : Int) == 8) = true := rfl
        clear HI RR
        go_wp2_with fail
        go_ret
        exact ⟨rfl, E3.out.below⟩
      · have hb8 : ((i : Int) == 8) = false := by simp; omega
        have hmin : min (r.n : Int) 40 = ((min r.n 40 : Nat) : Int) := by omega
        have hq : min r.n 40 ≤ r.n ∧ min r.n 40 ≤ 40 := by omega
        have hsl := fun W => t_slice_h r.A r.n r.c (min r.n 40) (by omega) W
        generalize min r.n 40 = q at *
        have RQ := Lib.hid (reads_cut RR.out hq.1)
        have HQ := Lib.hid hq.2
        obtain ⟨o, ho⟩ : ∃ o, r.l.take q = o := ⟨_, rfl⟩
        rw [ho] at RQ
        have HOL : Hid (o.length ≤ 40) := by
          show _ ≤ _
          rw [← ho, List.length_take]
          have := HQ.out
          omega
        have HI8 : Hid (i < 8) := by show _ < _; omega
        clear ho h8 hi8 hq RR
        go_wp2_with fail
        refine (clone8_any r.A q r.c o (by have := HQ.out; omega) _ RQ.out).mono ?_
        rintro e w5 ⟨Ao, co, rfl, hro, hoc, b⟩
        obtain ⟨No, hNo⟩ : ∃ No, o.length = No := ⟨_, rfl⟩
        have HNo := Lib.hid hNo
        rw [hNo] at hro hoc HOL ⊢
        have hno := HOL.out
        have hno3 : No ≤ co := hoc
        have E5 := Lib.hid (E3.out.on b)
        have RO := Lib.hid hro
        clear hro hoc b E3 RQ hb8 hmin hsl hcell hrnc hrcm hNo HOL
        go_wp2_with fail
        refine (clone8_any Ao No co o (by omega) _ RO.out).mono ?_
        rintro e w6 ⟨Ak, ck, rfl, hrk, hkc, b⟩
        have E6 := Lib.hid (E5.out.on b)
        have K6 := Lib.hid (KeptI.add (A := Ak) (l := o) (KeptI.add (A := Ao) (l := o) (L := []) (fun p hp => by cases hp) (by have := (RO.out.below b).more b.size; rw [HNo.out]; exact this)) hrk)
        rw [HNo.out]
        clear hrk hkc b E5 RO
        go_wp2_with fail
        go_loopg [41] 2 (fun gg s41 wi => ∃ j : Nat, s41 = .int .i64 j ∧ j + gg = 2 ∧ Hid (Env w [(b3, g), (w.heap.size, gx)] wi) ∧ Hid (KeptI [(Ak, o), (Ao, o)] wi))
        case atStart => exact ⟨0, rfl, by omega, E6, K6⟩
        case round =>
          clear E6 K6
          obtain ⟨j, rfl, hji, EI, KI⟩ := hrel
          rename World => wi
          cases gk with
          | zero =>
            obtain rfl : j = 2 := by omega
            have hi8 := HI8.out
            clear KI hji
            go_wp2_with fail
            go_roundg g2
            case measure => omega
            case rel => exact ⟨i + 1, by have := HI.out; omega, by omega, by go_num, EI⟩
          | succ g3 =>
            rcases (show j = 0 ∨ j = 1 by omega) with rfl | rfl
            · skip
              have hix := fun W => b2_at0 round (!round) W
              have hix2 : ∀ W, (Instr.index 48 (.agg #[.bool round, .bool (!round)]) (.int .i64 ((0 : Nat) : Int))).run Tryd.prog W = .ok (.bool (round)) W := hix
              have z0 := EI.out.c0 (.head _)
              have z1 := EI.out.c1 (.head _)
              go_wp2_with fail
              refine (is8_any g Ao No co o (round) (by have := HN.out; omega) (by omega) _ (HT.out.on EI.out.below) (EI.out.ok (.head _)) (by have := KI.out _ (.tail _ (.head _)); rwa [HNo.out] at this)).mono ?_
              rintro e w7 ⟨b1, rfl, b, hb1⟩
              have HB1 := Lib.hid hb1
              have EI' := Lib.hid (EI.out.on b)
              have KI' := Lib.hid (KI.out.on b)
              clear b hb1 EI KI z0 z1 hix hix2
              have EI := EI'
              have KI := KI'
              clear EI' KI'
              cases rt
              · obtain rfl : b1 = false := by
                  cases b1
                  · rfl
                  · have := (HB1.out.1 rfl).1; rw [HRT.out] at this; cases this
                clear HB1
                go_wp2_with fail
                refine (eqi_any Ao Ak No No co ck o o (by omega) (by omega) _ (by have := KI.out _ (.tail _ (.head _)); rwa [HNo.out] at this) (by have := KI.out _ (.head _); rwa [HNo.out] at this)).mono ?_
                rintro e w9 ⟨rfl, b⟩
                rw [decide_eq_true rfl]
                have EI2 := Lib.hid (EI.out.on b)
                have KI2 := Lib.hid (KI.out.on b)
                clear b EI KI
                go_wp2_with fail
                go_roundg g3
                case measure => omega
                case rel => exact ⟨_ + 1, by go_num, by omega, EI2, KI2⟩
              · skip
                obtain ⟨m, hm1, hm2, hm3, hG⟩ := right_nat HRT.out
                have HM := Lib.hid (And.intro hm1 (And.intro hm2 (And.intro hm3 hG)))
                clear hm1 hm2 hm3 hG
                have HRI : Hid (∀ W, g.ok W → Reads W W.heap.size 1 Ao No (ints o) → Calls Tryd.prog 25 #[.agg #[.int .i64 g.z, .slice g.A g.n g.c], .slice Ao No co, .bool (round)] W (RIs g.es m o (round) W)) := fun W ok hl => by
                  rw [HM.out.1]
                  exact rpathis8_any m g.A Ao g.n g.c No co g.es o (round) HM.out.2.2.2 (by have := HN.out; omega) (by omega) hno3 W ok.1 hl
                have z0 := EI.out.c0 (.head _)
                have z1 := EI.out.c1 (.head _)
                go_wp2_with fail
                refine (HRI.out _ (EI.out.ok (.head _)) (by have := KI.out _ (.tail _ (.head _)); rwa [HNo.out] at this)).mono ?_
                rintro e w8 ⟨b2, rfl, b, hb2⟩
                obtain rfl : b1 = b2 := Bool.eq_iff_iff.2 (by rw [HB1.out, hb2, HM.out.2.1]; exact ⟨fun h => h.2, fun h => ⟨HRT.out, h⟩⟩)
                have hbn : (b1 != b1) = false := by simp
                have EI' := Lib.hid (EI.out.on b)
                have KI' := Lib.hid (KI.out.on b)
                clear b hb2 EI KI z0 z1 HB1 HRI HM
                have EI := EI'
                have KI := KI'
                clear EI' KI'
                go_wp2_with fail
                refine (eqi_any Ao Ak No No co ck o o (by omega) (by omega) _ (by have := KI.out _ (.tail _ (.head _)); rwa [HNo.out] at this) (by have := KI.out _ (.head _); rwa [HNo.out] at this)).mono ?_
                rintro e w9 ⟨rfl, b⟩
                rw [decide_eq_true rfl]
                have EI2 := Lib.hid (EI.out.on b)
                have KI2 := Lib.hid (KI.out.on b)
                clear b EI KI
                go_wp2_with fail
                go_roundg g3
                case measure => omega
                case rel => exact ⟨_ + 1, by go_num, by omega, EI2, KI2⟩
            · skip
              have hix := fun W => b2_at1 round (!round) W
              have hix2 : ∀ W, (Instr.index 48 (.agg #[.bool round, .bool (!round)]) (.int .i64 ((1 : Nat) : Int))).run Tryd.prog W = .ok (.bool (!round)) W := hix
              have z0 := EI.out.c0 (.head _)
              have z1 := EI.out.c1 (.head _)
              go_wp2_with fail
              refine (is8_any g Ao No co o (!round) (by have := HN.out; omega) (by omega) _ (HT.out.on EI.out.below) (EI.out.ok (.head _)) (by have := KI.out _ (.tail _ (.head _)); rwa [HNo.out] at this)).mono ?_
              rintro e w7 ⟨b1, rfl, b, hb1⟩
              have HB1 := Lib.hid hb1
              have EI' := Lib.hid (EI.out.on b)
              have KI' := Lib.hid (KI.out.on b)
              clear b hb1 EI KI z0 z1 hix hix2
              have EI := EI'
              have KI := KI'
              clear EI' KI'
              cases rt
              · obtain rfl : b1 = false := by
                  cases b1
                  · rfl
                  · have := (HB1.out.1 rfl).1; rw [HRT.out] at this; cases this
                clear HB1
                go_wp2_with fail
                refine (eqi_any Ao Ak No No co ck o o (by omega) (by omega) _ (by have := KI.out _ (.tail _ (.head _)); rwa [HNo.out] at this) (by have := KI.out _ (.head _); rwa [HNo.out] at this)).mono ?_
                rintro e w9 ⟨rfl, b⟩
                rw [decide_eq_true rfl]
                have EI2 := Lib.hid (EI.out.on b)
                have KI2 := Lib.hid (KI.out.on b)
                clear b EI KI
                go_wp2_with fail
                go_roundg g3
                case measure => omega
                case rel => exact ⟨_ + 1, by go_num, by omega, EI2, KI2⟩
              · skip
                obtain ⟨m, hm1, hm2, hm3, hG⟩ := right_nat HRT.out
                have HM := Lib.hid (And.intro hm1 (And.intro hm2 (And.intro hm3 hG)))
                clear hm1 hm2 hm3 hG
                have HRI : Hid (∀ W, g.ok W → Reads W W.heap.size 1 Ao No (ints o) → Calls Tryd.prog 25 #[.agg #[.int .i64 g.z, .slice g.A g.n g.c], .slice Ao No co, .bool (!round)] W (RIs g.es m o (!round) W)) := fun W ok hl => by
                  rw [HM.out.1]
                  exact rpathis8_any m g.A Ao g.n g.c No co g.es o (!round) HM.out.2.2.2 (by have := HN.out; omega) (by omega) hno3 W ok.1 hl
                have z0 := EI.out.c0 (.head _)
                have z1 := EI.out.c1 (.head _)
                go_wp2_with fail
                refine (HRI.out _ (EI.out.ok (.head _)) (by have := KI.out _ (.tail _ (.head _)); rwa [HNo.out] at this)).mono ?_
                rintro e w8 ⟨b2, rfl, b, hb2⟩
                obtain rfl : b1 = b2 := Bool.eq_iff_iff.2 (by rw [HB1.out, hb2, HM.out.2.1]; exact ⟨fun h => h.2, fun h => ⟨HRT.out, h⟩⟩)
                have hbn : (b1 != b1) = false := by simp
                have EI' := Lib.hid (EI.out.on b)
                have KI' := Lib.hid (KI.out.on b)
                clear b hb2 EI KI z0 z1 HB1 HRI HM
                have EI := EI'
                have KI := KI'
                clear EI' KI'
                go_wp2_with fail
                refine (eqi_any Ao Ak No No co ck o o (by omega) (by omega) _ (by have := KI.out _ (.tail _ (.head _)); rwa [HNo.out] at this) (by have := KI.out _ (.head _); rwa [HNo.out] at this)).mono ?_
                rintro e w9 ⟨rfl, b⟩
                rw [decide_eq_true rfl]
                have EI2 := Lib.hid (EI.out.on b)
                have KI2 := Lib.hid (KI.out.on b)
                clear b EI KI
                go_wp2_with fail
                go_roundg g3
                case measure => omega
                case rel => exact ⟨_ + 1, by go_num, by omega, EI2, KI2⟩
end Go.Proofs.YtgbpaiffnhpafaaDoor
