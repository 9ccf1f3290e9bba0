/- SccParts: the walk. -/
import Derived.Test.YtkebeadaoiiokaaMP6
import Derived.Test.YtkebeadaoiiokaaMP7
import Derived.Test.YtkebeadaoiiokaaM14
import Derived.Test.YtkebeadaoiiokaaMP3
import Derived.Test.YtkebeadaoiiokaaM11
import Derived.Test.YtkebeadaoiiokaaM16
-- holds: YtkebeadaoiiokaaCpc
namespace Go.Proofs.Ytkebeadaoiiokaa
open Go.RowKit Go.Shelf

set_option maxRecDepth 100000 in
set_option maxHeartbeats 4000000 in
theorem parts6_core (S : Scc) (nodes : Int) (A : Option Addr) (n c : Nat) (zs : List Ed) (hc : A = none → c = 0) (hnc : n ≤ c) (hcm : c ≤ 9223372036854775807) (w : World) (hR : Reads w w.heap.size 3 A n (cellsE zs)) :
    Calls Try.prog 4 #[.agg #[.int .i64 nodes, .slice A n c]] w fun e w' => e = .returned (.bool true) ∧ Below w.heap.size w w' := by
  have E0 := Lib.hid ((Env.start w).add (g := ⟨nodes, A, n, c, zs⟩) ⟨hR, hnc, hcm, hc⟩)
  obtain ⟨gx, hgx⟩ : ∃ gx : GV, (⟨nodes, A, n, c, zs⟩ : GV) = gx := ⟨_, rfl⟩
  have hz : nodes = gx.z := by rw [← hgx]
  have hA : A = gx.A := by rw [← hgx]
  have hn : n = gx.n := by rw [← hgx]
  have hcc : c = gx.c := by rw [← hgx]
  rw [hgx] at E0
  subst hz; subst hA; subst hn; subst hcc
  have HS := Lib.hid S
  clear hR hc hnc hcm hgx S
  go_enter Try.func4, Try.ntmps4
  go_wp2_with fail
  generalize w.alloc (.cells #[.int .i64 gx.z, .slice gx.A gx.n gx.c] 24) = W0 at *
  refine (wakes6_any HS.out _).mono ?_
  rintro e w1 ⟨rfl, b⟩
  have E1 := Lib.hid (E0.out.on b)
  clear b E0
  have z0 := E1.out.c0 (.head _)
  have z1 := E1.out.c1 (.head _)
  go_wp2_with fail
  have ok1 := E1.out.ok (.head _)
  refine (own6_any gx.z gx.A gx.n gx.c gx.es ok1.2.2.2 ok1.2.1 ok1.2.2.1 w1 ok1.1).mono ?_
  clear ok1
  rintro e w2 hx
  obtain ⟨g, rfl, hz, he, okg, b⟩ := gis_gv hx
  have E2 := Lib.hid ((E1.out.on b).add okg)
  have hgn : g.n ≤ 600 := by
    have := okg.len
    have h2 : (gx.es.take 600).length ≤ 600 := by rw [List.length_take]; omega
    rw [← he] at h2
    omega
  have HL : Hid (g.es.length = g.n) := okg.len
  clear hx hz he okg b E1 z0 z1
  have z0 := E2.out.c0 (.head _)
  have z1 := E2.out.c1 (.head _)
  go_wp2_with fail
  generalize w2.alloc (.cells #[.int .i64 g.z, .slice g.A g.n g.c] 24) = w3 at *
  generalize w2.heap.size = b3 at *
  refine (HS.out.of g w3 (by omega) (E2.out.ok (.head _))).mono ?_
  rintro e w4 ⟨os, k1, hx, hr1, hw1⟩
  obtain ⟨AO, co, rfl, ro, ho1, ho2, b⟩ := hx
  have E4 := Lib.hid (E2.out.on b)
  have RO := Lib.hid ro
  have HR1 := Lib.hid hr1
  have HW1 := Lib.hid hw1
  clear hr1 hw1 b E2 z0 z1 ro ho1 ho2
  have z0 := E4.out.c0 (.head _)
  have z1 := E4.out.c1 (.head _)
  go_wp2_with fail
  refine (HS.out.sets g w4 (by omega) (E4.out.ok (.head _))).mono ?_
  rintro e w5 ⟨ls, k2, AS, cs, rfl, hir, b, hr2, hw2⟩
  have E5 := Lib.hid (E4.out.on b)
  have IR := Lib.hid hir
  have RO5 : Hid (Reads w5 w5.heap.size 1 AO os.length (ints os)) := (RO.out.below b).more b.size
  have HR2 := Lib.hid hr2
  have HW2 := Lib.hid hw2
  have HC := Lib.hid fun W h => check_any g.z g.A g.n g.c g.es (by omega) W h
  clear hr2 hw2 b E4 RO z0 z1 hir
  have z0 := E5.out.c0 (.head _)
  have z1 := E5.out.c1 (.head _)
  cases hr : rightG g.z g.es
  · obtain ⟨hk, ho⟩ := HW1.out hr
    obtain ⟨hk2, ho2⟩ := HW2.out hr
    rw [check_no hr] at HC
    subst hk; subst hk2; subst ho; subst ho2
    clear HR1 HW1 HR2 HW2 hr HS RO5 IR HL
    go_wp2_with fail
    refine (HC.out _ (E5.out.ok (.head _)).1).mono ?_
    rintro e w6 ⟨rfl, b⟩
    have E6 := Lib.hid (E5.out.on b)
    clear b E5 z0 z1 HC
    go_wp2_with fail
    go_ret
    exact ⟨rfl, E6.out.below⟩
  · obtain ⟨hk, ls1, hcs1⟩ := HR1.out hr
    obtain ⟨hk2, os2, hcs2⟩ := HR2.out hr
    have hu := (hcs1.unique hcs2).1
    subst hu
    subst hk; subst hk2
    have hgg := rightG_iff.1 hr
    have hzz := hgg.nodes
    obtain ⟨m, hm⟩ : ∃ m : Nat, g.z = (m : Int) := ⟨g.z.toNat, by omega⟩
    have HM := Lib.hid hm
    have HM3 : Hid (m ≤ 300) := by show m ≤ 300; omega
    have HGM : Hid (IsG (m : Int) g.es) := by rw [← hm]; exact hgg
    have HCS : Hid (Comps g.es m ls1 os) := by rw [show m = g.z.toNat by omega]; exact hcs1
    have HRT := Lib.hid hr
    have HE : Hid (∀ W, Below w5.heap.size w5 W → Env w [(b3, g), (w.heap.size, gx)] W) := fun W h => E5.out.on h
    have HRO : Hid (∀ W, Below w5.heap.size w5 W → Reads W W.heap.size 1 AO os.length (ints os)) := fun W h => (RO5.out.below h).more h.size
    have HIR : Hid (∀ W, Below w5.heap.size w5 W → IRows W w4.heap.size AS ls1.length cs ls1) := fun W h => IR.out.on h
    have HLS : Hid (ls1.length ≤ m ∧ os.length = m) := ⟨HCS.out.len.2, HCS.out.len.1⟩
    have J0 := Lib.hid (Below.refl w5.heap.size w5)
    have HH0 : Hid (∀ l, ls1[0]? = some l → (-1 : Int) < l.headD 0) := fun l hl => by have := (HCS.out.at_ hl).2.2.1; omega
    clear HC HR1 HW1 HR2 HW2 hr hgg hzz hcs1 hcs2 hm E5 RO5 IR z1
    go_wp2_with fail
    clear z0
    go_loopg [8, 9, 57] ls1.length (fun gg s8 s9 s57 wr => ∃ (i mu : Nat) (la : Int), s8 = .int .i64 mu ∧ Hid (mu = (ls1.take i).flatten.length) ∧ s9 = .int .i64 la ∧ s57 = .int .i64 i ∧ i + gg = ls1.length ∧ Hid (∀ l, ls1[i]? = some l → la < l.headD 0) ∧ Hid (Below w5.heap.size w5 wr))
    case atStart => exact ⟨0, 0, -1, rfl, rfl, rfl, rfl, by omega, HH0, J0⟩
    case round =>
      clear J0 HH0
      obtain ⟨i, mu, la, rfl, HMU, rfl, rfl, hi, HH, J⟩ := hrel
      cases gk with
      | zero =>
        have hge : ¬ (i : Int) < (ls1.length : Int) := by omega
        have hmany : mu = m := by
          rw [HMU.out, List.take_of_length_le (by omega)]
          exact HCS.out.parts.many
        rw [hmany]
        have E := Lib.hid (HE.out _ J.out)
        have z0 := E.out.c0 (.head _)
        have z1 := E.out.c1 (.head _)
        clear hi hmany HH HMU
        have HRC := Lib.hid (round6_any g wr (by omega) (E.out.ok (.head _)))
        go_wp2_with fail
        refine HRC.out.mono ?_
        rintro e w6 ⟨ws, k3, ⟨AB, nb, cb, rfl, hob, bb⟩, hr3, _⟩
        obtain ⟨hk3, lr, hws, hre, hrl⟩ := hr3 HRT.out
        subst hk3
        have J6 : Hid (Below w5.heap.size w5 w6) := J.out.trans (bb.mono J.out.size)
        have ba : Below w6.heap.size w6 (w6.alloc (.cells #[.slice AB nb cb] 45)) := (Below.refl _ _).alloc (Nat.le_refl _) _
        have HOB := Lib.hid (Bit.OW.below hob ba)
        have J7 : Hid (Below w5.heap.size w5 (w6.alloc (.cells #[.slice AB nb cb] 45))) := J6.out.alloc J6.out.size _
        have HX := Lib.hid (Blk.new w6 45 #[.slice AB nb cb])
        have E7 := Lib.hid (HE.out _ J7.out)
        have HWS := Lib.hid hws
        have HRL := Lib.hid hrl
        have hlt2 : ∀ n, Bit.ofF lr n = true → n < 10000 := fun n hn => by
          have h1 := hre _ (of_decide_eq_true hn)
          have h2 := HM.out
          have h3 := HM3.out
          omega
        have HIN : Hid (∀ n : Nat, Bit.inW ws n = decide ((n : Int) ∈ lr)) := fun n => by rw [HWS.out, Bit.in_set hlt2]; rfl
        have HW64 : Hid (Bit.W64 ws ∧ nb ≤ 1000) := ⟨by rw [HWS.out]; exact (Bit.can_set _).1, by have h1 := hob.1; have h2 := Bit.set_len (Bit.ofF lr); rw [hws] at h1; omega⟩
        clear hr3 hws hre hrl hob bb ba J J6 E z0 z1 HRC hlt2
        have z0 := E7.out.c0 (.head _)
        have z1 := E7.out.c1 (.head _)
        go_wp2_with fail
        generalize w6.alloc (.cells #[.slice AB nb cb] 45) = w7 at *
        generalize w6.heap.size = XB at *
        refine (HS.out.cyclic g w7 (by omega) (E7.out.ok (.head _))).mono ?_
        rintro e w8 ⟨bc, k4, rfl, b8, hr4, _⟩
        obtain ⟨hk4, hbc⟩ := hr4 HRT.out
        subst hk4
        have J8 : Hid (Below w5.heap.size w5 w8) := J7.out.trans (b8.mono J7.out.size)
        have HBX : Hid (∀ W, Below w8.heap.size w8 W → W.cell? ⟨XB, 0, none⟩ = some (.slice AB nb cb) ∧ Bit.RW W W.heap.size AB nb ws) := fun W h => ⟨((HX.out.below b8 HX.out.lt).below h (HX.out.below b8 HX.out.lt).lt).cell 0, ((HOB.out.below b8).below h).reads⟩
        have HBC := Lib.hid hbc
        have K0 := Lib.hid (Below.refl w8.heap.size w8)
        clear hr4 hbc b8 E7 J7 HOB HX z0 z1
        go_wp2_with fail
        go_loopg [120] ls1.length (fun gg s120 wx => ∃ i : Nat, s120 = .int .i64 i ∧ i + gg = ls1.length ∧ Hid (Below w8.heap.size w8 wx))
        case atStart => exact ⟨0, rfl, by omega, K0⟩
        case round =>
          clear K0
          obtain ⟨i2, rfl, hi2, K⟩ := hrel
          rename World => wk
          have JK : Hid (Below w5.heap.size w5 wk) := J8.out.trans (K.out.mono J8.out.size)
          cases gk with
          | zero =>
            have hge2 : ¬ (i2 : Int) < (ls1.length : Int) := by omega
            have z0 := (HE.out _ JK.out).c0 (.head _)
            have y0 := (HBX.out _ K.out).1
            have hq1 : ((m : Int) == g.z) = true := by rw [HM.out]; simp
            have hq2 : ((os.length : Int) == g.z) = true := by rw [HM.out, HLS.out.2]; simp
            have HCO := Lib.hid (Bit.count_any AB nb cb ws HW64.out.1 (by have := HW64.out.2; omega) wk (HBX.out _ K.out).2)
            have hq3 : (bc == decide (0 < ((Bit.numsF (Bit.inW ws)).length : Int))) = true := by
              rw [beq_iff_eq, Bool.eq_iff_iff, HBC.out, decide_eq_true_eq]
              constructor
              · rintro ⟨v, hv⟩
                have h1 : (v : Int) ∈ lr := (HRL.out v).2 hv
                have h2 : Bit.inW ws v = true := by rw [HIN.out]; exact decide_eq_true h1
                have h3 : v ∈ Bit.numsF (Bit.inW ws) := Bit.mem_nums.2 ⟨by have := Bit.in_lt h2; omega, h2⟩
                have := List.length_pos_of_mem h3
                omega
              · intro h
                obtain ⟨v, hv⟩ := List.exists_mem_of_length_pos (by omega : 0 < (Bit.numsF (Bit.inW ws)).length)
                have h2 := (Bit.mem_nums.1 hv).2
                rw [HIN.out] at h2
                exact ⟨v, (HRL.out v).1 (of_decide_eq_true h2)⟩
            have HBW : Hid (Below w.heap.size w wk) := (HE.out _ JK.out).below
            generalize ((Bit.numsF (Bit.inW ws)).length : Int) = cnt at *
            clear hi2 K JK
            go_wp2_with fail
            refine HCO.out.mono ?_
            rintro e w9 ⟨rfl, bb⟩
            have HB9 : Hid (Below w.heap.size w w9) := HBW.out.trans (bb.mono HBW.out.size)
            clear bb z0 y0 HCO
            go_wp2_with fail
            go_ret
            exact ⟨by simp, HB9.out⟩
          | succ g2 =>
            have hlt : (i2 : Int) < (ls1.length : Int) := by omega
            obtain ⟨b, o, A', k', c', l, hAS, y0, hl, hown⟩ := (HIR.out _ JK.out).at_ (i := i2) (by omega)
            have hk' : l.length = k' := ints_len (Reads.of_own hown)
            subst hk'
            obtain ⟨hne, hup, hh0, hall⟩ := HCS.out.at_ hl
            have HI1 : Hid (i2 + 1 + g2 = ls1.length) := by show _ = _; omega
            have HALL := Lib.hid hall
            have HOW := Lib.hid hown
            have HAS := Lib.hid hAS
            have HRD : Hid (∀ v : Nat, (v : Int) ∈ l → (decide ((v : Int) ∈ lr) = decide ((l.length : Int) > 1))) := fun v hv => by
              have h1 := HCS.out.round HGM.out.all (List.mem_of_getElem? hl) hv
              rw [decide_eq_decide, HRL.out, ← h1]
              omega
            have hl300 : l.length ≤ 300 := by have := HCS.out.parts.toPartsIn.few (List.mem_of_getElem? hl); have := HM3.out; omega
            obtain ⟨i3, hi3⟩ : ∃ i3 : Nat, i3 = i2 + 1 := ⟨_, rfl⟩
            have hw3 : IntKind.i64.wrap ((i2 : Int) + 1) = (i3 : Int) := by have := HLS.out.1; have := HM3.out; rw [IntKind.wrap_i64]; omega
            have HI3 : Hid (i3 + g2 = ls1.length) := by show _ = _; have := HI1.out; omega
            have K0 := Lib.hid (Below.refl wk.heap.size wk)
            rw [hAS]
            clear hall hup hown hAS hne hh0 hl hi3 hi2
            go_wp2_with fail
            clear y0
            go_loopg [126] l.length (fun gg s126 wx => ∃ j : Nat, s126 = .int .i64 j ∧ j + gg = l.length ∧ Hid (Below wk.heap.size wk wx))
            case atStart => exact ⟨0, rfl, by omega, K0⟩
            case round =>
              clear K0
              obtain ⟨j, rfl, hj, KI⟩ := hrel
              rename World => wi
              have KK : Hid (Below w8.heap.size w8 wi) := K.out.trans (KI.out.mono K.out.size)
              cases gk with
              | zero =>
                have hgej : ¬ (j : Int) < (l.length : Int) := by omega
                clear hj
                go_wp2_with fail
                rw [← HAS.out]
                go_roundg g2
                case measure => omega
                case rel => exact ⟨i3, rfl, HI3.out, KK⟩
              | succ g3 =>
                have hltj : (j : Int) < (l.length : Int) := by omega
                obtain ⟨v, hv⟩ : ∃ v, l[j]? = some v := ⟨l[j]'(by omega), List.getElem?_eq_getElem _⟩
                obtain ⟨hv0, hv1, hvo⟩ := HALL.out v (List.mem_of_getElem? hv)
                obtain ⟨vn, rfl⟩ : ∃ vn : Nat, v = (vn : Int) := ⟨v.toNat, by omega⟩
                obtain ⟨b2, o2, hA2, _, q1⟩ := int_at (((Reads.of_own HOW.out).below KI.out).more KI.out.size) hv
                have HA2 := Lib.hid hA2
                have y1 := (HBX.out _ KK.out).1
                have HHAS : Hid (Calls Try.prog 21 #[.agg #[.slice AB nb cb], .int .i64 (vn : Int)] wi fun e w' => e = .returned (.bool (decide ((l.length : Int) > 1))) ∧ Below wi.heap.size wi w') := by
                  have := Bit.has_any AB nb cb ws HW64.out.1 (by have := HW64.out.2; omega) (vn : Int) (by omega) (by have := HM3.out; omega) wi (HBX.out _ KK.out).2
                  rwa [show Bit.hasZ ws (vn : Int) = decide ((l.length : Int) > 1) from by
                    unfold Bit.hasZ Bit.mayB
                    rw [Int.toNat_natCast, HIN.out, HRD.out vn (List.mem_of_getElem? hv)]
                    have h1 : decide ((0 : Int) ≤ (vn : Int)) = true := decide_eq_true (by omega)
                    have h2 : decide ((vn : Int) < 10000) = true := decide_eq_true (by have := HM3.out; omega)
                    rw [h1, h2]
                    rfl] at this
                obtain ⟨j1, hj1⟩ : ∃ j1 : Nat, j1 = j + 1 := ⟨_, rfl⟩
                have hwj : IntKind.i64.wrap ((j : Int) + 1) = (j1 : Int) := by rw [IntKind.wrap_i64]; omega
                have HJG : Hid (j1 + g3 = l.length) := by show _ = _; omega
                clear hj1 hj hv hvo hv0 hv1
                rw [hA2]
                clear hA2
                go_wp2_with fail
                refine HHAS.out.mono ?_
                rintro e w9 ⟨rfl, bb⟩
                have KJ : Hid (Below wk.heap.size wk w9) := KI.out.trans (bb.mono KI.out.size)
                clear bb q1 y1
                go_wp2_with fail
                rw [← HA2.out]
                go_roundg g3
                case measure => omega
                case rel => exact ⟨j1, rfl, HJG.out, KJ⟩
      | succ g2 =>
        have hlt : (i : Int) < (ls1.length : Int) := by omega
        obtain ⟨b, o, A', k', c', l, hAS, y0, hl, hown⟩ := (HIR.out _ J.out).at_ (i := i) (by omega)
        have hk' : l.length = k' := ints_len (Reads.of_own hown)
        subst hk'
        obtain ⟨hne, hup, hh0, hall⟩ := HCS.out.at_ hl
        have hla := HH.out l hl
        obtain ⟨x0, t, rfl⟩ := List.exists_cons_of_ne_nil hne
        have hx0 : ((x0 :: t).headD 0) = x0 := rfl
        rw [hx0] at hla hh0
        obtain ⟨b1, o1, rfl, hb1, q0⟩ := int_at (k := 0) (v := x0) (Reads.of_own hown) rfl
        have HI1 : Hid (i + 1 + g2 = ls1.length) := by show _ = _; omega
        have HNX : Hid (∀ l', ls1[i + 1]? = some l' → x0 < l'.headD 0) := fun l' h => by have := HCS.out.heads hl h; rwa [hx0] at this
        have HFL := Lib.hid (flatten_next hl)
        have HTK : Hid ((ls1.take (i + 1)).flatten.length ≤ 300) := by
          have h1 := HCS.out.parts.many
          have h2 : (ls1.take (i + 1)).flatten.length ≤ ls1.flatten.length := by
            have : ls1.flatten = (ls1.take (i + 1)).flatten ++ (ls1.drop (i + 1)).flatten := by rw [← List.flatten_append, List.take_append_drop]
            rw [this, List.length_append]
            omega
          have := HM3.out
          show _ ≤ _
          omega
        obtain ⟨lx, hlx⟩ : ∃ lx, (x0 :: t) = lx := ⟨_, rfl⟩
        have hpos : 0 < (x0 :: t).length := by simp
        have hf300 : (x0 :: t).length ≤ 300 := by have h1 := HFL.out; have h2 := HTK.out; omega
        rw [hlx] at hown hup hall hpos hf300 HFL y0
        have hn0 : ¬ (lx.length : Int) = 0 := by omega
        have hnl : ¬ x0 ≤ la := by omega
        have hbe : ((lx.length : Int) == 0) = false := by rw [beq_eq_false_iff_ne]; omega
        have HALL := Lib.hid hall
        have HUP := Lib.hid hup
        have HOW := Lib.hid hown
        have HB1 := Lib.hid hb1
        have HAS := Lib.hid hAS
        have hp0 : (0 : Int) < (lx.length : Int) := by omega
        rw [Nat.add_zero] at q0
        have Q0 : Hid (wr.cell? ⟨b1, o1, none⟩ = some (.int .i64 x0)) := q0
        rw [hAS]
        clear hall hup hown hb1 hAS hne hx0 hlx hi hh0 HH hl
        go_wp2_with fail
        refine (sorted_int6 (some ⟨b1, o1, none⟩) lx.length c' lx (by omega) HUP.out wr (Reads.of_own HOW.out)).mono ?_
        rintro e w6 ⟨rfl, bb⟩
        have J6 : Hid (Below w5.heap.size w5 w6) := J.out.trans (bb.mono J.out.size)
        have q0 := (bb.cell (p := ⟨b1, o1, none⟩) HB1.out).trans Q0.out
        have HRL : Hid (∀ W, Below w6.heap.size w6 W → Reads W W.heap.size 1 (some ⟨b1, o1, none⟩) lx.length (ints lx)) := fun W h => ((((Reads.of_own HOW.out).below bb).more bb.size).below h).more h.size
        have K0 := Lib.hid (Below.refl w6.heap.size w6)
        clear bb J Q0 HUP HOW HB1 y0
        go_wp2_with fail
        clear q0
        go_loopg [82] lx.length (fun gg s82 wx => ∃ j : Nat, s82 = .int .i64 j ∧ j + gg = lx.length ∧ Hid (Below w6.heap.size w6 wx))
        case atStart => exact ⟨0, rfl, by omega, K0⟩
        case round =>
          clear K0
          obtain ⟨j, rfl, hj, K⟩ := hrel
          rename World => wi
          have JI : Hid (Below w5.heap.size w5 wi) := J6.out.trans (K.out.mono J6.out.size)
          cases gk with
          | zero =>
            have hgej : ¬ (j : Int) < (lx.length : Int) := by omega
            obtain ⟨m1, hm1⟩ : ∃ m1 : Nat, m1 = mu + lx.length := ⟨_, rfl⟩
            have HMU1 : Hid (m1 = (ls1.take (i + 1)).flatten.length) := by show _ = _; rw [hm1, HFL.out, HMU.out]
            have hw2 : IntKind.i64.wrap ((mu : Int) + (lx.length : Int)) = (m1 : Int) := by have := HTK.out; have := HMU1.out; rw [IntKind.wrap_i64]; omega
            obtain ⟨i1, hi1⟩ : ∃ i1 : Nat, i1 = i + 1 := ⟨_, rfl⟩
            have hw3 : IntKind.i64.wrap ((i : Int) + 1) = (i1 : Int) := by have := HLS.out.1; have := HM3.out; rw [IntKind.wrap_i64]; omega
            have HI2 := Lib.hid hi1
            clear hm1 hi1 hj
            go_wp2_with fail
            rw [← HAS.out]
            go_roundg g2
            case measure => omega
            case rel => exact ⟨i1, m1, x0, rfl, (by rw [HI2.out]; exact HMU1), rfl, rfl, by rw [HI2.out]; exact HI1.out, (by rw [HI2.out]; exact HNX), JI⟩
          | succ g3 =>
            have hltj : (j : Int) < (lx.length : Int) := by omega
            obtain ⟨v, hv⟩ : ∃ v, lx[j]? = some v := ⟨lx[j]'(by omega), List.getElem?_eq_getElem _⟩
            obtain ⟨hv0, hv1, hvo⟩ := HALL.out v (List.mem_of_getElem? hv)
            obtain ⟨vn, rfl⟩ : ∃ vn : Nat, v = (vn : Int) := ⟨v.toNat, by omega⟩
            rw [Int.toNat_natCast] at hvo
            obtain ⟨b2, o2, hA2, _, q1⟩ := int_at (HRL.out _ K.out) hv
            injection hA2 with hA2
            injection hA2 with e1 e2 _
            subst e1; subst e2
            obtain ⟨b3x, o3, hAO, _, q2⟩ := int_at (HRO.out _ JI.out) hvo
            have HAO := Lib.hid hAO
            have z0 := (HE.out _ JI.out).c0 (.head _)
            have hn1 : ¬ (vn : Int) < 0 := by omega
            have hn2 : ¬ g.z ≤ (vn : Int) := by have := HM.out; omega
            have hn3 : (0 : Int) ≤ (vn : Int) := by omega
            have hn4 : (vn : Int) < (os.length : Int) := by have := HLS.out.2; omega
            obtain ⟨j1, hj1⟩ : ∃ j1 : Nat, j1 = j + 1 := ⟨_, rfl⟩
            have hwj : IntKind.i64.wrap ((j : Int) + 1) = (j1 : Int) := by rw [IntKind.wrap_i64]; omega
            have HJG : Hid (j1 + g3 = lx.length) := by show _ = _; omega
            clear hj1 hj hv hvo hv0 hv1
            rw [hAO]
            clear hAO
            go_wp2_with fail
            rw [← HAO.out]
            go_roundg g3
            case measure => omega
            case rel => exact ⟨j1, rfl, HJG.out, K⟩
end Go.Proofs.Ytkebeadaoiiokaa
