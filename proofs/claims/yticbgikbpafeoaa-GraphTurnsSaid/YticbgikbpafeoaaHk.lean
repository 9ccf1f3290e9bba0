/- GraphTurns: the walk. -/
import Derived.Test.YticbgikbpafeoaaHp
namespace Go.Proofs.Yticbgikbpafeoaa
open Go.RowKit

set_option maxRecDepth 100000 in
set_option maxHeartbeats 4000000 in
theorem turns_core (nodes : Int) (A : Option Addr) (n c : Nat) (zs : List Ed) (kd : Int) (hc : A = none → c = 0) (hnc : n ≤ c) (hcm : c ≤ 9223372036854775807) (w : World) (hR : Reads w w.heap.size 3 A n (cellsE zs)) :
    Calls Try.prog 5 #[.agg #[.int .i64 nodes, .slice A n c], .int .i64 kd] w fun e w' => e = .returned (.bool true) ∧ Below w.heap.size w w' := by
  have E00 := (Env.start w).add (g := ⟨nodes, A, n, c, zs⟩) ⟨hR, hnc, hcm, hc⟩
  have kb := Blk.new (w.alloc (.cells #[.int .i64 nodes, .slice A n c] 24)) 3 #[.int .i64 kd]
  rw [World.size_alloc] at kb
  obtain ⟨gx, hgx⟩ : ∃ gx : GV, (⟨nodes, A, n, c, zs⟩ : GV) = gx := ⟨_, rfl⟩
  have hz : nodes = gx.z := by rw [← hgx]
  have hA : A = gx.A := by rw [← hgx]
  have hn : n = gx.n := by rw [← hgx]
  have hcc : c = gx.c := by rw [← hgx]
  rw [hgx] at E00
  subst hz; subst hA; subst hn; subst hcc
  have E0 : Hid (EnvK w [(w.heap.size, gx)] (w.heap.size + 1) kd ((w.alloc (.cells #[.int .i64 gx.z, .slice gx.A gx.n gx.c] 24)).alloc (.cells #[.int .i64 kd] 3))) := ⟨E00.alloc _, kb⟩
  obtain ⟨i0, hi, hz0, hz1, hz2⟩ := info_parts pair_info
  clear hR hc hnc hcm hgx E00 kb
  go_enter Try.func5, Try.ntmps5
  go_wp2_with fail
  generalize (w.alloc (.cells #[.int .i64 gx.z, .slice gx.A gx.n gx.c] 24)).alloc (.cells #[.int .i64 kd] 3) = W0 at *
  refine (wakes_any _).mono ?_
  rintro e w1 ⟨rfl, b⟩
  have E1 := Lib.hid (E0.out.on b)
  clear b E0
  have z0 := E1.out.1.c0 (.head _)
  have z1 := E1.out.1.c1 (.head _)
  go_wp2_with fail
  have ok1 := E1.out.1.ok (.head _)
  refine (fair_any gx.z gx.A gx.n gx.c gx.es ok1.2.2.2 ok1.2.1 ok1.2.2.1 w1 ok1.1).mono ?_
  clear ok1
  rintro e w2 hx
  obtain ⟨g, rfl, hz, he, okg, b⟩ := gis_gv hx
  have E2 := Lib.hid ((E1.out.on b).add okg)
  have HG := Lib.hid (And.intro hz he)
  clear hx hz he okg b E1 z0 z1
  have z0 := E2.out.1.c0 (.head _)
  have z1 := E2.out.1.c1 (.head _)
  have hgn : g.n ≤ 80 := by
    have := (E2.out.1.ok (.head _)).len
    have h2 := take_len gx.es
    rw [← HG.out.2] at h2
    omega
  go_wp2_with fail
  generalize w2.alloc (.cells #[.int .i64 g.z, .slice g.A g.n g.c] 24) = w3 at *
  generalize w2.heap.size = b5 at *
  cases hr : rightG g.z g.es
  · have HRT := Lib.hid fun W h => right_any g.z g.A g.n g.c g.es (by omega) W h
    rw [hr] at HRT
    have HNO := Lib.hid fun q caps W h => filter_no g.z g.A g.n g.c q caps g.es hr (by omega) W h
    refine (rev_no g.z g.A g.n g.c g.es hr (by omega) w3 (E2.out.1.ok (.head _)).1).mono ?_
    clear hr
    rintro e w4 hx
    obtain ⟨ga, rfl, hza, hea, oka, b⟩ := gerr_gv hx
    have E4 := Lib.hid ((E2.out.on b).add oka)
    have HA := Lib.hid (And.intro hza hea)
    clear hx hza hea oka b E2 z0 z1
    have E5 := Lib.hid (E4.out.alloc (.cells #[.slice none 0 0] 22))
    have z0 := E5.out.1.c0 (.tail _ (.head _))
    have z1 := E5.out.1.c1 (.tail _ (.head _))
    go_wp2_with fail
    generalize (w4.alloc (.cells #[.int .i64 ga.z, .slice ga.A ga.n ga.c] 24)).alloc (.cells #[.slice none 0 0] 22) = w6 at *
    clear E4
    refine (HNO.out _ _ w6 (E5.out.1.ok (.tail _ (.head _))).1).mono ?_
    rintro e w7 hx
    obtain ⟨gb, rfl, hzb, heb, okb, b⟩ := gerr_gv hx
    have E7 := Lib.hid ((E5.out.on b).add okb)
    have HB := Lib.hid (And.intro hzb heb)
    clear hx hzb heb okb b E5 z0 z1 HNO
    have z0 := E7.out.1.c0 (.tail _ (.tail _ (.head _)))
    have z1 := E7.out.1.c1 (.tail _ (.tail _ (.head _)))
    go_wp2_with fail
    generalize w7.alloc (.cells #[.int .i64 gb.z, .slice gb.A gb.n gb.c] 24) = w8 at *
    refine (HRT.out _ (E7.out.1.ok (.tail _ (.tail _ (.head _)))).1).mono ?_
    rintro e w9 ⟨rfl, b⟩
    have E9 := Lib.hid (E7.out.on b)
    clear b E7 z0 z1 HRT
    have HSM : Hid (∀ (k : GV) W, k.z = 0 → k.es = [] → k.ok W → Calls Try.prog 17 #[.agg #[.int .i64 k.z, .slice k.A k.n k.c], .agg #[.int .i64 0, .slice none 0 0]] W fun e w' => e = .returned (.bool true) ∧ Below W.heap.size W w') := by
      intro k W h1 h2 h3
      have := rsame_any k.z 0 k.A none k.n k.c 0 0 k.es [] (by have := h3.len; rw [h2] at this; simp at this; omega) W h3.1 Reads.none_
      rwa [decide_eq_true ⟨h1, h2⟩] at this
    have z0 := E9.out.1.c0 (.tail _ (.head _))
    have z1 := E9.out.1.c1 (.tail _ (.head _))
    go_wp2_with fail
    refine (HSM.out ga _ HA.out.1 HA.out.2 (E9.out.1.ok (.tail _ (.head _)))).mono ?_
    rintro e v1 ⟨rfl, b⟩
    have E10 := Lib.hid (E9.out.on b)
    clear b E9 z0 z1
    have z0 := E10.out.1.c0 (.head _)
    have z1 := E10.out.1.c1 (.head _)
    go_wp2_with fail
    refine (HSM.out gb _ HB.out.1 HB.out.2 (E10.out.1.ok (.head _))).mono ?_
    rintro e v2 ⟨rfl, b⟩
    have E11 := Lib.hid (E10.out.on b)
    clear b E10 z0 z1
    go_wp2_with fail
    go_ret
    exact ⟨rfl, E11.out.1.below⟩
  · have hg := rightG_iff.1 hr
    have HIG := Lib.hid hg
    have HRT := Lib.hid fun W h => right_any g.z g.A g.n g.c g.es (by omega) W h
    rw [hr] at HRT
    refine (rev_ok g.z g.A g.n g.c g.es hg (by omega) w3 (E2.out.1.ok (.head _)).1).mono ?_
    clear hr hg
    rintro e w4 hx
    obtain ⟨ga, rfl, hza, hea, oka, b⟩ := gerr_gv hx
    have E4 := Lib.hid ((E2.out.on b).add oka)
    have HA := Lib.hid (And.intro hza hea)
    clear hx hza hea oka b E2 z0 z1
    have E5 := Lib.hid (E4.out.alloc (.cells #[.slice none 0 0] 22))
    have hA5 := Blk.new (w4.alloc (.cells #[.int .i64 ga.z, .slice ga.A ga.n ga.c] 24)) 22 #[.slice none 0 0]
    rw [World.size_alloc] at hA5
    have hB5 : w.heap.size ≤ w4.heap.size + 1 := by have := E4.out.1.below.size; rw [World.size_alloc] at this; exact this
    have HA5 := Lib.hid hA5
    have HB5 := Lib.hid hB5
    clear hA5 hB5
    have z0 := E5.out.1.c0 (.tail _ (.head _))
    have z1 := E5.out.1.c1 (.tail _ (.head _))
    go_wp2_with fail
    generalize (w4.alloc (.cells #[.int .i64 ga.z, .slice ga.A ga.n ga.c] 24)).alloc (.cells #[.slice none 0 0] 22) = w6 at *
    clear E4
    generalize w4.heap.size = b6 at *
    refine (filter_turns_gv g (b6 + 1) (w.heap.size + 1) kd HIG.out (by omega) w6 (E5.out.1.ok (.tail _ (.head _))) HA5.out E5.out.2).mono ?_
    rintro e w7 ⟨gb, Aa, ca, rfl, hzb, heb, okb, hask, hc⟩
    have E7 := Lib.hid ((E5.out.chg HA5.out HB5.out hc).add okb)
    have Q7 := Lib.hid (hask.on ((Below.refl _ _).alloc (Nat.le_refl _) (.cells #[.int .i64 gb.z, .slice gb.A gb.n gb.c] 24)))
    have HB := Lib.hid (And.intro hzb heb)
    clear hzb heb okb hask hc E5 z0 z1 HA5 HB5
    have z0 := E7.out.1.c0 (.tail _ (.tail _ (.head _)))
    have z1 := E7.out.1.c1 (.tail _ (.tail _ (.head _)))
    go_wp2_with fail
    generalize w7.alloc (.cells #[.int .i64 gb.z, .slice gb.A gb.n gb.c] 24) = w8 at *
    generalize w7.heap.size = b9 at *
    refine (HRT.out _ (E7.out.1.ok (.tail _ (.tail _ (.head _)))).1).mono ?_
    rintro e w9 ⟨rfl, b⟩
    have E9 := Lib.hid (E7.out.on b)
    have Q9 := Lib.hid (Q7.out.on b)
    clear b E7 Q7 z0 z1 HRT
    have z0 := E9.out.1.c0 (.tail _ (.tail _ (.head _)))
    have z1 := E9.out.1.c1 (.tail _ (.tail _ (.head _)))
    have K9 := Lib.hid (Want.start w9 g.z)
    have E10 := Lib.hid (E9.out.alloc (.cells #[.int .i64 g.z, .slice none 0 0] 24))
    have z2 := E10.out.1.c1 (.tail _ (.tail _ (.head _)))
    go_wp2_with fail
    clear z0 z1 z2 E10
    generalize w9.alloc (.cells #[.int .i64 g.z, .slice none 0 0] 24) = w10 at *
    obtain ⟨x11, hx11⟩ : ∃ x, w9.heap.size = x := ⟨_, rfl⟩
    rw [hx11] at K9 ⊢
    clear hx11
    go_loopg [55] g.n (fun gg s55 wr => ∃ (i : Nat) (k : GV), i + gg = g.n ∧ s55 = .int .i64 i ∧ Hid (k.z = g.z ∧ k.es = fil (fun p => decide (p.2.2 ≤ kd)) g.es i) ∧ Hid (Want w9 x11 k wr))
    case atStart => exact ⟨0, ⟨g.z, none, 0, 0, []⟩, by omega, rfl, ⟨rfl, rfl⟩, K9⟩
    case round =>
      clear K9
      obtain ⟨i, k, hig, rfl, HK, K9⟩ := hrel
      cases gk with
      | succ g2 =>
        have hlt : (i : Int) < (g.n : Int) := by omega
        have hin : i < g.n := by omega
        obtain ⟨p, hp⟩ : ∃ p, g.es[i]? = some p := ⟨g.es[i]'(by have := (E9.out.1.ok (.tail _ (.tail _ (.head _)))).len; omega), List.getElem?_eq_getElem _⟩
        have okr := (E9.out.on K9.out.below).1.ok (.tail _ (.tail _ (.head _)))
        obtain ⟨bl, ol, hgA, hbl, y0, y1, y2⟩ := ed_at okr.1 hp
        have HX := Lib.hid (Blk.new wr 35 #[.int .i64 p.1, .int .i64 p.2.1, .int .i64 p.2.2])
        have K10 := Lib.hid (K9.out.alloc (.cells #[.int .i64 p.1, .int .i64 p.2.1, .int .i64 p.2.2] 35))
        have EK := Lib.hid ((E9.out.on K9.out.below).alloc (.cells #[.int .i64 p.1, .int .i64 p.2.1, .int .i64 p.2.2] 35))
        have HIG2 : Hid (i + 1 + g2 = g.n) := by show _ = _; omega
        have hw1 : IntKind.i64.wrap ((i : Int) + 1) = ((i + 1 : Nat) : Int) := by rw [IntKind.wrap_i64]; omega
        have hkn : k.n ≤ 80 := by
          have h1 := K9.out.len
          rw [HK.out.2] at h1
          unfold fil at h1
          have h2 := List.length_filter_le (fun p : Ed => decide (p.2.2 ≤ kd)) (g.es.take i)
          rw [List.length_take] at h2
          omega
        have HP := Lib.hid hp
        have HGA := Lib.hid hgA
        have HW1 := Lib.hid hw1
        clear hp okr hig hw1
        rw [hgA]
        clear hgA
        go_upto_region 13 with fail
        clear y0 y1 y2 K9
        generalize wr.alloc (.cells #[.int .i64 p.1, .int .i64 p.2.1, .int .i64 p.2.2] 35) = wx at *
        generalize wr.heap.size = X at *
        have y0 : wx.cell? ⟨X, 0, none⟩ = some (.int .i64 p.1) := HX.out.cell 0
        have y1 : wx.cell? ⟨X, 1, none⟩ = some (.int .i64 p.2.1) := HX.out.cell 1
        have y2 : wx.cell? ⟨X, 2, none⟩ = some (.int .i64 p.2.2) := HX.out.cell 2
        have y3 : wx.cell? ⟨w.heap.size + 1, 0, none⟩ = some (.int .i64 kd) := EK.out.2.cell 0
        have y4 : wx.cell? ⟨x11, 1, none⟩ = some (.slice k.A k.n k.c) := K10.out.blk.cell 1
        cases hq : decide (p.2.2 ≤ kd)
        · have HNX := Lib.hid (fil_skip (q := fun p : Ed => decide (p.2.2 ≤ kd)) HP.out hq)
          have hw1 := HW1.out
          go_wp2_with fail
          rw [← HGA.out]
          go_roundg g2
          case measure => omega
          case rel => exact ⟨i + 1, k, HIG2.out, rfl, ⟨HK.out.1, by rw [HNX.out]; exact HK.out.2⟩, K10⟩
        · have HNX := Lib.hid (fil_keep (q := fun p : Ed => decide (p.2.2 ≤ kd)) HP.out hq)
          have hw1 := HW1.out
          go_wp2_with (at_builtin; refine wpList_append_own_at _ rfl _ _ 22 rfl w9.heap.size 35 i0 _ 3 24 Try.underlying22 hi hz0 hz1 hz2 rfl (by decide) (.slice k.A k.n k.c) k.n _ rfl (K10.out.own.alloc _) ⟨wx.heap.size, 0, none⟩ 1 1 (edCells p) rfl rfl (ed_new _ _ _) (edCells_one _) (by unfold maxLen; omega) (by omega) (by have := K10.out.below.size; simp; omega) ?_; intro v5 w5 hown5 hgrow5 _ _; obtain ⟨A5, c5, rfl, h51, h52⟩ := own_form2 hown5; rw [← cellsE_snoc] at hown5; have hM := Want.more K10.out hgrow5 hown5 h51 h52; have a0 := hM.1.cell 1; have f0 := hM.1.frozen 1; have HE := Lib.hid hM.2; clear hown5 hgrow5 hM y0 y1 y2 y3 y4)
          rw [← HGA.out]
          go_roundg g2
          case measure => omega
          case rel => exact ⟨i + 1, ⟨k.z, A5, k.n + 1, c5, k.es ++ [p]⟩, HIG2.out, rfl, ⟨HK.out.1, by show k.es ++ [p] = _; rw [HNX.out, HK.out.2]⟩, HE⟩
      | zero =>
        obtain rfl : i = g.n := by omega
        have hlt : ¬ (g.n : Int) < (g.n : Int) := by omega
        have HN : Hid (ga.n ≤ 80 ∧ gb.n ≤ 80 ∧ g.n ≤ 80) := by
          have h1 := (E9.out.1.ok (.tail _ (.head _))).len
          have h2 := (E9.out.1.ok (.head _)).len
          have h3 := (E9.out.1.ok (.tail _ (.tail _ (.head _)))).len
          rw [HA.out.2, back_len HIG.out] at h1
          rw [HB.out.2] at h2
          have h4 := List.length_filter_le (fun p : Ed => decide (p.2.2 ≤ kd)) g.es
          refine ⟨?_, ?_, hgn⟩ <;> omega
        have HKE : Hid (k.es = g.es.filter fun p => decide (p.2.2 ≤ kd)) := by
          show _ = _
          rw [HK.out.2, fil_all (by rw [(E9.out.1.ok (.tail _ (.tail _ (.head _)))).len]; omega)]
        have E11 := Lib.hid (K9.out.env E9.out)
        have Q11 := Lib.hid (Q9.out.on K9.out.below)
        have HSB : Hid (∀ (r : GV) W, r.z = gx.z → r.es = ofE ((gx.es.take 80).map flipE) → ga.ok W → r.ok W → Calls Try.prog 17 #[.agg #[.int .i64 ga.z, .slice ga.A ga.n ga.c], .agg #[.int .i64 r.z, .slice r.A r.n r.c]] W fun e w' => e = .returned (.bool true) ∧ Below W.heap.size W w') := by
          intro r W h1 h2 h3 h4
          have := rsame_any ga.z r.z ga.A r.A ga.n ga.c r.n r.c ga.es r.es (by have := HN.out; omega) W h3.1 h4.1
          rwa [decide_eq_true ⟨by rw [HA.out.1, HG.out.1, h1], by rw [HA.out.2, h2, ← HG.out.2, ofE_eq HIG.out.flip_ok]; rfl⟩] at this
        have HSK : Hid (∀ W, gb.ok W → k.ok W → Calls Try.prog 17 #[.agg #[.int .i64 gb.z, .slice gb.A gb.n gb.c], .agg #[.int .i64 k.z, .slice k.A k.n k.c]] W fun e w' => e = .returned (.bool true) ∧ Below W.heap.size W w') := by
          intro W h3 h4
          have := rsame_any gb.z k.z gb.A k.A gb.n gb.c k.n k.c gb.es k.es (by have := HN.out; omega) W h3.1 h4.1
          rwa [decide_eq_true ⟨by rw [HB.out.1, HK.out.1], by rw [HB.out.2, HKE.out]⟩] at this
        have HSF : Hid (∀ (f : GV) W, f.z = gx.z → f.es = gx.es.take 80 → g.ok W → f.ok W → Calls Try.prog 17 #[.agg #[.int .i64 g.z, .slice g.A g.n g.c], .agg #[.int .i64 f.z, .slice f.A f.n f.c]] W fun e w' => e = .returned (.bool true) ∧ Below W.heap.size W w') := by
          intro f W h1 h2 h3 h4
          have := rsame_any g.z f.z g.A f.A g.n g.c f.n f.c g.es f.es (by have := HN.out; omega) W h3.1 h4.1
          rwa [decide_eq_true ⟨HG.out.1.trans h1.symm, HG.out.2.trans h2.symm⟩] at this
        have HEQ : Hid (∀ W, Ask (b6 + 1) Aa g.n ca g.es W → g.ok W → Calls Try.prog 18 #[.slice Aa g.n ca, .slice g.A g.n g.c] W fun e w' => e = .returned (.bool true) ∧ Below W.heap.size W w') := by
          intro W h1 h2
          have := equal_any Aa g.A g.n g.n ca g.c g.es g.es (by have := HN.out; omega) W h1.2 h2.1
          rwa [decide_eq_true rfl] at this
        clear K9 E9 Q9 HK HKE HA HB HIG hig hgn hi hz0 hz1 hz2
        go_wp2_with fail
        have J0 := Lib.hid E11.out.drew
        have Q0 := Lib.hid (Q11.out.on (Below.refl wr.heap.size wr).drew)
        clear E11 Q11
        refine wp_region_noPanic ?_
        refine wp_region_held_drew (S := fun w' => w'.cell? ⟨x11, 0, none⟩ = some (.int .i64 k.z) ∧ w'.cell? ⟨x11, 1, none⟩ = some (.slice k.A k.n k.c) ∧ w'.cell? ⟨b9, 0, none⟩ = some (.int .i64 gb.z) ∧ w'.cell? ⟨b9, 1, none⟩ = some (.slice gb.A gb.n gb.c) ∧ w'.cell? ⟨b6, 0, none⟩ = some (.int .i64 ga.z) ∧ w'.cell? ⟨b6, 1, none⟩ = some (.slice ga.A ga.n ga.c) ∧ w'.cell? ⟨b5, 0, none⟩ = some (.int .i64 g.z) ∧ w'.cell? ⟨b5, 1, none⟩ = some (.slice g.A g.n g.c) ∧ w'.cell? ⟨w.heap.size, 0, none⟩ = some (.int .i64 gx.z) ∧ w'.cell? ⟨w.heap.size, 1, none⟩ = some (.slice gx.A gx.n gx.c) ∧ w'.cell? ⟨b6 + 1, 0, none⟩ = some (.slice Aa g.n ca)) (by kernel_rfl) ⟨J0.out.1.c0 (.head _), J0.out.1.c1 (.head _), J0.out.1.c0 (.tail _ (.head _)), J0.out.1.c1 (.tail _ (.head _)), J0.out.1.c0 (.tail _ (.tail _ (.head _))), J0.out.1.c1 (.tail _ (.tail _ (.head _))), J0.out.1.c0 (.tail _ (.tail _ (.tail _ (.head _)))), J0.out.1.c1 (.tail _ (.tail _ (.tail _ (.head _)))), J0.out.1.c0 (.tail _ (.tail _ (.tail _ (.tail _ (.head _))))), J0.out.1.c1 (.tail _ (.tail _ (.tail _ (.tail _ (.head _))))), Q0.out.1.cell 0⟩ (fun hHeld => ?_)
        refine wpAnyH_take (i := 0) (oi := { dst := some 70, op := Op.move (Operand.tmp 7), type := 28, pos := "law.go:130", after := #[], guard := none }) (v := .int .i64 0) rfl (by kernel_rfl) (by kernel_rfl) (by kernel_rfl) (fun _ _ _ h => h) (Or.inl ⟨by kernel_rfl, fun w' hSw => by (try dsimp only at hSw); go_simp⟩) (by assumption) ?_
        try simp only [Act.put, List.setIfInBounds_toArray, List.set_cons_zero, List.set_cons_succ]
        refine wpAnyH_take (i := 1) (oi := { dst := some 71, op := Op.binOp BinOp.eql 28 (Operand.tmp 70) (Operand.const (Value.int IntKind.i64 0)) 28, type := 4, pos := "law.go:130", after := #[{ on := 0, ground := Ground.data }], guard := none }) (v := .bool true) rfl (by kernel_rfl) (by kernel_rfl) (by kernel_rfl) (fun _ _ _ h => h) (Or.inl ⟨by kernel_rfl, fun w' hSw => by (try dsimp only at hSw); go_simp⟩) (by assumption) ?_
        try simp only [Act.put, List.setIfInBounds_toArray, List.set_cons_zero, List.set_cons_succ]
        refine wpAnyH_take (i := 2) (oi := { dst := some 72, op := Op.move (Operand.tmp 71), type := 4, pos := "law.go:130", after := #[{ on := 1, ground := Ground.data }], guard := none }) (v := .bool true) rfl (by kernel_rfl) (by kernel_rfl) (by kernel_rfl) (fun _ _ _ h => h) (Or.inl ⟨by kernel_rfl, fun w' hSw => by (try dsimp only at hSw); go_simp⟩) (by assumption) ?_
        try simp only [Act.put, List.setIfInBounds_toArray, List.set_cons_zero, List.set_cons_succ]
        refine wpAnyH_take (i := 3) (oi := { dst := some 73, op := Op.move (Operand.tmp 10), type := 28, pos := "law.go:130", after := #[{ on := 2, ground := Ground.guard }], guard := some (2, true) }) (v := .int .i64 0) rfl (by kernel_rfl) (by kernel_rfl) (by kernel_rfl) (fun _ _ _ h => h) (Or.inl ⟨by kernel_rfl, fun w' hSw => by (try dsimp only at hSw); go_simp⟩) (by assumption) ?_
        try simp only [Act.put, List.setIfInBounds_toArray, List.set_cons_zero, List.set_cons_succ]
        refine wpAnyH_take (i := 4) (oi := { dst := some 74, op := Op.binOp BinOp.eql 28 (Operand.tmp 73) (Operand.const (Value.int IntKind.i64 0)) 28, type := 4, pos := "law.go:130", after := #[{ on := 3, ground := Ground.data }, { on := 2, ground := Ground.guard }], guard := some (2, true) }) (v := .bool true) rfl (by kernel_rfl) (by kernel_rfl) (by kernel_rfl) (fun _ _ _ h => h) (Or.inl ⟨by kernel_rfl, fun w' hSw => by (try dsimp only at hSw); go_simp⟩) (by assumption) ?_
        try simp only [Act.put, List.setIfInBounds_toArray, List.set_cons_zero, List.set_cons_succ]
        refine wpAnyH_take (i := 5) (oi := { dst := some 75, op := Op.pick (Operand.tmp 72) (Operand.tmp 74) (Operand.const (Value.bool false)), type := 4, pos := "law.go:130", after := #[{ on := 2, ground := Ground.data }, { on := 4, ground := Ground.data }], guard := none }) (v := .bool true) rfl (by kernel_rfl) (by kernel_rfl) (by kernel_rfl) (fun _ _ _ h => h) (Or.inl ⟨by kernel_rfl, fun w' hSw => by (try dsimp only at hSw); go_simp⟩) (by assumption) ?_
        try simp only [Act.put, List.setIfInBounds_toArray, List.set_cons_zero, List.set_cons_succ]
        refine wpAnyH_take (i := 6) (oi := { dst := some 76, op := Op.move (Operand.tmp 75), type := 4, pos := "law.go:130", after := #[{ on := 5, ground := Ground.data }, { on := 2, ground := Ground.chain }], guard := none }) (v := .bool true) rfl (by kernel_rfl) (by kernel_rfl) (by kernel_rfl) (fun _ _ _ h => h) (Or.inl ⟨by kernel_rfl, fun w' hSw => by (try dsimp only at hSw); go_simp⟩) (by assumption) ?_
        try simp only [Act.put, List.setIfInBounds_toArray, List.set_cons_zero, List.set_cons_succ]
        refine wpAnyH_take (i := 7) (oi := { dst := some 77, op := Op.load 24 (Operand.tmp 6), type := 24, pos := "law.go:130", after := #[{ on := 6, ground := Ground.guard }], guard := some (6, true) }) (v := .agg #[.int .i64 ga.z, .slice ga.A ga.n ga.c]) rfl (by kernel_rfl) (by kernel_rfl) (by kernel_rfl) (fun _ _ _ h => h) (Or.inl ⟨by kernel_rfl, fun w' hSw => by (try dsimp only at hSw); go_simp⟩) (by assumption) ?_
        try simp only [Act.put, List.setIfInBounds_toArray, List.set_cons_zero, List.set_cons_succ]
        refine wpAnyH_take (i := 8) (oi := { dst := some 78, op := Op.load 24 (Operand.tmp 2), type := 24, pos := "law.go:130", after := #[{ on := 6, ground := Ground.guard }], guard := some (6, true) }) (v := .agg #[.int .i64 gx.z, .slice gx.A gx.n gx.c]) rfl (by kernel_rfl) (by kernel_rfl) (by kernel_rfl) (fun _ _ _ h => h) (Or.inl ⟨by kernel_rfl, fun w' hSw => by (try dsimp only at hSw); go_simp⟩) (by assumption) ?_
        try simp only [Act.put, List.setIfInBounds_toArray, List.set_cons_zero, List.set_cons_succ]
        refine wpAnyH_ready (rs := [9]) (by kernel_rfl) (by simp) ?_
        refine AllReadyH.cons (o := { dst := some 79, op := Op.call { callee := Callee.value (Operand.func 10), args := #[Operand.tmp 78], argTypes := #[24] }, type := 24, pos := "law.go:130", after := #[{ on := 8, ground := Ground.data }, { on := 6, ground := Ground.chain }, { on := 6, ground := Ground.guard }], guard := some (6, true) }) rfl (fun K hK => ?_) AllReadyH.nil
        go_simp
        refine (fair_any gx.z gx.A gx.n gx.c gx.es (J0.out.1.ok (.tail _ (.tail _ (.tail _ (.tail _ (.head _)))))).2.2.2 (J0.out.1.ok (.tail _ (.tail _ (.tail _ (.tail _ (.head _)))))).2.1 (J0.out.1.ok (.tail _ (.tail _ (.tail _ (.tail _ (.head _)))))).2.2.1 _ (J0.out.1.ok (.tail _ (.tail _ (.tail _ (.tail _ (.head _)))))).1).mono ?_
        rintro e u1 hx
        obtain ⟨gf, rfl, hz, he, okf, b⟩ := gis_gv hx
        have J1 := Lib.hid (J0.out.on b)
        have Q1 := Lib.hid (Q0.out.on b)
        have F1 := Lib.hid okf
        have HF := Lib.hid (And.intro hz he)
        clear b hHeld hx hz he okf J0 Q0 
        refine hK.out _ _ ⟨J1.out.1.c0 (.head _), J1.out.1.c1 (.head _), J1.out.1.c0 (.tail _ (.head _)), J1.out.1.c1 (.tail _ (.head _)), J1.out.1.c0 (.tail _ (.tail _ (.head _))), J1.out.1.c1 (.tail _ (.tail _ (.head _))), J1.out.1.c0 (.tail _ (.tail _ (.tail _ (.head _)))), J1.out.1.c1 (.tail _ (.tail _ (.tail _ (.head _)))), J1.out.1.c0 (.tail _ (.tail _ (.tail _ (.tail _ (.head _))))), J1.out.1.c1 (.tail _ (.tail _ (.tail _ (.tail _ (.head _))))), Q1.out.1.cell 0⟩ (fun hHeld => ?_)
        clear hK K
        try simp only [Act.put, List.setIfInBounds_toArray, List.set_cons_zero, List.set_cons_succ]
        refine wpAnyH_ready (rs := [10]) (by kernel_rfl) (by simp) ?_
        refine AllReadyH.cons (o := { dst := some 80, op := Op.call { callee := Callee.value (Operand.func 32), args := #[Operand.tmp 79], argTypes := #[24] }, type := 24, pos := "law.go:130", after := #[{ on := 9, ground := Ground.data }, { on := 9, ground := Ground.chain }, { on := 6, ground := Ground.guard }], guard := some (6, true) }) rfl (fun K hK => ?_) AllReadyH.nil
        go_simp
        have hfn : gf.n ≤ 500 := by have h1 := F1.out.len; have h2 := take_len gx.es; rw [← HF.out.2] at h2; omega
        refine (rrev_any gf.z gf.A gf.n gf.c gf.es hfn _ F1.out.1).mono ?_
        rintro e u2 hx
        obtain ⟨gr, rfl, hz, he, okr, b⟩ := gis_gv hx
        have J2 := Lib.hid (J1.out.on b)
        have Q2 := Lib.hid (Q1.out.on b)
        have R2 := Lib.hid okr
        have HR : Hid (gr.z = gx.z ∧ gr.es = ofE ((gx.es.take 80).map flipE)) := ⟨hz.trans HF.out.1, by rw [he, HF.out.2]⟩
        clear b hHeld hx hz he okr hfn F1 HF J1 Q1 
        refine hK.out _ _ ⟨J2.out.1.c0 (.head _), J2.out.1.c1 (.head _), J2.out.1.c0 (.tail _ (.head _)), J2.out.1.c1 (.tail _ (.head _)), J2.out.1.c0 (.tail _ (.tail _ (.head _))), J2.out.1.c1 (.tail _ (.tail _ (.head _))), J2.out.1.c0 (.tail _ (.tail _ (.tail _ (.head _)))), J2.out.1.c1 (.tail _ (.tail _ (.tail _ (.head _)))), J2.out.1.c0 (.tail _ (.tail _ (.tail _ (.tail _ (.head _))))), J2.out.1.c1 (.tail _ (.tail _ (.tail _ (.tail _ (.head _))))), Q2.out.1.cell 0⟩ (fun hHeld => ?_)
        clear hK K
        try simp only [Act.put, List.setIfInBounds_toArray, List.set_cons_zero, List.set_cons_succ]
        refine wpAnyH_ready (rs := [11]) (by kernel_rfl) (by simp) ?_
        refine AllReadyH.cons (o := { dst := some 81, op := Op.call { callee := Callee.value (Operand.func 17), args := #[Operand.tmp 77, Operand.tmp 80], argTypes := #[24, 24] }, type := 4, pos := "law.go:130", after := #[{ on := 7, ground := Ground.data }, { on := 10, ground := Ground.data }, { on := 10, ground := Ground.chain }, { on := 6, ground := Ground.guard }], guard := some (6, true) }) rfl (fun K hK => ?_) AllReadyH.nil
        go_simp
        refine (HSB.out gr _ HR.out.1 HR.out.2 (J2.out.1.ok (.tail _ (.tail _ (.head _)))) R2.out).mono ?_
        rintro e u3 ⟨rfl, b⟩
        have J3 := Lib.hid (J2.out.on b)
        have Q3 := Lib.hid (Q2.out.on b)
        clear b hHeld  J2 Q2 R2
        refine hK.out _ _ ⟨J3.out.1.c0 (.head _), J3.out.1.c1 (.head _), J3.out.1.c0 (.tail _ (.head _)), J3.out.1.c1 (.tail _ (.head _)), J3.out.1.c0 (.tail _ (.tail _ (.head _))), J3.out.1.c1 (.tail _ (.tail _ (.head _))), J3.out.1.c0 (.tail _ (.tail _ (.tail _ (.head _)))), J3.out.1.c1 (.tail _ (.tail _ (.tail _ (.head _)))), J3.out.1.c0 (.tail _ (.tail _ (.tail _ (.tail _ (.head _))))), J3.out.1.c1 (.tail _ (.tail _ (.tail _ (.tail _ (.head _))))), Q3.out.1.cell 0⟩ (fun hHeld => ?_)
        clear hK K
        try simp only [Act.put, List.setIfInBounds_toArray, List.set_cons_zero, List.set_cons_succ]
        refine wpAnyH_take (i := 12) (oi := { dst := some 82, op := Op.pick (Operand.tmp 76) (Operand.tmp 81) (Operand.const (Value.bool false)), type := 4, pos := "law.go:130", after := #[{ on := 6, ground := Ground.data }, { on := 11, ground := Ground.data }], guard := none }) (v := .bool true) rfl (by kernel_rfl) (by kernel_rfl) (by kernel_rfl) (fun _ _ _ h => h) (Or.inl ⟨by kernel_rfl, fun w' hSw => by (try dsimp only at hSw); go_simp⟩) (by assumption) ?_
        try simp only [Act.put, List.setIfInBounds_toArray, List.set_cons_zero, List.set_cons_succ]
        refine wpAnyH_take (i := 13) (oi := { dst := some 83, op := Op.move (Operand.tmp 82), type := 4, pos := "law.go:130", after := #[{ on := 12, ground := Ground.data }, { on := 11, ground := Ground.chain }], guard := none }) (v := .bool true) rfl (by kernel_rfl) (by kernel_rfl) (by kernel_rfl) (fun _ _ _ h => h) (Or.inl ⟨by kernel_rfl, fun w' hSw => by (try dsimp only at hSw); go_simp⟩) (by assumption) ?_
        try simp only [Act.put, List.setIfInBounds_toArray, List.set_cons_zero, List.set_cons_succ]
        refine wpAnyH_take (i := 14) (oi := { dst := some 84, op := Op.load 24 (Operand.tmp 9), type := 24, pos := "law.go:130", after := #[{ on := 13, ground := Ground.guard }], guard := some (13, true) }) (v := .agg #[.int .i64 gb.z, .slice gb.A gb.n gb.c]) rfl (by kernel_rfl) (by kernel_rfl) (by kernel_rfl) (fun _ _ _ h => h) (Or.inl ⟨by kernel_rfl, fun w' hSw => by (try dsimp only at hSw); go_simp⟩) (by assumption) ?_
        try simp only [Act.put, List.setIfInBounds_toArray, List.set_cons_zero, List.set_cons_succ]
        refine wpAnyH_take (i := 15) (oi := { dst := some 85, op := Op.load 24 (Operand.tmp 11), type := 24, pos := "law.go:130", after := #[{ on := 13, ground := Ground.guard }], guard := some (13, true) }) (v := .agg #[.int .i64 k.z, .slice k.A k.n k.c]) rfl (by kernel_rfl) (by kernel_rfl) (by kernel_rfl) (fun _ _ _ h => h) (Or.inl ⟨by kernel_rfl, fun w' hSw => by (try dsimp only at hSw); go_simp⟩) (by assumption) ?_
        try simp only [Act.put, List.setIfInBounds_toArray, List.set_cons_zero, List.set_cons_succ]
        refine wpAnyH_ready (rs := [16]) (by kernel_rfl) (by simp) ?_
        refine AllReadyH.cons (o := { dst := some 86, op := Op.call { callee := Callee.value (Operand.func 17), args := #[Operand.tmp 84, Operand.tmp 85], argTypes := #[24, 24] }, type := 4, pos := "law.go:130", after := #[{ on := 14, ground := Ground.data }, { on := 15, ground := Ground.data }, { on := 13, ground := Ground.chain }, { on := 13, ground := Ground.guard }], guard := some (13, true) }) rfl (fun K hK => ?_) AllReadyH.nil
        go_simp
        refine (HSK.out _ (J3.out.1.ok (.tail _ (.head _))) (J3.out.1.ok (.head _))).mono ?_
        rintro e u4 ⟨rfl, b⟩
        have J4 := Lib.hid (J3.out.on b)
        have Q4 := Lib.hid (Q3.out.on b)
        clear b hHeld  J3 Q3 
        refine hK.out _ _ ⟨J4.out.1.c0 (.head _), J4.out.1.c1 (.head _), J4.out.1.c0 (.tail _ (.head _)), J4.out.1.c1 (.tail _ (.head _)), J4.out.1.c0 (.tail _ (.tail _ (.head _))), J4.out.1.c1 (.tail _ (.tail _ (.head _))), J4.out.1.c0 (.tail _ (.tail _ (.tail _ (.head _)))), J4.out.1.c1 (.tail _ (.tail _ (.tail _ (.head _)))), J4.out.1.c0 (.tail _ (.tail _ (.tail _ (.tail _ (.head _))))), J4.out.1.c1 (.tail _ (.tail _ (.tail _ (.tail _ (.head _))))), Q4.out.1.cell 0⟩ (fun hHeld => ?_)
        clear hK K
        try simp only [Act.put, List.setIfInBounds_toArray, List.set_cons_zero, List.set_cons_succ]
        refine wpAnyH_take (i := 17) (oi := { dst := some 87, op := Op.pick (Operand.tmp 83) (Operand.tmp 86) (Operand.const (Value.bool false)), type := 4, pos := "law.go:130", after := #[{ on := 13, ground := Ground.data }, { on := 16, ground := Ground.data }], guard := none }) (v := .bool true) rfl (by kernel_rfl) (by kernel_rfl) (by kernel_rfl) (fun _ _ _ h => h) (Or.inl ⟨by kernel_rfl, fun w' hSw => by (try dsimp only at hSw); go_simp⟩) (by assumption) ?_
        try simp only [Act.put, List.setIfInBounds_toArray, List.set_cons_zero, List.set_cons_succ]
        refine wpAnyH_take (i := 18) (oi := { dst := some 88, op := Op.move (Operand.tmp 87), type := 4, pos := "law.go:130", after := #[{ on := 17, ground := Ground.data }, { on := 16, ground := Ground.chain }], guard := none }) (v := .bool true) rfl (by kernel_rfl) (by kernel_rfl) (by kernel_rfl) (fun _ _ _ h => h) (Or.inl ⟨by kernel_rfl, fun w' hSw => by (try dsimp only at hSw); go_simp⟩) (by assumption) ?_
        try simp only [Act.put, List.setIfInBounds_toArray, List.set_cons_zero, List.set_cons_succ]
        refine wpAnyH_take (i := 19) (oi := { dst := some 89, op := Op.load 22 (Operand.tmp 8), type := 22, pos := "law.go:130", after := #[{ on := 18, ground := Ground.guard }], guard := some (18, true) }) (v := .slice Aa g.n ca) rfl (by kernel_rfl) (by kernel_rfl) (by kernel_rfl) (fun _ _ _ h => h) (Or.inl ⟨by kernel_rfl, fun w' hSw => by (try dsimp only at hSw); go_simp⟩) (by assumption) ?_
        try simp only [Act.put, List.setIfInBounds_toArray, List.set_cons_zero, List.set_cons_succ]
        refine wpAnyH_take (i := 20) (oi := { dst := some 90, op := Op.fieldAddr 24 (Operand.tmp 5) 1, type := 0, pos := "law.go:130", after := #[{ on := 18, ground := Ground.guard }], guard := some (18, true) }) (v := .pointer (some ⟨b5, 1, none⟩)) rfl (by kernel_rfl) (by kernel_rfl) (by kernel_rfl) (fun _ _ _ h => h) (Or.inl ⟨by kernel_rfl, fun w' hSw => by (try dsimp only at hSw); go_simp⟩) (by assumption) ?_
        try simp only [Act.put, List.setIfInBounds_toArray, List.set_cons_zero, List.set_cons_succ]
        refine wpAnyH_take (i := 21) (oi := { dst := some 91, op := Op.load 22 (Operand.tmp 90), type := 22, pos := "law.go:130", after := #[{ on := 20, ground := Ground.data }, { on := 18, ground := Ground.guard }], guard := some (18, true) }) (v := .slice g.A g.n g.c) rfl (by kernel_rfl) (by kernel_rfl) (by kernel_rfl) (fun _ _ _ h => h) (Or.inl ⟨by kernel_rfl, fun w' hSw => by (try dsimp only at hSw); go_simp⟩) (by assumption) ?_
        try simp only [Act.put, List.setIfInBounds_toArray, List.set_cons_zero, List.set_cons_succ]
        refine wpAnyH_ready (rs := [22]) (by kernel_rfl) (by simp) ?_
        refine AllReadyH.cons (o := { dst := some 92, op := Op.call { callee := Callee.value (Operand.func 18), args := #[Operand.tmp 89, Operand.tmp 91], argTypes := #[22, 22] }, type := 4, pos := "law.go:130", after := #[{ on := 19, ground := Ground.data }, { on := 21, ground := Ground.data }, { on := 18, ground := Ground.chain }, { on := 18, ground := Ground.guard }], guard := some (18, true) }) rfl (fun K hK => ?_) AllReadyH.nil
        go_simp
        refine (HEQ.out _ Q4.out (J4.out.1.ok (.tail _ (.tail _ (.tail _ (.head _)))))).mono ?_
        rintro e u5 ⟨rfl, b⟩
        have J5 := Lib.hid (J4.out.on b)
        have Q5 := Lib.hid (Q4.out.on b)
        clear b hHeld  J4 Q4 
        refine hK.out _ _ ⟨J5.out.1.c0 (.head _), J5.out.1.c1 (.head _), J5.out.1.c0 (.tail _ (.head _)), J5.out.1.c1 (.tail _ (.head _)), J5.out.1.c0 (.tail _ (.tail _ (.head _))), J5.out.1.c1 (.tail _ (.tail _ (.head _))), J5.out.1.c0 (.tail _ (.tail _ (.tail _ (.head _)))), J5.out.1.c1 (.tail _ (.tail _ (.tail _ (.head _)))), J5.out.1.c0 (.tail _ (.tail _ (.tail _ (.tail _ (.head _))))), J5.out.1.c1 (.tail _ (.tail _ (.tail _ (.tail _ (.head _))))), Q5.out.1.cell 0⟩ (fun hHeld => ?_)
        clear hK K
        try simp only [Act.put, List.setIfInBounds_toArray, List.set_cons_zero, List.set_cons_succ]
        refine wpAnyH_take (i := 23) (oi := { dst := some 93, op := Op.pick (Operand.tmp 88) (Operand.tmp 92) (Operand.const (Value.bool false)), type := 4, pos := "law.go:130", after := #[{ on := 18, ground := Ground.data }, { on := 22, ground := Ground.data }], guard := none }) (v := .bool true) rfl (by kernel_rfl) (by kernel_rfl) (by kernel_rfl) (fun _ _ _ h => h) (Or.inl ⟨by kernel_rfl, fun w' hSw => by (try dsimp only at hSw); go_simp⟩) (by assumption) ?_
        try simp only [Act.put, List.setIfInBounds_toArray, List.set_cons_zero, List.set_cons_succ]
        refine wpAnyH_take (i := 24) (oi := { dst := some 94, op := Op.move (Operand.tmp 93), type := 4, pos := "law.go:130", after := #[{ on := 23, ground := Ground.data }, { on := 22, ground := Ground.chain }], guard := none }) (v := .bool true) rfl (by kernel_rfl) (by kernel_rfl) (by kernel_rfl) (fun _ _ _ h => h) (Or.inl ⟨by kernel_rfl, fun w' hSw => by (try dsimp only at hSw); go_simp⟩) (by assumption) ?_
        try simp only [Act.put, List.setIfInBounds_toArray, List.set_cons_zero, List.set_cons_succ]
        refine wpAnyH_take (i := 25) (oi := { dst := some 95, op := Op.load 24 (Operand.tmp 5), type := 24, pos := "law.go:130", after := #[{ on := 24, ground := Ground.guard }], guard := some (24, true) }) (v := .agg #[.int .i64 g.z, .slice g.A g.n g.c]) rfl (by kernel_rfl) (by kernel_rfl) (by kernel_rfl) (fun _ _ _ h => h) (Or.inl ⟨by kernel_rfl, fun w' hSw => by (try dsimp only at hSw); go_simp⟩) (by assumption) ?_
        try simp only [Act.put, List.setIfInBounds_toArray, List.set_cons_zero, List.set_cons_succ]
        refine wpAnyH_take (i := 26) (oi := { dst := some 96, op := Op.load 24 (Operand.tmp 2), type := 24, pos := "law.go:130", after := #[{ on := 24, ground := Ground.guard }], guard := some (24, true) }) (v := .agg #[.int .i64 gx.z, .slice gx.A gx.n gx.c]) rfl (by kernel_rfl) (by kernel_rfl) (by kernel_rfl) (fun _ _ _ h => h) (Or.inl ⟨by kernel_rfl, fun w' hSw => by (try dsimp only at hSw); go_simp⟩) (by assumption) ?_
        try simp only [Act.put, List.setIfInBounds_toArray, List.set_cons_zero, List.set_cons_succ]
        refine wpAnyH_ready (rs := [27]) (by kernel_rfl) (by simp) ?_
        refine AllReadyH.cons (o := { dst := some 97, op := Op.call { callee := Callee.value (Operand.func 10), args := #[Operand.tmp 96], argTypes := #[24] }, type := 24, pos := "law.go:130", after := #[{ on := 26, ground := Ground.data }, { on := 24, ground := Ground.chain }, { on := 24, ground := Ground.guard }], guard := some (24, true) }) rfl (fun K hK => ?_) AllReadyH.nil
        go_simp
        refine (fair_any gx.z gx.A gx.n gx.c gx.es (J5.out.1.ok (.tail _ (.tail _ (.tail _ (.tail _ (.head _)))))).2.2.2 (J5.out.1.ok (.tail _ (.tail _ (.tail _ (.tail _ (.head _)))))).2.1 (J5.out.1.ok (.tail _ (.tail _ (.tail _ (.tail _ (.head _)))))).2.2.1 _ (J5.out.1.ok (.tail _ (.tail _ (.tail _ (.tail _ (.head _)))))).1).mono ?_
        rintro e u6 hx
        obtain ⟨gh, rfl, hz, he, okf, b⟩ := gis_gv hx
        have J6 := Lib.hid (J5.out.on b)
        have Q6 := Lib.hid (Q5.out.on b)
        have F6 := Lib.hid okf
        have HF := Lib.hid (And.intro hz he)
        clear b hHeld hx hz he okf J5 Q5 
        refine hK.out _ _ ⟨J6.out.1.c0 (.head _), J6.out.1.c1 (.head _), J6.out.1.c0 (.tail _ (.head _)), J6.out.1.c1 (.tail _ (.head _)), J6.out.1.c0 (.tail _ (.tail _ (.head _))), J6.out.1.c1 (.tail _ (.tail _ (.head _))), J6.out.1.c0 (.tail _ (.tail _ (.tail _ (.head _)))), J6.out.1.c1 (.tail _ (.tail _ (.tail _ (.head _)))), J6.out.1.c0 (.tail _ (.tail _ (.tail _ (.tail _ (.head _))))), J6.out.1.c1 (.tail _ (.tail _ (.tail _ (.tail _ (.head _))))), Q6.out.1.cell 0⟩ (fun hHeld => ?_)
        clear hK K
        try simp only [Act.put, List.setIfInBounds_toArray, List.set_cons_zero, List.set_cons_succ]
        refine wpAnyH_ready (rs := [28]) (by kernel_rfl) (by simp) ?_
        refine AllReadyH.cons (o := { dst := some 98, op := Op.call { callee := Callee.value (Operand.func 17), args := #[Operand.tmp 95, Operand.tmp 97], argTypes := #[24, 24] }, type := 4, pos := "law.go:130", after := #[{ on := 25, ground := Ground.data }, { on := 27, ground := Ground.data }, { on := 27, ground := Ground.chain }, { on := 24, ground := Ground.guard }], guard := some (24, true) }) rfl (fun K hK => ?_) AllReadyH.nil
        go_simp
        refine (HSF.out gh _ HF.out.1 HF.out.2 (J6.out.1.ok (.tail _ (.tail _ (.tail _ (.head _))))) F6.out).mono ?_
        rintro e u7 ⟨rfl, b⟩
        have J7 := Lib.hid (J6.out.on b)
        have Q7 := Lib.hid (Q6.out.on b)
        clear b hHeld  J6 Q6 F6
        refine hK.out _ _ ⟨J7.out.1.c0 (.head _), J7.out.1.c1 (.head _), J7.out.1.c0 (.tail _ (.head _)), J7.out.1.c1 (.tail _ (.head _)), J7.out.1.c0 (.tail _ (.tail _ (.head _))), J7.out.1.c1 (.tail _ (.tail _ (.head _))), J7.out.1.c0 (.tail _ (.tail _ (.tail _ (.head _)))), J7.out.1.c1 (.tail _ (.tail _ (.tail _ (.head _)))), J7.out.1.c0 (.tail _ (.tail _ (.tail _ (.tail _ (.head _))))), J7.out.1.c1 (.tail _ (.tail _ (.tail _ (.tail _ (.head _))))), Q7.out.1.cell 0⟩ (fun hHeld => ?_)
        clear hK K
        try simp only [Act.put, List.setIfInBounds_toArray, List.set_cons_zero, List.set_cons_succ]
        refine wpAnyH_take (i := 29) (oi := { dst := some 99, op := Op.pick (Operand.tmp 94) (Operand.tmp 98) (Operand.const (Value.bool false)), type := 4, pos := "law.go:130", after := #[{ on := 24, ground := Ground.data }, { on := 28, ground := Ground.data }], guard := none }) (v := .bool true) rfl (by kernel_rfl) (by kernel_rfl) (by kernel_rfl) (fun _ _ _ h => h) (Or.inl ⟨by kernel_rfl, fun w' hSw => by (try dsimp only at hSw); go_simp⟩) (by assumption) ?_
        try simp only [Act.put, List.setIfInBounds_toArray, List.set_cons_zero, List.set_cons_succ]
        refine wpAnyH_take (i := 30) (oi := { dst := some 4, op := Op.assign (Operand.tmp 99), type := 4, pos := "law.go:130", after := #[{ on := 29, ground := Ground.data }, { on := 28, ground := Ground.chain }, { on := 0, ground := Ground.phase }, { on := 1, ground := Ground.phase }, { on := 2, ground := Ground.phase }, { on := 3, ground := Ground.phase }, { on := 4, ground := Ground.phase }, { on := 5, ground := Ground.phase }, { on := 6, ground := Ground.phase }, { on := 7, ground := Ground.phase }, { on := 8, ground := Ground.phase }, { on := 9, ground := Ground.phase }, { on := 10, ground := Ground.phase }, { on := 11, ground := Ground.phase }, { on := 12, ground := Ground.phase }, { on := 13, ground := Ground.phase }, { on := 14, ground := Ground.phase }, { on := 15, ground := Ground.phase }, { on := 16, ground := Ground.phase }, { on := 17, ground := Ground.phase }, { on := 18, ground := Ground.phase }, { on := 19, ground := Ground.phase }, { on := 20, ground := Ground.phase }, { on := 21, ground := Ground.phase }, { on := 22, ground := Ground.phase }, { on := 23, ground := Ground.phase }, { on := 24, ground := Ground.phase }, { on := 25, ground := Ground.phase }, { on := 26, ground := Ground.phase }, { on := 27, ground := Ground.phase }, { on := 28, ground := Ground.phase }, { on := 29, ground := Ground.phase }], guard := none }) (v := .bool true) rfl (by kernel_rfl) (by kernel_rfl) (by kernel_rfl) (fun _ _ _ h => h) (Or.inl ⟨by kernel_rfl, fun w' hSw => by (try dsimp only at hSw); go_simp⟩) (by assumption) ?_
        try simp only [Act.put, List.setIfInBounds_toArray, List.set_cons_zero, List.set_cons_succ]
        refine wpAnyH_done (by kernel_rfl) ?_ _
        refine NoPanic.normal ?_
        clear hHeld
        go_wp2_with fail
        go_ret
        exact ⟨rfl, J7.out.1.below⟩
end Go.Proofs.Yticbgikbpafeoaa
