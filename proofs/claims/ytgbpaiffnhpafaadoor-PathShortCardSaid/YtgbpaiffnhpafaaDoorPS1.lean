/- PathShort: the walk. -/
import Derived.Test.YtgbpaiffnhpafaaDoorN1
-- holds: YtgbpaiffnhpafaaDoorPy
namespace Go.Proofs.YtgbpaiffnhpafaaDoor
open Go.RowKit Go.Shelf

set_option maxRecDepth 100000 in
set_option maxHeartbeats 2000000 in
theorem pshort_core (nodes : Int) (A : Option Addr) (n c : Nat) (zs : List Ed) (a b : Int) (hc : A = none → c = 0) (hnc : n ≤ c) (hcm : c ≤ 9223372036854775807) (w : World) (hT : Bit.Tab w) (hR : Reads w w.heap.size 3 A n (cellsE zs)) :
    Calls Tryd.prog 6 #[.agg #[.int .i64 nodes, .slice A n c], .int .i64 a, .int .i64 b] w fun e w' => e = .returned (.bool true) ∧ Below w.heap.size w w' := by
  have E0 := Lib.hid ((Env.start w).add (g := ⟨nodes, A, n, c, zs⟩) ⟨hR, hnc, hcm, hc⟩)
  obtain ⟨gx, hgx⟩ : ∃ gx : GV, (⟨nodes, A, n, c, zs⟩ : GV) = gx := ⟨_, rfl⟩
  have hz : nodes = gx.z := by rw [← hgx]
  have hA : A = gx.A := by rw [← hgx]
  have hn : n = gx.n := by rw [← hgx]
  have hcc : c = gx.c := by rw [← hgx]
  rw [hgx] at E0
  subst hz; subst hA; subst hn; subst hcc
  have HT := Lib.hid hT
  clear hR hc hnc hcm hgx hT
  go_enter Tryd.func6, Tryd.ntmps6
  go_wp2_with fail
  generalize w.alloc (.cells #[.int .i64 gx.z, .slice gx.A gx.n gx.c] 24) = W0 at *
  refine (wakes8_any _ (HT.out.on E0.out.below)).mono ?_
  rintro e w1 ⟨rfl, b⟩
  have E1 := Lib.hid (E0.out.on b)
  clear b E0
  have z0 := E1.out.c0 (.head _)
  have z1 := E1.out.c1 (.head _)
  go_wp2_with fail
  have ok1 := E1.out.ok (.head _)
  refine (own8_any gx.z gx.A gx.n gx.c gx.es ok1.2.2.2 ok1.2.1 ok1.2.2.1 w1 ok1.1).mono ?_
  clear ok1
  rintro e w2 hx
  obtain ⟨g, rfl, hz, he, okg, b⟩ := gis_gv hx
  have E3 := Lib.hid ((E1.out.on b).add okg)
  have HN : Hid (g.n ≤ 300) := by
    show _ ≤ _
    have h1 := okg.len
    rw [he, List.length_take] at h1
    omega
  have HL : Hid (g.es.length = g.n) := okg.len
  have HX : Hid (g.z = gx.z ∧ g.es = gx.es.take 300) := ⟨hz, he⟩
  clear hx hz he okg b E1 z0 z1
  have z0 := E3.out.c0 (.head _)
  have z1 := E3.out.c1 (.head _)
  have x0 := E3.out.c0 (.tail _ (.head _))
  have x1 := E3.out.c1 (.tail _ (.head _))
  go_wp2_with fail
  generalize w2.alloc (.cells #[.int .i64 g.z, .slice g.A g.n g.c] 24) = w3 at *
  generalize w2.heap.size = b3 at *
  refine (shortest8_at g _ (by have := HN.out; omega) (E3.out.ok (.head _)) a b).mono ?_
  rintro e w4 ⟨l1, k1, ⟨A1, c1, rfl, hr1, _, _, b4⟩, h1⟩
  have E4 := Lib.hid (E3.out.on b4)
  have K4 : Hid (KeptI [(A1, l1)] w4) := KeptI.add (L := []) (fun p hp => by cases hp) hr1
  have H1 := Lib.hid h1
  clear hr1 b4 h1 E3 z0 z1 x0 x1
  have z0 := E4.out.c0 (.head _)
  have z1 := E4.out.c1 (.head _)
  have x0 := E4.out.c0 (.tail _ (.head _))
  have x1 := E4.out.c1 (.tail _ (.head _))
  go_wp2_with fail
  refine (far8_at g _ (by have := HN.out; omega) (E4.out.ok (.head _)) a).mono ?_
  rintro e w5 ⟨l2, k2, ⟨A2, c2, rfl, hr2, _, _, b5⟩, h2⟩
  have E5 := Lib.hid (E4.out.on b5)
  have K5 := Lib.hid (KeptI.add (K4.out.on b5) hr2)
  clear hr2 b5 E4 K4 z0 z1 x0 x1
  have h1 := H1.out
  clear H1
  have H2 := Lib.hid h2
  clear h2
  rcases h1 with ⟨hr, rfl, rfl⟩ | ⟨hr, hv, rfl, rfl⟩ | ⟨hr, hv, hg, ⟨rfl, rfl⟩ | ⟨hne, rfl⟩⟩
  · skip
    have z0 := E5.out.c0 (.head _)
    have z1 := E5.out.c1 (.head _)
    have x0 := E5.out.c0 (.tail _ (.head _))
    have x1 := E5.out.c1 (.tail _ (.head _))
    have hck : checkG g.z g.es = 150 := by unfold checkG; rw [hr]; rfl
    have HC := Lib.hid (check_any g.z g.A g.n g.c g.es (by have := HN.out; omega) _ (E5.out.ok (.head _)).1)
    rw [hck] at HC
    clear hr hck K5 H2
    go_wp2_with fail
    refine HC.out.mono ?_
    rintro e w6 ⟨rfl, b⟩
    have E6 := Lib.hid (E5.out.on b)
    clear b E5 HC z0 z1 x0 x1
    go_wp2_with fail
    go_ret
    exact ⟨rfl, E6.out.below⟩
  · skip
    have z0 := E5.out.c0 (.head _)
    have z1 := E5.out.c1 (.head _)
    have x0 := E5.out.c0 (.tail _ (.head _))
    have x1 := E5.out.c1 (.tail _ (.head _))
    have hck : checkG g.z g.es = 0 := by unfold checkG; rw [hr]; rfl
    have HC := Lib.hid (check_any g.z g.A g.n g.c g.es (by have := HN.out; omega) _ (E5.out.ok (.head _)).1)
    rw [hck] at HC
    clear hr hck K5 H2 hv
    go_wp2_with fail
    refine HC.out.mono ?_
    rintro e w6 ⟨rfl, b⟩
    have E6 := Lib.hid (E5.out.on b)
    clear b E5 HC z0 z1 x0 x1
    go_wp2_with fail
    go_ret
    exact ⟨rfl, E6.out.below⟩
  · skip
    obtain ⟨hva, hvb⟩ : nodeB g.z a = true ∧ nodeB g.z b = true := by simpa using hv
    obtain ⟨rfl, hfar, hne2⟩ : k2 = 0 ∧ FarL (EdR g.es) g.z.toNat a l2 ∧ l2 ≠ [] := by
      rcases H2.out with ⟨h, _⟩ | ⟨_, h, _⟩ | ⟨_, _, h, ⟨h3, _⟩ | ⟨h3, h4⟩⟩
      · rw [hr] at h; cases h
      · rw [hva] at h; cases h
      · obtain ⟨m, h5, h6, _⟩ := right_nat hr
        obtain ⟨a', _, _⟩ := nodeB_nat hva
        have := h.len
        rw [h3] at this
        simp at this
        omega
      · exact ⟨h4, h, h3⟩
    obtain ⟨m, hm1, hm2, hm3, hG⟩ := right_nat hr
    rw [hm2] at hfar
    obtain ⟨bn, rfl, hbz⟩ := nodeB_nat hvb
    obtain ⟨an, rfl, haz⟩ := nodeB_nat hva
    have hbm : bn < m := by omega
    obtain ⟨db, hdb, hfb⟩ := hfar.get hbm
    obtain ⟨gb, ob, rfl, _, f0⟩ := row_at (K5.out _ (.head _)) hdb
    have hlm : l2.length = m := hfar.len
    have hb1 : (bn : Int) < (m : Int) := by omega
    have hb2 : (bn : Int) < (l2.length : Int) := by omega
    obtain rfl : db = -1 := by
      rcases hg with ⟨h, _⟩ | ⟨_, h⟩
      · exact absurd rfl h
      · rcases hfb with ⟨h3, _⟩ | ⟨⟨r, h3, _⟩, _⟩
        · exact h3
        · exact absurd h3 (h r)
    clear H2 hfar hfb hdb hg hG
    have z0 := E5.out.c0 (.head _)
    have z1 := E5.out.c1 (.head _)
    have x0 := E5.out.c0 (.tail _ (.head _))
    have x1 := E5.out.c1 (.tail _ (.head _))
    go_wp2_with fail
    go_ret
    exact ⟨rfl, E5.out.below⟩
  · skip
    obtain ⟨hva, hvb⟩ : nodeB g.z a = true ∧ nodeB g.z b = true := by simpa using hv
    obtain ⟨rfl, hfar, hne2⟩ : k2 = 0 ∧ FarL (EdR g.es) g.z.toNat a l2 ∧ l2 ≠ [] := by
      rcases H2.out with ⟨h, _⟩ | ⟨_, h, _⟩ | ⟨_, _, h, ⟨h3, _⟩ | ⟨h3, h4⟩⟩
      · rw [hr] at h; cases h
      · rw [hva] at h; cases h
      · obtain ⟨m, h5, h6, _⟩ := right_nat hr
        obtain ⟨a', _, _⟩ := nodeB_nat hva
        have := h.len
        rw [h3] at this
        simp at this
        omega
      · exact ⟨h4, h, h3⟩
    obtain ⟨m, hm1, hm2, hm3, hG⟩ := right_nat hr
    rw [hm2] at hfar
    obtain ⟨bn, rfl, hbz⟩ := nodeB_nat hvb
    obtain ⟨an, rfl, haz⟩ := nodeB_nat hva
    have hbm : bn < m := by omega
    obtain ⟨db, hdb, hfb⟩ := hfar.get hbm
    obtain ⟨gb, ob, rfl, _, f0⟩ := row_at (K5.out _ (.head _)) hdb
    have hlm : l2.length = m := hfar.len
    have hb1 : (bn : Int) < (m : Int) := by omega
    have hb2 : (bn : Int) < (l2.length : Int) := by omega
    have hlw : LW (EdR g.es) (an : Int) l1 (bn : Int) := by
      rcases hg with ⟨_, h⟩ | ⟨h, _⟩
      · exact h
      · exact absurd h hne
    have HFAR := Lib.hid hfar
    have HLW := Lib.hid hlw
    have HGG := Lib.hid hG
    have HM : Hid (an < m ∧ bn < m) := ⟨by omega, hbm⟩
    have hpos : 0 < l1.length := hlw.1.pos
    have hfew : l1.length ≤ m := nodes_few hlw.nodup (hlw.1.nodes (EdR.in_ hG.all) ⟨by omega, by omega⟩)
    have hhead : l1[0]? = some (an : Int) := by have := hlw.1.head; rwa [List.head?_eq_getElem?] at this
    have hlast : l1[l1.length - 1]? = some (bn : Int) := by
      have h1 := hlw.1.end_
      unfold endO at h1
      rw [List.getLastD_eq_getLast?, List.getLast?_eq_getElem?] at h1
      rw [List.getElem?_eq_getElem (by omega)] at h1 ⊢
      rw [← h1]
      rfl
    obtain ⟨n0, hn0⟩ : ∃ n0, l1.length - 1 = n0 := ⟨_, rfl⟩
    have hdb1 : db = (n0 : Int) := by
      have h1 := hlw.far hlast
      have := hfb.one_ h1
      omega
    have hway : IsP g.es m l1 false := hlw.1.isW hG.all ⟨by omega, by omega⟩ hlw.nodup
    obtain ⟨n1, hn1⟩ : ∃ n1, l1.length = n1 := ⟨_, rfl⟩
    have HN1 := Lib.hid hn1
    obtain ⟨gw, ow, rfl, _, p0⟩ := row_at (K5.out _ (.tail _ (.head _))) hhead
    have p1 := row_cell (K5.out _ (.tail _ (.head _))) hlast
    have hIS : Hid (∀ W, g.ok W → Bit.Tab W → Reads W W.heap.size 1 (some ⟨gw, ow, none⟩) n1 (ints l1) → Calls Tryd.prog 24 #[.agg #[.int .i64 g.z, .slice g.A g.n g.c], .slice (some ⟨gw, ow, none⟩) n1 c1, .bool false] W fun e w' => e = .returned (.bool true) ∧ Below W.heap.size W w') := fun W ok ht hl => by
      refine (is8_any g _ n1 c1 l1 false (by have := HN.out; omega) (by omega) W ht ok hl).mono ?_
      rintro e w' ⟨b, rfl, h1, h2⟩
      obtain rfl : b = true := h2.2 ⟨hr, by rw [hm2]; exact hway⟩
      exact ⟨rfl, h1⟩
    rw [hn0] at p1
    rw [hn1] at hpos hfew hn0 ⊢
    have HCL : Hid (l1[0]? = some (an : Int) ∧ l1[n0]? = some (bn : Int) ∧ l2[bn]? = some db) := ⟨hhead, by rw [← hn0, ← hn1]; exact hlast, hdb⟩
    subst hdb1
    obtain ⟨n2, hn2⟩ : ∃ n2, l2.length = n2 := ⟨_, rfl⟩
    have HN2 := Lib.hid hn2
    rw [hn2] at hb2 hlm ⊢
    subst hlm
    have hw1 : IntKind.i64.wrap ((n1 : Int) - 1) = (n0 : Int) := by rw [IntKind.wrap_i64]; omega
    have hq1 : n0 < n1 := by omega
    have hq2 : n1 ≤ 300 := by omega
    have hq3 : bn < n2 := hbm
    have HRT := Lib.hid (And.intro hr (And.intro hm1 hm2))
    clear H2 hfar hfb hg hG hlw hway hne hne2 hhead hlast hv hva hvb haz hbz hm1 hm2 hm3 hr hb1 hbm hn1 hn2 hn0 hdb
    have z0 := E5.out.c0 (.head _)
    have z1 := E5.out.c1 (.head _)
    have x0 := E5.out.c0 (.tail _ (.head _))
    have x1 := E5.out.c1 (.tail _ (.head _))
    go_wp2_with fail
    refine (hIS.out _ (E5.out.ok (.head _)) (HT.out.on E5.out.below) (by rw [← HN1.out]; exact K5.out _ (.tail _ (.head _)))).mono ?_
    rintro e w6 ⟨rfl, b⟩
    have E6 := Lib.hid (E5.out.on b)
    have K6 := Lib.hid (K5.out.on b)
    clear b E5 K5 hIS z0 z1 x0 x1 f0 p0 p1
    have f0 := row_cell (K6.out _ (.head _)) HCL.out.2.2
    have p0 := row_cell (K6.out _ (.tail _ (.head _))) HCL.out.1
    rw [Nat.add_zero] at p0
    have p1 := row_cell (K6.out _ (.tail _ (.head _))) HCL.out.2.1
    go_wp2_with fail
    clear f0 p0 p1 HCL hw1 hq1 hq3 hb2 hpos
    have hn2 : n2 ≤ 300 := by obtain ⟨m, h1, h2, h3, _⟩ := right_nat HRT.out.1; have := HRT.out.2.2; omega
    go_loopg [100] n1 (fun gg s100 wr => ∃ i : Nat, s100 = .int .i64 i ∧ i + gg = n1 ∧ Hid (Env w [(b3, g), (w.heap.size, gx)] wr) ∧ Hid (KeptI [(some ⟨gb, ob, none⟩, l2), (some ⟨gw, ow, none⟩, l1)] wr))
    case atStart => exact ⟨0, rfl, by omega, E6, K6⟩
    case round =>
      clear E6 K6
      obtain ⟨i, rfl, hig, E6, K6⟩ := hrel
      have HIG := Lib.hid hig
      cases gk with
      | succ g2 =>
        have hlt : (i : Int) < (n1 : Int) := by omega
        obtain ⟨x, hx⟩ : ∃ x, l1[i]? = some x := ⟨_, List.getElem?_eq_getElem (by rw [HN1.out]; omega)⟩
        have p0 := row_cell (K6.out _ (.tail _ (.head _))) hx
        have hfx := HLW.out.far hx
        have hxn := HLW.out.1.nodes (EdR.in_ HGG.out.all) ⟨by omega, by have := HM.out.1; omega⟩ x (List.mem_of_getElem? hx)
        obtain ⟨xn, rfl⟩ : ∃ xn : Nat, x = (xn : Int) := ⟨x.toNat, by omega⟩
        obtain ⟨d, hd, hfd⟩ := HFAR.out.get (u := xn) (by omega)
        obtain rfl : d = (i : Int) := hfd.one_ hfx
        have f0 := row_cell (K6.out _ (.head _)) hd
        have hxb : xn < n2 := by omega
        have hxb2 : (xn : Int) < (n2 : Int) := by omega
        clear hig hx hfx hd hfd hxn
        go_wp2_with fail
        go_roundg g2
        case measure => omega
        case rel => exact ⟨i + 1, by go_num, by have := HIG.out; omega, E6, K6⟩
      | zero =>
        have hge : ¬ (i : Int) < (n1 : Int) := by omega
        have z1 := E6.out.c1 (.head _)
        clear hig
        go_wp2_with fail
        clear z1 hge HIG
        have hgn := HN.out
        go_loopg [115] g.n (fun gg s115 wi => ∃ j : Nat, s115 = .int .i64 j ∧ j + gg = g.n ∧ Hid (Env w [(b3, g), (w.heap.size, gx)] wi) ∧ Hid (KeptI [(some ⟨gb, ob, none⟩, l2), (some ⟨gw, ow, none⟩, l1)] wi))
        case atStart => exact ⟨0, rfl, by omega, E6, K6⟩
        case round =>
          clear E6 K6
          obtain ⟨j, rfl, hjg, E6, K6⟩ := hrel
          have HJG := Lib.hid hjg
          cases gk with
          | zero =>
            have hge : ¬ (j : Int) < (g.n : Int) := by omega
            clear hjg
            go_wp2_with fail
            go_ret
            exact ⟨rfl, E6.out.below⟩
          | succ g3 =>
            have hlt : (j : Int) < (g.n : Int) := by omega
            obtain ⟨p, hp⟩ : ∃ p, g.es[j]? = some p := ⟨_, List.getElem?_eq_getElem (by rw [HL.out]; omega)⟩
            have hpe := of_decide_eq_true (HGG.out.all p (List.mem_of_getElem? hp))
            obtain ⟨gA, gn, gc, hA9⟩ : ∃ gA gn gc, g.A = gA ∧ g.n = gn ∧ g.c = gc := ⟨_, _, _, rfl, rfl, rfl⟩
            obtain ⟨be, oe, hAe, hbb, c0, c1, c2⟩ := ed_at (E6.out.ok (.head _)).1 hp
            obtain ⟨xn, hxn⟩ : ∃ xn : Nat, p.1 = (xn : Int) := ⟨p.1.toNat, by omega⟩
            obtain ⟨yn, hyn⟩ : ∃ yn : Nat, p.2.1 = (yn : Int) := ⟨p.2.1.toNat, by omega⟩
            obtain ⟨d, hd, hfd⟩ := HFAR.out.get (u := xn) (by omega)
            obtain ⟨e, he, hfe⟩ := HFAR.out.get (u := yn) (by omega)
            have hedge : EdR g.es (xn : Int) (yn : Int) := ⟨p, List.mem_of_getElem? hp, hxn, hyn⟩
            have hde : 0 ≤ d → 0 ≤ e ∧ e ≤ d + 1 := fun h => FarL.edge hfd hfe hedge h
            have hd300 : d ≤ 300 := by
              by_cases h : d < 0
              · omega
              · obtain ⟨s, h1, _⟩ := hfd.way (by omega)
                obtain ⟨q, h3, h4⟩ := h1.few (EdR.in_ HGG.out.all) ⟨by omega, by have := HM.out.1; omega⟩
                have := hfd.le h3
                omega
            have hdm := hfd.ge
            have bn9 : Below wr.heap.size wr (wr.alloc (.cells #[.int .i64 p.1, .int .i64 p.2.1, .int .i64 p.2.2] 53)) := (Below.refl _ _).alloc (Nat.le_refl _) _
            have KY := Lib.hid (Blk.new wr 53 #[.int .i64 p.1, .int .i64 p.2.1, .int .i64 p.2.2])
            have E7 := Lib.hid (E6.out.on bn9)
            have K7 := Lib.hid (K6.out.on bn9)
            have HXY := Lib.hid (And.intro hxn hyn)
            have HDE : Hid (l2[xn]? = some d ∧ l2[yn]? = some e) := ⟨hd, he⟩
            have hx2 : xn < n2 := by omega
            have hy2 : yn < n2 := by omega
            have hx3 : (xn : Int) < (n2 : Int) := by omega
            have hy3 : (yn : Int) < (n2 : Int) := by omega
            obtain ⟨Y, hY⟩ : ∃ Y, wr.heap.size = Y := ⟨_, rfl⟩
            rw [hY] at KY
            clear hp hpe hA9 hbb hxn hyn hd he hfd hfe hedge bn9 hjg E6 K6
            have HAE := Lib.hid hAe
            rw [hAe]
            clear hAe
            go_upto_region 22 with fail
            generalize wr.alloc (.cells #[.int .i64 p.1, .int .i64 p.2.1, .int .i64 p.2.2] 53) = wy at *
            rw [HXY.out.1, HXY.out.2] at KY
            have y0 := KY.out.cell 0
            have y1 := KY.out.cell 1
            have f1 := row_cell (K7.out _ (.head _)) HDE.out.1
            have f2 := row_cell (K7.out _ (.head _)) HDE.out.2
            clear c0 c1 c2 hY HDE
            by_cases hneg : d < 0
            · have hng : ¬ (0 : Int) ≤ d := by omega
              clear hde
              go_quiet (fail)
              have E8 := Lib.hid (E7.out.drewN nq)
              have K8 := Lib.hid (K7.out.on (below_drewN (Below.refl _ _) nq))
              clear y0 y1 f1 f2 E7 K7 KY
              generalize wy.drewN nq = wj at *
              go_wp2_with fail
              rw [← HAE.out]
              go_roundg g3
              case measure => omega
              case rel => exact ⟨j + 1, by go_num, by have := HJG.out; omega, E8, K8⟩
            · have hd0 : (0 : Int) ≤ d := by omega
              have he0 := (hde hd0).1
              have he1 : ¬ e < 0 := by omega
              have he2 : ¬ e > d + 1 := by have := (hde hd0).2; omega
              have hw9 : IntKind.i64.wrap (d + 1) = d + 1 := by rw [IntKind.wrap_i64]; omega
              clear hde
              go_quiet (fail)
              have E8 := Lib.hid (E7.out.drewN nq)
              have K8 := Lib.hid (K7.out.on (below_drewN (Below.refl _ _) nq))
              clear y0 y1 f1 f2 E7 K7 KY
              generalize wy.drewN nq = wj at *
              go_wp2_with fail
              rw [← HAE.out]
              go_roundg g3
              case measure => omega
              case rel => exact ⟨j + 1, by go_num, by have := HJG.out; omega, E8, K8⟩
end Go.Proofs.YtgbpaiffnhpafaaDoor
