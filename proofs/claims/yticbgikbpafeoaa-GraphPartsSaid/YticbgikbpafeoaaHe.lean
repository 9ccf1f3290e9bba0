/- GraphParts: the walk. -/
import Derived.Test.YticbgikbpafeoaaHd
namespace Go.Proofs.Yticbgikbpafeoaa
open Go.RowKit

set_option maxRecDepth 100000 in
set_option maxHeartbeats 40000000 in
theorem parts_core (nodes : Int) (A : Option Addr) (n c : Nat) (zs : List Ed) (kd : Int) (hc : A = none → c = 0) (hnc : n ≤ c) (hcm : c ≤ 9223372036854775807) (w : World) (hR : Reads w w.heap.size 3 A n (cellsE zs)) :
    Calls Try.prog 8 #[.agg #[.int .i64 nodes, .slice A n c], .int .i64 kd] w fun e w' => e = .returned (.bool true) ∧ Below w.heap.size w w' := by
  have E00 := (Env.start w).add (g := ⟨nodes, A, n, c, zs⟩) ⟨hR, hnc, hcm, hc⟩
  have kb := Blk.new (w.alloc (.cells #[.int .i64 nodes, .slice A n c] 24)) 3 #[.int .i64 kd]
  rw [World.size_alloc] at kb
  obtain ⟨gx, hgx⟩ : ∃ gx : GV, (⟨nodes, A, n, c, zs⟩ : GV) = gx := ⟨_, rfl⟩
  have hz : nodes = gx.z := by rw [← hgx]
  have hA : A = gx.A := by rw [← hgx]
  have hn : n = gx.n := by rw [← hgx]
  have hcc : c = gx.c := by rw [← hgx]
  rw [hgx] at E00
  subst hz; subst hA; subst hn; subst hcc
  have E0 : Hid (EnvK w [(w.heap.size, gx)] (w.heap.size + 1) kd ((w.alloc (.cells #[.int .i64 gx.z, .slice gx.A gx.n gx.c] 24)).alloc (.cells #[.int .i64 kd] 3))) := ⟨E00.alloc _, kb⟩
  clear hR hc hnc hcm hgx E00 kb
  go_enter Try.func8, Try.ntmps8
  go_wp2_with fail
  generalize (w.alloc (.cells #[.int .i64 gx.z, .slice gx.A gx.n gx.c] 24)).alloc (.cells #[.int .i64 kd] 3) = W0 at *
  refine (wakes_any _).mono ?_
  rintro e w1 ⟨rfl, b⟩
  have E1 := Lib.hid (E0.out.on b)
  clear b E0
  have z0 := E1.out.1.c0 (.head _)
  have z1 := E1.out.1.c1 (.head _)
  go_wp2_with fail
  have ok1 := E1.out.1.ok (.head _)
  refine (fair_any gx.z gx.A gx.n gx.c gx.es ok1.2.2.2 ok1.2.1 ok1.2.2.1 w1 ok1.1).mono ?_
  clear ok1
  rintro e w2 hx
  obtain ⟨g, rfl, hz, he, okg, b⟩ := gis_gv hx
  have E2 := Lib.hid ((E1.out.on b).add okg)
  have HG := Lib.hid (And.intro hz he)
  clear hx hz he okg b E1 z0 z1
  have z0 := E2.out.1.c0 (.head _)
  have z1 := E2.out.1.c1 (.head _)
  have hgn : g.n ≤ 80 := by
    have := (E2.out.1.ok (.head _)).len
    have h2 := take_len gx.es
    rw [← HG.out.2] at h2
    omega
  go_wp2_with fail
  generalize w2.alloc (.cells #[.int .i64 g.z, .slice g.A g.n g.c] 24) = w3 at *
  generalize w2.heap.size = b5 at *
  cases hr : rightG g.z g.es
  · have HC := Lib.hid fun W h => check_any g.z g.A g.n g.c g.es (by omega) W h
    rw [check_no hr] at HC
    have HNO := Lib.hid fun q caps W h => filter_no g.z g.A g.n g.c q caps g.es hr (by omega) W h
    clear hr
    refine (HNO.out _ _ w3 (E2.out.1.ok (.head _)).1).mono ?_
    rintro e w4 hx
    obtain ⟨ga, rfl, hz0, he0, oka, b⟩ := gerr_gv hx
    clear hz0 he0
    have E4 := Lib.hid ((E2.out.on b).add oka)
    clear hx oka b E2 z0 z1
    have z0 := E4.out.1.c0 (.tail _ (.head _))
    have z1 := E4.out.1.c1 (.tail _ (.head _))
    go_wp2_with fail
    generalize w4.alloc (.cells #[.int .i64 ga.z, .slice ga.A ga.n ga.c] 24) = w5 at *
    generalize w4.heap.size = b6 at *
    refine (HNO.out _ _ w5 (E4.out.1.ok (.tail _ (.head _))).1).mono ?_
    rintro e w6 hx
    obtain ⟨gb, rfl, hz0, he0, okb, b⟩ := gerr_gv hx
    clear hz0 he0
    have E6 := Lib.hid ((E4.out.on b).add okb)
    clear hx okb b E4 z0 z1
    have z0 := E6.out.1.c0 (.tail _ (.tail _ (.head _)))
    have z1 := E6.out.1.c1 (.tail _ (.tail _ (.head _)))
    go_wp2_with fail
    generalize w6.alloc (.cells #[.int .i64 gb.z, .slice gb.A gb.n gb.c] 24) = w7 at *
    generalize w6.heap.size = b8 at *
    refine (HNO.out _ _ w7 (E6.out.1.ok (.tail _ (.tail _ (.head _)))).1).mono ?_
    rintro e w8 hx
    obtain ⟨gc, rfl, hz0, he0, okc, b⟩ := gerr_gv hx
    clear hz0 he0
    have E8 := Lib.hid ((E6.out.on b).add okc)
    clear hx okc b E6 z0 z1
    have z0 := E8.out.1.c0 (.tail _ (.tail _ (.tail _ (.head _))))
    have z1 := E8.out.1.c1 (.tail _ (.tail _ (.tail _ (.head _))))
    go_wp2_with fail
    refine (HC.out _ (E8.out.1.ok (.tail _ (.tail _ (.tail _ (.head _))))).1).mono ?_
    rintro e w9 ⟨rfl, b⟩
    have E9 := Lib.hid (E8.out.on b)
    clear b E8 z0 z1 HC HNO
    go_wp2_with fail
    go_ret
    exact ⟨rfl, E9.out.1.below⟩
  · have hg := rightG_iff.1 hr
    have HIG := Lib.hid hg
    clear hr hg
    refine (filter_parts1 g.z g.A g.n g.c (w.heap.size + 1) kd g.es HIG.out (by omega) w3 (E2.out.1.ok (.head _)).1 E2.out.2.lt (E2.out.2.cell 0)).mono ?_
    rintro e w4 hx
    obtain ⟨ga, rfl, hza, hea, oka, b⟩ := gerr_gv hx
    have E4 := Lib.hid ((E2.out.on b).add oka)
    have HA := Lib.hid (And.intro hza hea)
    clear hx hza hea oka b E2 z0 z1
    have z0 := E4.out.1.c0 (.tail _ (.head _))
    have z1 := E4.out.1.c1 (.tail _ (.head _))
    go_wp2_with fail
    generalize w4.alloc (.cells #[.int .i64 ga.z, .slice ga.A ga.n ga.c] 24) = w5 at *
    generalize w4.heap.size = b6 at *
    refine (filter_parts2 g.z g.A g.n g.c (w.heap.size + 1) kd g.es HIG.out (by omega) w5 (E4.out.1.ok (.tail _ (.head _))).1 E4.out.2.lt (E4.out.2.cell 0)).mono ?_
    rintro e w6 hx
    obtain ⟨gb, rfl, hzb, heb, okb, b⟩ := gerr_gv hx
    have E6 := Lib.hid ((E4.out.on b).add okb)
    have HB := Lib.hid (And.intro hzb heb)
    clear hx hzb heb okb b E4 z0 z1
    have z0 := E6.out.1.c0 (.tail _ (.tail _ (.head _)))
    have z1 := E6.out.1.c1 (.tail _ (.tail _ (.head _)))
    go_wp2_with fail
    generalize w6.alloc (.cells #[.int .i64 gb.z, .slice gb.A gb.n gb.c] 24) = w7 at *
    generalize w6.heap.size = b8 at *
    refine (filter_parts3 g.z g.A g.n g.c g.es HIG.out (by omega) w7 (E6.out.1.ok (.tail _ (.tail _ (.head _)))).1).mono ?_
    rintro e w8 hx
    obtain ⟨gc, rfl, hzc, hec, okc, b⟩ := gerr_gv hx
    have E8 := Lib.hid ((E6.out.on b).add okc)
    have HCC := Lib.hid (And.intro hzc hec)
    clear hx hzc hec okc b E6 z0 z1
    go_upto_region 9 with fail
    generalize w8.alloc (.cells #[.int .i64 gc.z, .slice gc.A gc.n gc.c] 24) = w9 at *
    generalize w8.heap.size = b10 at *
    have E9 := Lib.hid E8.out.1
    clear E8
    have y0 : w9.cell? ⟨b5, 0, none⟩ = some (.int .i64 g.z) := E9.out.c0 (.tail _ (.tail _ (.tail _ (.head _))))
    have y1 : w9.cell? ⟨b8, 1, none⟩ = some (.slice gb.A gb.n gb.c) := E9.out.c1 (.tail _ (.head _))
    have y2 : w9.cell? ⟨b6, 1, none⟩ = some (.slice ga.A ga.n ga.c) := E9.out.c1 (.tail _ (.tail _ (.head _)))
    have HGN := Lib.hid (show g.n = g.es.length from (E9.out.ok (.tail _ (.tail _ (.tail _ (.head _))))).len.symm)
    have HSUM : Hid (ga.n + gb.n = g.n) := by
      show _ = _
      have h1 := (E9.out.ok (.tail _ (.tail _ (.head _)))).len
      have h2 := (E9.out.ok (.tail _ (.head _))).len
      have h3 := parts_len g.es kd
      rw [← HA.out.2, ← HB.out.2, h1, h2] at h3
      rw [h3]
      exact HGN.out.symm
    have HLS := Lib.hid (show ga.n ≤ 80 ∧ gb.n ≤ 80 from by have := HSUM.out; omega)
    obtain ⟨rs, hrs⟩ : ∃ rs : List ERow, [(⟨gb.A, gb.n, gb.c, gb.es⟩ : ERow), ⟨ga.A, ga.n, ga.c, ga.es⟩] = rs := ⟨_, rfl⟩
    have HRW : Hid (∀ W, gb.ok W → ga.ok W → ERows (W.alloc (.cells #[.slice gb.A gb.n gb.c, .slice ga.A ga.n ga.c] 22)) (W.alloc (.cells #[.slice gb.A gb.n gb.c, .slice ga.A ga.n ga.c] 22)).heap.size (some ⟨W.heap.size, 0, none⟩) 2 rs) := by
      intro W h1 h2
      rw [← hrs]
      exact erows2 gb ga _ h1.1 h2.1
    have HCON : Hid (∀ A W, ERows W W.heap.size A 2 rs → Calls Try.prog 34 #[.slice A 2 2] W (RowIs (catL rs) W)) := by
      intro A W h
      refine concat_any A 2 2 rs (by omega) (fun r hr => ?_) (fun r hr => ?_) W h
      · rw [← hrs] at hr
        have := HLS.out
        simp only [List.mem_cons, List.not_mem_nil, or_false] at hr
        rcases hr with rfl | rfl
        · show gb.n ≤ 200; omega
        · show ga.n ≤ 200; omega
      · rw [← hrs] at hr
        have h1 := E9.out.ok (.tail _ (.tail _ (.head _)))
        have h2 := E9.out.ok (.tail _ (.head _))
        simp only [List.mem_cons, List.not_mem_nil, or_false] at hr
        rcases hr with rfl | rfl
        · intro e; have h3 := h2.2.2.2 e; have h4 := h2.2.1; simp only at *; omega
        · intro e; have h3 := h1.2.2.2 e; have h4 := h1.2.1; simp only at *; omega
    have hcl : (catL rs).length = gb.n + ga.n := by
      have h1 := (E9.out.ok (.tail _ (.tail _ (.head _)))).len
      have h2 := (E9.out.ok (.tail _ (.head _))).len
      rw [← hrs]; simp [catL]; omega
    have hcs : sorE (catL rs) = g.es := by
      rw [← hrs, HA.out.2, HB.out.2]
      exact parts_whole HIG.out kd
    have hca : ∀ p ∈ catL rs, rightE g.z p = true := by
      intro p hp
      rw [← hrs, HA.out.2, HB.out.2] at hp
      simp only [catL, List.flatMap_cons, List.flatMap_nil, List.append_nil, List.mem_append, List.mem_filter] at hp
      exact HIG.out.all p (hp.elim (·.1) (·.1))
    have HOF : Hid (∀ A c W, Reads W W.heap.size 3 A (catL rs).length (cellsE (catL rs)) → Calls Try.prog 14 #[.int .i64 g.z, .slice A (catL rs).length c] W (GErr g.z g.es 0 W)) := by
      intro A c W h
      have := of_ok g.z A (catL rs).length c (catL rs) HIG.out.may hca (by have := HLS.out; omega) W h
      rwa [hcs] at this
    have HIGA : Hid (checkG ga.z ga.es = 0) := by
      show _ = _
      rw [HA.out.1, HA.out.2]
      exact check_yes (rightG_iff.2 ⟨HIG.out.may, fun p hp => HIG.out.all p (List.mem_filter.1 hp).1, HIG.out.up.filter _⟩)
    have HCA := Lib.hid fun W h => check_any ga.z ga.A ga.n ga.c ga.es (by have := HLS.out; omega) W h
    rw [HIGA.out] at HCA
    have HSM : Hid (∀ (q : GV) W, q.z = g.z → q.es = g.es → q.ok W → g.ok W → Calls Try.prog 19 #[.agg #[.int .i64 q.z, .slice q.A q.n q.c], .agg #[.int .i64 g.z, .slice g.A g.n g.c]] W fun e w' => e = .returned (.bool true) ∧ Below W.heap.size W w') := by
      intro q W h1 h2 h3 h4
      have := same_any q.z g.z q.A g.A q.n q.c g.n g.c q.es g.es (by have := h3.len; rw [h2, h4.len] at this; omega) W h3.1 h4.1
      rwa [decide_eq_true ⟨h1, h2⟩] at this
    have hsum : ((ga.n : Int) + (gb.n : Int)) = (g.n : Int) := by have := HSUM.out; omega
    clear hrs hcl hcs hca HIGA HSUM HLS HGN HA HB
    generalize catL rs = cat at *
    have HCQ : Hid (gc.z = g.z ∧ gc.es = g.es) := ⟨HCC.out.1, by rw [HCC.out.2]; simp⟩
    clear HCC
    go_cut [12, 13] (fun s12 s13 wx => ∃ (gw : GV) (zb : Nat), s12 = .pointer (some ⟨zb, 0, none⟩) ∧ s13 = .int .i64 0 ∧ Hid (gw.z = g.z ∧ gw.es = g.es) ∧ Hid (Env w [(zb, gw), (b10, gc), (b8, gb), (b6, ga), (b5, g), (w.heap.size, gx)] wx))
    case first =>
      clear HSM HCA HCQ hsum HIG
      have J0 := Lib.hid E9.out.drew
      clear E9 y0 y1 y2
      refine wp_region_noPanic ?_
      refine wp_region_held_drew (S := fun w' => w'.cell? ⟨b5, 0, none⟩ = some (.int .i64 g.z) ∧ w'.cell? ⟨b8, 1, none⟩ = some (.slice gb.A gb.n gb.c) ∧ w'.cell? ⟨b6, 1, none⟩ = some (.slice ga.A ga.n ga.c)) (by kernel_rfl) ⟨J0.out.c0 (.tail _ (.tail _ (.tail _ (.head _)))), J0.out.c1 (.tail _ (.head _)), J0.out.c1 (.tail _ (.tail _ (.head _)))⟩ (fun hHeld => ?_)
      generalize w9.drew = wd at *
      refine wpAnyH_take (i := 0) (oi := { dst := some 52, op := Op.fieldAddr 24 (Operand.tmp 5) 0, type := 0, pos := "outright.go:81", after := #[], guard := none }) (v := .pointer (some ⟨b5, 0, none⟩)) rfl (by kernel_rfl) (by kernel_rfl) (by kernel_rfl) (fun _ _ _ h => h) (Or.inl ⟨by kernel_rfl, fun w' hSw => by (try dsimp only at hSw); go_simp⟩) (by assumption) ?_
      try simp only [Act.put, List.setIfInBounds_toArray, List.set_cons_zero, List.set_cons_succ]
      refine wpAnyH_take (i := 1) (oi := { dst := some 53, op := Op.load 3 (Operand.tmp 52), type := 3, pos := "outright.go:81", after := #[{ on := 0, ground := Ground.data }], guard := none }) (v := .int .i64 g.z) rfl (by kernel_rfl) (by kernel_rfl) (by kernel_rfl) (fun _ _ _ h => h) (Or.inl ⟨by kernel_rfl, fun w' hSw => by (try dsimp only at hSw); go_simp⟩) (by assumption) ?_
      try simp only [Act.put, List.setIfInBounds_toArray, List.set_cons_zero, List.set_cons_succ]
      refine wpAnyH_take (i := 2) (oi := { dst := some 54, op := Op.fieldAddr 24 (Operand.tmp 8) 1, type := 0, pos := "outright.go:81", after := #[], guard := none }) (v := .pointer (some ⟨b8, 1, none⟩)) rfl (by kernel_rfl) (by kernel_rfl) (by kernel_rfl) (fun _ _ _ h => h) (Or.inl ⟨by kernel_rfl, fun w' hSw => by (try dsimp only at hSw); go_simp⟩) (by assumption) ?_
      try simp only [Act.put, List.setIfInBounds_toArray, List.set_cons_zero, List.set_cons_succ]
      refine wpAnyH_take (i := 3) (oi := { dst := some 55, op := Op.load 22 (Operand.tmp 54), type := 22, pos := "outright.go:81", after := #[{ on := 2, ground := Ground.data }], guard := none }) (v := .slice gb.A gb.n gb.c) rfl (by kernel_rfl) (by kernel_rfl) (by kernel_rfl) (fun _ _ _ h => h) (Or.inl ⟨by kernel_rfl, fun w' hSw => by (try dsimp only at hSw); go_simp⟩) (by assumption) ?_
      try simp only [Act.put, List.setIfInBounds_toArray, List.set_cons_zero, List.set_cons_succ]
      refine wpAnyH_take (i := 4) (oi := { dst := some 56, op := Op.fieldAddr 24 (Operand.tmp 6) 1, type := 0, pos := "outright.go:81", after := #[], guard := none }) (v := .pointer (some ⟨b6, 1, none⟩)) rfl (by kernel_rfl) (by kernel_rfl) (by kernel_rfl) (fun _ _ _ h => h) (Or.inl ⟨by kernel_rfl, fun w' hSw => by (try dsimp only at hSw); go_simp⟩) (by assumption) ?_
      try simp only [Act.put, List.setIfInBounds_toArray, List.set_cons_zero, List.set_cons_succ]
      refine wpAnyH_take (i := 5) (oi := { dst := some 57, op := Op.load 22 (Operand.tmp 56), type := 22, pos := "outright.go:81", after := #[{ on := 4, ground := Ground.data }], guard := none }) (v := .slice ga.A ga.n ga.c) rfl (by kernel_rfl) (by kernel_rfl) (by kernel_rfl) (fun _ _ _ h => h) (Or.inl ⟨by kernel_rfl, fun w' hSw => by (try dsimp only at hSw); go_simp⟩) (by assumption) ?_
      try simp only [Act.put, List.setIfInBounds_toArray, List.set_cons_zero, List.set_cons_succ]
      refine wpAnyH_ready (rs := [6, 12]) (by kernel_rfl) (by simp) ?_
      refine AllReadyH.cons (o := { dst := some 58, op := Op.buildSlice 75 2 #[(0, Operand.tmp 55), (1, Operand.tmp 57)], type := 75, pos := "outright.go:81", after := #[{ on := 3, ground := Ground.data }, { on := 5, ground := Ground.data }], guard := none }) rfl (fun K hK => ?_) ?_
      · skip
        go_simp
        have hb : Below wd.heap.size wd (wd.alloc (.cells #[.slice gb.A gb.n gb.c, .slice ga.A ga.n ga.c] 22)) := (Below.refl _ _).alloc (Nat.le_refl _) _
        have J1 := Lib.hid (J0.out.on hb)
        have R1 := Lib.hid (HRW.out _ (J0.out.ok (.tail _ (.head _))) (J0.out.ok (.tail _ (.tail _ (.head _)))))
        clear hHeld hb J0
        refine hK.out _ _ ⟨J1.out.c0 (.tail _ (.tail _ (.tail _ (.head _)))), J1.out.c1 (.tail _ (.head _)), J1.out.c1 (.tail _ (.tail _ (.head _)))⟩ (fun hHeld => ?_)
        clear hK K
        try simp only [Act.put, List.setIfInBounds_toArray, List.set_cons_zero, List.set_cons_succ]
        generalize wd.alloc (.cells #[.slice gb.A gb.n gb.c, .slice ga.A ga.n ga.c] 22) = u1 at *
        generalize wd.heap.size = rb at *
        refine wpAnyH_ready (rs := [7, 12]) (by kernel_rfl) (by simp) ?_
        refine AllReadyH.cons (o := { dst := some 59, op := Op.call { callee := Callee.value (Operand.func 34), args := #[Operand.tmp 58], argTypes := #[75] }, type := 22, pos := "outright.go:81", after := #[{ on := 6, ground := Ground.data }], guard := none }) rfl (fun K hK => ?_) ?_
        · skip
          go_simp
          refine (HCON.out _ _ R1.out).mono ?_
          rintro e u2 hx
          obtain ⟨A3, c3, rfl, h1, h2, h3, hb⟩ := rows_row hx
          have C2 := Lib.hid (reads_own h1)
          have J2 := Lib.hid (J1.out.on hb)
          clear hHeld hb hx h1 h2 h3 J1 R1
          refine hK.out _ _ ⟨J2.out.c0 (.tail _ (.tail _ (.tail _ (.head _)))), J2.out.c1 (.tail _ (.head _)), J2.out.c1 (.tail _ (.tail _ (.head _)))⟩ (fun hHeld => ?_)
          clear hK K
          try simp only [Act.put, List.setIfInBounds_toArray, List.set_cons_zero, List.set_cons_succ]
          refine wpAnyH_ready (rs := [8, 12]) (by kernel_rfl) (by simp) ?_
          refine AllReadyH.cons (o := { dst := some 60, op := Op.call { callee := Callee.value (Operand.func 14), args := #[Operand.tmp 53, Operand.tmp 59], argTypes := #[3, 22] }, type := 32, pos := "outright.go:81", after := #[{ on := 1, ground := Ground.data }, { on := 7, ground := Ground.data }, { on := 7, ground := Ground.chain }], guard := none }) rfl (fun K hK => ?_) ?_
          · skip
            go_simp
            refine (HOF.out A3 c3 _ C2.out).mono ?_
            rintro e u3 hx
            obtain ⟨gw, rfl, hz, he, okw, hb⟩ := gerr_gv hx
            have G3 := Lib.hid okw
            have HW := Lib.hid (And.intro hz he)
            have J3 := Lib.hid (J2.out.on hb)
            clear hHeld hb hx hz he okw J2 C2
            refine hK.out _ _ ⟨J3.out.c0 (.tail _ (.tail _ (.tail _ (.head _)))), J3.out.c1 (.tail _ (.head _)), J3.out.c1 (.tail _ (.tail _ (.head _)))⟩ (fun hHeld => ?_)
            clear hK K
            try simp only [Act.put, List.setIfInBounds_toArray, List.set_cons_zero, List.set_cons_succ]
            refine wpAnyH_take (i := 9) (oi := { dst := some 51, op := Op.move (Operand.tmp 60), type := 32, pos := "outright.go:81", after := #[{ on := 8, ground := Ground.data }], guard := none }) (v := .tuple #[.agg #[.int .i64 gw.z, .slice gw.A gw.n gw.c], .int .i64 0]) rfl (by kernel_rfl) (by kernel_rfl) (by kernel_rfl) (fun _ _ _ h => h) (Or.inl ⟨by kernel_rfl, fun w' hSw => by (try dsimp only at hSw); go_simp⟩) (by assumption) ?_
            try simp only [Act.put, List.setIfInBounds_toArray, List.set_cons_zero, List.set_cons_succ]
            refine wpAnyH_take (i := 10) (oi := { dst := some 61, op := Op.extract (Operand.tmp 51) 0, type := 24, pos := "outright.go:81", after := #[{ on := 9, ground := Ground.data }], guard := none }) (v := .agg #[.int .i64 gw.z, .slice gw.A gw.n gw.c]) rfl (by kernel_rfl) (by kernel_rfl) (by kernel_rfl) (fun _ _ _ h => h) (Or.inl ⟨by kernel_rfl, fun w' hSw => by (try dsimp only at hSw); go_simp⟩) (by assumption) ?_
            try simp only [Act.put, List.setIfInBounds_toArray, List.set_cons_zero, List.set_cons_succ]
            refine wpAnyH_take (i := 11) (oi := { dst := some 62, op := Op.extract (Operand.tmp 51) 1, type := 28, pos := "outright.go:81", after := #[{ on := 9, ground := Ground.data }, { on := 13, ground := Ground.gcOnly Departure.lateStores }], guard := none }) (v := .int .i64 0) rfl (by kernel_rfl) (by kernel_rfl) (by kernel_rfl) (fun _ _ _ h => h) (Or.inl ⟨by kernel_rfl, fun w' hSw => by (try dsimp only at hSw); go_simp⟩) (by assumption) ?_
            try simp only [Act.put, List.setIfInBounds_toArray, List.set_cons_zero, List.set_cons_succ]
            refine wpAnyH_ready (rs := [12]) (by kernel_rfl) (by simp) ?_
            refine AllReadyH.cons (o := { dst := some 12, op := Op.alloc 24, type := 0, pos := "outright.go:81", after := #[], guard := none }) rfl (fun K hK => ?_) ?_
            · skip
              go_simp
              have hb : Below u3.heap.size u3 (u3.alloc (.cells #[.int .i64 0, .slice none 0 0] 24)) := (Below.refl _ _).alloc (Nat.le_refl _) _
              have J4 := Lib.hid (J3.out.on hb)
              have G4 := Lib.hid (G3.out.on hb)
              have Z4 := Lib.hid (Zer.new J3.out)
              clear hHeld hb J3 G3
              refine hK.out _ _ ⟨J4.out.c0 (.tail _ (.tail _ (.tail _ (.head _)))), J4.out.c1 (.tail _ (.head _)), J4.out.c1 (.tail _ (.tail _ (.head _)))⟩ (fun hHeld => ?_)
              clear hK K
              try simp only [Act.put, List.setIfInBounds_toArray, List.set_cons_zero, List.set_cons_succ]
              generalize u3.alloc (.cells #[.int .i64 0, .slice none 0 0] 24) = u4 at *
              generalize u3.heap.size = zb at *
              refine wpAnyH_ready (rs := [13]) (by kernel_rfl) (by simp) ?_
              refine AllReadyH.cons (o := { dst := none, op := Op.store 24 (Operand.tmp 12) (Operand.tmp 61), type := 0, pos := "outright.go:81", after := #[{ on := 12, ground := Ground.data }, { on := 10, ground := Ground.data }, { on := 8, ground := Ground.chain }, { on := 0, ground := Ground.phase }, { on := 1, ground := Ground.phase }, { on := 2, ground := Ground.phase }, { on := 3, ground := Ground.phase }, { on := 4, ground := Ground.phase }, { on := 5, ground := Ground.phase }, { on := 6, ground := Ground.phase }, { on := 7, ground := Ground.phase }, { on := 8, ground := Ground.phase }, { on := 9, ground := Ground.phase }, { on := 10, ground := Ground.phase }, { on := 11, ground := Ground.textOnly Departure.lateStores }, { on := 12, ground := Ground.phase }], guard := none }) rfl (fun K hK => ?_) ?_
              · skip
                have x0 := Z4.out.1.cell 0
                have x1 := Z4.out.1.cell 1
                have f0 := Z4.out.1.frozen 0
                have f1 := Z4.out.1.frozen 1
                go_simp
                have E10 := Lib.hid (J4.out.put Z4.out G4.out)
                clear hHeld J4 Z4 G4 x0 x1 f0 f1
                refine hK.out _ _ ⟨E10.out.c0 (.tail _ (.tail _ (.tail _ (.tail _ (.head _))))), E10.out.c1 (.tail _ (.tail _ (.head _))), E10.out.c1 (.tail _ (.tail _ (.tail _ (.head _))))⟩ (fun hHeld => ?_)
                clear hK K
                try simp only [Act.put, List.setIfInBounds_toArray, List.set_cons_zero, List.set_cons_succ]
                generalize (u4.setCell ⟨zb, 0, none⟩ (.int .i64 gw.z)).setCell ⟨zb, 1, none⟩ (.slice gw.A gw.n gw.c) = u5 at *
                refine wpAnyH_take (i := 14) (oi := { dst := some 13, op := Op.assign (Operand.tmp 62), type := 28, pos := "outright.go:81", after := #[{ on := 11, ground := Ground.data }, { on := 13, ground := Ground.chain }, { on := 0, ground := Ground.phase }, { on := 1, ground := Ground.phase }, { on := 2, ground := Ground.phase }, { on := 3, ground := Ground.phase }, { on := 4, ground := Ground.phase }, { on := 5, ground := Ground.phase }, { on := 6, ground := Ground.phase }, { on := 7, ground := Ground.phase }, { on := 8, ground := Ground.phase }, { on := 9, ground := Ground.phase }, { on := 10, ground := Ground.phase }, { on := 11, ground := Ground.phase }, { on := 12, ground := Ground.phase }, { on := 13, ground := Ground.phase }], guard := none }) (v := .int .i64 0) rfl (by kernel_rfl) (by kernel_rfl) (by kernel_rfl) (fun _ _ _ h => h) (Or.inl ⟨by kernel_rfl, fun w' hSw => by (try dsimp only at hSw); go_simp⟩) (by assumption) ?_
                try simp only [Act.put, List.setIfInBounds_toArray, List.set_cons_zero, List.set_cons_succ]
                refine wpAnyH_done (by kernel_rfl) ?_ _
                refine NoPanic.normal ?_
                clear hHeld
                go_wp2_with fail
                go_meet
                exact ⟨gw, zb, rfl, rfl, HW, E10⟩
              exact AllReadyH.nil
            exact AllReadyH.nil
          refine AllReadyH.cons (o := { dst := some 12, op := Op.alloc 24, type := 0, pos := "outright.go:81", after := #[], guard := none }) rfl (fun K hK => ?_) ?_
          · skip
            go_simp
            have hb : Below u2.heap.size u2 (u2.alloc (.cells #[.int .i64 0, .slice none 0 0] 24)) := (Below.refl _ _).alloc (Nat.le_refl _) _
            have J3 := Lib.hid (J2.out.on hb)
            have C3 := Lib.hid (C2.out.on hb)
            have Z3 := Lib.hid (Zer.new J2.out)
            clear hHeld hb J2 C2
            refine hK.out _ _ ⟨J3.out.c0 (.tail _ (.tail _ (.tail _ (.head _)))), J3.out.c1 (.tail _ (.head _)), J3.out.c1 (.tail _ (.tail _ (.head _)))⟩ (fun hHeld => ?_)
            clear hK K
            try simp only [Act.put, List.setIfInBounds_toArray, List.set_cons_zero, List.set_cons_succ]
            generalize u2.alloc (.cells #[.int .i64 0, .slice none 0 0] 24) = u3 at *
            generalize u2.heap.size = zb at *
            refine wpAnyH_ready (rs := [8]) (by kernel_rfl) (by simp) ?_
            refine AllReadyH.cons (o := { dst := some 60, op := Op.call { callee := Callee.value (Operand.func 14), args := #[Operand.tmp 53, Operand.tmp 59], argTypes := #[3, 22] }, type := 32, pos := "outright.go:81", after := #[{ on := 1, ground := Ground.data }, { on := 7, ground := Ground.data }, { on := 7, ground := Ground.chain }], guard := none }) rfl (fun K hK => ?_) ?_
            · skip
              go_simp
              refine (HOF.out A3 c3 _ C3.out).mono ?_
              rintro e u4 hx
              obtain ⟨gw, rfl, hz, he, okw, hb⟩ := gerr_gv hx
              have G4 := Lib.hid okw
              have HW := Lib.hid (And.intro hz he)
              have J4 := Lib.hid (J3.out.on hb)
              have Z4 := Lib.hid (Z3.out.on hb)
              clear hHeld hb hx hz he okw J3 Z3 C3
              refine hK.out _ _ ⟨J4.out.c0 (.tail _ (.tail _ (.tail _ (.head _)))), J4.out.c1 (.tail _ (.head _)), J4.out.c1 (.tail _ (.tail _ (.head _)))⟩ (fun hHeld => ?_)
              clear hK K
              try simp only [Act.put, List.setIfInBounds_toArray, List.set_cons_zero, List.set_cons_succ]
              refine wpAnyH_take (i := 9) (oi := { dst := some 51, op := Op.move (Operand.tmp 60), type := 32, pos := "outright.go:81", after := #[{ on := 8, ground := Ground.data }], guard := none }) (v := .tuple #[.agg #[.int .i64 gw.z, .slice gw.A gw.n gw.c], .int .i64 0]) rfl (by kernel_rfl) (by kernel_rfl) (by kernel_rfl) (fun _ _ _ h => h) (Or.inl ⟨by kernel_rfl, fun w' hSw => by (try dsimp only at hSw); go_simp⟩) (by assumption) ?_
              try simp only [Act.put, List.setIfInBounds_toArray, List.set_cons_zero, List.set_cons_succ]
              refine wpAnyH_take (i := 10) (oi := { dst := some 61, op := Op.extract (Operand.tmp 51) 0, type := 24, pos := "outright.go:81", after := #[{ on := 9, ground := Ground.data }], guard := none }) (v := .agg #[.int .i64 gw.z, .slice gw.A gw.n gw.c]) rfl (by kernel_rfl) (by kernel_rfl) (by kernel_rfl) (fun _ _ _ h => h) (Or.inl ⟨by kernel_rfl, fun w' hSw => by (try dsimp only at hSw); go_simp⟩) (by assumption) ?_
              try simp only [Act.put, List.setIfInBounds_toArray, List.set_cons_zero, List.set_cons_succ]
              refine wpAnyH_take (i := 11) (oi := { dst := some 62, op := Op.extract (Operand.tmp 51) 1, type := 28, pos := "outright.go:81", after := #[{ on := 9, ground := Ground.data }, { on := 13, ground := Ground.gcOnly Departure.lateStores }], guard := none }) (v := .int .i64 0) rfl (by kernel_rfl) (by kernel_rfl) (by kernel_rfl) (fun _ _ _ h => h) (Or.inl ⟨by kernel_rfl, fun w' hSw => by (try dsimp only at hSw); go_simp⟩) (by assumption) ?_
              try simp only [Act.put, List.setIfInBounds_toArray, List.set_cons_zero, List.set_cons_succ]
              refine wpAnyH_ready (rs := [13]) (by kernel_rfl) (by simp) ?_
              refine AllReadyH.cons (o := { dst := none, op := Op.store 24 (Operand.tmp 12) (Operand.tmp 61), type := 0, pos := "outright.go:81", after := #[{ on := 12, ground := Ground.data }, { on := 10, ground := Ground.data }, { on := 8, ground := Ground.chain }, { on := 0, ground := Ground.phase }, { on := 1, ground := Ground.phase }, { on := 2, ground := Ground.phase }, { on := 3, ground := Ground.phase }, { on := 4, ground := Ground.phase }, { on := 5, ground := Ground.phase }, { on := 6, ground := Ground.phase }, { on := 7, ground := Ground.phase }, { on := 8, ground := Ground.phase }, { on := 9, ground := Ground.phase }, { on := 10, ground := Ground.phase }, { on := 11, ground := Ground.textOnly Departure.lateStores }, { on := 12, ground := Ground.phase }], guard := none }) rfl (fun K hK => ?_) ?_
              · skip
                have x0 := Z4.out.1.cell 0
                have x1 := Z4.out.1.cell 1
                have f0 := Z4.out.1.frozen 0
                have f1 := Z4.out.1.frozen 1
                go_simp
                have E10 := Lib.hid (J4.out.put Z4.out G4.out)
                clear hHeld J4 Z4 G4 x0 x1 f0 f1
                refine hK.out _ _ ⟨E10.out.c0 (.tail _ (.tail _ (.tail _ (.tail _ (.head _))))), E10.out.c1 (.tail _ (.tail _ (.head _))), E10.out.c1 (.tail _ (.tail _ (.tail _ (.head _))))⟩ (fun hHeld => ?_)
                clear hK K
                try simp only [Act.put, List.setIfInBounds_toArray, List.set_cons_zero, List.set_cons_succ]
                generalize (u4.setCell ⟨zb, 0, none⟩ (.int .i64 gw.z)).setCell ⟨zb, 1, none⟩ (.slice gw.A gw.n gw.c) = u5 at *
                refine wpAnyH_take (i := 14) (oi := { dst := some 13, op := Op.assign (Operand.tmp 62), type := 28, pos := "outright.go:81", after := #[{ on := 11, ground := Ground.data }, { on := 13, ground := Ground.chain }, { on := 0, ground := Ground.phase }, { on := 1, ground := Ground.phase }, { on := 2, ground := Ground.phase }, { on := 3, ground := Ground.phase }, { on := 4, ground := Ground.phase }, { on := 5, ground := Ground.phase }, { on := 6, ground := Ground.phase }, { on := 7, ground := Ground.phase }, { on := 8, ground := Ground.phase }, { on := 9, ground := Ground.phase }, { on := 10, ground := Ground.phase }, { on := 11, ground := Ground.phase }, { on := 12, ground := Ground.phase }, { on := 13, ground := Ground.phase }], guard := none }) (v := .int .i64 0) rfl (by kernel_rfl) (by kernel_rfl) (by kernel_rfl) (fun _ _ _ h => h) (Or.inl ⟨by kernel_rfl, fun w' hSw => by (try dsimp only at hSw); go_simp⟩) (by assumption) ?_
                try simp only [Act.put, List.setIfInBounds_toArray, List.set_cons_zero, List.set_cons_succ]
                refine wpAnyH_done (by kernel_rfl) ?_ _
                refine NoPanic.normal ?_
                clear hHeld
                go_wp2_with fail
                go_meet
                exact ⟨gw, zb, rfl, rfl, HW, E10⟩
              exact AllReadyH.nil
            exact AllReadyH.nil
          exact AllReadyH.nil
        refine AllReadyH.cons (o := { dst := some 12, op := Op.alloc 24, type := 0, pos := "outright.go:81", after := #[], guard := none }) rfl (fun K hK => ?_) ?_
        · skip
          go_simp
          have hb : Below u1.heap.size u1 (u1.alloc (.cells #[.int .i64 0, .slice none 0 0] 24)) := (Below.refl _ _).alloc (Nat.le_refl _) _
          have J2 := Lib.hid (J1.out.on hb)
          have R2 := Lib.hid (R1.out.on hb)
          have Z2 := Lib.hid (Zer.new J1.out)
          clear hHeld hb J1 R1
          refine hK.out _ _ ⟨J2.out.c0 (.tail _ (.tail _ (.tail _ (.head _)))), J2.out.c1 (.tail _ (.head _)), J2.out.c1 (.tail _ (.tail _ (.head _)))⟩ (fun hHeld => ?_)
          clear hK K
          try simp only [Act.put, List.setIfInBounds_toArray, List.set_cons_zero, List.set_cons_succ]
          generalize u1.alloc (.cells #[.int .i64 0, .slice none 0 0] 24) = u2 at *
          generalize u1.heap.size = zb at *
          refine wpAnyH_ready (rs := [7]) (by kernel_rfl) (by simp) ?_
          refine AllReadyH.cons (o := { dst := some 59, op := Op.call { callee := Callee.value (Operand.func 34), args := #[Operand.tmp 58], argTypes := #[75] }, type := 22, pos := "outright.go:81", after := #[{ on := 6, ground := Ground.data }], guard := none }) rfl (fun K hK => ?_) ?_
          · skip
            go_simp
            refine (HCON.out _ _ R2.out).mono ?_
            rintro e u3 hx
            obtain ⟨A3, c3, rfl, h1, h2, h3, hb⟩ := rows_row hx
            have C3 := Lib.hid (reads_own h1)
            have J3 := Lib.hid (J2.out.on hb)
            have Z3 := Lib.hid (Z2.out.on hb)
            clear hHeld hb hx h1 h2 h3 J2 Z2 R2
            refine hK.out _ _ ⟨J3.out.c0 (.tail _ (.tail _ (.tail _ (.head _)))), J3.out.c1 (.tail _ (.head _)), J3.out.c1 (.tail _ (.tail _ (.head _)))⟩ (fun hHeld => ?_)
            clear hK K
            try simp only [Act.put, List.setIfInBounds_toArray, List.set_cons_zero, List.set_cons_succ]
            refine wpAnyH_ready (rs := [8]) (by kernel_rfl) (by simp) ?_
            refine AllReadyH.cons (o := { dst := some 60, op := Op.call { callee := Callee.value (Operand.func 14), args := #[Operand.tmp 53, Operand.tmp 59], argTypes := #[3, 22] }, type := 32, pos := "outright.go:81", after := #[{ on := 1, ground := Ground.data }, { on := 7, ground := Ground.data }, { on := 7, ground := Ground.chain }], guard := none }) rfl (fun K hK => ?_) ?_
            · skip
              go_simp
              refine (HOF.out A3 c3 _ C3.out).mono ?_
              rintro e u4 hx
              obtain ⟨gw, rfl, hz, he, okw, hb⟩ := gerr_gv hx
              have G4 := Lib.hid okw
              have HW := Lib.hid (And.intro hz he)
              have J4 := Lib.hid (J3.out.on hb)
              have Z4 := Lib.hid (Z3.out.on hb)
              clear hHeld hb hx hz he okw J3 Z3 C3
              refine hK.out _ _ ⟨J4.out.c0 (.tail _ (.tail _ (.tail _ (.head _)))), J4.out.c1 (.tail _ (.head _)), J4.out.c1 (.tail _ (.tail _ (.head _)))⟩ (fun hHeld => ?_)
              clear hK K
              try simp only [Act.put, List.setIfInBounds_toArray, List.set_cons_zero, List.set_cons_succ]
              refine wpAnyH_take (i := 9) (oi := { dst := some 51, op := Op.move (Operand.tmp 60), type := 32, pos := "outright.go:81", after := #[{ on := 8, ground := Ground.data }], guard := none }) (v := .tuple #[.agg #[.int .i64 gw.z, .slice gw.A gw.n gw.c], .int .i64 0]) rfl (by kernel_rfl) (by kernel_rfl) (by kernel_rfl) (fun _ _ _ h => h) (Or.inl ⟨by kernel_rfl, fun w' hSw => by (try dsimp only at hSw); go_simp⟩) (by assumption) ?_
              try simp only [Act.put, List.setIfInBounds_toArray, List.set_cons_zero, List.set_cons_succ]
              refine wpAnyH_take (i := 10) (oi := { dst := some 61, op := Op.extract (Operand.tmp 51) 0, type := 24, pos := "outright.go:81", after := #[{ on := 9, ground := Ground.data }], guard := none }) (v := .agg #[.int .i64 gw.z, .slice gw.A gw.n gw.c]) rfl (by kernel_rfl) (by kernel_rfl) (by kernel_rfl) (fun _ _ _ h => h) (Or.inl ⟨by kernel_rfl, fun w' hSw => by (try dsimp only at hSw); go_simp⟩) (by assumption) ?_
              try simp only [Act.put, List.setIfInBounds_toArray, List.set_cons_zero, List.set_cons_succ]
              refine wpAnyH_take (i := 11) (oi := { dst := some 62, op := Op.extract (Operand.tmp 51) 1, type := 28, pos := "outright.go:81", after := #[{ on := 9, ground := Ground.data }, { on := 13, ground := Ground.gcOnly Departure.lateStores }], guard := none }) (v := .int .i64 0) rfl (by kernel_rfl) (by kernel_rfl) (by kernel_rfl) (fun _ _ _ h => h) (Or.inl ⟨by kernel_rfl, fun w' hSw => by (try dsimp only at hSw); go_simp⟩) (by assumption) ?_
              try simp only [Act.put, List.setIfInBounds_toArray, List.set_cons_zero, List.set_cons_succ]
              refine wpAnyH_ready (rs := [13]) (by kernel_rfl) (by simp) ?_
              refine AllReadyH.cons (o := { dst := none, op := Op.store 24 (Operand.tmp 12) (Operand.tmp 61), type := 0, pos := "outright.go:81", after := #[{ on := 12, ground := Ground.data }, { on := 10, ground := Ground.data }, { on := 8, ground := Ground.chain }, { on := 0, ground := Ground.phase }, { on := 1, ground := Ground.phase }, { on := 2, ground := Ground.phase }, { on := 3, ground := Ground.phase }, { on := 4, ground := Ground.phase }, { on := 5, ground := Ground.phase }, { on := 6, ground := Ground.phase }, { on := 7, ground := Ground.phase }, { on := 8, ground := Ground.phase }, { on := 9, ground := Ground.phase }, { on := 10, ground := Ground.phase }, { on := 11, ground := Ground.textOnly Departure.lateStores }, { on := 12, ground := Ground.phase }], guard := none }) rfl (fun K hK => ?_) ?_
              · skip
                have x0 := Z4.out.1.cell 0
                have x1 := Z4.out.1.cell 1
                have f0 := Z4.out.1.frozen 0
                have f1 := Z4.out.1.frozen 1
                go_simp
                have E10 := Lib.hid (J4.out.put Z4.out G4.out)
                clear hHeld J4 Z4 G4 x0 x1 f0 f1
                refine hK.out _ _ ⟨E10.out.c0 (.tail _ (.tail _ (.tail _ (.tail _ (.head _))))), E10.out.c1 (.tail _ (.tail _ (.head _))), E10.out.c1 (.tail _ (.tail _ (.tail _ (.head _))))⟩ (fun hHeld => ?_)
                clear hK K
                try simp only [Act.put, List.setIfInBounds_toArray, List.set_cons_zero, List.set_cons_succ]
                generalize (u4.setCell ⟨zb, 0, none⟩ (.int .i64 gw.z)).setCell ⟨zb, 1, none⟩ (.slice gw.A gw.n gw.c) = u5 at *
                refine wpAnyH_take (i := 14) (oi := { dst := some 13, op := Op.assign (Operand.tmp 62), type := 28, pos := "outright.go:81", after := #[{ on := 11, ground := Ground.data }, { on := 13, ground := Ground.chain }, { on := 0, ground := Ground.phase }, { on := 1, ground := Ground.phase }, { on := 2, ground := Ground.phase }, { on := 3, ground := Ground.phase }, { on := 4, ground := Ground.phase }, { on := 5, ground := Ground.phase }, { on := 6, ground := Ground.phase }, { on := 7, ground := Ground.phase }, { on := 8, ground := Ground.phase }, { on := 9, ground := Ground.phase }, { on := 10, ground := Ground.phase }, { on := 11, ground := Ground.phase }, { on := 12, ground := Ground.phase }, { on := 13, ground := Ground.phase }], guard := none }) (v := .int .i64 0) rfl (by kernel_rfl) (by kernel_rfl) (by kernel_rfl) (fun _ _ _ h => h) (Or.inl ⟨by kernel_rfl, fun w' hSw => by (try dsimp only at hSw); go_simp⟩) (by assumption) ?_
                try simp only [Act.put, List.setIfInBounds_toArray, List.set_cons_zero, List.set_cons_succ]
                refine wpAnyH_done (by kernel_rfl) ?_ _
                refine NoPanic.normal ?_
                clear hHeld
                go_wp2_with fail
                go_meet
                exact ⟨gw, zb, rfl, rfl, HW, E10⟩
              exact AllReadyH.nil
            exact AllReadyH.nil
          exact AllReadyH.nil
        exact AllReadyH.nil
      refine AllReadyH.cons (o := { dst := some 12, op := Op.alloc 24, type := 0, pos := "outright.go:81", after := #[], guard := none }) rfl (fun K hK => ?_) ?_
      · skip
        go_simp
        have hb : Below wd.heap.size wd (wd.alloc (.cells #[.int .i64 0, .slice none 0 0] 24)) := (Below.refl _ _).alloc (Nat.le_refl _) _
        have J1 := Lib.hid (J0.out.on hb)
        have Z1 := Lib.hid (Zer.new J0.out)
        clear hHeld hb J0
        refine hK.out _ _ ⟨J1.out.c0 (.tail _ (.tail _ (.tail _ (.head _)))), J1.out.c1 (.tail _ (.head _)), J1.out.c1 (.tail _ (.tail _ (.head _)))⟩ (fun hHeld => ?_)
        clear hK K
        try simp only [Act.put, List.setIfInBounds_toArray, List.set_cons_zero, List.set_cons_succ]
        generalize wd.alloc (.cells #[.int .i64 0, .slice none 0 0] 24) = u1 at *
        generalize wd.heap.size = zb at *
        refine wpAnyH_ready (rs := [6]) (by kernel_rfl) (by simp) ?_
        refine AllReadyH.cons (o := { dst := some 58, op := Op.buildSlice 75 2 #[(0, Operand.tmp 55), (1, Operand.tmp 57)], type := 75, pos := "outright.go:81", after := #[{ on := 3, ground := Ground.data }, { on := 5, ground := Ground.data }], guard := none }) rfl (fun K hK => ?_) ?_
        · skip
          go_simp
          have hb : Below u1.heap.size u1 (u1.alloc (.cells #[.slice gb.A gb.n gb.c, .slice ga.A ga.n ga.c] 22)) := (Below.refl _ _).alloc (Nat.le_refl _) _
          have J2 := Lib.hid (J1.out.on hb)
          have Z2 := Lib.hid (Z1.out.on hb)
          have R2 := Lib.hid (HRW.out _ (J1.out.ok (.tail _ (.head _))) (J1.out.ok (.tail _ (.tail _ (.head _)))))
          clear hHeld hb J1 Z1
          refine hK.out _ _ ⟨J2.out.c0 (.tail _ (.tail _ (.tail _ (.head _)))), J2.out.c1 (.tail _ (.head _)), J2.out.c1 (.tail _ (.tail _ (.head _)))⟩ (fun hHeld => ?_)
          clear hK K
          try simp only [Act.put, List.setIfInBounds_toArray, List.set_cons_zero, List.set_cons_succ]
          generalize u1.alloc (.cells #[.slice gb.A gb.n gb.c, .slice ga.A ga.n ga.c] 22) = u2 at *
          generalize u1.heap.size = rb at *
          refine wpAnyH_ready (rs := [7]) (by kernel_rfl) (by simp) ?_
          refine AllReadyH.cons (o := { dst := some 59, op := Op.call { callee := Callee.value (Operand.func 34), args := #[Operand.tmp 58], argTypes := #[75] }, type := 22, pos := "outright.go:81", after := #[{ on := 6, ground := Ground.data }], guard := none }) rfl (fun K hK => ?_) ?_
          · skip
            go_simp
            refine (HCON.out _ _ R2.out).mono ?_
            rintro e u3 hx
            obtain ⟨A3, c3, rfl, h1, h2, h3, hb⟩ := rows_row hx
            have C3 := Lib.hid (reads_own h1)
            have J3 := Lib.hid (J2.out.on hb)
            have Z3 := Lib.hid (Z2.out.on hb)
            clear hHeld hb hx h1 h2 h3 J2 Z2 R2
            refine hK.out _ _ ⟨J3.out.c0 (.tail _ (.tail _ (.tail _ (.head _)))), J3.out.c1 (.tail _ (.head _)), J3.out.c1 (.tail _ (.tail _ (.head _)))⟩ (fun hHeld => ?_)
            clear hK K
            try simp only [Act.put, List.setIfInBounds_toArray, List.set_cons_zero, List.set_cons_succ]
            refine wpAnyH_ready (rs := [8]) (by kernel_rfl) (by simp) ?_
            refine AllReadyH.cons (o := { dst := some 60, op := Op.call { callee := Callee.value (Operand.func 14), args := #[Operand.tmp 53, Operand.tmp 59], argTypes := #[3, 22] }, type := 32, pos := "outright.go:81", after := #[{ on := 1, ground := Ground.data }, { on := 7, ground := Ground.data }, { on := 7, ground := Ground.chain }], guard := none }) rfl (fun K hK => ?_) ?_
            · skip
              go_simp
              refine (HOF.out A3 c3 _ C3.out).mono ?_
              rintro e u4 hx
              obtain ⟨gw, rfl, hz, he, okw, hb⟩ := gerr_gv hx
              have G4 := Lib.hid okw
              have HW := Lib.hid (And.intro hz he)
              have J4 := Lib.hid (J3.out.on hb)
              have Z4 := Lib.hid (Z3.out.on hb)
              clear hHeld hb hx hz he okw J3 Z3 C3
              refine hK.out _ _ ⟨J4.out.c0 (.tail _ (.tail _ (.tail _ (.head _)))), J4.out.c1 (.tail _ (.head _)), J4.out.c1 (.tail _ (.tail _ (.head _)))⟩ (fun hHeld => ?_)
              clear hK K
              try simp only [Act.put, List.setIfInBounds_toArray, List.set_cons_zero, List.set_cons_succ]
              refine wpAnyH_take (i := 9) (oi := { dst := some 51, op := Op.move (Operand.tmp 60), type := 32, pos := "outright.go:81", after := #[{ on := 8, ground := Ground.data }], guard := none }) (v := .tuple #[.agg #[.int .i64 gw.z, .slice gw.A gw.n gw.c], .int .i64 0]) rfl (by kernel_rfl) (by kernel_rfl) (by kernel_rfl) (fun _ _ _ h => h) (Or.inl ⟨by kernel_rfl, fun w' hSw => by (try dsimp only at hSw); go_simp⟩) (by assumption) ?_
              try simp only [Act.put, List.setIfInBounds_toArray, List.set_cons_zero, List.set_cons_succ]
              refine wpAnyH_take (i := 10) (oi := { dst := some 61, op := Op.extract (Operand.tmp 51) 0, type := 24, pos := "outright.go:81", after := #[{ on := 9, ground := Ground.data }], guard := none }) (v := .agg #[.int .i64 gw.z, .slice gw.A gw.n gw.c]) rfl (by kernel_rfl) (by kernel_rfl) (by kernel_rfl) (fun _ _ _ h => h) (Or.inl ⟨by kernel_rfl, fun w' hSw => by (try dsimp only at hSw); go_simp⟩) (by assumption) ?_
              try simp only [Act.put, List.setIfInBounds_toArray, List.set_cons_zero, List.set_cons_succ]
              refine wpAnyH_take (i := 11) (oi := { dst := some 62, op := Op.extract (Operand.tmp 51) 1, type := 28, pos := "outright.go:81", after := #[{ on := 9, ground := Ground.data }, { on := 13, ground := Ground.gcOnly Departure.lateStores }], guard := none }) (v := .int .i64 0) rfl (by kernel_rfl) (by kernel_rfl) (by kernel_rfl) (fun _ _ _ h => h) (Or.inl ⟨by kernel_rfl, fun w' hSw => by (try dsimp only at hSw); go_simp⟩) (by assumption) ?_
              try simp only [Act.put, List.setIfInBounds_toArray, List.set_cons_zero, List.set_cons_succ]
              refine wpAnyH_ready (rs := [13]) (by kernel_rfl) (by simp) ?_
              refine AllReadyH.cons (o := { dst := none, op := Op.store 24 (Operand.tmp 12) (Operand.tmp 61), type := 0, pos := "outright.go:81", after := #[{ on := 12, ground := Ground.data }, { on := 10, ground := Ground.data }, { on := 8, ground := Ground.chain }, { on := 0, ground := Ground.phase }, { on := 1, ground := Ground.phase }, { on := 2, ground := Ground.phase }, { on := 3, ground := Ground.phase }, { on := 4, ground := Ground.phase }, { on := 5, ground := Ground.phase }, { on := 6, ground := Ground.phase }, { on := 7, ground := Ground.phase }, { on := 8, ground := Ground.phase }, { on := 9, ground := Ground.phase }, { on := 10, ground := Ground.phase }, { on := 11, ground := Ground.textOnly Departure.lateStores }, { on := 12, ground := Ground.phase }], guard := none }) rfl (fun K hK => ?_) ?_
              · skip
                have x0 := Z4.out.1.cell 0
                have x1 := Z4.out.1.cell 1
                have f0 := Z4.out.1.frozen 0
                have f1 := Z4.out.1.frozen 1
                go_simp
                have E10 := Lib.hid (J4.out.put Z4.out G4.out)
                clear hHeld J4 Z4 G4 x0 x1 f0 f1
                refine hK.out _ _ ⟨E10.out.c0 (.tail _ (.tail _ (.tail _ (.tail _ (.head _))))), E10.out.c1 (.tail _ (.tail _ (.head _))), E10.out.c1 (.tail _ (.tail _ (.tail _ (.head _))))⟩ (fun hHeld => ?_)
                clear hK K
                try simp only [Act.put, List.setIfInBounds_toArray, List.set_cons_zero, List.set_cons_succ]
                generalize (u4.setCell ⟨zb, 0, none⟩ (.int .i64 gw.z)).setCell ⟨zb, 1, none⟩ (.slice gw.A gw.n gw.c) = u5 at *
                refine wpAnyH_take (i := 14) (oi := { dst := some 13, op := Op.assign (Operand.tmp 62), type := 28, pos := "outright.go:81", after := #[{ on := 11, ground := Ground.data }, { on := 13, ground := Ground.chain }, { on := 0, ground := Ground.phase }, { on := 1, ground := Ground.phase }, { on := 2, ground := Ground.phase }, { on := 3, ground := Ground.phase }, { on := 4, ground := Ground.phase }, { on := 5, ground := Ground.phase }, { on := 6, ground := Ground.phase }, { on := 7, ground := Ground.phase }, { on := 8, ground := Ground.phase }, { on := 9, ground := Ground.phase }, { on := 10, ground := Ground.phase }, { on := 11, ground := Ground.phase }, { on := 12, ground := Ground.phase }, { on := 13, ground := Ground.phase }], guard := none }) (v := .int .i64 0) rfl (by kernel_rfl) (by kernel_rfl) (by kernel_rfl) (fun _ _ _ h => h) (Or.inl ⟨by kernel_rfl, fun w' hSw => by (try dsimp only at hSw); go_simp⟩) (by assumption) ?_
                try simp only [Act.put, List.setIfInBounds_toArray, List.set_cons_zero, List.set_cons_succ]
                refine wpAnyH_done (by kernel_rfl) ?_ _
                refine NoPanic.normal ?_
                clear hHeld
                go_wp2_with fail
                go_meet
                exact ⟨gw, zb, rfl, rfl, HW, E10⟩
              exact AllReadyH.nil
            exact AllReadyH.nil
          exact AllReadyH.nil
        exact AllReadyH.nil
      exact AllReadyH.nil
    case rest =>
      clear HCON HOF HRW HIG E9 y0 y1 y2
      obtain ⟨gw, zb, rfl, rfl, HW, E10⟩ := hcut
      have z0 := E10.out.c0 (.head _)
      have z1 := E10.out.c1 (.head _)
      have z2 := E10.out.c0 (.tail _ (.tail _ (.tail _ (.tail _ (.head _)))))
      have z3 := E10.out.c1 (.tail _ (.tail _ (.tail _ (.tail _ (.head _)))))
      go_wp2_with fail
      refine (HSM.out gw _ HW.out.1 HW.out.2 (E10.out.ok (.head _)) (E10.out.ok (.tail _ (.tail _ (.tail _ (.tail _ (.head _))))))).mono ?_
      rintro e v1 ⟨rfl, b⟩
      have E11 := Lib.hid (E10.out.on b)
      clear b E10 z0 z1 z2 z3
      have z0 := E11.out.c0 (.tail _ (.head _))
      have z1 := E11.out.c1 (.tail _ (.head _))
      have z2 := E11.out.c0 (.tail _ (.tail _ (.tail _ (.tail _ (.head _)))))
      have z3 := E11.out.c1 (.tail _ (.tail _ (.tail _ (.tail _ (.head _)))))
      go_wp2_with fail
      refine (HSM.out gc _ HCQ.out.1 HCQ.out.2 (E11.out.ok (.tail _ (.head _))) (E11.out.ok (.tail _ (.tail _ (.tail _ (.tail _ (.head _))))))).mono ?_
      rintro e v2 ⟨rfl, b⟩
      have E12 := Lib.hid (E11.out.on b)
      clear b E11 z0 z1 z2 z3
      have z0 := E12.out.c0 (.tail _ (.tail _ (.tail _ (.head _))))
      have z1 := E12.out.c1 (.tail _ (.tail _ (.tail _ (.head _))))
      go_wp2_with fail
      refine (HCA.out _ (E12.out.ok (.tail _ (.tail _ (.tail _ (.head _))))).1).mono ?_
      rintro e v3 ⟨rfl, b⟩
      have E13 := Lib.hid (E12.out.on b)
      clear b E12 z0 z1
      have z0 := E13.out.c1 (.tail _ (.tail _ (.tail _ (.head _))))
      have z1 := E13.out.c1 (.tail _ (.tail _ (.head _)))
      have z2 := E13.out.c1 (.tail _ (.tail _ (.tail _ (.tail _ (.head _)))))
      go_wp2_with fail
      go_ret
      exact ⟨rfl, E13.out.below⟩
end Go.Proofs.Yticbgikbpafeoaa
