/- PathWays: the walk. -/
import Derived.Test.YtgbpaiffnhpafaaDoorN1
import Derived.Test.YtgbpaiffnhpafaaDoorU2
import Derived.Test.YtgbpaiffnhpafaaDoorU3
-- holds: YtgbpaiffnhpafaaDoorPz
namespace Go.Proofs.YtgbpaiffnhpafaaDoor
open Go.RowKit Go.Shelf

set_option maxRecDepth 100000 in
set_option maxHeartbeats 16000000 in
theorem pways_core (nodes : Int) (A : Option Addr) (n c : Nat) (zs : List Ed) (Ap : Option Addr) (np cp : Nat) (ps : List (Int × Int)) (hc : A = none → c = 0) (hnc : n ≤ c) (hcm : c ≤ 9223372036854775807) (w : World) (hT : Bit.Tab w) (hR : Reads w w.heap.size 3 A n (cellsE zs)) (hPP : Reads w w.heap.size 2 Ap np (cellsW ps)) :
    Calls Tryd.prog 3 #[.agg #[.int .i64 nodes, .slice A n c], .slice Ap np cp] w fun e w' => e = .returned (.bool true) ∧ Below w.heap.size w w' := by
  have E0 := Lib.hid ((Env.start w).add (g := ⟨nodes, A, n, c, zs⟩) ⟨hR, hnc, hcm, hc⟩)
  obtain ⟨gx, hgx⟩ : ∃ gx : GV, (⟨nodes, A, n, c, zs⟩ : GV) = gx := ⟨_, rfl⟩
  have hz : nodes = gx.z := by rw [← hgx]
  have hA : A = gx.A := by rw [← hgx]
  have hn : n = gx.n := by rw [← hgx]
  have hcc : c = gx.c := by rw [← hgx]
  rw [hgx] at E0
  subst hz; subst hA; subst hn; subst hcc
  have HT := Lib.hid hT
  have HPP := Lib.hid hPP
  clear hPP
  clear hR hc hnc hcm hgx hT
  go_enter Tryd.func3, Tryd.ntmps3
  go_wp2_with fail
  generalize w.alloc (.cells #[.int .i64 gx.z, .slice gx.A gx.n gx.c] 24) = W0 at *
  refine (wakes8_any _ (HT.out.on E0.out.below)).mono ?_
  rintro e w1 ⟨rfl, b⟩
  have E1 := Lib.hid (E0.out.on b)
  clear b E0
  have z0 := E1.out.c0 (.head _)
  have z1 := E1.out.c1 (.head _)
  go_wp2_with fail
  have ok1 := E1.out.ok (.head _)
  refine (own8_any gx.z gx.A gx.n gx.c gx.es ok1.2.2.2 ok1.2.1 ok1.2.2.1 w1 ok1.1).mono ?_
  clear ok1
  rintro e w2 hx
  obtain ⟨g, rfl, hz, he, okg, b⟩ := gis_gv hx
  have E3 := Lib.hid ((E1.out.on b).add okg)
  have HN : Hid (g.n ≤ 300) := by
    show _ ≤ _
    have h1 := okg.len
    rw [he, List.length_take] at h1
    omega
  have HL : Hid (g.es.length = g.n) := okg.len
  have HX : Hid (g.z = gx.z ∧ g.es = gx.es.take 300) := ⟨hz, he⟩
  clear hx hz he okg b E1 z0 z1
  have z0 := E3.out.c0 (.head _)
  have z1 := E3.out.c1 (.head _)
  have x0 := E3.out.c0 (.tail _ (.head _))
  have x1 := E3.out.c1 (.tail _ (.head _))
  go_wp2_with fail
  generalize w2.alloc (.cells #[.int .i64 g.z, .slice g.A g.n g.c] 24) = w3 at *
  generalize w2.heap.size = b3 at *
  have HRG := Lib.hid (right_any g.z g.A g.n g.c g.es (by have := HN.out; omega) _ (E3.out.ok (.head _)).1)
  obtain ⟨rt, hrt⟩ : ∃ rt, rightG g.z g.es = rt := ⟨_, rfl⟩
  rw [hrt] at HRG
  have HRT := Lib.hid hrt
  clear hrt
  refine HRG.out.mono ?_
  rintro e w4 ⟨rfl, b⟩
  have E4 := Lib.hid (E3.out.on b)
  clear b E3 HRG z0 z1 x0 x1
  go_wp2_with fail
  go_loopg [26] np (fun gg s26 wr => ∃ i : Nat, s26 = .int .i64 i ∧ i + gg = np ∧ i ≤ 6 ∧ Hid (Env w [(b3, g), (w.heap.size, gx)] wr))
  case atStart => exact ⟨0, rfl, by omega, by omega, E4⟩
  case round =>
    clear E4
    obtain ⟨i, rfl, hig, hi6, E5⟩ := hrel
    cases gk with
    | zero =>
      have hge : ¬ (i : Int) < (np : Int) := by omega
      clear hig
      have HSF : Hid (∀ (f : GV) W, f.z = gx.z → f.es = gx.es.take 300 → g.ok W → f.ok W → Calls Tryd.prog 18 #[.agg #[.int .i64 g.z, .slice g.A g.n g.c], .agg #[.int .i64 f.z, .slice f.A f.n f.c]] W fun e w' => e = .returned (.bool true) ∧ Below W.heap.size W w') := by
        intro f W h1 h2 h3 h4
        have := rsame_any g.z f.z g.A f.A g.n g.c f.n f.c g.es f.es (by have := HN.out; omega) W h3.1 h4.1
        rwa [decide_eq_true ⟨HX.out.1.trans h1.symm, HX.out.2.trans h2.symm⟩] at this
      go_wp2_with fail
      have J0 := Lib.hid E5.out.drew
      clear E5
      refine wp_region_noPanic ?_
      refine wp_region_held_drew (S := fun w' => w'.cell? ⟨b3, 0, none⟩ = some (.int .i64 g.z) ∧ w'.cell? ⟨b3, 1, none⟩ = some (.slice g.A g.n g.c) ∧ w'.cell? ⟨w.heap.size, 0, none⟩ = some (.int .i64 gx.z) ∧ w'.cell? ⟨w.heap.size, 1, none⟩ = some (.slice gx.A gx.n gx.c)) (by kernel_rfl) ⟨J0.out.c0 (.head _), J0.out.c1 (.head _), J0.out.c0 (.tail _ (.head _)), J0.out.c1 (.tail _ (.head _))⟩ (fun hHeld => ?_)
      refine wpAnyH_take (i := 0) (oi := { dst := some 99, op := Op.load 24 (Operand.tmp 5), type := 24, pos := "law.go:69", after := #[], guard := none }) (v := .agg #[.int .i64 g.z, .slice g.A g.n g.c]) rfl (by kernel_rfl) (by kernel_rfl) (by kernel_rfl) (fun _ _ _ h => h) (Or.inl ⟨by kernel_rfl, fun w' hSw => by (try dsimp only at hSw); go_simp⟩) (by assumption) ?_
      try simp only [Act.put, List.setIfInBounds_toArray, List.set_cons_zero, List.set_cons_succ]
      refine wpAnyH_take (i := 1) (oi := { dst := some 100, op := Op.load 24 (Operand.tmp 2), type := 24, pos := "law.go:69", after := #[], guard := none }) (v := .agg #[.int .i64 gx.z, .slice gx.A gx.n gx.c]) rfl (by kernel_rfl) (by kernel_rfl) (by kernel_rfl) (fun _ _ _ h => h) (Or.inl ⟨by kernel_rfl, fun w' hSw => by (try dsimp only at hSw); go_simp⟩) (by assumption) ?_
      try simp only [Act.put, List.setIfInBounds_toArray, List.set_cons_zero, List.set_cons_succ]
      refine wpAnyH_ready (rs := [2]) (by kernel_rfl) (by simp) ?_
      refine AllReadyH.cons (o := { dst := some 101, op := Op.call { callee := Callee.value (Operand.func 10), args := #[Operand.tmp 100], argTypes := #[24] }, type := 24, pos := "law.go:69", after := #[{ on := 1, ground := Ground.data }], guard := none }) rfl (fun K hK => ?_) AllReadyH.nil
      go_simp
      refine (own8_any gx.z gx.A gx.n gx.c gx.es (J0.out.ok (.tail _ (.head _))).2.2.2 (J0.out.ok (.tail _ (.head _))).2.1 (J0.out.ok (.tail _ (.head _))).2.2.1 _ (J0.out.ok (.tail _ (.head _))).1).mono ?_
      rintro e v1 hx
      obtain ⟨f, rfl, hz, he, okf, b⟩ := gis_gv hx
      have J1 := Lib.hid (J0.out.on b)
      have HF := Lib.hid okf
      have HFE := Lib.hid (And.intro hz he)
      clear hx hz he okf b J0 hHeld
      refine hK.out _ _ ⟨J1.out.c0 (.head _), J1.out.c1 (.head _), J1.out.c0 (.tail _ (.head _)), J1.out.c1 (.tail _ (.head _))⟩ (fun hHeld => ?_)
      clear hK K
      try simp only [Act.put, List.setIfInBounds_toArray, List.set_cons_zero, List.set_cons_succ]
      refine wpAnyH_ready (rs := [3]) (by kernel_rfl) (by simp) ?_
      refine AllReadyH.cons (o := { dst := some 102, op := Op.call { callee := Callee.value (Operand.func 18), args := #[Operand.tmp 99, Operand.tmp 101], argTypes := #[24, 24] }, type := 4, pos := "law.go:69", after := #[{ on := 0, ground := Ground.data }, { on := 2, ground := Ground.data }, { on := 2, ground := Ground.chain }], guard := none }) rfl (fun K hK => ?_) AllReadyH.nil
      go_simp
      refine (HSF.out f _ HFE.out.1 HFE.out.2 (J1.out.ok (.head _)) HF.out).mono ?_
      rintro e v2 ⟨rfl, b⟩
      have J2 := Lib.hid (J1.out.on b)
      clear b J1 HF hHeld
      refine hK.out _ _ ⟨J2.out.c0 (.head _), J2.out.c1 (.head _), J2.out.c0 (.tail _ (.head _)), J2.out.c1 (.tail _ (.head _))⟩ (fun hHeld => ?_)
      clear hK K
      try simp only [Act.put, List.setIfInBounds_toArray, List.set_cons_zero, List.set_cons_succ]
      refine wpAnyH_take (i := 4) (oi := { dst := some 4, op := Op.assign (Operand.tmp 102), type := 4, pos := "law.go:69", after := #[{ on := 3, ground := Ground.data }, { on := 3, ground := Ground.chain }, { on := 0, ground := Ground.phase }, { on := 1, ground := Ground.phase }, { on := 2, ground := Ground.phase }, { on := 3, ground := Ground.phase }], guard := none }) (v := .bool true) rfl (by kernel_rfl) (by kernel_rfl) (by kernel_rfl) (fun _ _ _ h => h) (Or.inl ⟨by kernel_rfl, fun w' hSw => by (try dsimp only at hSw); go_simp⟩) (by assumption) ?_
      try simp only [Act.put, List.setIfInBounds_toArray, List.set_cons_zero, List.set_cons_succ]
      refine wpAnyH_done (by kernel_rfl) ?_ _
      refine NoPanic.normal ?_
      go_wp2_with fail
      go_ret
      exact ⟨rfl, J2.out.below⟩
    | succ g2 =>
      have hlt : (i : Int) < (np : Int) := by omega
      have HIG := Lib.hid hig
      obtain ⟨q, hq⟩ : ∃ q, ps[i]? = some q := ⟨_, List.getElem?_eq_getElem (by have := HPP.out.1; rw [cellsW_length] at this; omega)⟩
      obtain ⟨pb, po, hAp, _, c0, c1⟩ := two_at ((HPP.out.below E5.out.below).more E5.out.below.size) hq
      subst hAp
      have bn : Below wr.heap.size wr (wr.alloc (.cells #[.int .i64 q.1, .int .i64 q.2] 29)) := (Below.refl _ _).alloc (Nat.le_refl _) _
      have Y5 := Lib.hid (Blk.new wr 29 #[.int .i64 q.1, .int .i64 q.2])
      have E6 := Lib.hid (E5.out.on bn)
      obtain ⟨Y, hY⟩ : ∃ Y, wr.heap.size = Y := ⟨_, rfl⟩
      rw [hY] at Y5
      clear hq bn hig E5
      go_upto_region 8 with fail
      clear c0 c1 hY
      generalize wr.alloc (.cells #[.int .i64 q.1, .int .i64 q.2] 29) = w5 at *
      have E5 := E6
      clear E6
      have K5 : Hid (KeptI [] w5) := fun p hp => by cases hp
      by_cases h6 : i = 6
      · subst h6
        have hb6 : (((6 : Nat) : Int) == 6) = true := rfl
        clear HIG
        have HSF : Hid (∀ (f : GV) W, f.z = gx.z → f.es = gx.es.take 300 → g.ok W → f.ok W → Calls Tryd.prog 18 #[.agg #[.int .i64 g.z, .slice g.A g.n g.c], .agg #[.int .i64 f.z, .slice f.A f.n f.c]] W fun e w' => e = .returned (.bool true) ∧ Below W.heap.size W w') := by
          intro f W h1 h2 h3 h4
          have := rsame_any g.z f.z g.A f.A g.n g.c f.n f.c g.es f.es (by have := HN.out; omega) W h3.1 h4.1
          rwa [decide_eq_true ⟨HX.out.1.trans h1.symm, HX.out.2.trans h2.symm⟩] at this
        go_wp2_with fail
        have J0 := Lib.hid E5.out.drew
        clear E5
        refine wp_region_noPanic ?_
        refine wp_region_held_drew (S := fun w' => w'.cell? ⟨b3, 0, none⟩ = some (.int .i64 g.z) ∧ w'.cell? ⟨b3, 1, none⟩ = some (.slice g.A g.n g.c) ∧ w'.cell? ⟨w.heap.size, 0, none⟩ = some (.int .i64 gx.z) ∧ w'.cell? ⟨w.heap.size, 1, none⟩ = some (.slice gx.A gx.n gx.c)) (by kernel_rfl) ⟨J0.out.c0 (.head _), J0.out.c1 (.head _), J0.out.c0 (.tail _ (.head _)), J0.out.c1 (.tail _ (.head _))⟩ (fun hHeld => ?_)
        refine wpAnyH_take (i := 0) (oi := { dst := some 99, op := Op.load 24 (Operand.tmp 5), type := 24, pos := "law.go:69", after := #[], guard := none }) (v := .agg #[.int .i64 g.z, .slice g.A g.n g.c]) rfl (by kernel_rfl) (by kernel_rfl) (by kernel_rfl) (fun _ _ _ h => h) (Or.inl ⟨by kernel_rfl, fun w' hSw => by (try dsimp only at hSw); go_simp⟩) (by assumption) ?_
        try simp only [Act.put, List.setIfInBounds_toArray, List.set_cons_zero, List.set_cons_succ]
        refine wpAnyH_take (i := 1) (oi := { dst := some 100, op := Op.load 24 (Operand.tmp 2), type := 24, pos := "law.go:69", after := #[], guard := none }) (v := .agg #[.int .i64 gx.z, .slice gx.A gx.n gx.c]) rfl (by kernel_rfl) (by kernel_rfl) (by kernel_rfl) (fun _ _ _ h => h) (Or.inl ⟨by kernel_rfl, fun w' hSw => by (try dsimp only at hSw); go_simp⟩) (by assumption) ?_
        try simp only [Act.put, List.setIfInBounds_toArray, List.set_cons_zero, List.set_cons_succ]
        refine wpAnyH_ready (rs := [2]) (by kernel_rfl) (by simp) ?_
        refine AllReadyH.cons (o := { dst := some 101, op := Op.call { callee := Callee.value (Operand.func 10), args := #[Operand.tmp 100], argTypes := #[24] }, type := 24, pos := "law.go:69", after := #[{ on := 1, ground := Ground.data }], guard := none }) rfl (fun K hK => ?_) AllReadyH.nil
        go_simp
        refine (own8_any gx.z gx.A gx.n gx.c gx.es (J0.out.ok (.tail _ (.head _))).2.2.2 (J0.out.ok (.tail _ (.head _))).2.1 (J0.out.ok (.tail _ (.head _))).2.2.1 _ (J0.out.ok (.tail _ (.head _))).1).mono ?_
        rintro e v1 hx
        obtain ⟨f, rfl, hz, he, okf, b⟩ := gis_gv hx
        have J1 := Lib.hid (J0.out.on b)
        have HF := Lib.hid okf
        have HFE := Lib.hid (And.intro hz he)
        clear hx hz he okf b J0 hHeld
        refine hK.out _ _ ⟨J1.out.c0 (.head _), J1.out.c1 (.head _), J1.out.c0 (.tail _ (.head _)), J1.out.c1 (.tail _ (.head _))⟩ (fun hHeld => ?_)
        clear hK K
        try simp only [Act.put, List.setIfInBounds_toArray, List.set_cons_zero, List.set_cons_succ]
        refine wpAnyH_ready (rs := [3]) (by kernel_rfl) (by simp) ?_
        refine AllReadyH.cons (o := { dst := some 102, op := Op.call { callee := Callee.value (Operand.func 18), args := #[Operand.tmp 99, Operand.tmp 101], argTypes := #[24, 24] }, type := 4, pos := "law.go:69", after := #[{ on := 0, ground := Ground.data }, { on := 2, ground := Ground.data }, { on := 2, ground := Ground.chain }], guard := none }) rfl (fun K hK => ?_) AllReadyH.nil
        go_simp
        refine (HSF.out f _ HFE.out.1 HFE.out.2 (J1.out.ok (.head _)) HF.out).mono ?_
        rintro e v2 ⟨rfl, b⟩
        have J2 := Lib.hid (J1.out.on b)
        clear b J1 HF hHeld
        refine hK.out _ _ ⟨J2.out.c0 (.head _), J2.out.c1 (.head _), J2.out.c0 (.tail _ (.head _)), J2.out.c1 (.tail _ (.head _))⟩ (fun hHeld => ?_)
        clear hK K
        try simp only [Act.put, List.setIfInBounds_toArray, List.set_cons_zero, List.set_cons_succ]
        refine wpAnyH_take (i := 4) (oi := { dst := some 4, op := Op.assign (Operand.tmp 102), type := 4, pos := "law.go:69", after := #[{ on := 3, ground := Ground.data }, { on := 3, ground := Ground.chain }, { on := 0, ground := Ground.phase }, { on := 1, ground := Ground.phase }, { on := 2, ground := Ground.phase }, { on := 3, ground := Ground.phase }], guard := none }) (v := .bool true) rfl (by kernel_rfl) (by kernel_rfl) (by kernel_rfl) (fun _ _ _ h => h) (Or.inl ⟨by kernel_rfl, fun w' hSw => by (try dsimp only at hSw); go_simp⟩) (by assumption) ?_
        try simp only [Act.put, List.setIfInBounds_toArray, List.set_cons_zero, List.set_cons_succ]
        refine wpAnyH_done (by kernel_rfl) ?_ _
        refine NoPanic.normal ?_
        go_wp2_with fail
        go_ret
        exact ⟨rfl, J2.out.below⟩
      · skip
        have hb6 : ((i : Int) == 6) = false := by simp; omega
        have HI6 : Hid (i < 6) := by show _ < _; omega
        clear h6 hi6
        have z0 := E5.out.c0 (.head _)
        have z1 := E5.out.c1 (.head _)
        have y0 := Y5.out.cell 0
        have y1 := Y5.out.cell 1
        go_wp2_with fail
        refine (far8_at g _ (by have := HN.out; omega) (E5.out.ok (.head _)) q.1).mono ?_
        rintro e w6 ⟨l1, k1, ⟨A1, cA1, rfl, hr, hx1, hx2, b⟩, hh⟩
        have H1 := Lib.hid hh
        obtain ⟨Nl1, hN⟩ : ∃ N, l1.length = N := ⟨_, rfl⟩
        rw [hN]
        have HNl1 := Lib.hid hN
        have E6 := Lib.hid (E5.out.on b)
        have K6 := Lib.hid (KeptI.add (K5.out.on b) hr)
        have Y6 := Lib.hid (Y5.out.below b Y5.out.lt)
        clear b hr hh hN hx1 hx2 E5 K5 Y5 z0 z1 y0 y1
        have z0 := E6.out.c0 (.head _)
        have z1 := E6.out.c1 (.head _)
        have y0 := Y6.out.cell 0
        have y1 := Y6.out.cell 1
        go_wp2_with fail
        refine (shortest8_at g _ (by have := HN.out; omega) (E6.out.ok (.head _)) q.1 q.2).mono ?_
        rintro e w7 ⟨l2, k2, ⟨A2, cA2, rfl, hr, hx1, hx2, b⟩, hh⟩
        have H2 := Lib.hid hh
        obtain ⟨Nl2, hN⟩ : ∃ N, l2.length = N := ⟨_, rfl⟩
        rw [hN]
        have HNl2 := Lib.hid hN
        have E7 := Lib.hid (E6.out.on b)
        have K7 := Lib.hid (KeptI.add (K6.out.on b) hr)
        have Y7 := Lib.hid (Y6.out.below b Y6.out.lt)
        clear b hr hh hN hx1 hx2 E6 K6 Y6 z0 z1 y0 y1
        have HRT2 := HRT
        cases rt
        · skip
          obtain ⟨rfl, rfl⟩ : k1 = 150 ∧ l1 = [] := by
            rcases H1.out with ⟨_, h⟩ | ⟨h, _⟩ | ⟨h, _⟩
            · exact h
            · rw [HRT.out] at h; cases h
            · rw [HRT.out] at h; cases h
          obtain ⟨rfl, rfl⟩ : k2 = 150 ∧ l2 = [] := by
            rcases H2.out with ⟨_, h⟩ | ⟨h, _⟩ | ⟨h, _⟩
            · exact h
            · rw [HRT.out] at h; cases h
            · rw [HRT.out] at h; cases h
          clear H1 H2
          obtain rfl : 0 = Nl1 := HNl1.out
          obtain rfl : 0 = Nl2 := HNl2.out
          go_wp2_with fail
          refine (eqi_any A1 none 0 0 cA1 0 [] [] (by omega) (by omega) _ (K7.out _ (.tail _ (.head _))) Reads.none_).mono ?_
          rintro e w8 ⟨rfl, b⟩
          rw [decide_eq_true rfl]
          have E8 := Lib.hid (E7.out.on b)
          have K8 := Lib.hid (K7.out.on b)
          have Y8 := Lib.hid (Y7.out.below b Y7.out.lt)
          clear b E7 K7 Y7
          go_wp2_with fail
          refine (eqi_any A2 none 0 0 cA2 0 [] [] (by omega) (by omega) _ (K8.out _ (.head _)) Reads.none_).mono ?_
          rintro e w9 ⟨rfl, b⟩
          rw [decide_eq_true rfl]
          have E9 := Lib.hid (E8.out.on b)
          have K9 := Lib.hid (K8.out.on b)
          have Y9 := Lib.hid (Y8.out.below b Y8.out.lt)
          clear b E8 K8 Y8
          have hi6 := HI6.out
          go_wp2_with fail
          go_roundg g2
          case measure => omega
          case rel => exact ⟨i + 1, by go_num, by have := HIG.out; omega, by omega, E9⟩
        · skip
          obtain ⟨m, hm1, hm2, hm3, hG⟩ := right_nat HRT.out
          have HM := Lib.hid (And.intro hm1 (And.intro hm2 (And.intro hm3 hG)))
          clear hm1 hm2 hm3 hG
          have z0 := E7.out.c0 (.head _)
          have z1 := E7.out.c1 (.head _)
          have y0 := Y7.out.cell 0
          have y1 := Y7.out.cell 1
          go_wp2_with fail
          refine (node8_any g.z g.A g.n g.c q.1 _).mono ?_
          rintro e w8 ⟨rfl, b⟩
          have E8 := Lib.hid (E7.out.on b)
          have K8 := Lib.hid (K7.out.on b)
          have Y8 := Lib.hid (Y7.out.below b Y7.out.lt)
          clear b E7 K7 Y7 z0 z1 y0 y1
          cases hv : nodeB g.z q.1
          · skip
            obtain ⟨rfl, rfl⟩ : k1 = 2 ∧ l1 = [] := by
              rcases H1.out with ⟨h, _⟩ | ⟨_, _, h⟩ | ⟨_, h, _⟩
              · rw [HRT.out] at h; cases h
              · exact h
              · rw [hv] at h; cases h
            obtain ⟨rfl, rfl⟩ : k2 = 2 ∧ l2 = [] := by
              rcases H2.out with ⟨h, _⟩ | ⟨_, _, h⟩ | ⟨_, h, _⟩
              · rw [HRT.out] at h; cases h
              · exact h
              · rw [hv] at h; cases h
            have HV := Lib.hid hv
            clear H1 H2 hv
            obtain rfl : 0 = Nl1 := HNl1.out
            obtain rfl : 0 = Nl2 := HNl2.out
            have z0 := E8.out.c0 (.head _)
            have z1 := E8.out.c1 (.head _)
            have y0 := Y8.out.cell 0
            have y1 := Y8.out.cell 1
            go_wp2_with fail
            refine (node8_any g.z g.A g.n g.c q.1 _).mono ?_
            rintro e w9 ⟨rfl, b⟩
            rw [HV.out]
            have E9 := Lib.hid (E8.out.on b)
            have K9 := Lib.hid (K8.out.on b)
            have Y9 := Lib.hid (Y8.out.below b Y8.out.lt)
            clear b E8 K8 Y8 z0 z1 y0 y1
            go_wp2_with fail
            refine (eqi_any A1 none 0 0 cA1 0 [] [] (by omega) (by omega) _ (K9.out _ (.tail _ (.head _))) Reads.none_).mono ?_
            rintro e w10 ⟨rfl, b⟩
            rw [decide_eq_true rfl]
            have E10 := Lib.hid (E9.out.on b)
            have K10 := Lib.hid (K9.out.on b)
            have Y10 := Lib.hid (Y9.out.below b Y9.out.lt)
            clear b E9 K9 Y9
            go_wp2_with fail
            refine (eqi_any A2 none 0 0 cA2 0 [] [] (by omega) (by omega) _ (K10.out _ (.head _)) Reads.none_).mono ?_
            rintro e w11 ⟨rfl, b⟩
            rw [decide_eq_true rfl]
            have E11 := Lib.hid (E10.out.on b)
            have K11 := Lib.hid (K10.out.on b)
            have Y11 := Lib.hid (Y10.out.below b Y10.out.lt)
            clear b E10 K10 Y10
            have hi6 := HI6.out
            go_wp2_with fail
            go_roundg g2
            case measure => omega
            case rel => exact ⟨i + 1, by go_num, by have := HIG.out; omega, by omega, E11⟩
          · skip
            obtain ⟨rfl, hfl, hne1⟩ : k1 = 0 ∧ FarL (EdR g.es) m q.1 l1 ∧ l1 ≠ [] := by
              obtain ⟨_, hm2, _, _⟩ := HM.out
              rcases H1.out with ⟨h, _⟩ | ⟨_, h, _⟩ | ⟨_, _, h, ⟨h3, _⟩ | ⟨h3, h4⟩⟩
              · rw [HRT.out] at h; cases h
              · rw [hv] at h; cases h
              · obtain ⟨a', h5, h6⟩ := nodeB_nat hv
                have := h.len
                rw [h3] at this
                simp at this
                have := HM.out.1
                omega
              · rw [hm2] at h; exact ⟨h4, h, h3⟩
            have HFL := Lib.hid hfl
            obtain ⟨an, han, haz⟩ := nodeB_nat hv
            have HAN : Hid (q.1 = (an : Int) ∧ an < m) := ⟨han, by have := HM.out.1; omega⟩
            have HV := Lib.hid hv
            clear H1 hfl hne1 han haz hv
            have HRF := Lib.hid fun W (hR : Reads W W.heap.size 3 g.A g.n (cellsE g.es)) => rfar8_any m g.A g.n g.c g.es an 0 HM.out.2.2.2 (by have := HN.out; omega) HAN.out.2 W hR
            rw [to_zero HM.out.2.2.2.all] at HRF
            have HRF2 : Hid (∀ W, g.ok W → Calls Tryd.prog 15 #[.agg #[.int .i64 g.z, .slice g.A g.n g.c], .int .i64 q.1, .int .i64 0] W (RFarIs (EdR g.es) m q.1 W)) := fun W ok => by
              rw [HM.out.1, HAN.out.1]
              exact HRF.out W ok.1
            clear HRF
            have z0 := E8.out.c0 (.head _)
            have z1 := E8.out.c1 (.head _)
            have y0 := Y8.out.cell 0
            have y1 := Y8.out.cell 1
            go_wp2_with fail
            refine (HRF2.out _ (E8.out.ok (.head _))).mono ?_
            rintro e w9 ⟨l3, A3, c3, hf3, rfl, hr, b⟩
            have e3 := hf3.one_ HFL.out
            subst e3
            have hl3 : l3.length = m := hf3.len
            have hr3 : Reads w9 w9.heap.size 1 A3 l3.length (ints l3) := by rw [hl3]; exact hr
            have E9 := Lib.hid (E8.out.on b)
            have K9 := Lib.hid (KeptI.add (K8.out.on b) hr3)
            have Y9 := Lib.hid (Y8.out.below b Y8.out.lt)
            have hNm : Nl1 = m := HNl1.out.symm.trans hl3
            rw [← hNm]
            have hm3 : Nl1 ≤ 300 := by have := HM.out.2.2.1; omega
            clear b hr hr3 hf3 hl3 hNm HRF2 E8 K8 Y8 z0 z1 y0 y1
            have z0 := E9.out.c0 (.head _)
            have z1 := E9.out.c1 (.head _)
            have y0 := Y9.out.cell 0
            have y1 := Y9.out.cell 1
            go_wp2_with fail
            refine (node8_any g.z g.A g.n g.c q.1 _).mono ?_
            rintro e w10 ⟨rfl, b⟩
            rw [HV.out]
            have E10 := Lib.hid (E9.out.on b)
            have K10 := Lib.hid (K9.out.on b)
            have Y10 := Lib.hid (Y9.out.below b Y9.out.lt)
            clear b E9 K9 Y9 z0 z1 y0 y1
            have z0 := E10.out.c0 (.head _)
            have z1 := E10.out.c1 (.head _)
            have y0 := Y10.out.cell 0
            have y1 := Y10.out.cell 1
            go_wp2_with fail
            refine (node8_any g.z g.A g.n g.c q.2 _).mono ?_
            rintro e w11 ⟨rfl, b⟩
            have E11 := Lib.hid (E10.out.on b)
            have K11 := Lib.hid (K10.out.on b)
            have Y11 := Lib.hid (Y10.out.below b Y10.out.lt)
            clear b E10 K10 Y10 z0 z1 y0 y1
            cases hv2 : nodeB g.z q.2
            · skip
              obtain ⟨rfl, rfl⟩ : k2 = 2 ∧ l2 = [] := by
                rcases H2.out with ⟨h, _⟩ | ⟨_, _, h⟩ | ⟨_, h, _⟩
                · rw [HRT.out] at h; cases h
                · exact h
                · rw [hv2, Bool.and_false] at h; cases h
              clear H2 hv2
              obtain rfl : 0 = Nl2 := HNl2.out
              go_wp2_with fail
              refine (eqi_any A1 A3 Nl1 Nl1 cA1 c3 l3 l3 (by omega) (by omega) _ (by have := K11.out _ (.tail _ (.tail _ (.head _))); rwa [HNl1.out] at this) (by have := K11.out _ (.head _); rwa [HNl1.out] at this)).mono ?_
              rintro e w12 ⟨rfl, b⟩
              rw [decide_eq_true rfl]
              have E12 := Lib.hid (E11.out.on b)
              have K12 := Lib.hid (K11.out.on b)
              have Y12 := Lib.hid (Y11.out.below b Y11.out.lt)
              clear b E11 K11 Y11
              go_wp2_with fail
              refine (eqi_any A2 none 0 0 cA2 0 [] [] (by omega) (by omega) _ (K12.out _ (.tail _ (.head _))) Reads.none_).mono ?_
              rintro e w13 ⟨rfl, b⟩
              rw [decide_eq_true rfl]
              have E13 := Lib.hid (E12.out.on b)
              have K13 := Lib.hid (K12.out.on b)
              have Y13 := Lib.hid (Y12.out.below b Y12.out.lt)
              clear b E12 K12 Y12
              have hi6 := HI6.out
              go_wp2_with fail
              go_roundg g2
              case measure => omega
              case rel => exact ⟨i + 1, by go_num, by have := HIG.out; omega, by omega, E13⟩
            · skip
              obtain ⟨bn, hbn, hbz⟩ := nodeB_nat hv2
              have HBN : Hid (q.2 = (bn : Int) ∧ bn < m) := ⟨hbn, by have := HM.out.1; omega⟩
              obtain ⟨hgot, hk2⟩ : Got (EdR g.es) q.1 q.2 l2 ∧ ((l2 = [] ∧ k2 = 4) ∨ (l2 ≠ [] ∧ k2 = 0)) := by
                rcases H2.out with ⟨h, _⟩ | ⟨_, h, _⟩ | ⟨_, _, h, h2⟩
                · rw [HRT.out] at h; cases h
                · rw [HV.out, hv2] at h; cases h
                · exact ⟨h, h2⟩
              have HGOT := Lib.hid hgot
              have HK2 := Lib.hid hk2
              clear H2 hv2 hbn hbz hgot hk2
              have HRS2 : Hid (∀ W, g.ok W → Calls Tryd.prog 16 #[.agg #[.int .i64 g.z, .slice g.A g.n g.c], .int .i64 q.1, .int .i64 q.2] W (RRow (Got (EdR g.es) q.1 q.2) W)) := fun W ok => by
                rw [HM.out.1, HAN.out.1, HBN.out.1]
                exact rshortest8_any m g.A g.n g.c g.es an bn HM.out.2.2.2 (by have := HN.out; omega) HAN.out.2 HBN.out.2 W ok.1
              have z0 := E11.out.c0 (.head _)
              have z1 := E11.out.c1 (.head _)
              have y0 := Y11.out.cell 0
              have y1 := Y11.out.cell 1
              go_wp2_with fail
              refine (HRS2.out _ (E11.out.ok (.head _))).mono ?_
              rintro e w12 ⟨l4, A4, c4, hg4, hn4, h302, he, ho4, hx3, hx4, b⟩
              have e4 := hg4.one_ HGOT.out
              subst e4
              have hr4 := Reads.of_own ho4
              have E12 := Lib.hid (E11.out.on b)
              have K12 := Lib.hid (KeptI.add (K11.out.on b) hr4)
              have Y12 := Lib.hid (Y11.out.below b Y11.out.lt)
              clear b hr4 ho4 hg4 hx3 hx4 hn4 HRS2 E11 K11 Y11 z0 z1 y0 y1
              rcases HK2.out with ⟨h5, rfl⟩ | ⟨h5, rfl⟩
              · skip
                rw [h5, show decide (([] : List Int) ≠ []) = false from rfl] at he
                subst h5
                subst he
                obtain rfl : 0 = Nl2 := HNl2.out
                clear HK2 HGOT
                go_wp2_with fail
                refine (eqi_any A1 A3 Nl1 Nl1 cA1 c3 l3 l3 (by omega) (by omega) _ (by have := K12.out _ (.tail _ (.tail _ (.tail _ (.head _)))); rwa [HNl1.out] at this) (by have := K12.out _ (.tail _ (.head _)); rwa [HNl1.out] at this)).mono ?_
                rintro e w13 ⟨rfl, b⟩
                rw [decide_eq_true rfl]
                have E13 := Lib.hid (E12.out.on b)
                have K13 := Lib.hid (K12.out.on b)
                have Y13 := Lib.hid (Y12.out.below b Y12.out.lt)
                clear b E12 K12 Y12
                go_wp2_with fail
                refine (eqi_any A2 A4 0 0 cA2 c4 [] [] (by omega) (by omega) _ (K13.out _ (.tail _ (.tail _ (.head _)))) (K13.out _ (.head _))).mono ?_
                rintro e w14 ⟨rfl, b⟩
                rw [decide_eq_true rfl]
                have E14 := Lib.hid (E13.out.on b)
                have K14 := Lib.hid (K13.out.on b)
                have Y14 := Lib.hid (Y13.out.below b Y13.out.lt)
                clear b E13 K13 Y13
                have hi6 := HI6.out
                go_wp2_with fail
                go_roundg g2
                case measure => omega
                case rel => exact ⟨i + 1, by go_num, by have := HIG.out; omega, by omega, E14⟩
              · skip
                rw [decide_eq_true h5, HNl2.out] at he
                rw [HNl2.out] at h302
                subst he
                clear h5
                clear HK2 HGOT
                go_wp2_with fail
                refine (eqi_any A1 A3 Nl1 Nl1 cA1 c3 l3 l3 (by omega) (by omega) _ (by have := K12.out _ (.tail _ (.tail _ (.tail _ (.head _)))); rwa [HNl1.out] at this) (by have := K12.out _ (.tail _ (.head _)); rwa [HNl1.out] at this)).mono ?_
                rintro e w13 ⟨rfl, b⟩
                rw [decide_eq_true rfl]
                have E13 := Lib.hid (E12.out.on b)
                have K13 := Lib.hid (K12.out.on b)
                have Y13 := Lib.hid (Y12.out.below b Y12.out.lt)
                clear b E12 K12 Y12
                go_wp2_with fail
                refine (eqi_any A2 A4 Nl2 Nl2 cA2 c4 l4 l4 (by omega) (by omega) _ (by have := K13.out _ (.tail _ (.tail _ (.head _))); rwa [HNl2.out] at this) (by have := K13.out _ (.head _); rwa [HNl2.out] at this)).mono ?_
                rintro e w14 ⟨rfl, b⟩
                rw [decide_eq_true rfl]
                have E14 := Lib.hid (E13.out.on b)
                have K14 := Lib.hid (K13.out.on b)
                have Y14 := Lib.hid (Y13.out.below b Y13.out.lt)
                clear b E13 K13 Y13
                have hi6 := HI6.out
                go_wp2_with fail
                go_roundg g2
                case measure => omega
                case rel => exact ⟨i + 1, by go_num, by have := HIG.out; omega, by omega, E14⟩
end Go.Proofs.YtgbpaiffnhpafaaDoor
