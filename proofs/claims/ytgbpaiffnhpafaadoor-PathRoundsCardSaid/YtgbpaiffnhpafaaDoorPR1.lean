/- PathRounds: the walk. -/
import Derived.Test.YtgbpaiffnhpafaaDoorN1
import Derived.Test.YtgbpaiffnhpafaaDoorU2
-- holds: YtgbpaiffnhpafaaDoorRa
namespace Go.Proofs.YtgbpaiffnhpafaaDoor
open Go.RowKit Go.Shelf

set_option maxRecDepth 100000 in
set_option maxHeartbeats 16000000 in
theorem prounds_core (nodes : Int) (A : Option Addr) (n c : Nat) (zs : List Ed) (Al : Option Addr) (nl cl : Nat) (ls : List Int) (hc : A = none → c = 0) (hnc : n ≤ c) (hcm : c ≤ 9223372036854775807) (w : World) (hT : Bit.Tab w) (hR : Reads w w.heap.size 3 A n (cellsE zs)) (hLL : Reads w w.heap.size 1 Al nl (ints ls)) :
    Calls Tryd.prog 4 #[.agg #[.int .i64 nodes, .slice A n c], .slice Al nl cl] w fun e w' => e = .returned (.bool true) ∧ Below w.heap.size w w' := by
  have E0 := Lib.hid ((Env.start w).add (g := ⟨nodes, A, n, c, zs⟩) ⟨hR, hnc, hcm, hc⟩)
  obtain ⟨gx, hgx⟩ : ∃ gx : GV, (⟨nodes, A, n, c, zs⟩ : GV) = gx := ⟨_, rfl⟩
  have hz : nodes = gx.z := by rw [← hgx]
  have hA : A = gx.A := by rw [← hgx]
  have hn : n = gx.n := by rw [← hgx]
  have hcc : c = gx.c := by rw [← hgx]
  rw [hgx] at E0
  subst hz; subst hA; subst hn; subst hcc
  have HT := Lib.hid hT
  have HLL := Lib.hid hLL
  clear hLL
  clear hR hc hnc hcm hgx hT
  go_enter Tryd.func4, Tryd.ntmps4
  go_wp2_with fail
  generalize w.alloc (.cells #[.int .i64 gx.z, .slice gx.A gx.n gx.c] 24) = W0 at *
  refine (wakes8_any _ (HT.out.on E0.out.below)).mono ?_
  rintro e w1 ⟨rfl, b⟩
  have E1 := Lib.hid (E0.out.on b)
  clear b E0
  have z0 := E1.out.c0 (.head _)
  have z1 := E1.out.c1 (.head _)
  go_wp2_with fail
  have ok1 := E1.out.ok (.head _)
  refine (own8_any gx.z gx.A gx.n gx.c gx.es ok1.2.2.2 ok1.2.1 ok1.2.2.1 w1 ok1.1).mono ?_
  clear ok1
  rintro e w2 hx
  obtain ⟨g, rfl, hz, he, okg, b⟩ := gis_gv hx
  have E3 := Lib.hid ((E1.out.on b).add okg)
  have HN : Hid (g.n ≤ 300) := by
    show _ ≤ _
    have h1 := okg.len
    rw [he, List.length_take] at h1
    omega
  have HL : Hid (g.es.length = g.n) := okg.len
  have HX : Hid (g.z = gx.z ∧ g.es = gx.es.take 300) := ⟨hz, he⟩
  clear hx hz he okg b E1 z0 z1
  have z0 := E3.out.c0 (.head _)
  have z1 := E3.out.c1 (.head _)
  have x0 := E3.out.c0 (.tail _ (.head _))
  have x1 := E3.out.c1 (.tail _ (.head _))
  go_wp2_with fail
  generalize w2.alloc (.cells #[.int .i64 g.z, .slice g.A g.n g.c] 24) = w3 at *
  generalize w2.heap.size = b3 at *
  have HRG := Lib.hid (right_any g.z g.A g.n g.c g.es (by have := HN.out; omega) _ (E3.out.ok (.head _)).1)
  obtain ⟨rt, hrt⟩ : ∃ rt, rightG g.z g.es = rt := ⟨_, rfl⟩
  rw [hrt] at HRG
  have HRT := Lib.hid hrt
  clear hrt
  refine HRG.out.mono ?_
  rintro e w4 ⟨rfl, b⟩
  have E4 := Lib.hid (E3.out.on b)
  clear b E3 HRG z0 z1 x0 x1
  have K4 : Hid (KeptI [] w4) := fun p hp => by cases hp
  cases rt
  · skip
    have z0 := E4.out.c0 (.head _)
    have z1 := E4.out.c1 (.head _)
    go_wp2_with fail
    refine (cycle8_at g _ (by have := HN.out; omega) (E4.out.ok (.head _))).mono ?_
    rintro e w5 ⟨l1, k1, ⟨A1, cA1, rfl, hr, hx1, hx2, b⟩, hh⟩
    have H1 := Lib.hid hh
    obtain ⟨Nl1, hN⟩ : ∃ N, l1.length = N := ⟨_, rfl⟩
    rw [hN]
    have HNl1 := Lib.hid hN
    have E5 := Lib.hid (E4.out.on b)
    have K5 := Lib.hid (KeptI.add (K4.out.on b) hr)
    clear b E4 K4 z0 z1
    clear hr hh hN hx1 hx2
    obtain ⟨rfl, rfl⟩ : k1 = 150 ∧ l1 = [] := by
      rcases H1.out with ⟨_, h⟩ | ⟨h, _⟩ | ⟨h, _⟩
      · exact h
      · rw [HRT.out] at h; cases h
      · rw [HRT.out] at h; cases h
    obtain rfl : 0 = Nl1 := HNl1.out
    clear H1 HNl1
    go_wp2_with fail
    refine (eqi_any A1 none 0 0 cA1 0 [] [] (by omega) (by omega) _ (K5.out _ (.head _)) Reads.none_).mono ?_
    rintro e w6 ⟨rfl, b⟩
    rw [decide_eq_true rfl]
    have E6 := Lib.hid (E5.out.on b)
    have K6 := Lib.hid (K5.out.on b)
    clear b E5 K5
    clear K6
    go_wp2_with fail
    go_loopg [54] nl (fun gg s54 wr => ∃ i : Nat, s54 = .int .i64 i ∧ i + gg = nl ∧ i ≤ 6 ∧ Hid (Env w [(b3, g), (w.heap.size, gx)] wr))
    case atStart => exact ⟨0, rfl, by omega, by omega, E6⟩
    case round =>
      clear E6
      obtain ⟨i, rfl, hig, hi6, E9⟩ := hrel
      cases gk with
      | zero =>
        have hge : ¬ (i : Int) < (nl : Int) := by omega
        clear hig
        have HSF : Hid (∀ (f : GV) W, f.z = gx.z → f.es = gx.es.take 300 → g.ok W → f.ok W → Calls Tryd.prog 18 #[.agg #[.int .i64 g.z, .slice g.A g.n g.c], .agg #[.int .i64 f.z, .slice f.A f.n f.c]] W fun e w' => e = .returned (.bool true) ∧ Below W.heap.size W w') := by
          intro f W h1 h2 h3 h4
          have := rsame_any g.z f.z g.A f.A g.n g.c f.n f.c g.es f.es (by have := HN.out; omega) W h3.1 h4.1
          rwa [decide_eq_true ⟨HX.out.1.trans h1.symm, HX.out.2.trans h2.symm⟩] at this
        go_wp2_with fail
        have J0 := Lib.hid E9.out.drew
        clear E9
        refine wp_region_noPanic ?_
        refine wp_region_held_drew (S := fun w' => w'.cell? ⟨b3, 0, none⟩ = some (.int .i64 g.z) ∧ w'.cell? ⟨b3, 1, none⟩ = some (.slice g.A g.n g.c) ∧ w'.cell? ⟨w.heap.size, 0, none⟩ = some (.int .i64 gx.z) ∧ w'.cell? ⟨w.heap.size, 1, none⟩ = some (.slice gx.A gx.n gx.c)) (by kernel_rfl) ⟨J0.out.c0 (.head _), J0.out.c1 (.head _), J0.out.c0 (.tail _ (.head _)), J0.out.c1 (.tail _ (.head _))⟩ (fun hHeld => ?_)
        refine wpAnyH_take (i := 0) (oi := { dst := some 88, op := Op.load 24 (Operand.tmp 5), type := 24, pos := "law.go:118", after := #[], guard := none }) (v := .agg #[.int .i64 g.z, .slice g.A g.n g.c]) rfl (by kernel_rfl) (by kernel_rfl) (by kernel_rfl) (fun _ _ _ h => h) (Or.inl ⟨by kernel_rfl, fun w' hSw => by (try dsimp only at hSw); go_simp⟩) (by assumption) ?_
        try simp only [Act.put, List.setIfInBounds_toArray, List.set_cons_zero, List.set_cons_succ]
        refine wpAnyH_take (i := 1) (oi := { dst := some 89, op := Op.load 24 (Operand.tmp 2), type := 24, pos := "law.go:118", after := #[], guard := none }) (v := .agg #[.int .i64 gx.z, .slice gx.A gx.n gx.c]) rfl (by kernel_rfl) (by kernel_rfl) (by kernel_rfl) (fun _ _ _ h => h) (Or.inl ⟨by kernel_rfl, fun w' hSw => by (try dsimp only at hSw); go_simp⟩) (by assumption) ?_
        try simp only [Act.put, List.setIfInBounds_toArray, List.set_cons_zero, List.set_cons_succ]
        refine wpAnyH_ready (rs := [2]) (by kernel_rfl) (by simp) ?_
        refine AllReadyH.cons (o := { dst := some 90, op := Op.call { callee := Callee.value (Operand.func 10), args := #[Operand.tmp 89], argTypes := #[24] }, type := 24, pos := "law.go:118", after := #[{ on := 1, ground := Ground.data }], guard := none }) rfl (fun K hK => ?_) AllReadyH.nil
        go_simp
        refine (own8_any gx.z gx.A gx.n gx.c gx.es (J0.out.ok (.tail _ (.head _))).2.2.2 (J0.out.ok (.tail _ (.head _))).2.1 (J0.out.ok (.tail _ (.head _))).2.2.1 _ (J0.out.ok (.tail _ (.head _))).1).mono ?_
        rintro e v1 hx
        obtain ⟨f, rfl, hz, he, okf, b⟩ := gis_gv hx
        have J1 := Lib.hid (J0.out.on b)
        have HF := Lib.hid okf
        have HFE := Lib.hid (And.intro hz he)
        clear hx hz he okf b J0 hHeld
        refine hK.out _ _ ⟨J1.out.c0 (.head _), J1.out.c1 (.head _), J1.out.c0 (.tail _ (.head _)), J1.out.c1 (.tail _ (.head _))⟩ (fun hHeld => ?_)
        clear hK K
        try simp only [Act.put, List.setIfInBounds_toArray, List.set_cons_zero, List.set_cons_succ]
        refine wpAnyH_ready (rs := [3]) (by kernel_rfl) (by simp) ?_
        refine AllReadyH.cons (o := { dst := some 91, op := Op.call { callee := Callee.value (Operand.func 18), args := #[Operand.tmp 88, Operand.tmp 90], argTypes := #[24, 24] }, type := 4, pos := "law.go:118", after := #[{ on := 0, ground := Ground.data }, { on := 2, ground := Ground.data }, { on := 2, ground := Ground.chain }], guard := none }) rfl (fun K hK => ?_) AllReadyH.nil
        go_simp
        refine (HSF.out f _ HFE.out.1 HFE.out.2 (J1.out.ok (.head _)) HF.out).mono ?_
        rintro e v2 ⟨rfl, b⟩
        have J2 := Lib.hid (J1.out.on b)
        clear b J1 HF hHeld
        refine hK.out _ _ ⟨J2.out.c0 (.head _), J2.out.c1 (.head _), J2.out.c0 (.tail _ (.head _)), J2.out.c1 (.tail _ (.head _))⟩ (fun hHeld => ?_)
        clear hK K
        try simp only [Act.put, List.setIfInBounds_toArray, List.set_cons_zero, List.set_cons_succ]
        refine wpAnyH_take (i := 4) (oi := { dst := some 4, op := Op.assign (Operand.tmp 91), type := 4, pos := "law.go:118", after := #[{ on := 3, ground := Ground.data }, { on := 3, ground := Ground.chain }, { on := 0, ground := Ground.phase }, { on := 1, ground := Ground.phase }, { on := 2, ground := Ground.phase }, { on := 3, ground := Ground.phase }], guard := none }) (v := .bool true) rfl (by kernel_rfl) (by kernel_rfl) (by kernel_rfl) (fun _ _ _ h => h) (Or.inl ⟨by kernel_rfl, fun w' hSw => by (try dsimp only at hSw); go_simp⟩) (by assumption) ?_
        try simp only [Act.put, List.setIfInBounds_toArray, List.set_cons_zero, List.set_cons_succ]
        refine wpAnyH_done (by kernel_rfl) ?_ _
        refine NoPanic.normal ?_
        go_wp2_with fail
        go_ret
        exact ⟨rfl, J2.out.below⟩
      | succ g2 =>
        have hlt : (i : Int) < (nl : Int) := by omega
        have HIG := Lib.hid hig
        obtain ⟨q, hq⟩ : ∃ q, ls[i]? = some q := ⟨_, List.getElem?_eq_getElem (by have := ints_len HLL.out; omega)⟩
        obtain ⟨pb, po, hAp, _, c0⟩ := row_at ((HLL.out.below E9.out.below).more E9.out.below.size) hq
        subst hAp
        have K9 : Hid (KeptI [] wr) := fun p hp => by cases hp
        clear hq hig
        by_cases h6 : i = 6
        · subst h6
          have hb6 : (((6 : Nat) : Int) == 6) = true := rfl
          clear HIG K9
          have HSF : Hid (∀ (f : GV) W, f.z = gx.z → f.es = gx.es.take 300 → g.ok W → f.ok W → Calls Tryd.prog 18 #[.agg #[.int .i64 g.z, .slice g.A g.n g.c], .agg #[.int .i64 f.z, .slice f.A f.n f.c]] W fun e w' => e = .returned (.bool true) ∧ Below W.heap.size W w') := by
            intro f W h1 h2 h3 h4
            have := rsame_any g.z f.z g.A f.A g.n g.c f.n f.c g.es f.es (by have := HN.out; omega) W h3.1 h4.1
            rwa [decide_eq_true ⟨HX.out.1.trans h1.symm, HX.out.2.trans h2.symm⟩] at this
          go_wp2_with fail
          have J0 := Lib.hid E9.out.drew
          clear E9
          refine wp_region_noPanic ?_
          refine wp_region_held_drew (S := fun w' => w'.cell? ⟨b3, 0, none⟩ = some (.int .i64 g.z) ∧ w'.cell? ⟨b3, 1, none⟩ = some (.slice g.A g.n g.c) ∧ w'.cell? ⟨w.heap.size, 0, none⟩ = some (.int .i64 gx.z) ∧ w'.cell? ⟨w.heap.size, 1, none⟩ = some (.slice gx.A gx.n gx.c)) (by kernel_rfl) ⟨J0.out.c0 (.head _), J0.out.c1 (.head _), J0.out.c0 (.tail _ (.head _)), J0.out.c1 (.tail _ (.head _))⟩ (fun hHeld => ?_)
          refine wpAnyH_take (i := 0) (oi := { dst := some 88, op := Op.load 24 (Operand.tmp 5), type := 24, pos := "law.go:118", after := #[], guard := none }) (v := .agg #[.int .i64 g.z, .slice g.A g.n g.c]) rfl (by kernel_rfl) (by kernel_rfl) (by kernel_rfl) (fun _ _ _ h => h) (Or.inl ⟨by kernel_rfl, fun w' hSw => by (try dsimp only at hSw); go_simp⟩) (by assumption) ?_
          try simp only [Act.put, List.setIfInBounds_toArray, List.set_cons_zero, List.set_cons_succ]
          refine wpAnyH_take (i := 1) (oi := { dst := some 89, op := Op.load 24 (Operand.tmp 2), type := 24, pos := "law.go:118", after := #[], guard := none }) (v := .agg #[.int .i64 gx.z, .slice gx.A gx.n gx.c]) rfl (by kernel_rfl) (by kernel_rfl) (by kernel_rfl) (fun _ _ _ h => h) (Or.inl ⟨by kernel_rfl, fun w' hSw => by (try dsimp only at hSw); go_simp⟩) (by assumption) ?_
          try simp only [Act.put, List.setIfInBounds_toArray, List.set_cons_zero, List.set_cons_succ]
          refine wpAnyH_ready (rs := [2]) (by kernel_rfl) (by simp) ?_
          refine AllReadyH.cons (o := { dst := some 90, op := Op.call { callee := Callee.value (Operand.func 10), args := #[Operand.tmp 89], argTypes := #[24] }, type := 24, pos := "law.go:118", after := #[{ on := 1, ground := Ground.data }], guard := none }) rfl (fun K hK => ?_) AllReadyH.nil
          go_simp
          refine (own8_any gx.z gx.A gx.n gx.c gx.es (J0.out.ok (.tail _ (.head _))).2.2.2 (J0.out.ok (.tail _ (.head _))).2.1 (J0.out.ok (.tail _ (.head _))).2.2.1 _ (J0.out.ok (.tail _ (.head _))).1).mono ?_
          rintro e v1 hx
          obtain ⟨f, rfl, hz, he, okf, b⟩ := gis_gv hx
          have J1 := Lib.hid (J0.out.on b)
          have HF := Lib.hid okf
          have HFE := Lib.hid (And.intro hz he)
          clear hx hz he okf b J0 hHeld
          refine hK.out _ _ ⟨J1.out.c0 (.head _), J1.out.c1 (.head _), J1.out.c0 (.tail _ (.head _)), J1.out.c1 (.tail _ (.head _))⟩ (fun hHeld => ?_)
          clear hK K
          try simp only [Act.put, List.setIfInBounds_toArray, List.set_cons_zero, List.set_cons_succ]
          refine wpAnyH_ready (rs := [3]) (by kernel_rfl) (by simp) ?_
          refine AllReadyH.cons (o := { dst := some 91, op := Op.call { callee := Callee.value (Operand.func 18), args := #[Operand.tmp 88, Operand.tmp 90], argTypes := #[24, 24] }, type := 4, pos := "law.go:118", after := #[{ on := 0, ground := Ground.data }, { on := 2, ground := Ground.data }, { on := 2, ground := Ground.chain }], guard := none }) rfl (fun K hK => ?_) AllReadyH.nil
          go_simp
          refine (HSF.out f _ HFE.out.1 HFE.out.2 (J1.out.ok (.head _)) HF.out).mono ?_
          rintro e v2 ⟨rfl, b⟩
          have J2 := Lib.hid (J1.out.on b)
          clear b J1 HF hHeld
          refine hK.out _ _ ⟨J2.out.c0 (.head _), J2.out.c1 (.head _), J2.out.c0 (.tail _ (.head _)), J2.out.c1 (.tail _ (.head _))⟩ (fun hHeld => ?_)
          clear hK K
          try simp only [Act.put, List.setIfInBounds_toArray, List.set_cons_zero, List.set_cons_succ]
          refine wpAnyH_take (i := 4) (oi := { dst := some 4, op := Op.assign (Operand.tmp 91), type := 4, pos := "law.go:118", after := #[{ on := 3, ground := Ground.data }, { on := 3, ground := Ground.chain }, { on := 0, ground := Ground.phase }, { on := 1, ground := Ground.phase }, { on := 2, ground := Ground.phase }, { on := 3, ground := Ground.phase }], guard := none }) (v := .bool true) rfl (by kernel_rfl) (by kernel_rfl) (by kernel_rfl) (fun _ _ _ h => h) (Or.inl ⟨by kernel_rfl, fun w' hSw => by (try dsimp only at hSw); go_simp⟩) (by assumption) ?_
          try simp only [Act.put, List.setIfInBounds_toArray, List.set_cons_zero, List.set_cons_succ]
          refine wpAnyH_done (by kernel_rfl) ?_ _
          refine NoPanic.normal ?_
          go_wp2_with fail
          go_ret
          exact ⟨rfl, J2.out.below⟩
        · skip
          have hb6 : ((i : Int) == 6) = false := by simp; omega
          have HI6 : Hid (i < 6) := by show _ < _; omega
          clear h6 hi6
          have z0 := E9.out.c0 (.head _)
          have z1 := E9.out.c1 (.head _)
          go_wp2_with fail
          refine (through8_at g _ (by have := HN.out; omega) (E9.out.ok (.head _)) q).mono ?_
          rintro e w10 ⟨l2, k2, ⟨A2, cA2, rfl, hr, hx1, hx2, b⟩, hh⟩
          have H2 := Lib.hid hh
          obtain ⟨Nl2, hN⟩ : ∃ N, l2.length = N := ⟨_, rfl⟩
          rw [hN]
          have HNl2 := Lib.hid hN
          have E10 := Lib.hid (E9.out.on b)
          have K10 := Lib.hid (KeptI.add (K9.out.on b) hr)
          clear b E9 K9 z0 z1
          clear hr hh hN hx1 hx2
          clear c0
          obtain ⟨rfl, rfl⟩ : k2 = 150 ∧ l2 = [] := by
            rcases H2.out with ⟨_, h⟩ | ⟨h, _⟩ | ⟨h, _⟩
            · exact h
            · rw [HRT.out] at h; cases h
            · rw [HRT.out] at h; cases h
          obtain rfl : 0 = Nl2 := HNl2.out
          clear H2 HNl2
          go_wp2_with fail
          refine (eqi_any A2 none 0 0 cA2 0 [] [] (by omega) (by omega) _ (K10.out _ (.head _)) Reads.none_).mono ?_
          rintro e w11 ⟨rfl, b⟩
          rw [decide_eq_true rfl]
          have E11 := Lib.hid (E10.out.on b)
          have K11 := Lib.hid (K10.out.on b)
          clear b E10 K10
          have hi6 := HI6.out
          go_wp2_with fail
          go_roundg g2
          case measure => omega
          case rel => exact ⟨i + 1, by go_num, by have := HIG.out; omega, by omega, E11⟩
  · skip
    obtain ⟨m, hm1, hm2, hm3, hG⟩ := right_nat HRT.out
    have HM := Lib.hid (And.intro hm1 (And.intro hm2 (And.intro hm3 hG)))
    clear hm1 hm2 hm3 hG
    by_cases h60 : g.z > 60
    · clear K4
      have z0 := E4.out.c0 (.head _)
      have z1 := E4.out.c1 (.head _)
      go_wp2_with fail
      go_ret
      exact ⟨rfl, E4.out.below⟩
    · skip
      have z0 := E4.out.c0 (.head _)
      have z1 := E4.out.c1 (.head _)
      go_wp2_with fail
      refine (cycle8_at g _ (by have := HN.out; omega) (E4.out.ok (.head _))).mono ?_
      rintro e w5 ⟨l1, k1, ⟨A1, cA1, rfl, hr, hx1, hx2, b⟩, hh⟩
      have H1 := Lib.hid hh
      obtain ⟨Nl1, hN⟩ : ∃ N, l1.length = N := ⟨_, rfl⟩
      rw [hN]
      have HNl1 := Lib.hid hN
      have E5 := Lib.hid (E4.out.on b)
      have K5 := Lib.hid (KeptI.add (K4.out.on b) hr)
      clear b E4 K4 z0 z1
      clear hr hh hN hx1 hx2
      obtain ⟨hbest, hk1⟩ : BestIs (EdR g.es) m l1 ∧ ((l1 = [] ∧ k1 = 4) ∨ (l1 ≠ [] ∧ k1 = 0)) := by
        rcases H1.out with ⟨h, _⟩ | ⟨_, h, _⟩ | ⟨_, _, h, h2⟩
        · rw [HRT.out] at h; cases h
        · cases h
        · rw [HM.out.2.1] at h; exact ⟨h, h2⟩
      have HGOT := Lib.hid hbest
      have HK1 := Lib.hid hk1
      clear H1 hbest hk1 h60
      have HRC : Hid (∀ W, g.ok W → Calls Tryd.prog 20 #[.agg #[.int .i64 g.z, .slice g.A g.n g.c]] W (RRow (BestIs (EdR g.es) m) W)) := fun W ok => by
        rw [HM.out.1]
        exact rcycle8_any m g.A g.n g.c g.es HM.out.2.2.2 (by have := HN.out; omega) W ok.1
      have z0 := E5.out.c0 (.head _)
      have z1 := E5.out.c1 (.head _)
      go_wp2_with fail
      refine (HRC.out _ (E5.out.ok (.head _))).mono ?_
      rintro e w6 ⟨lr, Ar, cr, hg4, hn4, h302, he, ho4, hx3, hx4, b⟩
      have e4 := hg4.one_ HGOT.out
      subst e4
      have hr4 := Reads.of_own ho4
      have E6 := Lib.hid (E5.out.on b)
      have K6 := Lib.hid (KeptI.add (K5.out.on b) hr4)
      clear b E5 K5 z0 z1
      clear hr4 ho4 hg4 hx3 hx4 hn4
      clear HRC
      rcases HK1.out with ⟨h5, rfl⟩ | ⟨h5, rfl⟩
      · skip
        clear HK1 HGOT
        rw [h5, show decide (([] : List Int) ≠ []) = false from rfl] at he
        subst h5
        subst he
        obtain rfl : 0 = Nl1 := HNl1.out
        go_wp2_with fail
        refine (eqi_any A1 Ar 0 0 cA1 cr [] [] (by omega) (by omega) _ (K6.out _ (.tail _ (.head _))) (K6.out _ (.head _))).mono ?_
        rintro e w7 ⟨rfl, b⟩
        rw [decide_eq_true rfl]
        have E7 := Lib.hid (E6.out.on b)
        have K7 := Lib.hid (K6.out.on b)
        clear b E6 K6
        clear K7
        go_wp2_with fail
        go_loopg [54] nl (fun gg s54 wr => ∃ i : Nat, s54 = .int .i64 i ∧ i + gg = nl ∧ i ≤ 6 ∧ Hid (Env w [(b3, g), (w.heap.size, gx)] wr))
        case atStart => exact ⟨0, rfl, by omega, by omega, E7⟩
        case round =>
          clear E7
          obtain ⟨i, rfl, hig, hi6, E9⟩ := hrel
          cases gk with
          | zero =>
            have hge : ¬ (i : Int) < (nl : Int) := by omega
            clear hig
            have HSF : Hid (∀ (f : GV) W, f.z = gx.z → f.es = gx.es.take 300 → g.ok W → f.ok W → Calls Tryd.prog 18 #[.agg #[.int .i64 g.z, .slice g.A g.n g.c], .agg #[.int .i64 f.z, .slice f.A f.n f.c]] W fun e w' => e = .returned (.bool true) ∧ Below W.heap.size W w') := by
              intro f W h1 h2 h3 h4
              have := rsame_any g.z f.z g.A f.A g.n g.c f.n f.c g.es f.es (by have := HN.out; omega) W h3.1 h4.1
              rwa [decide_eq_true ⟨HX.out.1.trans h1.symm, HX.out.2.trans h2.symm⟩] at this
            go_wp2_with fail
            have J0 := Lib.hid E9.out.drew
            clear E9
            refine wp_region_noPanic ?_
            refine wp_region_held_drew (S := fun w' => w'.cell? ⟨b3, 0, none⟩ = some (.int .i64 g.z) ∧ w'.cell? ⟨b3, 1, none⟩ = some (.slice g.A g.n g.c) ∧ w'.cell? ⟨w.heap.size, 0, none⟩ = some (.int .i64 gx.z) ∧ w'.cell? ⟨w.heap.size, 1, none⟩ = some (.slice gx.A gx.n gx.c)) (by kernel_rfl) ⟨J0.out.c0 (.head _), J0.out.c1 (.head _), J0.out.c0 (.tail _ (.head _)), J0.out.c1 (.tail _ (.head _))⟩ (fun hHeld => ?_)
            refine wpAnyH_take (i := 0) (oi := { dst := some 88, op := Op.load 24 (Operand.tmp 5), type := 24, pos := "law.go:118", after := #[], guard := none }) (v := .agg #[.int .i64 g.z, .slice g.A g.n g.c]) rfl (by kernel_rfl) (by kernel_rfl) (by kernel_rfl) (fun _ _ _ h => h) (Or.inl ⟨by kernel_rfl, fun w' hSw => by (try dsimp only at hSw); go_simp⟩) (by assumption) ?_
            try simp only [Act.put, List.setIfInBounds_toArray, List.set_cons_zero, List.set_cons_succ]
            refine wpAnyH_take (i := 1) (oi := { dst := some 89, op := Op.load 24 (Operand.tmp 2), type := 24, pos := "law.go:118", after := #[], guard := none }) (v := .agg #[.int .i64 gx.z, .slice gx.A gx.n gx.c]) rfl (by kernel_rfl) (by kernel_rfl) (by kernel_rfl) (fun _ _ _ h => h) (Or.inl ⟨by kernel_rfl, fun w' hSw => by (try dsimp only at hSw); go_simp⟩) (by assumption) ?_
            try simp only [Act.put, List.setIfInBounds_toArray, List.set_cons_zero, List.set_cons_succ]
            refine wpAnyH_ready (rs := [2]) (by kernel_rfl) (by simp) ?_
            refine AllReadyH.cons (o := { dst := some 90, op := Op.call { callee := Callee.value (Operand.func 10), args := #[Operand.tmp 89], argTypes := #[24] }, type := 24, pos := "law.go:118", after := #[{ on := 1, ground := Ground.data }], guard := none }) rfl (fun K hK => ?_) AllReadyH.nil
            go_simp
            refine (own8_any gx.z gx.A gx.n gx.c gx.es (J0.out.ok (.tail _ (.head _))).2.2.2 (J0.out.ok (.tail _ (.head _))).2.1 (J0.out.ok (.tail _ (.head _))).2.2.1 _ (J0.out.ok (.tail _ (.head _))).1).mono ?_
            rintro e v1 hx
            obtain ⟨f, rfl, hz, he, okf, b⟩ := gis_gv hx
            have J1 := Lib.hid (J0.out.on b)
            have HF := Lib.hid okf
            have HFE := Lib.hid (And.intro hz he)
            clear hx hz he okf b J0 hHeld
            refine hK.out _ _ ⟨J1.out.c0 (.head _), J1.out.c1 (.head _), J1.out.c0 (.tail _ (.head _)), J1.out.c1 (.tail _ (.head _))⟩ (fun hHeld => ?_)
            clear hK K
            try simp only [Act.put, List.setIfInBounds_toArray, List.set_cons_zero, List.set_cons_succ]
            refine wpAnyH_ready (rs := [3]) (by kernel_rfl) (by simp) ?_
            refine AllReadyH.cons (o := { dst := some 91, op := Op.call { callee := Callee.value (Operand.func 18), args := #[Operand.tmp 88, Operand.tmp 90], argTypes := #[24, 24] }, type := 4, pos := "law.go:118", after := #[{ on := 0, ground := Ground.data }, { on := 2, ground := Ground.data }, { on := 2, ground := Ground.chain }], guard := none }) rfl (fun K hK => ?_) AllReadyH.nil
            go_simp
            refine (HSF.out f _ HFE.out.1 HFE.out.2 (J1.out.ok (.head _)) HF.out).mono ?_
            rintro e v2 ⟨rfl, b⟩
            have J2 := Lib.hid (J1.out.on b)
            clear b J1 HF hHeld
            refine hK.out _ _ ⟨J2.out.c0 (.head _), J2.out.c1 (.head _), J2.out.c0 (.tail _ (.head _)), J2.out.c1 (.tail _ (.head _))⟩ (fun hHeld => ?_)
            clear hK K
            try simp only [Act.put, List.setIfInBounds_toArray, List.set_cons_zero, List.set_cons_succ]
            refine wpAnyH_take (i := 4) (oi := { dst := some 4, op := Op.assign (Operand.tmp 91), type := 4, pos := "law.go:118", after := #[{ on := 3, ground := Ground.data }, { on := 3, ground := Ground.chain }, { on := 0, ground := Ground.phase }, { on := 1, ground := Ground.phase }, { on := 2, ground := Ground.phase }, { on := 3, ground := Ground.phase }], guard := none }) (v := .bool true) rfl (by kernel_rfl) (by kernel_rfl) (by kernel_rfl) (fun _ _ _ h => h) (Or.inl ⟨by kernel_rfl, fun w' hSw => by (try dsimp only at hSw); go_simp⟩) (by assumption) ?_
            try simp only [Act.put, List.setIfInBounds_toArray, List.set_cons_zero, List.set_cons_succ]
            refine wpAnyH_done (by kernel_rfl) ?_ _
            refine NoPanic.normal ?_
            go_wp2_with fail
            go_ret
            exact ⟨rfl, J2.out.below⟩
          | succ g2 =>
            have hlt : (i : Int) < (nl : Int) := by omega
            have HIG := Lib.hid hig
            obtain ⟨q, hq⟩ : ∃ q, ls[i]? = some q := ⟨_, List.getElem?_eq_getElem (by have := ints_len HLL.out; omega)⟩
            obtain ⟨pb, po, hAp, _, c0⟩ := row_at ((HLL.out.below E9.out.below).more E9.out.below.size) hq
            subst hAp
            have K9 : Hid (KeptI [] wr) := fun p hp => by cases hp
            clear hq hig
            by_cases h6 : i = 6
            · subst h6
              have hb6 : (((6 : Nat) : Int) == 6) = true := rfl
              clear HIG K9
              have HSF : Hid (∀ (f : GV) W, f.z = gx.z → f.es = gx.es.take 300 → g.ok W → f.ok W → Calls Tryd.prog 18 #[.agg #[.int .i64 g.z, .slice g.A g.n g.c], .agg #[.int .i64 f.z, .slice f.A f.n f.c]] W fun e w' => e = .returned (.bool true) ∧ Below W.heap.size W w') := by
                intro f W h1 h2 h3 h4
                have := rsame_any g.z f.z g.A f.A g.n g.c f.n f.c g.es f.es (by have := HN.out; omega) W h3.1 h4.1
                rwa [decide_eq_true ⟨HX.out.1.trans h1.symm, HX.out.2.trans h2.symm⟩] at this
              go_wp2_with fail
              have J0 := Lib.hid E9.out.drew
              clear E9
              refine wp_region_noPanic ?_
              refine wp_region_held_drew (S := fun w' => w'.cell? ⟨b3, 0, none⟩ = some (.int .i64 g.z) ∧ w'.cell? ⟨b3, 1, none⟩ = some (.slice g.A g.n g.c) ∧ w'.cell? ⟨w.heap.size, 0, none⟩ = some (.int .i64 gx.z) ∧ w'.cell? ⟨w.heap.size, 1, none⟩ = some (.slice gx.A gx.n gx.c)) (by kernel_rfl) ⟨J0.out.c0 (.head _), J0.out.c1 (.head _), J0.out.c0 (.tail _ (.head _)), J0.out.c1 (.tail _ (.head _))⟩ (fun hHeld => ?_)
              refine wpAnyH_take (i := 0) (oi := { dst := some 88, op := Op.load 24 (Operand.tmp 5), type := 24, pos := "law.go:118", after := #[], guard := none }) (v := .agg #[.int .i64 g.z, .slice g.A g.n g.c]) rfl (by kernel_rfl) (by kernel_rfl) (by kernel_rfl) (fun _ _ _ h => h) (Or.inl ⟨by kernel_rfl, fun w' hSw => by (try dsimp only at hSw); go_simp⟩) (by assumption) ?_
              try simp only [Act.put, List.setIfInBounds_toArray, List.set_cons_zero, List.set_cons_succ]
              refine wpAnyH_take (i := 1) (oi := { dst := some 89, op := Op.load 24 (Operand.tmp 2), type := 24, pos := "law.go:118", after := #[], guard := none }) (v := .agg #[.int .i64 gx.z, .slice gx.A gx.n gx.c]) rfl (by kernel_rfl) (by kernel_rfl) (by kernel_rfl) (fun _ _ _ h => h) (Or.inl ⟨by kernel_rfl, fun w' hSw => by (try dsimp only at hSw); go_simp⟩) (by assumption) ?_
              try simp only [Act.put, List.setIfInBounds_toArray, List.set_cons_zero, List.set_cons_succ]
              refine wpAnyH_ready (rs := [2]) (by kernel_rfl) (by simp) ?_
              refine AllReadyH.cons (o := { dst := some 90, op := Op.call { callee := Callee.value (Operand.func 10), args := #[Operand.tmp 89], argTypes := #[24] }, type := 24, pos := "law.go:118", after := #[{ on := 1, ground := Ground.data }], guard := none }) rfl (fun K hK => ?_) AllReadyH.nil
              go_simp
              refine (own8_any gx.z gx.A gx.n gx.c gx.es (J0.out.ok (.tail _ (.head _))).2.2.2 (J0.out.ok (.tail _ (.head _))).2.1 (J0.out.ok (.tail _ (.head _))).2.2.1 _ (J0.out.ok (.tail _ (.head _))).1).mono ?_
              rintro e v1 hx
              obtain ⟨f, rfl, hz, he, okf, b⟩ := gis_gv hx
              have J1 := Lib.hid (J0.out.on b)
              have HF := Lib.hid okf
              have HFE := Lib.hid (And.intro hz he)
              clear hx hz he okf b J0 hHeld
              refine hK.out _ _ ⟨J1.out.c0 (.head _), J1.out.c1 (.head _), J1.out.c0 (.tail _ (.head _)), J1.out.c1 (.tail _ (.head _))⟩ (fun hHeld => ?_)
              clear hK K
              try simp only [Act.put, List.setIfInBounds_toArray, List.set_cons_zero, List.set_cons_succ]
              refine wpAnyH_ready (rs := [3]) (by kernel_rfl) (by simp) ?_
              refine AllReadyH.cons (o := { dst := some 91, op := Op.call { callee := Callee.value (Operand.func 18), args := #[Operand.tmp 88, Operand.tmp 90], argTypes := #[24, 24] }, type := 4, pos := "law.go:118", after := #[{ on := 0, ground := Ground.data }, { on := 2, ground := Ground.data }, { on := 2, ground := Ground.chain }], guard := none }) rfl (fun K hK => ?_) AllReadyH.nil
              go_simp
              refine (HSF.out f _ HFE.out.1 HFE.out.2 (J1.out.ok (.head _)) HF.out).mono ?_
              rintro e v2 ⟨rfl, b⟩
              have J2 := Lib.hid (J1.out.on b)
              clear b J1 HF hHeld
              refine hK.out _ _ ⟨J2.out.c0 (.head _), J2.out.c1 (.head _), J2.out.c0 (.tail _ (.head _)), J2.out.c1 (.tail _ (.head _))⟩ (fun hHeld => ?_)
              clear hK K
              try simp only [Act.put, List.setIfInBounds_toArray, List.set_cons_zero, List.set_cons_succ]
              refine wpAnyH_take (i := 4) (oi := { dst := some 4, op := Op.assign (Operand.tmp 91), type := 4, pos := "law.go:118", after := #[{ on := 3, ground := Ground.data }, { on := 3, ground := Ground.chain }, { on := 0, ground := Ground.phase }, { on := 1, ground := Ground.phase }, { on := 2, ground := Ground.phase }, { on := 3, ground := Ground.phase }], guard := none }) (v := .bool true) rfl (by kernel_rfl) (by kernel_rfl) (by kernel_rfl) (fun _ _ _ h => h) (Or.inl ⟨by kernel_rfl, fun w' hSw => by (try dsimp only at hSw); go_simp⟩) (by assumption) ?_
              try simp only [Act.put, List.setIfInBounds_toArray, List.set_cons_zero, List.set_cons_succ]
              refine wpAnyH_done (by kernel_rfl) ?_ _
              refine NoPanic.normal ?_
              go_wp2_with fail
              go_ret
              exact ⟨rfl, J2.out.below⟩
            · skip
              have hb6 : ((i : Int) == 6) = false := by simp; omega
              have HI6 : Hid (i < 6) := by show _ < _; omega
              clear h6 hi6
              have z0 := E9.out.c0 (.head _)
              have z1 := E9.out.c1 (.head _)
              go_wp2_with fail
              refine (through8_at g _ (by have := HN.out; omega) (E9.out.ok (.head _)) q).mono ?_
              rintro e w10 ⟨l2, k2, ⟨A2, cA2, rfl, hr, hx1, hx2, b⟩, hh⟩
              have H2 := Lib.hid hh
              obtain ⟨Nl2, hN⟩ : ∃ N, l2.length = N := ⟨_, rfl⟩
              rw [hN]
              have HNl2 := Lib.hid hN
              have E10 := Lib.hid (E9.out.on b)
              have K10 := Lib.hid (KeptI.add (K9.out.on b) hr)
              clear b E9 K9 z0 z1
              clear hr hh hN hx1 hx2
              clear c0
              have z0 := E10.out.c0 (.head _)
              have z1 := E10.out.c1 (.head _)
              go_wp2_with fail
              refine (node8_any g.z g.A g.n g.c q _).mono ?_
              rintro e w11 ⟨rfl, b⟩
              have E11 := Lib.hid (E10.out.on b)
              have K11 := Lib.hid (K10.out.on b)
              clear b E10 K10 z0 z1
              cases hv : nodeB g.z q
              · skip
                obtain ⟨rfl, rfl⟩ : k2 = 2 ∧ l2 = [] := by
                  rcases H2.out with ⟨h, _⟩ | ⟨_, _, h⟩ | ⟨_, h, _⟩
                  · rw [HRT.out] at h; cases h
                  · exact h
                  · rw [hv] at h; cases h
                obtain rfl : 0 = Nl2 := HNl2.out
                clear H2 hv HNl2
                go_wp2_with fail
                refine (eqi_any A2 none 0 0 cA2 0 [] [] (by omega) (by omega) _ (K11.out _ (.head _)) Reads.none_).mono ?_
                rintro e w12 ⟨rfl, b⟩
                rw [decide_eq_true rfl]
                have E12 := Lib.hid (E11.out.on b)
                have K12 := Lib.hid (K11.out.on b)
                clear b E11 K11
                have hi6 := HI6.out
                go_wp2_with fail
                go_roundg g2
                case measure => omega
                case rel => exact ⟨i + 1, by go_num, by have := HIG.out; omega, by omega, E12⟩
              · skip
                obtain ⟨bn, hbn, hbz⟩ := nodeB_nat hv
                have HBN : Hid (q = (bn : Int) ∧ bn < m) := ⟨hbn, by have := HM.out.1; omega⟩
                obtain ⟨hthr, hk2⟩ : ThrIs g.es q l2 ∧ ((l2 = [] ∧ k2 = 4) ∨ (l2 ≠ [] ∧ k2 = 0)) := by
                  rcases H2.out with ⟨h, _⟩ | ⟨_, h, _⟩ | ⟨_, _, h, h2⟩
                  · rw [HRT.out] at h; cases h
                  · rw [hv] at h; cases h
                  · exact ⟨h, h2⟩
                have HTHR := Lib.hid hthr
                have HK2 := Lib.hid hk2
                clear H2 hthr hk2 hv hbn hbz
                have HRT8 : Hid (∀ W, g.ok W → Calls Tryd.prog 22 #[.agg #[.int .i64 g.z, .slice g.A g.n g.c], .int .i64 q] W (RRow (ThrIs g.es q) W)) := fun W ok => by
                  rw [HM.out.1, HBN.out.1]
                  exact rthrough8_any m g.A g.n g.c g.es bn HM.out.2.2.2 (by have := HN.out; omega) HBN.out.2 W ok.1
                have z0 := E11.out.c0 (.head _)
                have z1 := E11.out.c1 (.head _)
                go_wp2_with fail
                refine (HRT8.out _ (E11.out.ok (.head _))).mono ?_
                rintro e w12 ⟨lr, Ar, cr, hg4, hn4, h302, he, ho4, hx3, hx4, b⟩
                have e4 := hg4.one_ HTHR.out
                subst e4
                have hr4 := Reads.of_own ho4
                have E12 := Lib.hid (E11.out.on b)
                have K12 := Lib.hid (KeptI.add (K11.out.on b) hr4)
                clear b E11 K11 z0 z1
                clear hr4 ho4 hg4 hx3 hx4 hn4
                clear HRT8
                rcases HK2.out with ⟨h5, rfl⟩ | ⟨h5, rfl⟩
                · skip
                  rw [h5, show decide (([] : List Int) ≠ []) = false from rfl] at he
                  subst h5
                  subst he
                  obtain rfl : 0 = Nl2 := HNl2.out
                  go_wp2_with fail
                  refine (eqi_any A2 Ar 0 0 cA2 cr [] [] (by omega) (by omega) _ (K12.out _ (.tail _ (.head _))) (K12.out _ (.head _))).mono ?_
                  rintro e w13 ⟨rfl, b⟩
                  rw [decide_eq_true rfl]
                  have E13 := Lib.hid (E12.out.on b)
                  have K13 := Lib.hid (K12.out.on b)
                  clear b E12 K12
                  have hi6 := HI6.out
                  go_wp2_with fail
                  go_roundg g2
                  case measure => omega
                  case rel => exact ⟨i + 1, by go_num, by have := HIG.out; omega, by omega, E13⟩
                · skip
                  rw [decide_eq_true h5, HNl2.out] at he
                  rw [HNl2.out] at h302
                  subst he
                  clear h5
                  go_wp2_with fail
                  refine (eqi_any A2 Ar Nl2 Nl2 cA2 cr lr lr (by omega) (by omega) _ (by have := K12.out _ (.tail _ (.head _)); rwa [HNl2.out] at this) (by have := K12.out _ (.head _); rwa [HNl2.out] at this)).mono ?_
                  rintro e w13 ⟨rfl, b⟩
                  rw [decide_eq_true rfl]
                  have E13 := Lib.hid (E12.out.on b)
                  have K13 := Lib.hid (K12.out.on b)
                  clear b E12 K12
                  have hi6 := HI6.out
                  go_wp2_with fail
                  go_roundg g2
                  case measure => omega
                  case rel => exact ⟨i + 1, by go_num, by have := HIG.out; omega, by omega, E13⟩
      · skip
        clear HK1 HGOT
        rw [decide_eq_true h5, HNl1.out] at he
        rw [HNl1.out] at h302
        subst he
        clear h5
        go_wp2_with fail
        refine (eqi_any A1 Ar Nl1 Nl1 cA1 cr lr lr (by omega) (by omega) _ (by have := K6.out _ (.tail _ (.head _)); rwa [HNl1.out] at this) (by have := K6.out _ (.head _); rwa [HNl1.out] at this)).mono ?_
        rintro e w7 ⟨rfl, b⟩
        rw [decide_eq_true rfl]
        have E7 := Lib.hid (E6.out.on b)
        have K7 := Lib.hid (K6.out.on b)
        clear b E6 K6
        clear K7
        go_wp2_with fail
        go_loopg [54] nl (fun gg s54 wr => ∃ i : Nat, s54 = .int .i64 i ∧ i + gg = nl ∧ i ≤ 6 ∧ Hid (Env w [(b3, g), (w.heap.size, gx)] wr))
        case atStart => exact ⟨0, rfl, by omega, by omega, E7⟩
        case round =>
          clear E7
          obtain ⟨i, rfl, hig, hi6, E9⟩ := hrel
          cases gk with
          | zero =>
            have hge : ¬ (i : Int) < (nl : Int) := by omega
            clear hig
            have HSF : Hid (∀ (f : GV) W, f.z = gx.z → f.es = gx.es.take 300 → g.ok W → f.ok W → Calls Tryd.prog 18 #[.agg #[.int .i64 g.z, .slice g.A g.n g.c], .agg #[.int .i64 f.z, .slice f.A f.n f.c]] W fun e w' => e = .returned (.bool true) ∧ Below W.heap.size W w') := by
              intro f W h1 h2 h3 h4
              have := rsame_any g.z f.z g.A f.A g.n g.c f.n f.c g.es f.es (by have := HN.out; omega) W h3.1 h4.1
              rwa [decide_eq_true ⟨HX.out.1.trans h1.symm, HX.out.2.trans h2.symm⟩] at this
            go_wp2_with fail
            have J0 := Lib.hid E9.out.drew
            clear E9
            refine wp_region_noPanic ?_
            refine wp_region_held_drew (S := fun w' => w'.cell? ⟨b3, 0, none⟩ = some (.int .i64 g.z) ∧ w'.cell? ⟨b3, 1, none⟩ = some (.slice g.A g.n g.c) ∧ w'.cell? ⟨w.heap.size, 0, none⟩ = some (.int .i64 gx.z) ∧ w'.cell? ⟨w.heap.size, 1, none⟩ = some (.slice gx.A gx.n gx.c)) (by kernel_rfl) ⟨J0.out.c0 (.head _), J0.out.c1 (.head _), J0.out.c0 (.tail _ (.head _)), J0.out.c1 (.tail _ (.head _))⟩ (fun hHeld => ?_)
            refine wpAnyH_take (i := 0) (oi := { dst := some 88, op := Op.load 24 (Operand.tmp 5), type := 24, pos := "law.go:118", after := #[], guard := none }) (v := .agg #[.int .i64 g.z, .slice g.A g.n g.c]) rfl (by kernel_rfl) (by kernel_rfl) (by kernel_rfl) (fun _ _ _ h => h) (Or.inl ⟨by kernel_rfl, fun w' hSw => by (try dsimp only at hSw); go_simp⟩) (by assumption) ?_
            try simp only [Act.put, List.setIfInBounds_toArray, List.set_cons_zero, List.set_cons_succ]
            refine wpAnyH_take (i := 1) (oi := { dst := some 89, op := Op.load 24 (Operand.tmp 2), type := 24, pos := "law.go:118", after := #[], guard := none }) (v := .agg #[.int .i64 gx.z, .slice gx.A gx.n gx.c]) rfl (by kernel_rfl) (by kernel_rfl) (by kernel_rfl) (fun _ _ _ h => h) (Or.inl ⟨by kernel_rfl, fun w' hSw => by (try dsimp only at hSw); go_simp⟩) (by assumption) ?_
            try simp only [Act.put, List.setIfInBounds_toArray, List.set_cons_zero, List.set_cons_succ]
            refine wpAnyH_ready (rs := [2]) (by kernel_rfl) (by simp) ?_
            refine AllReadyH.cons (o := { dst := some 90, op := Op.call { callee := Callee.value (Operand.func 10), args := #[Operand.tmp 89], argTypes := #[24] }, type := 24, pos := "law.go:118", after := #[{ on := 1, ground := Ground.data }], guard := none }) rfl (fun K hK => ?_) AllReadyH.nil
            go_simp
            refine (own8_any gx.z gx.A gx.n gx.c gx.es (J0.out.ok (.tail _ (.head _))).2.2.2 (J0.out.ok (.tail _ (.head _))).2.1 (J0.out.ok (.tail _ (.head _))).2.2.1 _ (J0.out.ok (.tail _ (.head _))).1).mono ?_
            rintro e v1 hx
            obtain ⟨f, rfl, hz, he, okf, b⟩ := gis_gv hx
            have J1 := Lib.hid (J0.out.on b)
            have HF := Lib.hid okf
            have HFE := Lib.hid (And.intro hz he)
            clear hx hz he okf b J0 hHeld
            refine hK.out _ _ ⟨J1.out.c0 (.head _), J1.out.c1 (.head _), J1.out.c0 (.tail _ (.head _)), J1.out.c1 (.tail _ (.head _))⟩ (fun hHeld => ?_)
            clear hK K
            try simp only [Act.put, List.setIfInBounds_toArray, List.set_cons_zero, List.set_cons_succ]
            refine wpAnyH_ready (rs := [3]) (by kernel_rfl) (by simp) ?_
            refine AllReadyH.cons (o := { dst := some 91, op := Op.call { callee := Callee.value (Operand.func 18), args := #[Operand.tmp 88, Operand.tmp 90], argTypes := #[24, 24] }, type := 4, pos := "law.go:118", after := #[{ on := 0, ground := Ground.data }, { on := 2, ground := Ground.data }, { on := 2, ground := Ground.chain }], guard := none }) rfl (fun K hK => ?_) AllReadyH.nil
            go_simp
            refine (HSF.out f _ HFE.out.1 HFE.out.2 (J1.out.ok (.head _)) HF.out).mono ?_
            rintro e v2 ⟨rfl, b⟩
            have J2 := Lib.hid (J1.out.on b)
            clear b J1 HF hHeld
            refine hK.out _ _ ⟨J2.out.c0 (.head _), J2.out.c1 (.head _), J2.out.c0 (.tail _ (.head _)), J2.out.c1 (.tail _ (.head _))⟩ (fun hHeld => ?_)
            clear hK K
            try simp only [Act.put, List.setIfInBounds_toArray, List.set_cons_zero, List.set_cons_succ]
            refine wpAnyH_take (i := 4) (oi := { dst := some 4, op := Op.assign (Operand.tmp 91), type := 4, pos := "law.go:118", after := #[{ on := 3, ground := Ground.data }, { on := 3, ground := Ground.chain }, { on := 0, ground := Ground.phase }, { on := 1, ground := Ground.phase }, { on := 2, ground := Ground.phase }, { on := 3, ground := Ground.phase }], guard := none }) (v := .bool true) rfl (by kernel_rfl) (by kernel_rfl) (by kernel_rfl) (fun _ _ _ h => h) (Or.inl ⟨by kernel_rfl, fun w' hSw => by (try dsimp only at hSw); go_simp⟩) (by assumption) ?_
            try simp only [Act.put, List.setIfInBounds_toArray, List.set_cons_zero, List.set_cons_succ]
            refine wpAnyH_done (by kernel_rfl) ?_ _
            refine NoPanic.normal ?_
            go_wp2_with fail
            go_ret
            exact ⟨rfl, J2.out.below⟩
          | succ g2 =>
            have hlt : (i : Int) < (nl : Int) := by omega
            have HIG := Lib.hid hig
            obtain ⟨q, hq⟩ : ∃ q, ls[i]? = some q := ⟨_, List.getElem?_eq_getElem (by have := ints_len HLL.out; omega)⟩
            obtain ⟨pb, po, hAp, _, c0⟩ := row_at ((HLL.out.below E9.out.below).more E9.out.below.size) hq
            subst hAp
            have K9 : Hid (KeptI [] wr) := fun p hp => by cases hp
            clear hq hig
            by_cases h6 : i = 6
            · subst h6
              have hb6 : (((6 : Nat) : Int) == 6) = true := rfl
              clear HIG K9
              have HSF : Hid (∀ (f : GV) W, f.z = gx.z → f.es = gx.es.take 300 → g.ok W → f.ok W → Calls Tryd.prog 18 #[.agg #[.int .i64 g.z, .slice g.A g.n g.c], .agg #[.int .i64 f.z, .slice f.A f.n f.c]] W fun e w' => e = .returned (.bool true) ∧ Below W.heap.size W w') := by
                intro f W h1 h2 h3 h4
                have := rsame_any g.z f.z g.A f.A g.n g.c f.n f.c g.es f.es (by have := HN.out; omega) W h3.1 h4.1
                rwa [decide_eq_true ⟨HX.out.1.trans h1.symm, HX.out.2.trans h2.symm⟩] at this
              go_wp2_with fail
              have J0 := Lib.hid E9.out.drew
              clear E9
              refine wp_region_noPanic ?_
              refine wp_region_held_drew (S := fun w' => w'.cell? ⟨b3, 0, none⟩ = some (.int .i64 g.z) ∧ w'.cell? ⟨b3, 1, none⟩ = some (.slice g.A g.n g.c) ∧ w'.cell? ⟨w.heap.size, 0, none⟩ = some (.int .i64 gx.z) ∧ w'.cell? ⟨w.heap.size, 1, none⟩ = some (.slice gx.A gx.n gx.c)) (by kernel_rfl) ⟨J0.out.c0 (.head _), J0.out.c1 (.head _), J0.out.c0 (.tail _ (.head _)), J0.out.c1 (.tail _ (.head _))⟩ (fun hHeld => ?_)
              refine wpAnyH_take (i := 0) (oi := { dst := some 88, op := Op.load 24 (Operand.tmp 5), type := 24, pos := "law.go:118", after := #[], guard := none }) (v := .agg #[.int .i64 g.z, .slice g.A g.n g.c]) rfl (by kernel_rfl) (by kernel_rfl) (by kernel_rfl) (fun _ _ _ h => h) (Or.inl ⟨by kernel_rfl, fun w' hSw => by (try dsimp only at hSw); go_simp⟩) (by assumption) ?_
              try simp only [Act.put, List.setIfInBounds_toArray, List.set_cons_zero, List.set_cons_succ]
              refine wpAnyH_take (i := 1) (oi := { dst := some 89, op := Op.load 24 (Operand.tmp 2), type := 24, pos := "law.go:118", after := #[], guard := none }) (v := .agg #[.int .i64 gx.z, .slice gx.A gx.n gx.c]) rfl (by kernel_rfl) (by kernel_rfl) (by kernel_rfl) (fun _ _ _ h => h) (Or.inl ⟨by kernel_rfl, fun w' hSw => by (try dsimp only at hSw); go_simp⟩) (by assumption) ?_
              try simp only [Act.put, List.setIfInBounds_toArray, List.set_cons_zero, List.set_cons_succ]
              refine wpAnyH_ready (rs := [2]) (by kernel_rfl) (by simp) ?_
              refine AllReadyH.cons (o := { dst := some 90, op := Op.call { callee := Callee.value (Operand.func 10), args := #[Operand.tmp 89], argTypes := #[24] }, type := 24, pos := "law.go:118", after := #[{ on := 1, ground := Ground.data }], guard := none }) rfl (fun K hK => ?_) AllReadyH.nil
              go_simp
              refine (own8_any gx.z gx.A gx.n gx.c gx.es (J0.out.ok (.tail _ (.head _))).2.2.2 (J0.out.ok (.tail _ (.head _))).2.1 (J0.out.ok (.tail _ (.head _))).2.2.1 _ (J0.out.ok (.tail _ (.head _))).1).mono ?_
              rintro e v1 hx
              obtain ⟨f, rfl, hz, he, okf, b⟩ := gis_gv hx
              have J1 := Lib.hid (J0.out.on b)
              have HF := Lib.hid okf
              have HFE := Lib.hid (And.intro hz he)
              clear hx hz he okf b J0 hHeld
              refine hK.out _ _ ⟨J1.out.c0 (.head _), J1.out.c1 (.head _), J1.out.c0 (.tail _ (.head _)), J1.out.c1 (.tail _ (.head _))⟩ (fun hHeld => ?_)
              clear hK K
              try simp only [Act.put, List.setIfInBounds_toArray, List.set_cons_zero, List.set_cons_succ]
              refine wpAnyH_ready (rs := [3]) (by kernel_rfl) (by simp) ?_
              refine AllReadyH.cons (o := { dst := some 91, op := Op.call { callee := Callee.value (Operand.func 18), args := #[Operand.tmp 88, Operand.tmp 90], argTypes := #[24, 24] }, type := 4, pos := "law.go:118", after := #[{ on := 0, ground := Ground.data }, { on := 2, ground := Ground.data }, { on := 2, ground := Ground.chain }], guard := none }) rfl (fun K hK => ?_) AllReadyH.nil
              go_simp
              refine (HSF.out f _ HFE.out.1 HFE.out.2 (J1.out.ok (.head _)) HF.out).mono ?_
              rintro e v2 ⟨rfl, b⟩
              have J2 := Lib.hid (J1.out.on b)
              clear b J1 HF hHeld
              refine hK.out _ _ ⟨J2.out.c0 (.head _), J2.out.c1 (.head _), J2.out.c0 (.tail _ (.head _)), J2.out.c1 (.tail _ (.head _))⟩ (fun hHeld => ?_)
              clear hK K
              try simp only [Act.put, List.setIfInBounds_toArray, List.set_cons_zero, List.set_cons_succ]
              refine wpAnyH_take (i := 4) (oi := { dst := some 4, op := Op.assign (Operand.tmp 91), type := 4, pos := "law.go:118", after := #[{ on := 3, ground := Ground.data }, { on := 3, ground := Ground.chain }, { on := 0, ground := Ground.phase }, { on := 1, ground := Ground.phase }, { on := 2, ground := Ground.phase }, { on := 3, ground := Ground.phase }], guard := none }) (v := .bool true) rfl (by kernel_rfl) (by kernel_rfl) (by kernel_rfl) (fun _ _ _ h => h) (Or.inl ⟨by kernel_rfl, fun w' hSw => by (try dsimp only at hSw); go_simp⟩) (by assumption) ?_
              try simp only [Act.put, List.setIfInBounds_toArray, List.set_cons_zero, List.set_cons_succ]
              refine wpAnyH_done (by kernel_rfl) ?_ _
              refine NoPanic.normal ?_
              go_wp2_with fail
              go_ret
              exact ⟨rfl, J2.out.below⟩
            · skip
              have hb6 : ((i : Int) == 6) = false := by simp; omega
              have HI6 : Hid (i < 6) := by show _ < _; omega
              clear h6 hi6
              have z0 := E9.out.c0 (.head _)
              have z1 := E9.out.c1 (.head _)
              go_wp2_with fail
              refine (through8_at g _ (by have := HN.out; omega) (E9.out.ok (.head _)) q).mono ?_
              rintro e w10 ⟨l2, k2, ⟨A2, cA2, rfl, hr, hx1, hx2, b⟩, hh⟩
              have H2 := Lib.hid hh
              obtain ⟨Nl2, hN⟩ : ∃ N, l2.length = N := ⟨_, rfl⟩
              rw [hN]
              have HNl2 := Lib.hid hN
              have E10 := Lib.hid (E9.out.on b)
              have K10 := Lib.hid (KeptI.add (K9.out.on b) hr)
              clear b E9 K9 z0 z1
              clear hr hh hN hx1 hx2
              clear c0
              have z0 := E10.out.c0 (.head _)
              have z1 := E10.out.c1 (.head _)
              go_wp2_with fail
              refine (node8_any g.z g.A g.n g.c q _).mono ?_
              rintro e w11 ⟨rfl, b⟩
              have E11 := Lib.hid (E10.out.on b)
              have K11 := Lib.hid (K10.out.on b)
              clear b E10 K10 z0 z1
              cases hv : nodeB g.z q
              · skip
                obtain ⟨rfl, rfl⟩ : k2 = 2 ∧ l2 = [] := by
                  rcases H2.out with ⟨h, _⟩ | ⟨_, _, h⟩ | ⟨_, h, _⟩
                  · rw [HRT.out] at h; cases h
                  · exact h
                  · rw [hv] at h; cases h
                obtain rfl : 0 = Nl2 := HNl2.out
                clear H2 hv HNl2
                go_wp2_with fail
                refine (eqi_any A2 none 0 0 cA2 0 [] [] (by omega) (by omega) _ (K11.out _ (.head _)) Reads.none_).mono ?_
                rintro e w12 ⟨rfl, b⟩
                rw [decide_eq_true rfl]
                have E12 := Lib.hid (E11.out.on b)
                have K12 := Lib.hid (K11.out.on b)
                clear b E11 K11
                have hi6 := HI6.out
                go_wp2_with fail
                go_roundg g2
                case measure => omega
                case rel => exact ⟨i + 1, by go_num, by have := HIG.out; omega, by omega, E12⟩
              · skip
                obtain ⟨bn, hbn, hbz⟩ := nodeB_nat hv
                have HBN : Hid (q = (bn : Int) ∧ bn < m) := ⟨hbn, by have := HM.out.1; omega⟩
                obtain ⟨hthr, hk2⟩ : ThrIs g.es q l2 ∧ ((l2 = [] ∧ k2 = 4) ∨ (l2 ≠ [] ∧ k2 = 0)) := by
                  rcases H2.out with ⟨h, _⟩ | ⟨_, h, _⟩ | ⟨_, _, h, h2⟩
                  · rw [HRT.out] at h; cases h
                  · rw [hv] at h; cases h
                  · exact ⟨h, h2⟩
                have HTHR := Lib.hid hthr
                have HK2 := Lib.hid hk2
                clear H2 hthr hk2 hv hbn hbz
                have HRT8 : Hid (∀ W, g.ok W → Calls Tryd.prog 22 #[.agg #[.int .i64 g.z, .slice g.A g.n g.c], .int .i64 q] W (RRow (ThrIs g.es q) W)) := fun W ok => by
                  rw [HM.out.1, HBN.out.1]
                  exact rthrough8_any m g.A g.n g.c g.es bn HM.out.2.2.2 (by have := HN.out; omega) HBN.out.2 W ok.1
                have z0 := E11.out.c0 (.head _)
                have z1 := E11.out.c1 (.head _)
                go_wp2_with fail
                refine (HRT8.out _ (E11.out.ok (.head _))).mono ?_
                rintro e w12 ⟨lr, Ar, cr, hg4, hn4, h302, he, ho4, hx3, hx4, b⟩
                have e4 := hg4.one_ HTHR.out
                subst e4
                have hr4 := Reads.of_own ho4
                have E12 := Lib.hid (E11.out.on b)
                have K12 := Lib.hid (KeptI.add (K11.out.on b) hr4)
                clear b E11 K11 z0 z1
                clear hr4 ho4 hg4 hx3 hx4 hn4
                clear HRT8
                rcases HK2.out with ⟨h5, rfl⟩ | ⟨h5, rfl⟩
                · skip
                  rw [h5, show decide (([] : List Int) ≠ []) = false from rfl] at he
                  subst h5
                  subst he
                  obtain rfl : 0 = Nl2 := HNl2.out
                  go_wp2_with fail
                  refine (eqi_any A2 Ar 0 0 cA2 cr [] [] (by omega) (by omega) _ (K12.out _ (.tail _ (.head _))) (K12.out _ (.head _))).mono ?_
                  rintro e w13 ⟨rfl, b⟩
                  rw [decide_eq_true rfl]
                  have E13 := Lib.hid (E12.out.on b)
                  have K13 := Lib.hid (K12.out.on b)
                  clear b E12 K12
                  have hi6 := HI6.out
                  go_wp2_with fail
                  go_roundg g2
                  case measure => omega
                  case rel => exact ⟨i + 1, by go_num, by have := HIG.out; omega, by omega, E13⟩
                · skip
                  rw [decide_eq_true h5, HNl2.out] at he
                  rw [HNl2.out] at h302
                  subst he
                  clear h5
                  go_wp2_with fail
                  refine (eqi_any A2 Ar Nl2 Nl2 cA2 cr lr lr (by omega) (by omega) _ (by have := K12.out _ (.tail _ (.head _)); rwa [HNl2.out] at this) (by have := K12.out _ (.head _); rwa [HNl2.out] at this)).mono ?_
                  rintro e w13 ⟨rfl, b⟩
                  rw [decide_eq_true rfl]
                  have E13 := Lib.hid (E12.out.on b)
                  have K13 := Lib.hid (K12.out.on b)
                  clear b E12 K12
                  have hi6 := HI6.out
                  go_wp2_with fail
                  go_roundg g2
                  case measure => omega
                  case rel => exact ⟨i + 1, by go_num, by have := HIG.out; omega, by omega, E13⟩
end Go.Proofs.YtgbpaiffnhpafaaDoor
