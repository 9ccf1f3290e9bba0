/- GraphWhole: the walk. -/
import Derived.Test.YticbgikbpafeoaaHf
namespace Go.Proofs.Yticbgikbpafeoaa
open Go.RowKit

set_option maxRecDepth 100000 in
set_option maxHeartbeats 4000000 in
theorem whole_core (nodes : Int) (A : Option Addr) (n c : Nat) (zs : List Ed) (turn : Int) (hc : A = none → c = 0) (hnc : n ≤ c) (hcm : c ≤ 9223372036854775807) (w : World) (hR : Reads w w.heap.size 3 A n (cellsE zs)) :
    Calls Try.prog 7 #[.agg #[.int .i64 nodes, .slice A n c], .int .i64 turn] w fun e w' => e = .returned (.bool true) ∧ Below w.heap.size w w' := by
  have E0 := Lib.hid ((Env.start w).add (g := ⟨nodes, A, n, c, zs⟩) ⟨hR, hnc, hcm, hc⟩)
  obtain ⟨gx, hgx⟩ : ∃ gx : GV, (⟨nodes, A, n, c, zs⟩ : GV) = gx := ⟨_, rfl⟩
  have hz : nodes = gx.z := by rw [← hgx]
  have hA : A = gx.A := by rw [← hgx]
  have hn : n = gx.n := by rw [← hgx]
  have hcc : c = gx.c := by rw [← hgx]
  rw [hgx] at E0
  subst hz; subst hA; subst hn; subst hcc
  clear hR hc hnc hcm hgx
  go_enter Try.func7, Try.ntmps7
  go_wp2_with fail
  generalize w.alloc (.cells #[.int .i64 gx.z, .slice gx.A gx.n gx.c] 24) = W0 at *
  refine (wakes_any _).mono ?_
  rintro e w1 ⟨rfl, b⟩
  have E1 := Lib.hid (E0.out.on b)
  clear b E0
  have z0 := E1.out.c0 (.head _)
  have z1 := E1.out.c1 (.head _)
  go_wp2_with fail
  have ok1 := E1.out.ok (.head _)
  refine (fair_any gx.z gx.A gx.n gx.c gx.es ok1.2.2.2 ok1.2.1 ok1.2.2.1 w1 ok1.1).mono ?_
  clear ok1
  rintro e w2 hx
  obtain ⟨g, rfl, hz, he, okg, b⟩ := gis_gv hx
  have E2 := Lib.hid ((E1.out.on b).add okg)
  have hgn : g.n ≤ 80 := by
    have := okg.len
    have h2 := take_len gx.es
    rw [← he] at h2
    omega
  clear hx hz he okg b E1 z0 z1
  have z0 := E2.out.c0 (.head _)
  have z1 := E2.out.c1 (.head _)
  go_wp2_with fail
  generalize w2.alloc (.cells #[.int .i64 g.z, .slice g.A g.n g.c] 24) = w3 at *
  generalize w2.heap.size = b5 at *
  have HC := Lib.hid (check_any g.z g.A g.n g.c g.es (by omega) w3 (E2.out.ok (.head _)).1)
  cases hr : rightG g.z g.es
  · rw [check_no hr] at HC
    refine HC.out.mono ?_
    clear hr HC
    rintro e w4 ⟨rfl, b⟩
    have E4 := Lib.hid (E2.out.on b)
    clear b E2 z0 z1
    go_wp2_with fail
    go_ret
    exact ⟨rfl, E4.out.below⟩
  · rw [check_yes hr] at HC
    have HIG := Lib.hid (rightG_iff.1 hr)
    refine HC.out.mono ?_
    clear hr HC
    rintro e w4 ⟨rfl, b⟩
    have E4 := Lib.hid (E2.out.on b)
    clear b E2 z0 z1
    have z0 := E4.out.c0 (.head _)
    have z1 := E4.out.c1 (.head _)
    go_wp2_with fail
    have ok4 := E4.out.ok (.head _)
    refine (clone_any g.A g.n g.c g.es (by omega) ok4.2.2.2 ok4.2.1 w4 ok4.1).mono ?_
    rintro e w5 ⟨A6, c6, rfl, ho, h1, h2, b⟩
    have E5 := Lib.hid (E4.out.on b)
    have HL := Lib.hid (reads_own ho)
    have hlen := ok4.len
    clear ok4 ho b E4 z0 z1
    go_upto_if 27 with (fail)
    go_cut [6] (fun s6 wx => ∃ (A' : Option Addr) (n' c' : Nat) (ys : List Ed), s6 = .slice A' n' c' ∧ Hid (Reads wx wx.heap.size 3 A' n' (cellsE ys)) ∧ Hid (n' ≤ 1000) ∧ Hid (sorE ys = g.es ∧ ∀ p ∈ ys, rightE g.z p = true) ∧ Hid (Env w [(b5, g), (w.heap.size, gx)] wx))
    case first =>
      rcases Nat.eq_zero_or_pos g.n with h0 | h0
      · have hb0 : (g.n : Int) = 0 := by omega
        have HN : Hid (g.n ≤ 1000) := by show _ ≤ _; omega
        have HS : Hid (sorE g.es = g.es ∧ ∀ p ∈ g.es, rightE g.z p = true) := ⟨sorE_is (fun p hp => HIG.out.ok p hp) HIG.out.up fun _ => Iff.rfl, HIG.out.all⟩
        have HLT : Hid (Reads w5 w5.heap.size 3 A6 g.n (cellsE g.es)) := HL.out
        clear h0 h1 h2 hlen HIG HL
        have hlt : ¬ (0 : Int) < (g.n : Int) := by omega
        have hbb : decide ((0 : Int) < (g.n : Int)) = false := decide_eq_false hlt
        have hbc : decide ((g.n : Int) > 0) = false := decide_eq_false hlt
        clear hb0
        go_wp2_with fail
        go_meet
        exact ⟨A6, g.n, c6, g.es, rfl, HLT, HN, HS, E5⟩
      · obtain ⟨k, hk, hkk⟩ := turn_place turn g.n hgn h0
        have hlt : (0 : Int) < (g.n : Int) := by omega
        have hbb : decide ((0 : Int) < (g.n : Int)) = true := decide_eq_true hlt
        have hne : ¬ (g.n : Int) = 0 := by omega
        have hu : IntKind.u64.wrap (g.n : Int) = (g.n : Int) := by rw [IntKind.wrap_u64]; omega
        obtain ⟨A1, hA1⟩ : ∃ A1, A1 = if c6 = k then A6 else A6.map (·.add (k * 3)) := ⟨_, rfl⟩
        have hs1 := pr_slice_l A6 g.n c6 k k rfl (by omega)
        have hs2 := pr_slice_h A6 g.n c6 k k rfl (by omega)
        have hs3 := pr_slice_h A6 g.n c6 1 1 rfl (by omega)
        rw [← hA1] at hs1
        have HRW : Hid (∀ W t, Reads W W.heap.size 3 A6 g.n (cellsE g.es) → ERows (W.alloc (.cells #[.slice A1 (g.n - k) (c6 - k), .slice A6 k c6, .slice A6 1 c6] t)) (W.alloc (.cells #[.slice A1 (g.n - k) (c6 - k), .slice A6 k c6, .slice A6 1 c6] t)).heap.size (some ⟨W.heap.size, 0, none⟩) 3
            [⟨A1, g.n - k, c6 - k, g.es.drop k⟩, ⟨A6, k, c6, g.es.take k⟩, ⟨A6, 1, c6, g.es.take 1⟩]) := fun W t h => erows3 h hk h1 hA1
        have HCON : Hid (∀ B W, ERows W W.heap.size B 3 [⟨A1, g.n - k, c6 - k, g.es.drop k⟩, ⟨A6, k, c6, g.es.take k⟩, ⟨A6, 1, c6, g.es.take 1⟩] → Calls Try.prog 34 #[.slice B 3 3] W (RowIs (turnE g.es k) W)) := by
          intro B W h
          obtain ⟨ad, hAd, _, _⟩ := HL.out.2 h0
          have := concat_any B 3 3 _ (by omega) (fun r hr => ?_) (fun r hr => ?_) W h
          · rwa [cat3] at this
          · simp only [List.mem_cons, List.not_mem_nil, or_false] at hr
            rcases hr with rfl | rfl | rfl
            · show g.n - k ≤ 200; omega
            · show k ≤ 200; omega
            · show 1 ≤ 200; omega
          · simp only [List.mem_cons, List.not_mem_nil, or_false] at hr
            rcases hr with rfl | rfl | rfl
            · intro e
              exfalso
              subst hAd
              rw [show (ERow.mk A1 (g.n - k) (c6 - k) (g.es.drop k)).A = A1 from rfl, hA1] at e
              split at e <;> simp at e
            · intro e; subst hAd; cases e
            · intro e; subst hAd; cases e
        have HN : Hid ((turnE g.es k).length ≤ 1000) := by
          have := turn_len g.es k
          show _ ≤ _; omega
        have HS : Hid (sorE (turnE g.es k) = g.es ∧ ∀ p ∈ turnE g.es k, rightE g.z p = true) := ⟨turn_is HIG.out k, turn_all HIG.out k⟩
        clear h0 h1 h2 hk hlen HIG hA1
        generalize turnE g.es k = ts at *
        go_wp2_with fail
        have J0 := Lib.hid E5.out.drew
        have RD : Hid (Reads w5.drew w5.drew.heap.size 3 A6 g.n (cellsE g.es)) := HL.out
        clear E5 HL hbb hne hu hlt
        refine wp_region_noPanic ?_
        refine wp_region_held_drew (S := fun _ => True) (by kernel_rfl) trivial (fun hHeld => ?_)
        refine wpAnyH_take (i := 0) (oi := { dst := some 35, op := Op.move (Operand.tmp 6), type := 22, pos := "outright.go:53", after := #[], guard := none }) (v := .slice A6 g.n c6) rfl (by kernel_rfl) (by kernel_rfl) (by kernel_rfl) (fun _ _ _ h => h) (Or.inl ⟨by kernel_rfl, fun w' hSw => by (try dsimp only at hSw); go_simp⟩) (by assumption) ?_
        try simp only [Act.put, List.setIfInBounds_toArray, List.set_cons_zero, List.set_cons_succ]
        refine wpAnyH_take (i := 1) (oi := { dst := some 36, op := Op.move (Operand.tmp 7), type := 3, pos := "outright.go:53", after := #[], guard := none }) (v := .int .i64 k) rfl (by kernel_rfl) (by kernel_rfl) (by kernel_rfl) (fun _ _ _ h => h) (Or.inl ⟨by kernel_rfl, fun w' hSw => by (try dsimp only at hSw); go_simp⟩) (by assumption) ?_
        try simp only [Act.put, List.setIfInBounds_toArray, List.set_cons_zero, List.set_cons_succ]
        refine wpAnyH_take (i := 2) (oi := { dst := some 37, op := Op.slice 22 (Operand.tmp 35) (some (Operand.tmp 36)) none none, type := 22, pos := "outright.go:53", after := #[{ on := 0, ground := Ground.data }, { on := 1, ground := Ground.data }], guard := none }) (v := .slice A1 (g.n - k) (c6 - k)) rfl (by kernel_rfl) (by kernel_rfl) (by kernel_rfl) (fun _ _ _ h => h) (Or.inl ⟨by kernel_rfl, fun w' hSw => by (try dsimp only at hSw); go_simp⟩) (by assumption) ?_
        try simp only [Act.put, List.setIfInBounds_toArray, List.set_cons_zero, List.set_cons_succ]
        refine wpAnyH_take (i := 3) (oi := { dst := some 38, op := Op.move (Operand.tmp 6), type := 22, pos := "outright.go:53", after := #[], guard := none }) (v := .slice A6 g.n c6) rfl (by kernel_rfl) (by kernel_rfl) (by kernel_rfl) (fun _ _ _ h => h) (Or.inl ⟨by kernel_rfl, fun w' hSw => by (try dsimp only at hSw); go_simp⟩) (by assumption) ?_
        try simp only [Act.put, List.setIfInBounds_toArray, List.set_cons_zero, List.set_cons_succ]
        refine wpAnyH_take (i := 4) (oi := { dst := some 39, op := Op.move (Operand.tmp 7), type := 3, pos := "outright.go:53", after := #[], guard := none }) (v := .int .i64 k) rfl (by kernel_rfl) (by kernel_rfl) (by kernel_rfl) (fun _ _ _ h => h) (Or.inl ⟨by kernel_rfl, fun w' hSw => by (try dsimp only at hSw); go_simp⟩) (by assumption) ?_
        try simp only [Act.put, List.setIfInBounds_toArray, List.set_cons_zero, List.set_cons_succ]
        refine wpAnyH_take (i := 5) (oi := { dst := some 40, op := Op.slice 22 (Operand.tmp 38) none (some (Operand.tmp 39)) none, type := 22, pos := "outright.go:53", after := #[{ on := 3, ground := Ground.data }, { on := 4, ground := Ground.data }], guard := none }) (v := .slice A6 k c6) rfl (by kernel_rfl) (by kernel_rfl) (by kernel_rfl) (fun _ _ _ h => h) (Or.inl ⟨by kernel_rfl, fun w' hSw => by (try dsimp only at hSw); go_simp⟩) (by assumption) ?_
        try simp only [Act.put, List.setIfInBounds_toArray, List.set_cons_zero, List.set_cons_succ]
        refine wpAnyH_take (i := 6) (oi := { dst := some 41, op := Op.move (Operand.tmp 6), type := 22, pos := "outright.go:53", after := #[], guard := none }) (v := .slice A6 g.n c6) rfl (by kernel_rfl) (by kernel_rfl) (by kernel_rfl) (fun _ _ _ h => h) (Or.inl ⟨by kernel_rfl, fun w' hSw => by (try dsimp only at hSw); go_simp⟩) (by assumption) ?_
        try simp only [Act.put, List.setIfInBounds_toArray, List.set_cons_zero, List.set_cons_succ]
        refine wpAnyH_take (i := 7) (oi := { dst := some 42, op := Op.slice 22 (Operand.tmp 41) none (some (Operand.const (Value.int IntKind.i64 1))) none, type := 22, pos := "outright.go:53", after := #[{ on := 6, ground := Ground.data }], guard := none }) (v := .slice A6 1 c6) rfl (by kernel_rfl) (by kernel_rfl) (by kernel_rfl) (fun _ _ _ h => h) (Or.inl ⟨by kernel_rfl, fun w' hSw => by (try dsimp only at hSw); go_simp⟩) (by assumption) ?_
        try simp only [Act.put, List.setIfInBounds_toArray, List.set_cons_zero, List.set_cons_succ]
        refine wpAnyH_ready (rs := [8]) (by kernel_rfl) (by simp) ?_
        refine AllReadyH.cons (o := { dst := some 43, op := Op.buildSlice 75 3 #[(0, Operand.tmp 37), (1, Operand.tmp 40), (2, Operand.tmp 42)], type := 75, pos := "outright.go:53", after := #[{ on := 2, ground := Ground.data }, { on := 5, ground := Ground.data }, { on := 7, ground := Ground.data }], guard := none }) rfl (fun K hK => ?_) AllReadyH.nil
        go_simp
        have hb : Below w5.drew.heap.size w5.drew (w5.drew.alloc (.cells #[.slice A1 (g.n - k) (c6 - k), .slice A6 k c6, .slice A6 1 c6] 22)) := (Below.refl _ _).alloc (Nat.le_refl _) _
        have J1 := Lib.hid (J0.out.on hb)
        have R1 := Lib.hid (HRW.out w5.drew 22 RD.out)
        clear hb J0 RD hHeld
        refine hK.out _ _ trivial (fun hHeld => ?_)
        clear hK K
        try simp only [Act.put, List.setIfInBounds_toArray, List.set_cons_zero, List.set_cons_succ]
        refine wpAnyH_ready (rs := [9]) (by kernel_rfl) (by simp) ?_
        refine AllReadyH.cons (o := { dst := some 44, op := Op.call { callee := Callee.value (Operand.func 34), args := #[Operand.tmp 43], argTypes := #[75] }, type := 22, pos := "outright.go:53", after := #[{ on := 8, ground := Ground.data }], guard := none }) rfl (fun K hK => ?_) AllReadyH.nil
        go_simp
        refine (HCON.out _ _ R1.out).mono ?_
        rintro e w6 hx
        obtain ⟨A3, c3, rfl, h1, h2, h3, hb⟩ := rows_row hx
        have J2 := Lib.hid (J1.out.on hb)
        have R2 := Lib.hid (reads_own h1)
        clear hx h1 h2 h3 hb J1 R1 hHeld
        refine hK.out _ _ trivial (fun hHeld => ?_)
        clear hK K
        try simp only [Act.put, List.setIfInBounds_toArray, List.set_cons_zero, List.set_cons_succ]
        refine wpAnyH_take (i := 10) (oi := { dst := some 6, op := Op.assign (Operand.tmp 44), type := 22, pos := "outright.go:53", after := #[{ on := 9, ground := Ground.data }, { on := 9, ground := Ground.chain }, { on := 0, ground := Ground.phase }, { on := 1, ground := Ground.phase }, { on := 2, ground := Ground.phase }, { on := 3, ground := Ground.phase }, { on := 4, ground := Ground.phase }, { on := 5, ground := Ground.phase }, { on := 6, ground := Ground.phase }, { on := 7, ground := Ground.phase }, { on := 8, ground := Ground.phase }, { on := 9, ground := Ground.phase }], guard := none }) (v := .slice A3 ts.length c3) rfl (by kernel_rfl) (by kernel_rfl) (by kernel_rfl) (fun _ _ _ h => h) (Or.inl ⟨by kernel_rfl, fun w' hSw => by (try dsimp only at hSw); go_simp⟩) (by assumption) ?_
        try simp only [Act.put, List.setIfInBounds_toArray, List.set_cons_zero, List.set_cons_succ]
        refine wpAnyH_done (by kernel_rfl) ?_ _
        refine NoPanic.normal ?_
        go_wp2_with fail
        go_meet
        exact ⟨A3, _, c3, ts, rfl, R2, HN, HS, J2⟩
    case rest =>
      clear E5 HL h1 h2 hlen
      rename World => w6
      obtain ⟨A6, n6, c6, ys, rfl, RL, HN, HS, E6⟩ := hcut
      obtain ⟨m, hm⟩ : ∃ m : Nat, g.z = (m : Int) := ⟨g.z.toNat, by have := HIG.out.nodes; omega⟩
      have hm300 : m ≤ 300 := by have := HIG.out.nodes; omega
      have HM := Lib.hid hm
      have HIGM : Hid (IsG (m : Int) g.es) := by show IsG _ _; rw [← HM.out]; exact HIG.out
      have z0 : w6.cell? ⟨b5, 0, none⟩ = some (.int .i64 (m : Int)) := by rw [← HM.out]; exact E6.out.c0 (.head _)
      have HOF : Calls Try.prog 14 #[.int .i64 (m : Int), .slice A6 n6 c6] w6 (GErr (m : Int) g.es 0 w6) := by
        have := of_ok (m : Int) A6 n6 c6 ys HIGM.out.may (by rw [← HM.out]; exact HS.out.2) HN.out w6 RL.out
        rwa [HS.out.1] at this
      have HHOF := Lib.hid HOF
      clear hm HOF RL HN HS HIG
      go_wp2_with fail
      refine HHOF.out.mono ?_
      rintro e w7 hx
      obtain ⟨gw, rfl, hzw, hew, okw, b⟩ := gerr_gv hx
      have E7 := Lib.hid ((E6.out.on b).add okw)
      have HW := Lib.hid (And.intro hzw hew)
      clear hx hzw hew okw b E6 z0 HHOF
      have z0 : (w7.alloc (.cells #[.int .i64 gw.z, .slice gw.A gw.n gw.c] 24)).cell? ⟨b5, 0, none⟩ = some (.int .i64 (m : Int)) := by rw [← HM.out]; exact E7.out.c0 (.tail _ (.head _))
      have z1 := E7.out.c1 (.tail _ (.head _))
      go_wp2_with fail
      generalize w7.alloc (.cells #[.int .i64 gw.z, .slice gw.A gw.n gw.c] 24) = w8 at *
      generalize w7.heap.size = b8 at *
      have HST := starts_ok (m : Int) g.A g.n g.c g.es HIGM.out (by omega) w8 (E7.out.ok (.tail _ (.head _))).1
      refine HST.mono ?_
      clear HST
      rintro e w9 ⟨As, cs, he, hrs, h1, h2, b⟩
      rw [startsE_len, show (m : Int).toNat + 1 = m + 1 from by omega] at he hrs h1
      subst he
      have E9 := Lib.hid (E7.out.on b)
      obtain ⟨bs, os, hAs, hbs, _⟩ := int_at hrs (startsE_get g.es (show 0 < m + 1 by omega))
      subst hAs
      have HSC : Hid (∀ W, Below w9.heap.size w9 W → ∀ i : Nat, i ≤ m → W.cell? ⟨bs, os + i, none⟩ = some (.int .i64 ((startE g.es (i : Int) : Nat) : Int))) := by
        intro W hW i hi
        obtain ⟨b', o', e, _, hcell⟩ := int_at (hrs.below hW) (startsE_get g.es (show i < m + 1 by omega))
        injection e with e
        injection e with e1 e2
        subst e1; subst e2
        exact hcell
      have HSN : Hid (∀ W, Below w9.heap.size w9 W → W.cell? ⟨bs, os + m, none⟩ = some (.int .i64 (g.n : Int))) := by
        intro W hW
        rw [HSC.out W hW m (Nat.le_refl _), start_all HIGM.out.all, (E9.out.ok (.tail _ (.head _))).len]
      have HSM : Hid (∀ W, gw.ok W → g.ok W → Calls Try.prog 19 #[.agg #[.int .i64 gw.z, .slice gw.A gw.n gw.c], .agg #[.int .i64 (m : Int), .slice g.A g.n g.c]] W fun e w' => e = .returned (.bool true) ∧ Below W.heap.size W w') := by
        intro W h3 h4
        have := same_any gw.z (m : Int) gw.A g.A gw.n gw.c g.n g.c gw.es g.es (by have := h3.len; rw [HW.out.2, h4.len] at this; omega) W h3.1 h4.1
        rwa [decide_eq_true ⟨HW.out.1, HW.out.2⟩] at this
      have hwm : IntKind.i64.wrap ((m : Int) + 1) = (m : Int) + 1 := by rw [IntKind.wrap_i64]; omega
      have hmb : ¬ ((m : Int) + 1 ≤ (m : Int)) := by omega
      clear hrs h1 h2 b E7 z0 z1 hbs
      go_wp2_with fail
      have J0 := Lib.hid E9.out.drew
      have B0 : Hid (Below w9.heap.size w9 w9.drew) := (Below.refl _ _).drew
      have HM0 : Hid (∀ W : World, (W.cell? ⟨b5, 0, none⟩ = some (.int .i64 g.z)) → W.cell? ⟨b5, 0, none⟩ = some (.int .i64 (m : Int))) := fun W h => by rw [← HM.out]; exact h
      clear E9
      refine wp_region_noPanic ?_
      refine wp_region_held_drew (S := fun w' => w'.cell? ⟨b8, 0, none⟩ = some (.int .i64 gw.z) ∧ w'.cell? ⟨b8, 1, none⟩ = some (.slice gw.A gw.n gw.c) ∧ w'.cell? ⟨b5, 0, none⟩ = some (.int .i64 (m : Int)) ∧ w'.cell? ⟨b5, 1, none⟩ = some (.slice g.A g.n g.c) ∧ w'.cell? ⟨bs, os + m, none⟩ = some (.int .i64 (g.n : Int))) (by kernel_rfl) ⟨J0.out.c0 (.head _), J0.out.c1 (.head _), HM0.out _ (J0.out.c0 (.tail _ (.head _))), J0.out.c1 (.tail _ (.head _)), HSN.out _ B0.out⟩ (fun hHeld => ?_)
      refine wpAnyH_take (i := 0) (oi := { dst := some 57, op := Op.move (Operand.tmp 9), type := 28, pos := "outright.go:57", after := #[], guard := none }) (v := .int .i64 0) rfl (by kernel_rfl) (by kernel_rfl) (by kernel_rfl) (fun _ _ _ h => h) (Or.inl ⟨by kernel_rfl, fun w' hSw => by (try dsimp only at hSw); go_simp⟩) (by assumption) ?_
      try simp only [Act.put, List.setIfInBounds_toArray, List.set_cons_zero, List.set_cons_succ]
      refine wpAnyH_take (i := 1) (oi := { dst := some 58, op := Op.binOp BinOp.neq 28 (Operand.tmp 57) (Operand.const (Value.int IntKind.i64 0)) 28, type := 4, pos := "outright.go:57", after := #[{ on := 0, ground := Ground.data }], guard := none }) (v := .bool false) rfl (by kernel_rfl) (by kernel_rfl) (by kernel_rfl) (fun _ _ _ h => h) (Or.inl ⟨by kernel_rfl, fun w' hSw => by (try dsimp only at hSw); go_simp⟩) (by assumption) ?_
      try simp only [Act.put, List.setIfInBounds_toArray, List.set_cons_zero, List.set_cons_succ]
      refine wpAnyH_take (i := 2) (oi := { dst := some 59, op := Op.move (Operand.tmp 58), type := 4, pos := "outright.go:57", after := #[{ on := 1, ground := Ground.data }], guard := none }) (v := .bool false) rfl (by kernel_rfl) (by kernel_rfl) (by kernel_rfl) (fun _ _ _ h => h) (Or.inl ⟨by kernel_rfl, fun w' hSw => by (try dsimp only at hSw); go_simp⟩) (by assumption) ?_
      try simp only [Act.put, List.setIfInBounds_toArray, List.set_cons_zero, List.set_cons_succ]
      refine wpAnyH_take (i := 3) (oi := { dst := some 60, op := Op.move (Operand.tmp 11), type := 28, pos := "outright.go:57", after := #[{ on := 2, ground := Ground.guard }], guard := some (2, false) }) (v := .int .i64 0) rfl (by kernel_rfl) (by kernel_rfl) (by kernel_rfl) (fun _ _ _ h => h) (Or.inl ⟨by kernel_rfl, fun w' hSw => by (try dsimp only at hSw); go_simp⟩) (by assumption) ?_
      try simp only [Act.put, List.setIfInBounds_toArray, List.set_cons_zero, List.set_cons_succ]
      refine wpAnyH_take (i := 4) (oi := { dst := some 61, op := Op.binOp BinOp.neq 28 (Operand.tmp 60) (Operand.const (Value.int IntKind.i64 0)) 28, type := 4, pos := "outright.go:57", after := #[{ on := 3, ground := Ground.data }, { on := 2, ground := Ground.guard }], guard := some (2, false) }) (v := .bool false) rfl (by kernel_rfl) (by kernel_rfl) (by kernel_rfl) (fun _ _ _ h => h) (Or.inl ⟨by kernel_rfl, fun w' hSw => by (try dsimp only at hSw); go_simp⟩) (by assumption) ?_
      try simp only [Act.put, List.setIfInBounds_toArray, List.set_cons_zero, List.set_cons_succ]
      refine wpAnyH_take (i := 5) (oi := { dst := some 62, op := Op.pick (Operand.tmp 59) (Operand.const (Value.bool true)) (Operand.tmp 61), type := 4, pos := "outright.go:57", after := #[{ on := 2, ground := Ground.data }, { on := 4, ground := Ground.data }], guard := none }) (v := .bool false) rfl (by kernel_rfl) (by kernel_rfl) (by kernel_rfl) (fun _ _ _ h => h) (Or.inl ⟨by kernel_rfl, fun w' hSw => by (try dsimp only at hSw); go_simp⟩) (by assumption) ?_
      try simp only [Act.put, List.setIfInBounds_toArray, List.set_cons_zero, List.set_cons_succ]
      refine wpAnyH_take (i := 6) (oi := { dst := some 63, op := Op.move (Operand.tmp 62), type := 4, pos := "outright.go:57", after := #[{ on := 5, ground := Ground.data }, { on := 2, ground := Ground.chain }], guard := none }) (v := .bool false) rfl (by kernel_rfl) (by kernel_rfl) (by kernel_rfl) (fun _ _ _ h => h) (Or.inl ⟨by kernel_rfl, fun w' hSw => by (try dsimp only at hSw); go_simp⟩) (by assumption) ?_
      try simp only [Act.put, List.setIfInBounds_toArray, List.set_cons_zero, List.set_cons_succ]
      refine wpAnyH_take (i := 7) (oi := { dst := some 64, op := Op.load 24 (Operand.tmp 8), type := 24, pos := "outright.go:57", after := #[{ on := 6, ground := Ground.guard }], guard := some (6, false) }) (v := .agg #[.int .i64 gw.z, .slice gw.A gw.n gw.c]) rfl (by kernel_rfl) (by kernel_rfl) (by kernel_rfl) (fun _ _ _ h => h) (Or.inl ⟨by kernel_rfl, fun w' hSw => by (try dsimp only at hSw); go_simp⟩) (by assumption) ?_
      try simp only [Act.put, List.setIfInBounds_toArray, List.set_cons_zero, List.set_cons_succ]
      refine wpAnyH_take (i := 8) (oi := { dst := some 65, op := Op.load 24 (Operand.tmp 5), type := 24, pos := "outright.go:57", after := #[{ on := 6, ground := Ground.guard }], guard := some (6, false) }) (v := .agg #[.int .i64 (m : Int), .slice g.A g.n g.c]) rfl (by kernel_rfl) (by kernel_rfl) (by kernel_rfl) (fun _ _ _ h => h) (Or.inl ⟨by kernel_rfl, fun w' hSw => by (try dsimp only at hSw); go_simp⟩) (by assumption) ?_
      try simp only [Act.put, List.setIfInBounds_toArray, List.set_cons_zero, List.set_cons_succ]
      refine wpAnyH_ready (rs := [9]) (by kernel_rfl) (by simp) ?_
      refine AllReadyH.cons (o := { dst := some 66, op := Op.call { callee := Callee.value (Operand.func 19), args := #[Operand.tmp 64, Operand.tmp 65], argTypes := #[24, 24] }, type := 4, pos := "outright.go:57", after := #[{ on := 7, ground := Ground.data }, { on := 8, ground := Ground.data }, { on := 6, ground := Ground.chain }, { on := 6, ground := Ground.guard }], guard := some (6, false) }) rfl (fun K hK => ?_) AllReadyH.nil
      go_simp
      refine (HSM.out w9.drew (J0.out.ok (.head _)) (J0.out.ok (.tail _ (.head _)))).mono ?_
      rintro e w10 ⟨rfl, b⟩
      have J1 := Lib.hid (J0.out.on b)
      have B1 : Hid (Below w9.heap.size w9 w10) := B0.out.trans (b.mono B0.out.size)
      clear b J0 B0 hHeld
      refine hK.out _ _ ⟨J1.out.c0 (.head _), J1.out.c1 (.head _), HM0.out _ (J1.out.c0 (.tail _ (.head _))), J1.out.c1 (.tail _ (.head _)), HSN.out _ B1.out⟩ (fun hHeld => ?_)
      clear hK K
      try simp only [Act.put, List.setIfInBounds_toArray, List.set_cons_zero, List.set_cons_succ]
      refine wpAnyH_take (i := 10) (oi := { dst := some 67, op := Op.unOp UnOp.not 4 (Operand.tmp 66), type := 4, pos := "outright.go:57", after := #[{ on := 9, ground := Ground.data }, { on := 6, ground := Ground.guard }], guard := some (6, false) }) (v := .bool false) rfl (by kernel_rfl) (by kernel_rfl) (by kernel_rfl) (fun _ _ _ h => h) (Or.inl ⟨by kernel_rfl, fun w' hSw => by (try dsimp only at hSw); go_simp⟩) (by assumption) ?_
      try simp only [Act.put, List.setIfInBounds_toArray, List.set_cons_zero, List.set_cons_succ]
      refine wpAnyH_take (i := 11) (oi := { dst := some 68, op := Op.pick (Operand.tmp 63) (Operand.const (Value.bool true)) (Operand.tmp 67), type := 4, pos := "outright.go:57", after := #[{ on := 6, ground := Ground.data }, { on := 10, ground := Ground.data }], guard := none }) (v := .bool false) rfl (by kernel_rfl) (by kernel_rfl) (by kernel_rfl) (fun _ _ _ h => h) (Or.inl ⟨by kernel_rfl, fun w' hSw => by (try dsimp only at hSw); go_simp⟩) (by assumption) ?_
      try simp only [Act.put, List.setIfInBounds_toArray, List.set_cons_zero, List.set_cons_succ]
      refine wpAnyH_take (i := 12) (oi := { dst := some 69, op := Op.move (Operand.tmp 68), type := 4, pos := "outright.go:57", after := #[{ on := 11, ground := Ground.data }, { on := 9, ground := Ground.chain }], guard := none }) (v := .bool false) rfl (by kernel_rfl) (by kernel_rfl) (by kernel_rfl) (fun _ _ _ h => h) (Or.inl ⟨by kernel_rfl, fun w' hSw => by (try dsimp only at hSw); go_simp⟩) (by assumption) ?_
      try simp only [Act.put, List.setIfInBounds_toArray, List.set_cons_zero, List.set_cons_succ]
      refine wpAnyH_take (i := 13) (oi := { dst := some 70, op := Op.move (Operand.tmp 10), type := 41, pos := "outright.go:57", after := #[{ on := 12, ground := Ground.guard }], guard := some (12, false) }) (v := .slice (some ⟨bs, os, none⟩) (m + 1) cs) rfl (by kernel_rfl) (by kernel_rfl) (by kernel_rfl) (fun _ _ _ h => h) (Or.inl ⟨by kernel_rfl, fun w' hSw => by (try dsimp only at hSw); go_simp⟩) (by assumption) ?_
      try simp only [Act.put, List.setIfInBounds_toArray, List.set_cons_zero, List.set_cons_succ]
      refine wpAnyH_take (i := 14) (oi := { dst := some 71, op := Op.call { callee := Callee.builtin Builtin.len, args := #[Operand.tmp 70], argTypes := #[41] }, type := 3, pos := "outright.go:57", after := #[{ on := 13, ground := Ground.data }, { on := 12, ground := Ground.guard }], guard := some (12, false) }) (v := .int .i64 ((m : Int) + 1)) rfl (by kernel_rfl) (by kernel_rfl) (by kernel_rfl) (fun _ _ _ h => h) (Or.inl ⟨by kernel_rfl, fun w' hSw => by (try dsimp only at hSw); go_simp⟩) (by assumption) ?_
      try simp only [Act.put, List.setIfInBounds_toArray, List.set_cons_zero, List.set_cons_succ]
      refine wpAnyH_take (i := 15) (oi := { dst := some 72, op := Op.fieldAddr 24 (Operand.tmp 5) 0, type := 0, pos := "outright.go:57", after := #[{ on := 12, ground := Ground.guard }], guard := some (12, false) }) (v := .pointer (some ⟨b5, 0, none⟩)) rfl (by kernel_rfl) (by kernel_rfl) (by kernel_rfl) (fun _ _ _ h => h) (Or.inl ⟨by kernel_rfl, fun w' hSw => by (try dsimp only at hSw); go_simp⟩) (by assumption) ?_
      try simp only [Act.put, List.setIfInBounds_toArray, List.set_cons_zero, List.set_cons_succ]
      refine wpAnyH_take (i := 16) (oi := { dst := some 73, op := Op.load 3 (Operand.tmp 72), type := 3, pos := "outright.go:57", after := #[{ on := 15, ground := Ground.data }, { on := 12, ground := Ground.guard }], guard := some (12, false) }) (v := .int .i64 (m : Int)) rfl (by kernel_rfl) (by kernel_rfl) (by kernel_rfl) (fun _ _ _ h => h) (Or.inl ⟨by kernel_rfl, fun w' hSw => by (try dsimp only at hSw); go_simp⟩) (by assumption) ?_
      try simp only [Act.put, List.setIfInBounds_toArray, List.set_cons_zero, List.set_cons_succ]
      refine wpAnyH_take (i := 17) (oi := { dst := some 74, op := Op.binOp BinOp.add 3 (Operand.tmp 73) (Operand.const (Value.int IntKind.i64 1)) 3, type := 3, pos := "outright.go:57", after := #[{ on := 16, ground := Ground.data }, { on := 12, ground := Ground.guard }], guard := some (12, false) }) (v := .int .i64 ((m : Int) + 1)) rfl (by kernel_rfl) (by kernel_rfl) (by kernel_rfl) (fun _ _ _ h => h) (Or.inl ⟨by kernel_rfl, fun w' hSw => by (try dsimp only at hSw); go_simp⟩) (by assumption) ?_
      try simp only [Act.put, List.setIfInBounds_toArray, List.set_cons_zero, List.set_cons_succ]
      refine wpAnyH_take (i := 18) (oi := { dst := some 75, op := Op.binOp BinOp.neq 3 (Operand.tmp 71) (Operand.tmp 74) 3, type := 4, pos := "outright.go:57", after := #[{ on := 14, ground := Ground.data }, { on := 17, ground := Ground.data }, { on := 12, ground := Ground.guard }], guard := some (12, false) }) (v := .bool false) rfl (by kernel_rfl) (by kernel_rfl) (by kernel_rfl) (fun _ _ _ h => h) (Or.inl ⟨by kernel_rfl, fun w' hSw => by (try dsimp only at hSw); go_simp⟩) (by assumption) ?_
      try simp only [Act.put, List.setIfInBounds_toArray, List.set_cons_zero, List.set_cons_succ]
      refine wpAnyH_take (i := 19) (oi := { dst := some 76, op := Op.pick (Operand.tmp 69) (Operand.const (Value.bool true)) (Operand.tmp 75), type := 4, pos := "outright.go:57", after := #[{ on := 12, ground := Ground.data }, { on := 18, ground := Ground.data }], guard := none }) (v := .bool false) rfl (by kernel_rfl) (by kernel_rfl) (by kernel_rfl) (fun _ _ _ h => h) (Or.inl ⟨by kernel_rfl, fun w' hSw => by (try dsimp only at hSw); go_simp⟩) (by assumption) ?_
      try simp only [Act.put, List.setIfInBounds_toArray, List.set_cons_zero, List.set_cons_succ]
      refine wpAnyH_take (i := 20) (oi := { dst := some 77, op := Op.move (Operand.tmp 76), type := 4, pos := "outright.go:57", after := #[{ on := 19, ground := Ground.data }, { on := 12, ground := Ground.chain }], guard := none }) (v := .bool false) rfl (by kernel_rfl) (by kernel_rfl) (by kernel_rfl) (fun _ _ _ h => h) (Or.inl ⟨by kernel_rfl, fun w' hSw => by (try dsimp only at hSw); go_simp⟩) (by assumption) ?_
      try simp only [Act.put, List.setIfInBounds_toArray, List.set_cons_zero, List.set_cons_succ]
      refine wpAnyH_take (i := 21) (oi := { dst := some 78, op := Op.move (Operand.tmp 10), type := 41, pos := "outright.go:57", after := #[{ on := 20, ground := Ground.guard }], guard := some (20, false) }) (v := .slice (some ⟨bs, os, none⟩) (m + 1) cs) rfl (by kernel_rfl) (by kernel_rfl) (by kernel_rfl) (fun _ _ _ h => h) (Or.inl ⟨by kernel_rfl, fun w' hSw => by (try dsimp only at hSw); go_simp⟩) (by assumption) ?_
      try simp only [Act.put, List.setIfInBounds_toArray, List.set_cons_zero, List.set_cons_succ]
      refine wpAnyH_take (i := 22) (oi := { dst := some 79, op := Op.fieldAddr 24 (Operand.tmp 5) 0, type := 0, pos := "outright.go:57", after := #[{ on := 20, ground := Ground.guard }], guard := some (20, false) }) (v := .pointer (some ⟨b5, 0, none⟩)) rfl (by kernel_rfl) (by kernel_rfl) (by kernel_rfl) (fun _ _ _ h => h) (Or.inl ⟨by kernel_rfl, fun w' hSw => by (try dsimp only at hSw); go_simp⟩) (by assumption) ?_
      try simp only [Act.put, List.setIfInBounds_toArray, List.set_cons_zero, List.set_cons_succ]
      refine wpAnyH_take (i := 23) (oi := { dst := some 80, op := Op.load 3 (Operand.tmp 79), type := 3, pos := "outright.go:57", after := #[{ on := 22, ground := Ground.data }, { on := 20, ground := Ground.guard }], guard := some (20, false) }) (v := .int .i64 (m : Int)) rfl (by kernel_rfl) (by kernel_rfl) (by kernel_rfl) (fun _ _ _ h => h) (Or.inl ⟨by kernel_rfl, fun w' hSw => by (try dsimp only at hSw); go_simp⟩) (by assumption) ?_
      try simp only [Act.put, List.setIfInBounds_toArray, List.set_cons_zero, List.set_cons_succ]
      refine wpAnyH_take (i := 24) (oi := { dst := some 81, op := Op.indexAddr 41 (Operand.tmp 78) (Operand.tmp 80), type := 0, pos := "outright.go:57", after := #[{ on := 21, ground := Ground.data }, { on := 23, ground := Ground.data }, { on := 20, ground := Ground.guard }], guard := some (20, false) }) (v := .pointer (some ⟨bs, os + m, none⟩)) rfl (by kernel_rfl) (by kernel_rfl) (by kernel_rfl) (fun _ _ _ h => h) (Or.inl ⟨by kernel_rfl, fun w' hSw => by (try dsimp only at hSw); go_simp⟩) (by assumption) ?_
      try simp only [Act.put, List.setIfInBounds_toArray, List.set_cons_zero, List.set_cons_succ]
      refine wpAnyH_take (i := 25) (oi := { dst := some 82, op := Op.load 3 (Operand.tmp 81), type := 3, pos := "outright.go:57", after := #[{ on := 24, ground := Ground.data }, { on := 20, ground := Ground.guard }], guard := some (20, false) }) (v := .int .i64 (g.n : Int)) rfl (by kernel_rfl) (by kernel_rfl) (by kernel_rfl) (fun _ _ _ h => h) (Or.inl ⟨by kernel_rfl, fun w' hSw => by (try dsimp only at hSw); go_simp⟩) (by assumption) ?_
      try simp only [Act.put, List.setIfInBounds_toArray, List.set_cons_zero, List.set_cons_succ]
      refine wpAnyH_take (i := 26) (oi := { dst := some 83, op := Op.fieldAddr 24 (Operand.tmp 5) 1, type := 0, pos := "outright.go:57", after := #[{ on := 20, ground := Ground.guard }], guard := some (20, false) }) (v := .pointer (some ⟨b5, 1, none⟩)) rfl (by kernel_rfl) (by kernel_rfl) (by kernel_rfl) (fun _ _ _ h => h) (Or.inl ⟨by kernel_rfl, fun w' hSw => by (try dsimp only at hSw); go_simp⟩) (by assumption) ?_
      try simp only [Act.put, List.setIfInBounds_toArray, List.set_cons_zero, List.set_cons_succ]
      refine wpAnyH_take (i := 27) (oi := { dst := some 84, op := Op.load 22 (Operand.tmp 83), type := 22, pos := "outright.go:57", after := #[{ on := 26, ground := Ground.data }, { on := 20, ground := Ground.guard }], guard := some (20, false) }) (v := .slice g.A g.n g.c) rfl (by kernel_rfl) (by kernel_rfl) (by kernel_rfl) (fun _ _ _ h => h) (Or.inl ⟨by kernel_rfl, fun w' hSw => by (try dsimp only at hSw); go_simp⟩) (by assumption) ?_
      try simp only [Act.put, List.setIfInBounds_toArray, List.set_cons_zero, List.set_cons_succ]
      refine wpAnyH_take (i := 28) (oi := { dst := some 85, op := Op.call { callee := Callee.builtin Builtin.len, args := #[Operand.tmp 84], argTypes := #[22] }, type := 3, pos := "outright.go:57", after := #[{ on := 27, ground := Ground.data }, { on := 20, ground := Ground.guard }], guard := some (20, false) }) (v := .int .i64 (g.n : Int)) rfl (by kernel_rfl) (by kernel_rfl) (by kernel_rfl) (fun _ _ _ h => h) (Or.inl ⟨by kernel_rfl, fun w' hSw => by (try dsimp only at hSw); go_simp⟩) (by assumption) ?_
      try simp only [Act.put, List.setIfInBounds_toArray, List.set_cons_zero, List.set_cons_succ]
      refine wpAnyH_take (i := 29) (oi := { dst := some 86, op := Op.binOp BinOp.neq 3 (Operand.tmp 82) (Operand.tmp 85) 3, type := 4, pos := "outright.go:57", after := #[{ on := 25, ground := Ground.data }, { on := 28, ground := Ground.data }, { on := 20, ground := Ground.guard }], guard := some (20, false) }) (v := .bool false) rfl (by kernel_rfl) (by kernel_rfl) (by kernel_rfl) (fun _ _ _ h => h) (Or.inl ⟨by kernel_rfl, fun w' hSw => by (try dsimp only at hSw); go_simp⟩) (by assumption) ?_
      try simp only [Act.put, List.setIfInBounds_toArray, List.set_cons_zero, List.set_cons_succ]
      refine wpAnyH_take (i := 30) (oi := { dst := some 87, op := Op.pick (Operand.tmp 77) (Operand.const (Value.bool true)) (Operand.tmp 86), type := 4, pos := "outright.go:57", after := #[{ on := 20, ground := Ground.data }, { on := 29, ground := Ground.data }], guard := none }) (v := .bool false) rfl (by kernel_rfl) (by kernel_rfl) (by kernel_rfl) (fun _ _ _ h => h) (Or.inl ⟨by kernel_rfl, fun w' hSw => by (try dsimp only at hSw); go_simp⟩) (by assumption) ?_
      try simp only [Act.put, List.setIfInBounds_toArray, List.set_cons_zero, List.set_cons_succ]
      refine wpAnyH_done (by kernel_rfl) ?_ _
      refine NoPanic.normal ?_
      have z0 := J1.out.c0 (.tail _ (.head _))
      clear hHeld hwm hmb HSM HW
      have hzm := HM.out
      obtain ⟨q, hq⟩ : ∃ q : Nat, (q : Int) = min g.z 20 := ⟨(min g.z 20).toNat, by omega⟩
      have hmq : min g.z 20 = (q : Int) := hq.symm
      have hqm : q ≤ m := by omega
      have hq20 : q ≤ 20 := by omega
      clear hzm
      clear hq
      go_wp2_with fail
      clear z0 hmq
      go_loopg [91] q (fun gg s91 wr => ∃ i : Nat, i + gg = q ∧ s91 = .int .i64 i ∧ Hid (Below w9.heap.size w9 wr) ∧ Hid (Env w [(b8, gw), (b5, g), (w.heap.size, gx)] wr))
      case atStart => exact ⟨0, by omega, rfl, B1, J1⟩
      case round =>
        clear J1 B1
        obtain ⟨i, hig, rfl, B1, E9⟩ := hrel
        cases gk with
        | zero =>
          have hge : ¬ (i : Int) < (q : Int) := by omega
          have hgb : decide ((i : Int) < (q : Int)) = false := decide_eq_false hge
          clear hig
          go_wp2_with fail
          go_ret
          exact ⟨rfl, E9.out.below⟩
        | succ g2 =>
          have hlt : (i : Int) < (q : Int) := by omega
          have hv : (0 : Int) ≤ (i : Int) ∧ (i : Int) < (m : Int) := by omega
          have HIGG := Lib.hid hig
          have z0 := HM0.out _ (E9.out.c0 (.tail _ (.head _)))
          have z1 := E9.out.c1 (.tail _ (.head _))
          have okg := E9.out.ok (.tail _ (.head _))
          have HO := Lib.hid (out_ok (m : Int) i g.A g.n g.c g.es HIGM.out hv (by omega) okg.2.1 wr okg.1)
          have hq80 : (outE g.es i).length ≤ 80 := by
            have h1 := List.length_filter_le (fun p : Ed => decide (p.1 = (i : Int))) g.es
            have h2 := okg.len
            unfold outE; omega
          obtain ⟨i1, hi1⟩ : ∃ i1 : Nat, i1 = i + 1 := ⟨_, rfl⟩
          have hwi : IntKind.i64.wrap ((i : Int) + 1) = (i1 : Int) := by rw [IntKind.wrap_i64]; omega
          have HS1 : Hid (∀ W, Below w9.heap.size w9 W → W.cell? ⟨bs, os + i, none⟩ = some (.int .i64 ((startE g.es (i : Int) : Nat) : Int)) ∧ W.cell? ⟨bs, os + i1, none⟩ = some (.int .i64 ((startE g.es ((i : Int) + 1) : Nat) : Int))) := by
            intro W h
            refine ⟨HSC.out W h i (by omega), ?_⟩
            have := HSC.out W h i1 (by omega)
            rwa [show (i1 : Int) = (i : Int) + 1 from by omega] at this
          have h1 := start_mono g.es (u := (i : Int)) (v := (i : Int) + 1) (by omega)
          have h2 := start_le g.es ((i : Int) + 1)
          rw [okg.len] at h2
          obtain ⟨C, hC⟩ : ∃ C, C = if g.c = startE g.es (i : Int) then g.A else g.A.map (·.add (startE g.es (i : Int) * 3)) := ⟨_, rfl⟩
          have hsl := pr_slice_lh g.A g.n g.c (startE g.es (i : Int)) (startE g.es ((i : Int) + 1)) (startE g.es (i : Int)) (startE g.es ((i : Int) + 1)) rfl rfl h1 (by have := okg.2.1; omega)
          rw [← hC] at hsl
          have HRC : Hid (∀ W, g.ok W → Reads W W.heap.size 3 C (startE g.es ((i : Int) + 1) - startE g.es (i : Int)) (cellsE (outE g.es i))) := by
            intro W h
            rw [hC]
            exact cap_reads HIGM.out.row h.1 h.2.1 i
          have hil : (i : Int) < (m : Int) := hv.2
          have hi1l : (i1 : Int) < (m : Int) + 1 := by omega
          have hilN : i < m + 1 := by omega
          have hi1lN : i1 < m + 1 := by omega
          have hib : ¬ ((m : Int) + 1 ≤ (i : Int)) := by omega
          have hi1b : ¬ ((m : Int) + 1 ≤ (i1 : Int)) := by omega
          have HI1 := Lib.hid hi1
          clear okg hig h1 h2 hC hi1 hv
          generalize outE g.es i = xs at *
          generalize startE g.es (i : Int) = sa at *
          generalize startE g.es ((i : Int) + 1) = sb at *
          go_wp2_with fail
          refine HO.out.mono ?_
          rintro e u1 ⟨Ao, co, rfl, h1, h2, h3, b⟩
          have E10 := Lib.hid (E9.out.on b)
          have B2 : Hid (Below w9.heap.size w9 u1) := B1.out.trans (b.mono B1.out.size)
          have RO := Lib.hid (reads_own h1)
          clear h1 h2 h3 b z0 z1 E9 HO B1
          have HEQ : Hid (Calls Try.prog 18 #[.slice Ao xs.length co, .slice C (sb - sa) (g.c - sa)] u1.drew fun e w' => e = .returned (.bool true) ∧ Below u1.drew.heap.size u1.drew w') := by
            have := equal_any Ao C xs.length (sb - sa) co (g.c - sa) xs xs (by omega) u1.drew RO.out (HRC.out u1.drew (E10.out.drew.ok (.tail _ (.head _))))
            rwa [decide_eq_true rfl] at this
          have JJ0 := Lib.hid E10.out.drew
          have BB0 : Hid (Below w9.heap.size w9 u1.drew) := B2.out.drew
          clear E10 B2 RO HRC
          go_wp2_with fail
          refine wp_region_noPanic ?_
          refine wp_region_held_drew (S := fun w' => w'.cell? ⟨b5, 1, none⟩ = some (.slice g.A g.n g.c) ∧ w'.cell? ⟨bs, os + i, none⟩ = some (.int .i64 (sa : Int)) ∧ w'.cell? ⟨bs, os + i1, none⟩ = some (.int .i64 (sb : Int))) (by kernel_rfl) ⟨JJ0.out.c1 (.tail _ (.head _)), (HS1.out _ BB0.out).1, (HS1.out _ BB0.out).2⟩ (fun hHeld => ?_)
          refine wpAnyH_take (i := 0) (oi := { dst := some 100, op := Op.move (Operand.tmp 14), type := 28, pos := "outright.go:62", after := #[], guard := none }) (v := .int .i64 0) rfl (by kernel_rfl) (by kernel_rfl) (by kernel_rfl) (fun _ _ _ h => h) (Or.inl ⟨by kernel_rfl, fun w' hSw => by (try dsimp only at hSw); go_simp⟩) (by assumption) ?_
          try simp only [Act.put, List.setIfInBounds_toArray, List.set_cons_zero, List.set_cons_succ]
          refine wpAnyH_take (i := 1) (oi := { dst := some 101, op := Op.binOp BinOp.neq 28 (Operand.tmp 100) (Operand.const (Value.int IntKind.i64 0)) 28, type := 4, pos := "outright.go:62", after := #[{ on := 0, ground := Ground.data }], guard := none }) (v := .bool false) rfl (by kernel_rfl) (by kernel_rfl) (by kernel_rfl) (fun _ _ _ h => h) (Or.inl ⟨by kernel_rfl, fun w' hSw => by (try dsimp only at hSw); go_simp⟩) (by assumption) ?_
          try simp only [Act.put, List.setIfInBounds_toArray, List.set_cons_zero, List.set_cons_succ]
          refine wpAnyH_take (i := 2) (oi := { dst := some 102, op := Op.move (Operand.tmp 101), type := 4, pos := "outright.go:62", after := #[{ on := 1, ground := Ground.data }], guard := none }) (v := .bool false) rfl (by kernel_rfl) (by kernel_rfl) (by kernel_rfl) (fun _ _ _ h => h) (Or.inl ⟨by kernel_rfl, fun w' hSw => by (try dsimp only at hSw); go_simp⟩) (by assumption) ?_
          try simp only [Act.put, List.setIfInBounds_toArray, List.set_cons_zero, List.set_cons_succ]
          refine wpAnyH_take (i := 3) (oi := { dst := some 103, op := Op.move (Operand.tmp 13), type := 22, pos := "outright.go:62", after := #[{ on := 2, ground := Ground.guard }], guard := some (2, false) }) (v := .slice Ao xs.length co) rfl (by kernel_rfl) (by kernel_rfl) (by kernel_rfl) (fun _ _ _ h => h) (Or.inl ⟨by kernel_rfl, fun w' hSw => by (try dsimp only at hSw); go_simp⟩) (by assumption) ?_
          try simp only [Act.put, List.setIfInBounds_toArray, List.set_cons_zero, List.set_cons_succ]
          refine wpAnyH_take (i := 4) (oi := { dst := some 104, op := Op.fieldAddr 24 (Operand.tmp 5) 1, type := 0, pos := "outright.go:62", after := #[{ on := 2, ground := Ground.guard }], guard := some (2, false) }) (v := .pointer (some ⟨b5, 1, none⟩)) rfl (by kernel_rfl) (by kernel_rfl) (by kernel_rfl) (fun _ _ _ h => h) (Or.inl ⟨by kernel_rfl, fun w' hSw => by (try dsimp only at hSw); go_simp⟩) (by assumption) ?_
          try simp only [Act.put, List.setIfInBounds_toArray, List.set_cons_zero, List.set_cons_succ]
          refine wpAnyH_take (i := 5) (oi := { dst := some 105, op := Op.load 22 (Operand.tmp 104), type := 22, pos := "outright.go:62", after := #[{ on := 4, ground := Ground.data }, { on := 2, ground := Ground.guard }], guard := some (2, false) }) (v := .slice g.A g.n g.c) rfl (by kernel_rfl) (by kernel_rfl) (by kernel_rfl) (fun _ _ _ h => h) (Or.inl ⟨by kernel_rfl, fun w' hSw => by (try dsimp only at hSw); go_simp⟩) (by assumption) ?_
          try simp only [Act.put, List.setIfInBounds_toArray, List.set_cons_zero, List.set_cons_succ]
          refine wpAnyH_take (i := 6) (oi := { dst := some 106, op := Op.move (Operand.tmp 10), type := 41, pos := "outright.go:62", after := #[{ on := 2, ground := Ground.guard }], guard := some (2, false) }) (v := .slice (some ⟨bs, os, none⟩) (m + 1) cs) rfl (by kernel_rfl) (by kernel_rfl) (by kernel_rfl) (fun _ _ _ h => h) (Or.inl ⟨by kernel_rfl, fun w' hSw => by (try dsimp only at hSw); go_simp⟩) (by assumption) ?_
          try simp only [Act.put, List.setIfInBounds_toArray, List.set_cons_zero, List.set_cons_succ]
          refine wpAnyH_take (i := 7) (oi := { dst := some 107, op := Op.move (Operand.tmp 12), type := 3, pos := "outright.go:62", after := #[{ on := 2, ground := Ground.guard }], guard := some (2, false) }) (v := .int .i64 (i : Int)) rfl (by kernel_rfl) (by kernel_rfl) (by kernel_rfl) (fun _ _ _ h => h) (Or.inl ⟨by kernel_rfl, fun w' hSw => by (try dsimp only at hSw); go_simp⟩) (by assumption) ?_
          try simp only [Act.put, List.setIfInBounds_toArray, List.set_cons_zero, List.set_cons_succ]
          refine wpAnyH_take (i := 8) (oi := { dst := some 108, op := Op.indexAddr 41 (Operand.tmp 106) (Operand.tmp 107), type := 0, pos := "outright.go:62", after := #[{ on := 6, ground := Ground.data }, { on := 7, ground := Ground.data }, { on := 2, ground := Ground.guard }], guard := some (2, false) }) (v := .pointer (some ⟨bs, os + i, none⟩)) rfl (by kernel_rfl) (by kernel_rfl) (by kernel_rfl) (fun _ _ _ h => h) (Or.inl ⟨by kernel_rfl, fun w' hSw => by (try dsimp only at hSw); go_simp⟩) (by assumption) ?_
          try simp only [Act.put, List.setIfInBounds_toArray, List.set_cons_zero, List.set_cons_succ]
          refine wpAnyH_take (i := 9) (oi := { dst := some 109, op := Op.load 3 (Operand.tmp 108), type := 3, pos := "outright.go:62", after := #[{ on := 8, ground := Ground.data }, { on := 2, ground := Ground.guard }], guard := some (2, false) }) (v := .int .i64 (sa : Int)) rfl (by kernel_rfl) (by kernel_rfl) (by kernel_rfl) (fun _ _ _ h => h) (Or.inl ⟨by kernel_rfl, fun w' hSw => by (try dsimp only at hSw); go_simp⟩) (by assumption) ?_
          try simp only [Act.put, List.setIfInBounds_toArray, List.set_cons_zero, List.set_cons_succ]
          refine wpAnyH_take (i := 10) (oi := { dst := some 110, op := Op.move (Operand.tmp 10), type := 41, pos := "outright.go:62", after := #[{ on := 2, ground := Ground.guard }], guard := some (2, false) }) (v := .slice (some ⟨bs, os, none⟩) (m + 1) cs) rfl (by kernel_rfl) (by kernel_rfl) (by kernel_rfl) (fun _ _ _ h => h) (Or.inl ⟨by kernel_rfl, fun w' hSw => by (try dsimp only at hSw); go_simp⟩) (by assumption) ?_
          try simp only [Act.put, List.setIfInBounds_toArray, List.set_cons_zero, List.set_cons_succ]
          refine wpAnyH_take (i := 11) (oi := { dst := some 111, op := Op.move (Operand.tmp 12), type := 3, pos := "outright.go:62", after := #[{ on := 2, ground := Ground.guard }], guard := some (2, false) }) (v := .int .i64 (i : Int)) rfl (by kernel_rfl) (by kernel_rfl) (by kernel_rfl) (fun _ _ _ h => h) (Or.inl ⟨by kernel_rfl, fun w' hSw => by (try dsimp only at hSw); go_simp⟩) (by assumption) ?_
          try simp only [Act.put, List.setIfInBounds_toArray, List.set_cons_zero, List.set_cons_succ]
          refine wpAnyH_take (i := 12) (oi := { dst := some 112, op := Op.binOp BinOp.add 3 (Operand.tmp 111) (Operand.const (Value.int IntKind.i64 1)) 3, type := 3, pos := "outright.go:62", after := #[{ on := 11, ground := Ground.data }, { on := 2, ground := Ground.guard }], guard := some (2, false) }) (v := .int .i64 (i1 : Int)) rfl (by kernel_rfl) (by kernel_rfl) (by kernel_rfl) (fun _ _ _ h => h) (Or.inl ⟨by kernel_rfl, fun w' hSw => by (try dsimp only at hSw); go_simp⟩) (by assumption) ?_
          try simp only [Act.put, List.setIfInBounds_toArray, List.set_cons_zero, List.set_cons_succ]
          refine wpAnyH_take (i := 13) (oi := { dst := some 113, op := Op.indexAddr 41 (Operand.tmp 110) (Operand.tmp 112), type := 0, pos := "outright.go:62", after := #[{ on := 10, ground := Ground.data }, { on := 12, ground := Ground.data }, { on := 2, ground := Ground.guard }], guard := some (2, false) }) (v := .pointer (some ⟨bs, os + i1, none⟩)) rfl (by kernel_rfl) (by kernel_rfl) (by kernel_rfl) (fun _ _ _ h => h) (Or.inl ⟨by kernel_rfl, fun w' hSw => by (try dsimp only at hSw); go_simp⟩) (by assumption) ?_
          try simp only [Act.put, List.setIfInBounds_toArray, List.set_cons_zero, List.set_cons_succ]
          refine wpAnyH_take (i := 14) (oi := { dst := some 114, op := Op.load 3 (Operand.tmp 113), type := 3, pos := "outright.go:62", after := #[{ on := 13, ground := Ground.data }, { on := 2, ground := Ground.guard }], guard := some (2, false) }) (v := .int .i64 (sb : Int)) rfl (by kernel_rfl) (by kernel_rfl) (by kernel_rfl) (fun _ _ _ h => h) (Or.inl ⟨by kernel_rfl, fun w' hSw => by (try dsimp only at hSw); go_simp⟩) (by assumption) ?_
          try simp only [Act.put, List.setIfInBounds_toArray, List.set_cons_zero, List.set_cons_succ]
          refine wpAnyH_take (i := 15) (oi := { dst := some 115, op := Op.slice 22 (Operand.tmp 105) (some (Operand.tmp 109)) (some (Operand.tmp 114)) none, type := 22, pos := "outright.go:62", after := #[{ on := 5, ground := Ground.data }, { on := 9, ground := Ground.data }, { on := 14, ground := Ground.data }, { on := 2, ground := Ground.guard }], guard := some (2, false) }) (v := .slice C (sb - sa) (g.c - sa)) rfl (by kernel_rfl) (by kernel_rfl) (by kernel_rfl) (fun _ _ _ h => h) (Or.inl ⟨by kernel_rfl, fun w' hSw => by (try dsimp only at hSw); go_simp⟩) (by assumption) ?_
          try simp only [Act.put, List.setIfInBounds_toArray, List.set_cons_zero, List.set_cons_succ]
          refine wpAnyH_ready (rs := [16]) (by kernel_rfl) (by simp) ?_
          refine AllReadyH.cons (o := { dst := some 116, op := Op.call { callee := Callee.value (Operand.func 18), args := #[Operand.tmp 103, Operand.tmp 115], argTypes := #[22, 22] }, type := 4, pos := "outright.go:62", after := #[{ on := 3, ground := Ground.data }, { on := 15, ground := Ground.data }, { on := 2, ground := Ground.chain }, { on := 2, ground := Ground.guard }], guard := some (2, false) }) rfl (fun K hK => ?_) AllReadyH.nil
          go_simp
          refine HEQ.out.mono ?_
          rintro e u2 ⟨rfl, b⟩
          have JJ1 := Lib.hid (JJ0.out.on b)
          have BB1 : Hid (Below w9.heap.size w9 u2) := BB0.out.trans (b.mono BB0.out.size)
          clear b JJ0 BB0 hHeld
          refine hK.out _ _ ⟨JJ1.out.c1 (.tail _ (.head _)), (HS1.out _ BB1.out).1, (HS1.out _ BB1.out).2⟩ (fun hHeld => ?_)
          clear hK K
          try simp only [Act.put, List.setIfInBounds_toArray, List.set_cons_zero, List.set_cons_succ]
          refine wpAnyH_take (i := 17) (oi := { dst := some 117, op := Op.unOp UnOp.not 4 (Operand.tmp 116), type := 4, pos := "outright.go:62", after := #[{ on := 16, ground := Ground.data }, { on := 2, ground := Ground.guard }], guard := some (2, false) }) (v := .bool false) rfl (by kernel_rfl) (by kernel_rfl) (by kernel_rfl) (fun _ _ _ h => h) (Or.inl ⟨by kernel_rfl, fun w' hSw => by (try dsimp only at hSw); go_simp⟩) (by assumption) ?_
          try simp only [Act.put, List.setIfInBounds_toArray, List.set_cons_zero, List.set_cons_succ]
          refine wpAnyH_take (i := 18) (oi := { dst := some 118, op := Op.pick (Operand.tmp 102) (Operand.const (Value.bool true)) (Operand.tmp 117), type := 4, pos := "outright.go:62", after := #[{ on := 2, ground := Ground.data }, { on := 17, ground := Ground.data }], guard := none }) (v := .bool false) rfl (by kernel_rfl) (by kernel_rfl) (by kernel_rfl) (fun _ _ _ h => h) (Or.inl ⟨by kernel_rfl, fun w' hSw => by (try dsimp only at hSw); go_simp⟩) (by assumption) ?_
          try simp only [Act.put, List.setIfInBounds_toArray, List.set_cons_zero, List.set_cons_succ]
          refine wpAnyH_done (by kernel_rfl) ?_ _
          refine NoPanic.normal ?_
          go_wp2_with fail
          clear hHeld
          go_roundg g2
          case measure => omega
          case rel => exact ⟨i + 1, by have := HIGG.out; omega, by rw [HI1.out], BB1, JJ1⟩
end Go.Proofs.Yticbgikbpafeoaa
