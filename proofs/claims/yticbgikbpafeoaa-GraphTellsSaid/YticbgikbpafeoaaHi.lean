/- GraphTells: the walk. -/
import Derived.Test.YticbgikbpafeoaaHh
namespace Go.Proofs.Yticbgikbpafeoaa
open Go.RowKit

set_option maxRecDepth 100000 in
set_option maxHeartbeats 4000000 in
theorem tells_core (nodes : Int) (A : Option Addr) (n c : Nat) (zs : List Ed) (Al : Option Addr) (nl cl : Nat) (ls : List Int) (hc : A = none → c = 0) (hnc : n ≤ c) (hcm : c ≤ 9223372036854775807) (hlc : nl ≤ cl) (w : World)
    (hR : Reads w w.heap.size 3 A n (cellsE zs)) (hL : Reads w w.heap.size 1 Al nl (ints ls)) :
    Calls Try.prog 4 #[.agg #[.int .i64 nodes, .slice A n c], .slice Al nl cl] w fun e w' => e = .returned (.bool true) ∧ Below w.heap.size w w' := by
  have E0 := Lib.hid ((Env.start w).add (g := ⟨nodes, A, n, c, zs⟩) ⟨hR, hnc, hcm, hc⟩)
  obtain ⟨gx, hgx⟩ : ∃ gx : GV, (⟨nodes, A, n, c, zs⟩ : GV) = gx := ⟨_, rfl⟩
  have hz : nodes = gx.z := by rw [← hgx]
  have hA : A = gx.A := by rw [← hgx]
  have hn : n = gx.n := by rw [← hgx]
  have hcc : c = gx.c := by rw [← hgx]
  rw [hgx] at E0
  subst hz; subst hA; subst hn; subst hcc
  have HLL := Lib.hid hL
  have hs := it_slice_h Al nl cl (min nl 10) (by omega)
  have hmin : min (nl : Int) 10 = ((min nl 10 : Nat) : Int) := by omega
  have hq : min nl 10 ≤ nl ∧ min nl 10 ≤ 10 := by omega
  generalize min nl 10 = q at *
  have HQ := Lib.hid hq
  have HMIN := Lib.hid hmin
  have HSL := Lib.hid hs
  clear hR hL hc hnc hcm hgx hs hmin hq hlc
  go_enter Try.func4, Try.ntmps4
  go_wp2_with fail
  generalize w.alloc (.cells #[.int .i64 gx.z, .slice gx.A gx.n gx.c] 24) = W0 at *
  refine (wakes_any _).mono ?_
  rintro e w1 ⟨rfl, b⟩
  have E1 := Lib.hid (E0.out.on b)
  clear b E0
  have z0 := E1.out.c0 (.head _)
  have z1 := E1.out.c1 (.head _)
  go_wp2_with fail
  have ok1 := E1.out.ok (.head _)
  refine (fair_any gx.z gx.A gx.n gx.c gx.es ok1.2.2.2 ok1.2.1 ok1.2.2.1 w1 ok1.1).mono ?_
  clear ok1
  rintro e w2 hx
  obtain ⟨g, rfl, hz, he, okg, b⟩ := gis_gv hx
  have E2 := Lib.hid ((E1.out.on b).add okg)
  have HG := Lib.hid (And.intro hz he)
  have hgn : g.n ≤ 80 := by
    have := okg.len
    have h2 := take_len gx.es
    rw [← he] at h2
    omega
  have hgl : g.es.length ≤ 80 := by rw [okg.len]; exact hgn
  have hgc : g.n ≤ g.c := okg.2.1
  clear hx hz he okg b E1 z0 z1
  have HGN := Lib.hid (And.intro hgn (And.intro hgl hgc))
  clear hgl hgc
  have z0 := E2.out.c0 (.head _)
  have z1 := E2.out.c1 (.head _)
  go_wp2_with fail
  generalize w2.alloc (.cells #[.int .i64 g.z, .slice g.A g.n g.c] 24) = w3 at *
  generalize w2.heap.size = b5 at *
  have HRT := right_any g.z g.A g.n g.c g.es (by omega) w3 (E2.out.ok (.head _)).1
  obtain ⟨sv, ks, hst, hs0, hs1⟩ := starts_both g.z g.es
  have HST := Lib.hid hst
  have HS0 := Lib.hid hs0
  have HS1 := Lib.hid hs1
  clear hst hs0 hs1
  have HRG : Hid (∀ r, rightG g.z g.es = r → rightG g.z g.es = r) := fun r h => h
  generalize hr : rightG g.z g.es = r at HRT
  have HR := Lib.hid hr
  rw [hr] at HS0 HS1
  clear hr HRG hgn
  refine HRT.mono ?_
  clear HRT
  rintro e w4 ⟨rfl, b⟩
  have E4 := Lib.hid (E2.out.on b)
  clear b E2 z0 z1
  have z0 := E4.out.c0 (.head _)
  have z1 := E4.out.c1 (.head _)
  go_wp2_with fail
  refine (HST.out _ _ _ _ HGN.out.1 (E4.out.ok (.head _)).1).mono ?_
  rintro e w5 ⟨As, cs, rfl, hrs, h1, h2, b⟩
  have E5 := Lib.hid (E4.out.on b)
  have RS := Lib.hid hrs
  clear hrs h1 h2 b E4 z0 z1 HST
  obtain ⟨ns, hns⟩ : ∃ ns, sv.length = ns := ⟨_, rfl⟩
  rw [hns] at RS HS0 HS1 ⊢
  clear hns
  go_upto_if 37 with fail
  go_cut [53] (fun (_ : Value) wx => Hid (Env w [(b5, g), (w.heap.size, gx)] wx))
  case first =>
    cases r
    · obtain ⟨h0, hk⟩ := HS0.out rfl
      subst h0; subst hk
      clear HS0 HS1 HSL HMIN HLL
      go_wp2_with fail
      go_meet
      exact E5
    · obtain ⟨hsv, hk, hz, hnl⟩ := HS1.out rfl
      subst hk
      have HSV := Lib.hid hsv
      have HRS := Lib.hid fun W h => rstarts_any g.z hz g.A g.n g.c g.es (by have := HGN.out.1; omega) W h
      have HEQ : Hid (∀ A' m c' W, Reads W W.heap.size 1 As ns (ints sv) → Reads W W.heap.size 1 A' m (ints sv) → Calls Try.prog 21 #[.slice As ns cs, .slice A' m c'] W fun e w' => e = .returned (.bool true) ∧ Below W.heap.size W w') := by
        intro A' m' c' W h1 h2
        have := eqi_any As A' ns m' cs c' sv sv (by omega) (by have h3 := ints_len h1; have h4 := ints_len h2; omega) W h1 h2
        rwa [decide_eq_true rfl] at this
      rw [← HSV.out] at HRS
      clear HS0 HS1 HSL HMIN HLL hsv hz hnl
      have z0 := E5.out.c0 (.head _)
      have z1 := E5.out.c1 (.head _)
      go_wp2_with fail
      refine (HRS.out _ (E5.out.ok (.head _)).1).mono ?_
      rintro e w6 ⟨A6, c6, rfl, h6, h1, h2, b⟩
      have E6 := Lib.hid (E5.out.on b)
      have RS6 := Lib.hid (Ints.on RS.out b)
      have RT6 := Lib.hid h6
      clear h6 h1 h2 b E5 RS z0 z1
      go_wp2_with fail
      refine (HEQ.out _ _ _ _ RS6.out RT6.out).mono ?_
      rintro e w7 ⟨rfl, b⟩
      have E7 := Lib.hid (E6.out.on b)
      clear b E6 RS6 RT6
      go_wp2_with fail
      go_meet
      exact E7
  case rest =>
    clear E5 RS HS0 HS1
    rename World => w6
    have E6 := Lib.hid hcut.out
    clear hcut
    have hs := HSL.out
    have hmin := HMIN.out
    go_wp2_with fail
    clear hs hmin HSL HMIN
    go_loopg [61] q (fun gg s61 wr => ∃ i : Nat, i + gg = q ∧ s61 = .int .i64 i ∧ Hid (Env w [(b5, g), (w.heap.size, gx)] wr))
    case atStart => exact ⟨0, by omega, rfl, E6⟩
    case round =>
      clear E6
      obtain ⟨i, hig, rfl, E6⟩ := hrel
      cases gk with
      | succ g2 =>
        rename World => wo
        have hlt : (i : Int) < (q : Int) := by omega
        have hiq : i < q := by omega
        obtain ⟨bl, ol, hAl, hcl⟩ := nodes_at HLL.out (by have := HQ.out; omega)
        have HCL := Lib.hid hcl
        obtain ⟨v, hv⟩ := HCL.out wo E6.out.below i (by have := HQ.out; omega)
        obtain ⟨ov, iv, k, ho1, hi1, hll, hn0, hn1, hn2⟩ := node_both g.z v g.es HGN.out.2.1
        have HOUT := Lib.hid ho1
        have HIN := Lib.hid hi1
        have HLN := Lib.hid hll
        rw [HR.out] at hn0 hn1 hn2
        have HN0 := Lib.hid hn0
        have HN1 := Lib.hid hn1
        have HN2 := Lib.hid hn2
        obtain ⟨i1, hi1e⟩ : ∃ i1 : Nat, i1 = i + 1 := ⟨_, rfl⟩
        have HWI : Hid (IntKind.i64.wrap ((i : Int) + 1) = (i1 : Int)) := by show _ = _; have := HQ.out; rw [IntKind.wrap_i64]; omega
        have HIG : Hid (i1 + g2 = q) := by show _ = _; omega
        clear hi1e
        clear ho1 hi1 hll hn0 hn1 hn2 hcl hig
        subst hAl
        have z0 := E6.out.c0 (.head _)
        have z1 := E6.out.c1 (.head _)
        go_wp2_with fail
        refine (HOUT.out _ _ _ _ HGN.out.1 HGN.out.2.2 (E6.out.ok (.head _)).1).mono ?_
        rintro e w7 ⟨Ao, co, rfl, ho, h1, h2, b⟩
        have J7 := Lib.hid b
        have RO7 := Lib.hid (reads_own ho)
        have GO7 := Lib.hid (own_gone ho)
        clear ho h1 h2 b z0 z1 HOUT hv
        have E7 := Lib.hid (E6.out.on J7.out)
        have z0 := E7.out.c0 (.head _)
        have z1 := E7.out.c1 (.head _)
        go_wp2_with fail
        refine (HIN.out _ _ _ _ HGN.out.1 (E7.out.ok (.head _)).1).mono ?_
        rintro e w8 ⟨Ai, ci, rfl, ho, h1, h2, b⟩
        have J8 : Hid (Below wo.heap.size wo w8) := J7.out.trans (b.mono J7.out.size)
        have RO8 := Lib.hid (Reads.on RO7.out b)
        have GO8 := Lib.hid (GO7.out.on b)
        have RI8 := Lib.hid (reads_own ho)
        clear ho h1 h2 b z0 z1 HIN E7 J7 RO7 GO7
        obtain ⟨no, hno⟩ : ∃ no, ov.length = no := ⟨_, rfl⟩
        obtain ⟨ni, hni⟩ : ∃ ni, iv.length = ni := ⟨_, rfl⟩
        rw [hno] at RO8 GO8 HLN ⊢
        rw [hni] at RI8 HLN ⊢
        clear hno hni
        have E8 := Lib.hid (E6.out.on J8.out)
        have z0 := E8.out.c0 (.head _)
        have z1 := E8.out.c1 (.head _)
        go_upto_if 77 with fail
        go_cut [15, 16, 17] from 63 to 163 (fun s15 s16 s17 wx => ∃ (Ap Aq : Option Addr) (np nq cp cq : Nat), s15 = .slice Ap np cp ∧ s16 = .slice Aq nq cq ∧ s17 = .int .i64 k ∧ Hid (Below wo.heap.size wo wx) ∧ Hid (Gone wx wo.heap.size Ao no) ∧
          Hid (Reads wx wx.heap.size 3 Ao no (cellsE ov)) ∧ Hid (Reads wx wx.heap.size 3 Ai ni (cellsE iv)) ∧ Hid (Reads wx wx.heap.size 3 Ap np (cellsE ov)) ∧ Hid (Reads wx wx.heap.size 3 Aq nq (cellsE iv)))
        case first =>
          cases r
          · obtain ⟨h1, h2, h3⟩ := HN0.out rfl
            subst h3
            have P1 : Hid (Reads w8 w8.heap.size 3 none 0 (cellsE ov)) := by rw [h1]; exact Reads.none_
            have P2 : Hid (Reads w8 w8.heap.size 3 none 0 (cellsE iv)) := by rw [h2]; exact Reads.none_
            clear h1 h2 HN0 HN1 HN2
            go_wp2_with fail
            go_meet
            exact ⟨none, none, 0, 0, 0, 0, rfl, rfl, rfl, J8, GO8, RO8, RI8, P1, P2⟩
          · by_cases hv0 : 0 ≤ v
            · by_cases hvz : v < g.z
              · obtain ⟨h1, h2, h3⟩ := HN2.out rfl ⟨hv0, hvz⟩
                subst h3
                have H1 := Lib.hid h1
                have H2 := Lib.hid h2
                have d0 : decide (v ≥ 0) = true := decide_eq_true hv0
                have d1 : decide (v < g.z) = true := decide_eq_true hvz
                clear h1 h2 HN0 HN1 HN2
                go_wp2_with fail
                clear E8 z0 z1
                have E8 := Lib.hid (E6.out.on J8.out).drew
                have J80 : Hid (Below wo.heap.size wo w8.drew) := J8.out.drew
                have RO80 := Lib.hid (Reads.on RO8.out (Below.refl w8.heap.size w8).drew)
                have RI80 := Lib.hid (Reads.on RI8.out (Below.refl w8.heap.size w8).drew)
                have GO80 := Lib.hid (GO8.out.on (Below.refl w8.heap.size w8).drew)
                clear J8 RO8 RI8 GO8
                have J8 := J80
                have RO8 := RO80
                have RI8 := RI80
                have GO8 := GO80
                clear J80 RO80 RI80 GO80
                refine wp_region_noPanic ?_
                refine wp_region_held_drew (S := fun w' => w'.cell? ⟨b5, 0, none⟩ = some (.int .i64 g.z) ∧ w'.cell? ⟨b5, 1, none⟩ = some (.slice g.A g.n g.c)) (by kernel_rfl) ⟨E8.out.c0 (.head _), E8.out.c1 (.head _)⟩ (fun hHeld => ?_)
                refine wpAnyH_take (i := 0) (oi := { dst := some 86, op := Op.load 24 (Operand.tmp 5), type := 24, pos := "law.go:82", after := #[], guard := none }) (v := .agg #[.int .i64 g.z, .slice g.A g.n g.c]) rfl (by kernel_rfl) (by kernel_rfl) (by kernel_rfl) (fun _ _ _ h => h) (Or.inl ⟨by kernel_rfl, fun w' hSw => by (try dsimp only at hSw); go_simp⟩) (by assumption) ?_
                try simp only [Act.put, List.setIfInBounds_toArray, List.set_cons_zero, List.set_cons_succ]
                refine wpAnyH_take (i := 1) (oi := { dst := some 87, op := Op.move (Operand.tmp 10), type := 3, pos := "law.go:82", after := #[], guard := none }) (v := .int .i64 v) rfl (by kernel_rfl) (by kernel_rfl) (by kernel_rfl) (fun _ _ _ h => h) (Or.inl ⟨by kernel_rfl, fun w' hSw => by (try dsimp only at hSw); go_simp⟩) (by assumption) ?_
                try simp only [Act.put, List.setIfInBounds_toArray, List.set_cons_zero, List.set_cons_succ]
                refine wpAnyH_take (i := 3) (oi := { dst := some 89, op := Op.load 24 (Operand.tmp 5), type := 24, pos := "law.go:82", after := #[], guard := none }) (v := .agg #[.int .i64 g.z, .slice g.A g.n g.c]) rfl (by kernel_rfl) (by kernel_rfl) (by kernel_rfl) (fun _ _ _ h => h) (Or.inl ⟨by kernel_rfl, fun w' hSw => by (try dsimp only at hSw); go_simp⟩) (by assumption) ?_
                try simp only [Act.put, List.setIfInBounds_toArray, List.set_cons_zero, List.set_cons_succ]
                refine wpAnyH_take (i := 4) (oi := { dst := some 90, op := Op.move (Operand.tmp 10), type := 3, pos := "law.go:82", after := #[], guard := none }) (v := .int .i64 v) rfl (by kernel_rfl) (by kernel_rfl) (by kernel_rfl) (fun _ _ _ h => h) (Or.inl ⟨by kernel_rfl, fun w' hSw => by (try dsimp only at hSw); go_simp⟩) (by assumption) ?_
                try simp only [Act.put, List.setIfInBounds_toArray, List.set_cons_zero, List.set_cons_succ]
                refine wpAnyH_ready (rs := [2]) (by kernel_rfl) (by simp) ?_
                refine AllReadyH.cons (o := { dst := some 88, op := Op.call { callee := Callee.value (Operand.func 25), args := #[Operand.tmp 86, Operand.tmp 87], argTypes := #[24, 3] }, type := 22, pos := "law.go:82", after := #[{ on := 0, ground := Ground.data }, { on := 1, ground := Ground.data }], guard := none }) rfl (fun K hK => ?_) AllReadyH.nil
                go_simp
                have HRO := rout_any g.z v g.A g.n g.c g.es (by have := HGN.out; omega) w8.drew (E8.out.ok (.head _)).1
                rw [← H1.out] at HRO
                refine HRO.mono ?_
                rintro e u9 hx
                obtain ⟨Ap, cp, rfl, hp, h1, h2, b⟩ := rows_row hx
                have J9 : Hid (Below wo.heap.size wo u9) := J8.out.trans (b.mono J8.out.size)
                have RO9 := Lib.hid (Reads.on RO8.out b)
                have RI9 := Lib.hid (Reads.on RI8.out b)
                have GO9 := Lib.hid (GO8.out.on b)
                have E9 := Lib.hid (E8.out.on b)
                have RP9 := Lib.hid (reads_own hp)
                clear HRO hx hp h1 h2 b hHeld J8 GO8 E8 RO8 RI8
                refine hK.out _ _ ⟨E9.out.c0 (.head _), E9.out.c1 (.head _)⟩ (fun hHeld => ?_)
                clear hK K
                try simp only [Act.put, List.setIfInBounds_toArray, List.set_cons_zero, List.set_cons_succ]
                refine wpAnyH_ready (rs := [5]) (by kernel_rfl) (by simp) ?_
                refine AllReadyH.cons (o := { dst := some 91, op := Op.call { callee := Callee.value (Operand.func 26), args := #[Operand.tmp 89, Operand.tmp 90], argTypes := #[24, 3] }, type := 22, pos := "law.go:82", after := #[{ on := 3, ground := Ground.data }, { on := 4, ground := Ground.data }, { on := 2, ground := Ground.chain }], guard := none }) rfl (fun K hK => ?_) AllReadyH.nil
                go_simp
                have HRI := rin_any g.z v g.A g.n g.c g.es (by have := HGN.out; omega) u9 (E9.out.ok (.head _)).1
                rw [← H2.out] at HRI
                refine HRI.mono ?_
                rintro e u10 hx
                obtain ⟨Aq, cq, rfl, hp, h1, h2, b⟩ := rows_row hx
                have J10 : Hid (Below wo.heap.size wo u10) := J9.out.trans (b.mono J9.out.size)
                have RO10 := Lib.hid (Reads.on RO9.out b)
                have RI10 := Lib.hid (Reads.on RI9.out b)
                have RP10 := Lib.hid (Reads.on RP9.out b)
                have GO10 := Lib.hid (GO9.out.on b)
                have E10 := Lib.hid (E9.out.on b)
                have RQ10 := Lib.hid (reads_own hp)
                clear HRI hx hp h1 h2 b hHeld J9 GO9 E9 RO9 RI9 RP9
                refine hK.out _ _ ⟨E10.out.c0 (.head _), E10.out.c1 (.head _)⟩ (fun hHeld => ?_)
                clear hK K
                try simp only [Act.put, List.setIfInBounds_toArray, List.set_cons_zero, List.set_cons_succ]
                refine wpAnyH_take (i := 6) (oi := { dst := some 15, op := Op.assign (Operand.tmp 88), type := 22, pos := "law.go:82", after := #[{ on := 2, ground := Ground.data }, { on := 5, ground := Ground.chain }, { on := 0, ground := Ground.phase }, { on := 1, ground := Ground.phase }, { on := 2, ground := Ground.phase }, { on := 3, ground := Ground.textOnly Departure.lateStores }, { on := 4, ground := Ground.textOnly Departure.lateStores }, { on := 5, ground := Ground.textOnly Departure.lateStoresUnsure }], guard := none }) (v := .slice Ap ov.length cp) rfl (by kernel_rfl) (by kernel_rfl) (by kernel_rfl) (fun _ _ _ h => h) (Or.inl ⟨by kernel_rfl, fun w' hSw => by (try dsimp only at hSw); go_simp⟩) (by assumption) ?_
                try simp only [Act.put, List.setIfInBounds_toArray, List.set_cons_zero, List.set_cons_succ]
                refine wpAnyH_take (i := 7) (oi := { dst := some 16, op := Op.assign (Operand.tmp 91), type := 22, pos := "law.go:82", after := #[{ on := 5, ground := Ground.data }, { on := 6, ground := Ground.chain }, { on := 0, ground := Ground.phase }, { on := 1, ground := Ground.phase }, { on := 2, ground := Ground.phase }, { on := 3, ground := Ground.phase }, { on := 4, ground := Ground.phase }, { on := 5, ground := Ground.phase }, { on := 6, ground := Ground.phase }], guard := none }) (v := .slice Aq iv.length cq) rfl (by kernel_rfl) (by kernel_rfl) (by kernel_rfl) (fun _ _ _ h => h) (Or.inl ⟨by kernel_rfl, fun w' hSw => by (try dsimp only at hSw); go_simp⟩) (by assumption) ?_
                try simp only [Act.put, List.setIfInBounds_toArray, List.set_cons_zero, List.set_cons_succ]
                refine wpAnyH_take (i := 8) (oi := { dst := some 17, op := Op.assign (Operand.const (Value.int IntKind.i64 0)), type := 28, pos := "law.go:82", after := #[{ on := 7, ground := Ground.chain }, { on := 0, ground := Ground.phase }, { on := 1, ground := Ground.phase }, { on := 2, ground := Ground.phase }, { on := 3, ground := Ground.phase }, { on := 4, ground := Ground.phase }, { on := 5, ground := Ground.phase }, { on := 6, ground := Ground.phase }, { on := 7, ground := Ground.phase }], guard := none }) (v := .int .i64 0) rfl (by kernel_rfl) (by kernel_rfl) (by kernel_rfl) (fun _ _ _ h => h) (Or.inl ⟨by kernel_rfl, fun w' hSw => by (try dsimp only at hSw); go_simp⟩) (by assumption) ?_
                try simp only [Act.put, List.setIfInBounds_toArray, List.set_cons_zero, List.set_cons_succ]
                refine wpAnyH_done (by kernel_rfl) ?_ _
                refine NoPanic.normal ?_
                go_wp2_with fail
                go_meet
                exact ⟨_, _, _, _, _, _, rfl, rfl, rfl, J10, GO10, RO10, RI10, RP10, RQ10⟩
              · obtain ⟨h1, h2, h3⟩ := HN1.out rfl (fun h => hvz h.2)
                subst h3
                have P1 : Hid (Reads w8 w8.heap.size 3 none 0 (cellsE ov)) := by rw [h1]; exact Reads.none_
                have P2 : Hid (Reads w8 w8.heap.size 3 none 0 (cellsE iv)) := by rw [h2]; exact Reads.none_
                have d0 : decide (v ≥ 0) = true := decide_eq_true hv0
                have d1 : decide (v < g.z) = false := decide_eq_false hvz
                clear h1 h2 HN0 HN1 HN2
                go_wp2_with fail
                go_meet
                exact ⟨none, none, 0, 0, 0, 0, rfl, rfl, rfl, J8, GO8, RO8, RI8, P1, P2⟩
            · obtain ⟨h1, h2, h3⟩ := HN1.out rfl (fun h => hv0 h.1)
              subst h3
              have P1 : Hid (Reads w8 w8.heap.size 3 none 0 (cellsE ov)) := by rw [h1]; exact Reads.none_
              have P2 : Hid (Reads w8 w8.heap.size 3 none 0 (cellsE iv)) := by rw [h2]; exact Reads.none_
              have d0 : decide (v ≥ 0) = false := decide_eq_false hv0
              clear h1 h2 HN0 HN1 HN2
              go_wp2_with fail
              go_meet
              exact ⟨none, none, 0, 0, 0, 0, rfl, rfl, rfl, J8, GO8, RO8, RI8, P1, P2⟩
        case rest =>
          clear J8 RO8 GO8 RI8 E8 z0 z1
          rename World => w9
          obtain ⟨Ap, Aq, np, nq, cp, cq, rfl, rfl, rfl, J9, GO9, RO9, RI9, RP9, RQ9⟩ := hcut
          have hkk : (k != k) = false := by simp
          go_wp2_with fail
          have HEQ1 := equal_any Ao Ap no np co cp ov ov (by have := HLN.out; omega) w9 RO9.out RP9.out
          rw [decide_eq_true rfl] at HEQ1
          refine HEQ1.mono ?_
          clear HEQ1
          rintro e w10 ⟨rfl, b⟩
          have J10 : Hid (Below wo.heap.size wo w10) := J9.out.trans (b.mono J9.out.size)
          have GO10 := Lib.hid (GO9.out.on b)
          have RI10 := Lib.hid (Reads.on RI9.out b)
          have RQ10 := Lib.hid (Reads.on RQ9.out b)
          clear b J9 GO9 RO9 RI9 RP9 RQ9
          go_wp2_with fail
          have HEQ1 := equal_any Ai Aq ni nq ci cq iv iv (by have := HLN.out; omega) w10 RI10.out RQ10.out
          rw [decide_eq_true rfl] at HEQ1
          refine HEQ1.mono ?_
          clear HEQ1
          rintro e w11 ⟨rfl, b⟩
          have J11 : Hid (Below wo.heap.size wo w11) := J10.out.trans (b.mono J10.out.size)
          have GO11 := Lib.hid (GO10.out.on b)
          clear b J10 GO10 RI10 RQ10
          go_wp2_with fail
          go_loopg [114] no (fun gg s114 wx => ∃ j : Nat, j + gg = no ∧ s114 = .int .i64 j ∧ Hid (Below wo.heap.size wo wx) ∧ Hid (Gone wx wo.heap.size Ao no))
          case atStart => exact ⟨0, by omega, rfl, J11, GO11⟩
          case round =>
            clear J11 GO11
            obtain ⟨j, hjg, rfl, J12, GO12⟩ := hrel
            rename World => wi
            cases gk with
            | succ g3 =>
              have hltj : (j : Int) < (no : Int) := by omega
              have hjn : j < no := by omega
              obtain ⟨gb, og, cur, hAo, hge, hk, hx⟩ := GO12.out.resolve_left (by omega)
              obtain ⟨x, hx1⟩ := hx j hjn
              have y0 : wi.cell? ⟨gb, og + j * 3 + 2, none⟩ = some (.int .i64 x) := by rw [hk.cell, hx1]
              have f0 : wi.frozen? ⟨gb, og + j * 3 + 2, none⟩ = false := hk.frozen _
              obtain ⟨y, hy⟩ : ∃ y, IntKind.i64.wrap (x + 1) = y := ⟨_, rfl⟩
              have HGO := Lib.hid (Gone.set hge hk hx y (j := j))
              have HJ : Hid (Below wo.heap.size wo (wi.setCell ⟨gb, og + j * 3 + 2, none⟩ (.int .i64 y))) := J12.out.setCell hge _
              obtain ⟨j1, hj1⟩ : ∃ j1 : Nat, j1 = j + 1 := ⟨_, rfl⟩
              have hwj : IntKind.i64.wrap ((j : Int) + 1) = (j1 : Int) := by have := HLN.out; rw [IntKind.wrap_i64]; omega
              have HJG : Hid (j1 + g3 = no) := by show _ = _; omega
              clear hj1
              subst hAo
              clear hk hx hx1 hge GO12 J12 hjg
              go_wp2_with fail
              go_roundg g3
              case measure => omega
              case rel => exact ⟨j1, HJG.out, rfl, HJ, HGO⟩
            | zero =>
              obtain rfl : j = no := by omega
              have hltj : ¬ (j : Int) < (j : Int) := by omega
              clear hjg GO12
              go_wp2_with fail
              go_loopg [128] q (fun gg s128 wx => ∃ h : Nat, h + gg = q ∧ s128 = .int .i64 h ∧ Hid (Below wo.heap.size wo wx))
              case atStart => exact ⟨0, by omega, rfl, J12⟩
              case round =>
                clear J12
                obtain ⟨h, hhg, rfl, J12⟩ := hrel
                rename World => wk
                cases gk with
                | succ g4 =>
                  have hlth : (h : Int) < (q : Int) := by omega
                  have hhq : h < q := by omega
                  obtain ⟨u, hu⟩ := HCL.out wk (E6.out.below.trans (J12.out.mono E6.out.below.size)) h (by have := HQ.out; omega)
                  obtain ⟨kv, k2, hkd, hkl, hp0, hp1, hp2⟩ := pair_both g.z v u g.es HGN.out.2.1
                  have HKD := Lib.hid hkd
                  have HKL := Lib.hid hkl
                  rw [HR.out] at hp0 hp1 hp2
                  have HP0 := Lib.hid hp0
                  have HP1 := Lib.hid hp1
                  have HP2 := Lib.hid hp2
                  obtain ⟨h1, hh1⟩ : ∃ h1 : Nat, h1 = h + 1 := ⟨_, rfl⟩
                  have hwh : IntKind.i64.wrap ((h : Int) + 1) = (h1 : Int) := by have := HQ.out; rw [IntKind.wrap_i64]; omega
                  have HHG : Hid (h1 + g4 = q) := by show _ = _; omega
                  clear hh1
                  have HWH := Lib.hid hwh
                  clear hwh
                  clear hkd hkl hp0 hp1 hp2 hhg
                  have E12 := Lib.hid (E6.out.on J12.out)
                  have z0 := E12.out.c0 (.head _)
                  have z1 := E12.out.c1 (.head _)
                  go_wp2_with fail
                  refine (HKD.out _ _ _ _ HGN.out.1 HGN.out.2.2 (E12.out.ok (.head _)).1).mono ?_
                  rintro e y1 ⟨Ak, ck, rfl, hrk, h1, h2, b⟩
                  have J13 : Hid (Below wo.heap.size wo y1) := J12.out.trans (b.mono J12.out.size)
                  have RK := Lib.hid hrk
                  clear hrk h1 h2 b z0 z1 E12 J12 HKD hu
                  obtain ⟨nk, hnk⟩ : ∃ nk, kv.length = nk := ⟨_, rfl⟩
                  rw [hnk] at RK HKL ⊢
                  clear hnk
                  have E13 := Lib.hid (E6.out.on J13.out)
                  have z0 := E13.out.c0 (.head _)
                  have z1 := E13.out.c1 (.head _)
                  go_upto_if 141 with fail
                  go_cut [23, 24] from 130 to 162 (fun s23 s24 wx => ∃ (Ap : Option Addr) (np cp : Nat), s23 = .slice Ap np cp ∧ s24 = .int .i64 k2 ∧ Hid (Below wo.heap.size wo wx) ∧ Hid (Reads wx wx.heap.size 1 Ak nk (ints kv)) ∧ Hid (Reads wx wx.heap.size 1 Ap np (ints kv)))
                  case first =>
                    cases r
                    · obtain ⟨h1, h2, h3⟩ := HN0.out rfl
                      obtain ⟨h4, h5⟩ := HP0.out rfl
                      subst h3; subst h5
                      have P1 : Hid (Reads y1 y1.heap.size 1 none 0 (ints kv)) := by rw [h4]; exact Reads.none_
                      clear h1 h2 h4 HN0 HN1 HN2 HP0 HP1 HP2
                      go_wp2_with fail
                      go_meet
                      exact ⟨none, 0, 0, rfl, rfl, J13, RK, P1⟩
                    · by_cases hvv : 0 ≤ v ∧ v < g.z
                      · obtain ⟨h1, h2, h3⟩ := HN2.out rfl hvv
                        subst h3
                        by_cases hu0 : 0 ≤ u
                        · by_cases huz : u < g.z
                          · obtain ⟨h4, h5⟩ := HP2.out rfl hvv ⟨hu0, huz⟩
                            subst h5
                            have d0 : decide (u ≥ 0) = true := decide_eq_true hu0
                            have d1 : decide (u < g.z) = true := decide_eq_true huz
                            have H4 := Lib.hid h4
                            clear h1 h2 h4 HN0 HN1 HN2 HP0 HP1 HP2 hvv
                            go_wp2_with fail
                            have HRK := rkinds_any g.z v u g.A g.n g.c g.es (by have := HGN.out; omega) y1 (E13.out.ok (.head _)).1
                            rw [← H4.out] at HRK
                            refine HRK.mono ?_
                            clear HRK
                            rintro e y2 ⟨Ap, cp, rfl, hrp, h1, h2, b⟩
                            have J14 : Hid (Below wo.heap.size wo y2) := J13.out.trans (b.mono J13.out.size)
                            have RK14 := Lib.hid (Ints.on RK.out b)
                            have RP14 := Lib.hid hrp
                            clear hrp h1 h2 b z0 z1 E13 RK
                            go_wp2_with fail
                            go_meet
                            exact ⟨Ap, _, cp, rfl, rfl, J14, RK14, RP14⟩
                          · obtain ⟨h4, h5⟩ := HP1.out rfl (fun h => huz h.2.2)
                            subst h5
                            have d0 : decide (u ≥ 0) = true := decide_eq_true hu0
                            have d1 : decide (u < g.z) = false := decide_eq_false huz
                            have P1 : Hid (Reads y1 y1.heap.size 1 none 0 (ints kv)) := by rw [h4]; exact Reads.none_
                            clear h1 h2 h4 HN0 HN1 HN2 HP0 HP1 HP2 hvv
                            go_wp2_with fail
                            go_meet
                            exact ⟨none, 0, 0, rfl, rfl, J13, RK, P1⟩
                        · obtain ⟨h4, h5⟩ := HP1.out rfl (fun h => hu0 h.2.1)
                          subst h5
                          have d0 : decide (u ≥ 0) = false := decide_eq_false hu0
                          have P1 : Hid (Reads y1 y1.heap.size 1 none 0 (ints kv)) := by rw [h4]; exact Reads.none_
                          clear h1 h2 h4 HN0 HN1 HN2 HP0 HP1 HP2 hvv
                          go_wp2_with fail
                          go_meet
                          exact ⟨none, 0, 0, rfl, rfl, J13, RK, P1⟩
                      · obtain ⟨h1, h2, h3⟩ := HN1.out rfl hvv
                        obtain ⟨h4, h5⟩ := HP1.out rfl (fun h => hvv h.1)
                        subst h3; subst h5
                        have P1 : Hid (Reads y1 y1.heap.size 1 none 0 (ints kv)) := by rw [h4]; exact Reads.none_
                        clear h1 h2 h4 HN0 HN1 HN2 HP0 HP1 HP2 hvv
                        go_wp2_with fail
                        go_meet
                        exact ⟨none, 0, 0, rfl, rfl, J13, RK, P1⟩
                  case rest =>
                    clear J13 RK E13 z0 z1 HP0 HP1 HP2
                    rename World => y3
                    obtain ⟨Ap, np, cp, rfl, rfl, J15, RK15, RP15⟩ := hcut
                    have hk2 : (k2 != k2) = false := by simp
                    go_wp2_with fail
                    have HEQ1 := eqi_any Ak Ap nk np ck cp kv kv (by have := HKL.out; omega) (by have h1 := ints_len RK15.out; have h2 := ints_len RP15.out; have := HKL.out; omega) y3 RK15.out RP15.out
                    rw [decide_eq_true rfl] at HEQ1
                    refine HEQ1.mono ?_
                    clear HEQ1
                    rintro e y4 ⟨rfl, b⟩
                    have J16 : Hid (Below wo.heap.size wo y4) := J15.out.trans (b.mono J15.out.size)
                    clear b J15 RK15 RP15
                    have hwh := HWH.out
                    go_wp2_with fail
                    go_roundg g4
                    case measure => omega
                    case rel => exact ⟨h1, HHG.out, rfl, J16⟩
                | zero =>
                  obtain rfl : h = q := by omega
                  have hlth : ¬ (h : Int) < (h : Int) := by omega
                  clear hhg
                  have E16 := Lib.hid (E6.out.on J12.out)
                  have hwi := HWI.out
                  go_wp2_with fail
                  go_roundg g2
                  case measure => omega
                  case rel => exact ⟨i1, HIG.out, rfl, E16⟩
      | zero =>
        obtain rfl : i = q := by omega
        have hlt : ¬ (i : Int) < (i : Int) := by omega
        rename World => wz
        clear hig
        go_wp2_with fail
        have K0 := Lib.hid E6.out.drew
        clear E6
        have HSF : Hid (∀ (f : GV) W, f.z = gx.z → f.es = gx.es.take 80 → g.ok W → f.ok W → Calls Try.prog 17 #[.agg #[.int .i64 g.z, .slice g.A g.n g.c], .agg #[.int .i64 f.z, .slice f.A f.n f.c]] W fun e w' => e = .returned (.bool true) ∧ Below W.heap.size W w') := by
          intro f W h1 h2 h3 h4
          have := rsame_any g.z f.z g.A f.A g.n g.c f.n f.c g.es f.es (by have := HGN.out; omega) W h3.1 h4.1
          rwa [decide_eq_true ⟨HG.out.1.trans h1.symm, HG.out.2.trans h2.symm⟩] at this
        refine wp_region_noPanic ?_
        refine wp_region_held_drew (S := fun w' => w'.cell? ⟨b5, 0, none⟩ = some (.int .i64 g.z) ∧ w'.cell? ⟨b5, 1, none⟩ = some (.slice g.A g.n g.c) ∧ w'.cell? ⟨w.heap.size, 0, none⟩ = some (.int .i64 gx.z) ∧ w'.cell? ⟨w.heap.size, 1, none⟩ = some (.slice gx.A gx.n gx.c)) (by kernel_rfl) ⟨K0.out.c0 (.head _), K0.out.c1 (.head _), K0.out.c0 (.tail _ (.head _)), K0.out.c1 (.tail _ (.head _))⟩ (fun hHeld => ?_)
        refine wpAnyH_take (i := 0) (oi := { dst := some 165, op := Op.load 24 (Operand.tmp 5), type := 24, pos := "law.go:106", after := #[], guard := none }) (v := .agg #[.int .i64 g.z, .slice g.A g.n g.c]) rfl (by kernel_rfl) (by kernel_rfl) (by kernel_rfl) (fun _ _ _ h => h) (Or.inl ⟨by kernel_rfl, fun w' hSw => by (try dsimp only at hSw); go_simp⟩) (by assumption) ?_
        try simp only [Act.put, List.setIfInBounds_toArray, List.set_cons_zero, List.set_cons_succ]
        refine wpAnyH_take (i := 1) (oi := { dst := some 166, op := Op.load 24 (Operand.tmp 2), type := 24, pos := "law.go:106", after := #[], guard := none }) (v := .agg #[.int .i64 gx.z, .slice gx.A gx.n gx.c]) rfl (by kernel_rfl) (by kernel_rfl) (by kernel_rfl) (fun _ _ _ h => h) (Or.inl ⟨by kernel_rfl, fun w' hSw => by (try dsimp only at hSw); go_simp⟩) (by assumption) ?_
        try simp only [Act.put, List.setIfInBounds_toArray, List.set_cons_zero, List.set_cons_succ]
        refine wpAnyH_ready (rs := [2]) (by kernel_rfl) (by simp) ?_
        refine AllReadyH.cons (o := { dst := some 167, op := Op.call { callee := Callee.value (Operand.func 10), args := #[Operand.tmp 166], argTypes := #[24] }, type := 24, pos := "law.go:106", after := #[{ on := 1, ground := Ground.data }], guard := none }) rfl (fun K hK => ?_) AllReadyH.nil
        go_simp
        refine (fair_any gx.z gx.A gx.n gx.c gx.es (K0.out.ok (.tail _ (.head _))).2.2.2 (K0.out.ok (.tail _ (.head _))).2.1 (K0.out.ok (.tail _ (.head _))).2.2.1 _ (K0.out.ok (.tail _ (.head _))).1).mono ?_
        rintro e v1 hx
        obtain ⟨f, rfl, hz, he, okf, b⟩ := gis_gv hx
        have K1 := Lib.hid (K0.out.on b)
        have HF := Lib.hid okf
        have HFE := Lib.hid (And.intro hz he)
        clear hx hz he okf b K0 hHeld
        refine hK.out _ _ ⟨K1.out.c0 (.head _), K1.out.c1 (.head _), K1.out.c0 (.tail _ (.head _)), K1.out.c1 (.tail _ (.head _))⟩ (fun hHeld => ?_)
        clear hK K
        try simp only [Act.put, List.setIfInBounds_toArray, List.set_cons_zero, List.set_cons_succ]
        refine wpAnyH_ready (rs := [3]) (by kernel_rfl) (by simp) ?_
        refine AllReadyH.cons (o := { dst := some 168, op := Op.call { callee := Callee.value (Operand.func 17), args := #[Operand.tmp 165, Operand.tmp 167], argTypes := #[24, 24] }, type := 4, pos := "law.go:106", after := #[{ on := 0, ground := Ground.data }, { on := 2, ground := Ground.data }, { on := 2, ground := Ground.chain }], guard := none }) rfl (fun K hK => ?_) AllReadyH.nil
        go_simp
        refine (HSF.out f _ HFE.out.1 HFE.out.2 (K1.out.ok (.head _)) HF.out).mono ?_
        rintro e v2 ⟨rfl, b⟩
        have K2 := Lib.hid (K1.out.on b)
        clear b K1 HF hHeld
        refine hK.out _ _ ⟨K2.out.c0 (.head _), K2.out.c1 (.head _), K2.out.c0 (.tail _ (.head _)), K2.out.c1 (.tail _ (.head _))⟩ (fun hHeld => ?_)
        clear hK K
        try simp only [Act.put, List.setIfInBounds_toArray, List.set_cons_zero, List.set_cons_succ]
        refine wpAnyH_take (i := 4) (oi := { dst := some 4, op := Op.assign (Operand.tmp 168), type := 4, pos := "law.go:106", after := #[{ on := 3, ground := Ground.data }, { on := 3, ground := Ground.chain }, { on := 0, ground := Ground.phase }, { on := 1, ground := Ground.phase }, { on := 2, ground := Ground.phase }, { on := 3, ground := Ground.phase }], guard := none }) (v := .bool true) rfl (by kernel_rfl) (by kernel_rfl) (by kernel_rfl) (fun _ _ _ h => h) (Or.inl ⟨by kernel_rfl, fun w' hSw => by (try dsimp only at hSw); go_simp⟩) (by assumption) ?_
        try simp only [Act.put, List.setIfInBounds_toArray, List.set_cons_zero, List.set_cons_succ]
        refine wpAnyH_done (by kernel_rfl) ?_ _
        refine NoPanic.normal ?_
        go_wp2_with fail
        go_ret
        exact ⟨rfl, K2.out.below⟩
end Go.Proofs.Yticbgikbpafeoaa
