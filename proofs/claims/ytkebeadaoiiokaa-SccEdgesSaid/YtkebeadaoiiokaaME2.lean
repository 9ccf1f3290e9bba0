/- SccEdges: the walk. -/
import Derived.Carry
import Derived.Test.YtkebeadaoiiokaaME1
import Derived.Test.YtkebeadaoiiokaaM11
import Derived.Test.YtkebeadaoiiokaaM16
-- holds: YtkebeadaoiiokaaCeb
namespace Go.Proofs.Ytkebeadaoiiokaa
open Go.RowKit Go.Shelf
open Go.Maps (Keyed IsMap int_keyed keyOf_int_mk)

/-- A row taken when the world was Wc. -/
structure Taken (Wc W : World) (v : Value) (n : Nat) (es : List Ed) : Prop where
  own : W.ownsRow Wc.heap.size 34 3 v n (cellsE es)
  below : Below Wc.heap.size Wc W
theorem Taken.on {Wc W W' : World} {v : Value} {n : Nat} {es : List Ed} (h : Taken Wc W v n es) (hb : Below W.heap.size W W') : Taken Wc W' v n es := ⟨own_below2 h.own hb (Nat.le_refl _), h.below.trans (hb.mono h.below.size)⟩
theorem slice_new (w : World) (p : Ed) : Reads (w.alloc (.cells #[.int .i64 p.1, .int .i64 p.2.1, .int .i64 p.2.2] 34)) (w.alloc (.cells #[.int .i64 p.1, .int .i64 p.2.1, .int .i64 p.2.2] 34)).heap.size 3 (some ⟨w.heap.size, 0, none⟩) 1 (cellsE [p]) := (pair_one w p).more (by simp)
theorem zeroBool6 (w : World) : (zeroValue 4).run Try.prog w = .ok (.bool false) w := by kernel_rfl

set_option maxRecDepth 100000 in
set_option maxHeartbeats 4000000 in
theorem edges6_core (S : Scc) (nodes : Int) (A : Option Addr) (n c : Nat) (zs : List Ed) (fr tt : Int) (hc : A = none → c = 0) (hnc : n ≤ c) (hcm : c ≤ 9223372036854775807) (w : World) (hR : Reads w w.heap.size 3 A n (cellsE zs)) :
    Calls Try.prog 6 #[.agg #[.int .i64 nodes, .slice A n c], .int .i64 fr, .int .i64 tt] w fun e w' => e = .returned (.bool true) ∧ Below w.heap.size w w' := by
  have E0 := Lib.hid ((Env.start w).add (g := ⟨nodes, A, n, c, zs⟩) ⟨hR, hnc, hcm, hc⟩)
  obtain ⟨gx, hgx⟩ : ∃ gx : GV, (⟨nodes, A, n, c, zs⟩ : GV) = gx := ⟨_, rfl⟩
  have hz : nodes = gx.z := by rw [← hgx]
  have hA : A = gx.A := by rw [← hgx]
  have hn : n = gx.n := by rw [← hgx]
  have hcc : c = gx.c := by rw [← hgx]
  rw [hgx] at E0
  subst hz; subst hA; subst hn; subst hcc
  have HS := Lib.hid S
  have hmm := @run_makeMap Try.prog
  clear hR hc hnc hcm hgx S
  go_enter Try.func6, Try.ntmps6
  go_wp2_with fail
  generalize w.alloc (.cells #[.int .i64 gx.z, .slice gx.A gx.n gx.c] 24) = W0 at *
  refine (wakes6_any HS.out _).mono ?_
  rintro e w1 ⟨rfl, b⟩
  have E1 := Lib.hid (E0.out.on b)
  clear b E0
  have z0 := E1.out.c0 (.head _)
  have z1 := E1.out.c1 (.head _)
  go_wp2_with fail
  have ok1 := E1.out.ok (.head _)
  refine (own6_any gx.z gx.A gx.n gx.c gx.es ok1.2.2.2 ok1.2.1 ok1.2.2.1 w1 ok1.1).mono ?_
  clear ok1
  rintro e w2 hx
  obtain ⟨g, rfl, hz, he, okg, b⟩ := gis_gv hx
  have E2 := Lib.hid ((E1.out.on b).add okg)
  have hgn : g.n ≤ 600 := by
    have := okg.len
    have h2 : (gx.es.take 600).length ≤ 600 := by rw [List.length_take]; omega
    rw [← he] at h2
    omega
  have HL : Hid (g.es.length = g.n) := okg.len
  clear hx hz he okg b E1 z0 z1
  have z0 := E2.out.c0 (.head _)
  have z1 := E2.out.c1 (.head _)
  go_wp2_with fail
  generalize w2.alloc (.cells #[.int .i64 g.z, .slice g.A g.n g.c] 24) = w3 at *
  generalize w2.heap.size = b3 at *
  refine (HS.out.of g w3 (by omega) (E2.out.ok (.head _))).mono ?_
  rintro e w4 ⟨os, k1, hx, hr1, hw1⟩
  obtain ⟨AO, co, rfl, ro, ho1, ho2, b⟩ := hx
  have E4 := Lib.hid (E2.out.on b)
  have RO := Lib.hid ro
  have HR1 := Lib.hid hr1
  have HW1 := Lib.hid hw1
  have HC := Lib.hid fun W h => check_any g.z g.A g.n g.c g.es (by omega) W h
  clear hr1 hw1 b E2 z0 z1 ro ho1 ho2
  have z0 := E4.out.c0 (.head _)
  have z1 := E4.out.c1 (.head _)
  cases hr : rightG g.z g.es
  · have hk := (HW1.out hr).1
    rw [check_no hr] at HC
    subst hk
    clear HR1 HW1 hr HS RO hmm HL
    go_wp2_with fail
    refine (HC.out _ (E4.out.ok (.head _)).1).mono ?_
    rintro e w6 ⟨rfl, b⟩
    have E6 := Lib.hid (E4.out.on b)
    clear b E4 z0 z1 HC
    go_wp2_with fail
    go_ret
    exact ⟨rfl, E6.out.below⟩
  · obtain ⟨hk, ls, hcs⟩ := HR1.out hr
    subst hk
    have hgg := rightG_iff.1 hr
    rw [check_yes hr] at HC
    have hzz := hgg.nodes
    clear HR1 HW1
    by_cases h2 : g.z < 2
    · clear HS RO hmm HL hcs hgg hzz
      go_wp2_with fail
      refine (HC.out _ (E4.out.ok (.head _)).1).mono ?_
      rintro e w6 ⟨rfl, b⟩
      have E6 := Lib.hid (E4.out.on b)
      clear b E4 z0 z1 HC
      go_wp2_with fail
      go_ret
      exact ⟨rfl, E6.out.below⟩
    · obtain ⟨m, hm⟩ : ∃ m : Nat, g.z = (m : Int) := ⟨g.z.toNat, by omega⟩
      obtain ⟨x, hx, hkx⟩ := turn6 fr m (by omega) (by omega)
      obtain ⟨y, hy, hky⟩ := turn6 tt m (by omega) (by omega)
      rw [← hm] at hkx hky
      have hu : IntKind.u64.wrap g.z = g.z := by rw [IntKind.wrap_u64]; omega
      have hne : ¬ g.z = 0 := by omega
      have HXY := Lib.hid (And.intro hx hy)
      have HM := Lib.hid hm
      have HM3 : Hid (m ≤ 300) := by show m ≤ 300; omega
      have HGM : Hid (IsG (m : Int) g.es) := by rw [← hm]; exact hgg
      have HCS : Hid (Comps g.es m ls os) := by rw [show m = g.z.toNat by omega]; exact hcs
      clear HC hr hgg hzz hcs hx hy hm
      go_wp2_with fail
      go_quiet (fail)
      have E5 := Lib.hid (E4.out.drewN nq)
      have RO5 : Hid (Reads (w4.drewN nq) (w4.drewN nq).heap.size 1 AO os.length (ints os)) := RO.out
      generalize w4.drewN nq = w5 at *
      clear E4 RO z0 z1 hu hne
      rw [hkx, hky]
      clear hkx hky
      by_cases hxy : x = y
      · have hbe : ((x : Int) == (y : Int)) = true := by simp [hxy]
        clear HS RO5 HXY HM HM3 HGM HCS hxy hmm HL
        go_wp2_with fail
        go_ret
        exact ⟨rfl, E5.out.below⟩
      · have hbe : ((x : Int) == (y : Int)) = false := by simp; omega
        have HNE := Lib.hid hxy
        have hM0 : (w5.alloc (.map #[] 0)).ownsMap (H := Unit) Try.prog 3 (plainElem Try.prog 4) w5.heap.size 0 (.map []) := World.ownsMap_made _ _ _ _
        obtain ⟨w6, hins, hM1, hg1⟩ := hM0.update (int_keyed Try.underlying3) Try.underlying55 (by unfold maxLen; omega) (key := .int .i64 x) (val := .bool true) (keyOf_int_mk Try.underlying3 (WalkArith.wf_i64 (by have := HXY.out.1; have := HM3.out; omega))) (plainElem_bool Try.underlying4 true)
        have J6 : Hid (Below w5.heap.size w5 w6) := ((Below.refl w5.heap.size w5).alloc (Nat.le_refl _) (.map #[] 0)).grown hg1 (by simp) (fun k hk => by injection hk with hk; omega)
        have M6 : Hid (∃ D q, w6.ownsMap (H := Unit) Try.prog 3 (plainElem Try.prog 4) w5.heap.size q D ∧ q ≤ 1 ∧ SeenI D (addI (fun _ => false) (x : Int))) := by
          refine ⟨_, _, hM1, Nat.le_refl _, ?_⟩
          have := seenI_none.put hM0.isMap (x : Int)
          exact this
        have HE : Hid (∀ W, Below w5.heap.size w5 W → Env w [(b3, g), (w.heap.size, gx)] W) := fun W h => E5.out.on h
        have HRO : Hid (∀ W, Below w5.heap.size w5 W → Reads W W.heap.size 1 AO os.length (ints os)) := fun W h => (RO5.out.below h).more h.size
        clear hM0 hM1 hg1 hxy E5 RO5
        obtain ⟨B, hB⟩ : ∃ B, w5.heap.size = B := ⟨_, rfl⟩
        have HB := Lib.hid hB
        have z0 := (HE.out _ J6.out).c0 (.head _)
        rw [hB] at hins M6
        clear hB
        obtain ⟨D0, q0, M6⟩ := M6.out
        have M0 : Hid (w6.ownsMap (H := Unit) Try.prog 3 (plainElem Try.prog 4) B q0 D0 ∧ q0 ≤ 1 + 0 * 600 ∧ SeenI D0 (addI (fun _ => false) (x : Int)) ∧ Went g.es m (x : Int) 0 (addI (fun _ => false) (x : Int))) := ⟨M6.1, by omega, M6.2.2, Went.first HXY.out.1⟩
        clear M6
        have HB2 : Hid (w5.heap.size = B) := HB.out
        have hBr := HB.out
        go_wp2_with fail
        clear hins z0 hBr
        go_loopg [61] m (fun gg s61 wr => ∃ (i : Nat) (D : DataW Unit) (q : Nat) (S : Int → Bool), s61 = .int .i64 i ∧ i + gg = m ∧ Hid (wr.ownsMap (H := Unit) Try.prog 3 (plainElem Try.prog 4) B q D ∧ q ≤ 1 + i * 600 ∧ SeenI D S ∧ Went g.es m (x : Int) i S) ∧ Hid (Below w5.heap.size w5 wr))
        case atStart => exact ⟨0, D0, q0, _, rfl, by omega, M0, J6⟩
        case round =>
          clear M0 J6
          obtain ⟨i, D, q, S, rfl, hi, MM, J⟩ := hrel
          cases gk with
          | zero =>
            have hge : ¬ (i : Int) < g.z := by have := HM.out; omega
            have hiM : i = m := by omega
            have MW : Hid (∀ v : Int, S v = true ↔ Comes g.es (x : Int) v) := by
              have h := MM.out.2.2.2
              rw [hiM] at h
              exact fun v => h.done v
            have MS := Lib.hid MM.out.2.2.1
            have HY : Hid (S (y : Int) = true ↔ Leads g.es (x : Int) (y : Int)) := ⟨fun h => ((MW.out _).1 h).resolve_left (by have := HNE.out; omega), fun h => (MW.out _).2 (.inr h)⟩
            have HRT := Lib.hid (more_right HGM.out HXY.out.1 HXY.out.2 HNE.out)
            have HRB := Lib.hid (more_right HGM.out HXY.out.2 HXY.out.1 (Ne.symm HNE.out))
            have HOFT : Hid (∀ A5 c5 W, Reads W W.heap.size 3 A5 (g.n + 1) (cellsE (g.es ++ [((x : Int), (y : Int), (0 : Int))])) → Calls Try.prog 26 #[.int .i64 g.z, .slice A5 (g.n + 1) c5] W (GErr g.z (sorE (g.es ++ [((x : Int), (y : Int), (0 : Int))])) 0 W)) := fun A5 c5 W h => by
              have := of_ok (m : Int) A5 (g.n + 1) c5 _ HGM.out.may HRT.out.1 (by omega) W h
              rwa [← HM.out] at this
            have HOFB : Hid (∀ A5 c5 W, Reads W W.heap.size 3 A5 (g.n + 1) (cellsE (g.es ++ [((y : Int), (x : Int), (0 : Int))])) → Calls Try.prog 26 #[.int .i64 g.z, .slice A5 (g.n + 1) c5] W (GErr g.z (sorE (g.es ++ [((y : Int), (x : Int), (0 : Int))])) 0 W)) := fun A5 c5 W h => by
              have := of_ok (m : Int) A5 (g.n + 1) c5 _ HGM.out.may HRB.out.1 (by omega) W h
              rwa [← HM.out] at this
            have EE : Hid (Env w5 [] wr) := ⟨J.out, fun p hp => by simp at hp⟩
            have M9 := Lib.hid MM.out.1
            clear hi hiM MM J
            go_upto_region 20 with fail
            go_cut [13, 14] (fun s13 s14 wx => ∃ (T : GV) (X : Nat), s13 = .pointer (some ⟨X, 0, none⟩) ∧ s14 = .int .i64 0 ∧ Hid (T.z = g.z ∧ T.es = sorE (g.es ++ [((x : Int), (y : Int), (0 : Int))])) ∧ Hid (Env w5 [(X, T)] wx) ∧ Hid (wx.ownsMap (H := Unit) Try.prog 3 (plainElem Try.prog 4) B q D))
            case first =>
              clear HS HL HXY HM HM3 HGM HCS HNE HRO HB HB2 MW MS HY HRT HRB HOFB
              have E0 := Lib.hid EE.out.drew
              have M0 : Hid (wr.drew.ownsMap (H := Unit) Try.prog 3 (plainElem Try.prog 4) B q D) := M9.out.drew
              clear EE M9
              refine wp_region_noPanic ?_
              refine wp_region_held_drew (S := fun w' => w'.cell? ⟨b3, 0, none⟩ = some (.int .i64 g.z) ∧ w'.cell? ⟨b3, 1, none⟩ = some (.slice g.A g.n g.c)) (by kernel_rfl) ⟨(HE.out _ E0.out.below).c0 (.head _), (HE.out _ E0.out.below).c1 (.head _)⟩ (fun hHeld => ?_)
              generalize wr.drew = wd at *
              refine wpAnyH_take (i := 0) (oi := { dst := some 80, op := Op.fieldAddr 24 (Operand.tmp 7) 0, type := 0, pos := "outright.go:98", after := #[], guard := none }) (v := .pointer (some ⟨b3, 0, none⟩)) rfl (by kernel_rfl) (by kernel_rfl) (by kernel_rfl) (fun _ _ _ h => h) (Or.inl ⟨by kernel_rfl, fun w' hSw => by (try dsimp only at hSw); go_simp⟩) (by assumption) ?_
              try simp only [Act.put, List.setIfInBounds_toArray, List.set_cons_zero, List.set_cons_succ]
              refine wpAnyH_take (i := 1) (oi := { dst := some 81, op := Op.load 3 (Operand.tmp 80), type := 3, pos := "outright.go:98", after := #[{ on := 0, ground := Ground.data }], guard := none }) (v := .int .i64 g.z) rfl (by kernel_rfl) (by kernel_rfl) (by kernel_rfl) (fun _ _ _ h => h) (Or.inl ⟨by kernel_rfl, fun w' hSw => by (try dsimp only at hSw); go_simp⟩) (by assumption) ?_
              try simp only [Act.put, List.setIfInBounds_toArray, List.set_cons_zero, List.set_cons_succ]
              refine wpAnyH_take (i := 2) (oi := { dst := some 82, op := Op.fieldAddr 24 (Operand.tmp 7) 1, type := 0, pos := "outright.go:98", after := #[], guard := none }) (v := .pointer (some ⟨b3, 1, none⟩)) rfl (by kernel_rfl) (by kernel_rfl) (by kernel_rfl) (fun _ _ _ h => h) (Or.inl ⟨by kernel_rfl, fun w' hSw => by (try dsimp only at hSw); go_simp⟩) (by assumption) ?_
              try simp only [Act.put, List.setIfInBounds_toArray, List.set_cons_zero, List.set_cons_succ]
              refine wpAnyH_take (i := 3) (oi := { dst := some 83, op := Op.load 22 (Operand.tmp 82), type := 22, pos := "outright.go:98", after := #[{ on := 2, ground := Ground.data }], guard := none }) (v := .slice g.A g.n g.c) rfl (by kernel_rfl) (by kernel_rfl) (by kernel_rfl) (fun _ _ _ h => h) (Or.inl ⟨by kernel_rfl, fun w' hSw => by (try dsimp only at hSw); go_simp⟩) (by assumption) ?_
              try simp only [Act.put, List.setIfInBounds_toArray, List.set_cons_zero, List.set_cons_succ]
              refine wpAnyH_take (i := 5) (oi := { dst := some 85, op := Op.move (Operand.tmp 1), type := 3, pos := "outright.go:98", after := #[], guard := none }) (v := .int .i64 (x : Int)) rfl (by kernel_rfl) (by kernel_rfl) (by kernel_rfl) (fun _ _ _ h => h) (Or.inl ⟨by kernel_rfl, fun w' hSw => by (try dsimp only at hSw); go_simp⟩) (by assumption) ?_
              try simp only [Act.put, List.setIfInBounds_toArray, List.set_cons_zero, List.set_cons_succ]
              refine wpAnyH_take (i := 6) (oi := { dst := some 86, op := Op.move (Operand.tmp 2), type := 3, pos := "outright.go:98", after := #[], guard := none }) (v := .int .i64 (y : Int)) rfl (by kernel_rfl) (by kernel_rfl) (by kernel_rfl) (fun _ _ _ h => h) (Or.inl ⟨by kernel_rfl, fun w' hSw => by (try dsimp only at hSw); go_simp⟩) (by assumption) ?_
              try simp only [Act.put, List.setIfInBounds_toArray, List.set_cons_zero, List.set_cons_succ]
              refine wpAnyH_take (i := 7) (oi := { dst := some 87, op := Op.build 34 #[(0, Operand.tmp 85), (1, Operand.tmp 86)], type := 34, pos := "outright.go:98", after := #[{ on := 5, ground := Ground.data }, { on := 6, ground := Ground.data }], guard := none }) (v := .agg #[.int .i64 (x : Int), .int .i64 (y : Int), .int .i64 0]) rfl (by kernel_rfl) (by kernel_rfl) (by kernel_rfl) (fun _ _ _ h => h) (Or.inl ⟨by kernel_rfl, fun w' hSw => by (try dsimp only at hSw); go_simp⟩) (by assumption) ?_
              try simp only [Act.put, List.setIfInBounds_toArray, List.set_cons_zero, List.set_cons_succ]
              refine wpAnyH_ready (rs := [4, 8, 14]) (by kernel_rfl) (by simp) ?_
              refine AllReadyH.cons (o := { dst := some 84, op := Op.call { callee := Callee.value (Operand.func 27), args := #[Operand.tmp 83], argTypes := #[22] }, type := 22, pos := "outright.go:98", after := #[{ on := 3, ground := Ground.data }], guard := none }) rfl (fun K hK => ?_) ?_
              · skip
                go_simp
                have okc := (HE.out _ E0.out.below).ok (.head _)
                refine (clone_any g.A g.n g.c g.es (by omega) okc.2.2.2 okc.2.1 _ okc.1).mono ?_
                rintro e u1 ⟨A4, c4, rfl, ho, h1, h2, bb⟩
                have TK1 := Lib.hid (Taken.mk ho bb)
                have EC := E0
                have MC := M0
                clear hHeld okc ho h1 h2 bb E0 M0 
                refine hK.out _ _ ⟨(HE.out _ (EC.out.below.trans (TK1.out.below.mono EC.out.below.size))).c0 (.head _), (HE.out _ (EC.out.below.trans (TK1.out.below.mono EC.out.below.size))).c1 (.head _)⟩ (fun hHeld => ?_)
                clear hK K
                try simp only [Act.put, List.setIfInBounds_toArray, List.set_cons_zero, List.set_cons_succ]
                refine wpAnyH_ready (rs := [8, 14]) (by kernel_rfl) (by simp) ?_
                refine AllReadyH.cons (o := { dst := some 88, op := Op.buildSlice 22 1 #[(0, Operand.tmp 87)], type := 22, pos := "outright.go:98", after := #[{ on := 7, ground := Ground.data }], guard := none }) rfl (fun K hK => ?_) ?_
                · skip
                  go_simp
                  have bb : Below u1.heap.size u1 (u1.alloc (.cells #[.int .i64 (x : Int), .int .i64 (y : Int), .int .i64 0] 34)) := (Below.refl _ _).alloc (Nat.le_refl _) _
                  have TK2 := Lib.hid (TK1.out.on bb)
                  have SL2 : Hid (Reads (u1.alloc (.cells #[.int .i64 (x : Int), .int .i64 (y : Int), .int .i64 0] 34)) _ 3 (some ⟨u1.heap.size, 0, none⟩) 1 (cellsE [((x : Int), (y : Int), (0 : Int))])) := slice_new u1 ((x : Int), (y : Int), (0 : Int))
                  clear hHeld bb TK1
                  refine hK.out _ _ ⟨(HE.out _ (EC.out.below.trans (TK2.out.below.mono EC.out.below.size))).c0 (.head _), (HE.out _ (EC.out.below.trans (TK2.out.below.mono EC.out.below.size))).c1 (.head _)⟩ (fun hHeld => ?_)
                  clear hK K
                  try simp only [Act.put, List.setIfInBounds_toArray, List.set_cons_zero, List.set_cons_succ]
                  generalize u1.alloc (.cells #[.int .i64 (x : Int), .int .i64 (y : Int), .int .i64 0] 34) = u2 at *
                  generalize u1.heap.size = XS at *
                  refine wpAnyH_ready (rs := [9, 14]) (by kernel_rfl) (by simp) ?_
                  refine AllReadyH.cons (o := { dst := some 89, op := Op.call { callee := Callee.builtin Builtin.append, args := #[Operand.tmp 84, Operand.tmp 88], argTypes := #[22, 22] }, type := 22, pos := "outright.go:98", after := #[{ on := 4, ground := Ground.data }, { on := 8, ground := Ground.data }, { on := 4, ground := Ground.chain }], guard := none }) rfl (fun K hK => ?_) ?_
                  · skip
                    obtain ⟨i0, hi0, hz0, hz1, hz2⟩ := info_parts pair_info
                    refine step_append_any _ rfl (.tmp 84) (.tmp 88) 22 rfl wd.heap.size 34 i0 _ 3 24 Try.underlying22 hi0 hz0 hz1 hz2 rfl (by decide) (.slice A4 g.n c4) g.n _ rfl TK2.out.own _ (some ⟨XS, 0, none⟩) 1 _ (cellsE [((x : Int), (y : Int), (0 : Int))]) rfl SL2.out (cellsE_one _) (by unfold maxLen; omega) (by omega) TK2.out.below.size ?_
                    intro v5 u3 hown5 hgrow5 _
                    obtain ⟨A5, c5, rfl, h51, h52⟩ := own_form2 hown5
                    rw [← cellsE_append] at hown5
                    have bC : Below wd.heap.size wd u3 := TK2.out.below.grown hgrow5 TK2.out.below.size (fun kk hk => (TK2.out.own.lt kk hk).1)
                    have E3 := Lib.hid (EC.out.on bC)
                    have M3 := Lib.hid (MC.out.kept (below_only bC none) (by simp))
                    have R3 := Lib.hid (reads_own hown5)
                    clear hown5 hgrow5 bC h51 h52 hHeld TK2 SL2 EC MC hi0 hz0 hz1 hz2 
                    refine hK.out _ _ ⟨(HE.out _ E3.out.below).c0 (.head _), (HE.out _ E3.out.below).c1 (.head _)⟩ (fun hHeld => ?_)
                    clear hK K
                    try simp only [Act.put, List.setIfInBounds_toArray, List.set_cons_zero, List.set_cons_succ]
                    refine wpAnyH_ready (rs := [10, 14]) (by kernel_rfl) (by simp) ?_
                    refine AllReadyH.cons (o := { dst := some 90, op := Op.call { callee := Callee.value (Operand.func 26), args := #[Operand.tmp 81, Operand.tmp 89], argTypes := #[3, 22] }, type := 28, pos := "outright.go:98", after := #[{ on := 1, ground := Ground.data }, { on := 9, ground := Ground.data }, { on := 9, ground := Ground.chain }], guard := none }) rfl (fun K hK => ?_) ?_
                    · skip
                      go_simp
                      refine (HOFT.out A5 c5 _ R3.out).mono ?_
                      rintro e u4 hx
                      obtain ⟨T, rfl, hz, he, okT, bb⟩ := gerr_gv hx
                      have E4 := Lib.hid (E3.out.on bb)
                      have M4 := Lib.hid (M3.out.kept (below_only bb none) (by simp))
                      have O4 := Lib.hid okT
                      have HT := Lib.hid (And.intro hz he)
                      clear hx hz he okT bb hHeld R3 E3 M3
                      refine hK.out _ _ ⟨(HE.out _ E4.out.below).c0 (.head _), (HE.out _ E4.out.below).c1 (.head _)⟩ (fun hHeld => ?_)
                      clear hK K
                      try simp only [Act.put, List.setIfInBounds_toArray, List.set_cons_zero, List.set_cons_succ]
                      refine wpAnyH_take (i := 11) (oi := { dst := some 79, op := Op.move (Operand.tmp 90), type := 28, pos := "outright.go:98", after := #[{ on := 10, ground := Ground.data }], guard := none }) (v := .tuple #[.agg #[.int .i64 T.z, .slice T.A T.n T.c], .int .i64 0]) rfl (by kernel_rfl) (by kernel_rfl) (by kernel_rfl) (fun _ _ _ h => h) (Or.inl ⟨by kernel_rfl, fun w' hSw => by (try dsimp only at hSw); go_simp⟩) (by assumption) ?_
                      try simp only [Act.put, List.setIfInBounds_toArray, List.set_cons_zero, List.set_cons_succ]
                      refine wpAnyH_take (i := 12) (oi := { dst := some 91, op := Op.extract (Operand.tmp 79) 0, type := 24, pos := "outright.go:98", after := #[{ on := 11, ground := Ground.data }], guard := none }) (v := .agg #[.int .i64 T.z, .slice T.A T.n T.c]) rfl (by kernel_rfl) (by kernel_rfl) (by kernel_rfl) (fun _ _ _ h => h) (Or.inl ⟨by kernel_rfl, fun w' hSw => by (try dsimp only at hSw); go_simp⟩) (by assumption) ?_
                      try simp only [Act.put, List.setIfInBounds_toArray, List.set_cons_zero, List.set_cons_succ]
                      refine wpAnyH_take (i := 13) (oi := { dst := some 92, op := Op.extract (Operand.tmp 79) 1, type := 27, pos := "outright.go:98", after := #[{ on := 11, ground := Ground.data }, { on := 15, ground := Ground.gcOnly Departure.lateStores }], guard := none }) (v := .int .i64 0) rfl (by kernel_rfl) (by kernel_rfl) (by kernel_rfl) (fun _ _ _ h => h) (Or.inl ⟨by kernel_rfl, fun w' hSw => by (try dsimp only at hSw); go_simp⟩) (by assumption) ?_
                      try simp only [Act.put, List.setIfInBounds_toArray, List.set_cons_zero, List.set_cons_succ]
                      refine wpAnyH_ready (rs := [14]) (by kernel_rfl) (by simp) ?_
                      refine AllReadyH.cons (o := { dst := some 13, op := Op.alloc 24, type := 0, pos := "outright.go:98", after := #[], guard := none }) rfl (fun K hK => ?_) ?_
                      · skip
                        go_simp
                        have bb : Below u4.heap.size u4 (u4.alloc (.cells #[.int .i64 0, .slice none 0 0] 24)) := (Below.refl _ _).alloc (Nat.le_refl _) _
                        have E5 := Lib.hid (E4.out.on bb)
                        have M5 := Lib.hid (M4.out.kept (below_only bb none) (by simp))
                        have O5 := Lib.hid (O4.out.on bb)
                        have Z5 := Lib.hid (Zer.new E4.out)
                        have HBX : Hid (B ≠ u4.heap.size) := Nat.ne_of_lt M4.out.lt
                        clear hHeld bb E4 M4 O4
                        refine hK.out _ _ ⟨(HE.out _ E5.out.below).c0 (.head _), (HE.out _ E5.out.below).c1 (.head _)⟩ (fun hHeld => ?_)
                        clear hK K
                        try simp only [Act.put, List.setIfInBounds_toArray, List.set_cons_zero, List.set_cons_succ]
                        generalize u4.alloc (.cells #[.int .i64 0, .slice none 0 0] 24) = u5 at *
                        generalize u4.heap.size = XB at *
                        refine wpAnyH_ready (rs := [15]) (by kernel_rfl) (by simp) ?_
                        refine AllReadyH.cons (o := { dst := none, op := Op.store 24 (Operand.tmp 13) (Operand.tmp 91), type := 0, pos := "outright.go:98", after := #[{ on := 14, ground := Ground.data }, { on := 12, ground := Ground.data }, { on := 10, ground := Ground.chain }, { on := 0, ground := Ground.phase }, { on := 1, ground := Ground.phase }, { on := 2, ground := Ground.phase }, { on := 3, ground := Ground.phase }, { on := 4, ground := Ground.phase }, { on := 5, ground := Ground.phase }, { on := 6, ground := Ground.phase }, { on := 7, ground := Ground.phase }, { on := 8, ground := Ground.phase }, { on := 9, ground := Ground.phase }, { on := 10, ground := Ground.phase }, { on := 11, ground := Ground.phase }, { on := 12, ground := Ground.phase }, { on := 13, ground := Ground.textOnly Departure.lateStores }, { on := 14, ground := Ground.phase }], guard := none }) rfl (fun K hK => ?_) ?_
                        · skip
                          have y0 := Z5.out.1.cell 0
                          have y1 := Z5.out.1.cell 1
                          have f0 := Z5.out.1.frozen 0
                          have f1 := Z5.out.1.frozen 1
                          go_simp
                          have E6 := Lib.hid (E5.out.put Z5.out O5.out)
                          have M6 := Lib.hid ((M5.out.setCell (a := ⟨XB, 0, none⟩) HBX.out (.int .i64 T.z)).setCell (a := ⟨XB, 1, none⟩) HBX.out (.slice T.A T.n T.c))
                          clear hHeld y0 y1 f0 f1 E5 M5 Z5 O5
                          refine hK.out _ _ ⟨(HE.out _ E6.out.below).c0 (.head _), (HE.out _ E6.out.below).c1 (.head _)⟩ (fun hHeld => ?_)
                          clear hK K
                          try simp only [Act.put, List.setIfInBounds_toArray, List.set_cons_zero, List.set_cons_succ]
                          generalize (u5.setCell ⟨XB, 0, none⟩ (.int .i64 T.z)).setCell ⟨XB, 1, none⟩ (.slice T.A T.n T.c) = u6 at *
                          refine wpAnyH_take (i := 16) (oi := { dst := some 14, op := Op.assign (Operand.tmp 92), type := 27, pos := "outright.go:98", after := #[{ on := 13, ground := Ground.data }, { on := 15, ground := Ground.chain }, { on := 0, ground := Ground.phase }, { on := 1, ground := Ground.phase }, { on := 2, ground := Ground.phase }, { on := 3, ground := Ground.phase }, { on := 4, ground := Ground.phase }, { on := 5, ground := Ground.phase }, { on := 6, ground := Ground.phase }, { on := 7, ground := Ground.phase }, { on := 8, ground := Ground.phase }, { on := 9, ground := Ground.phase }, { on := 10, ground := Ground.phase }, { on := 11, ground := Ground.phase }, { on := 12, ground := Ground.phase }, { on := 13, ground := Ground.phase }, { on := 14, ground := Ground.phase }, { on := 15, ground := Ground.phase }], guard := none }) (v := .int .i64 0) rfl (by kernel_rfl) (by kernel_rfl) (by kernel_rfl) (fun _ _ _ h => h) (Or.inl ⟨by kernel_rfl, fun w' hSw => by (try dsimp only at hSw); go_simp⟩) (by assumption) ?_
                          try simp only [Act.put, List.setIfInBounds_toArray, List.set_cons_zero, List.set_cons_succ]
                          refine wpAnyH_done (by kernel_rfl) ?_ _
                          refine NoPanic.normal ?_
                          clear hHeld
                          go_wp2_with fail
                          go_meet
                          exact ⟨T, XB, rfl, rfl, HT, E6, M6⟩
                        exact AllReadyH.nil
                      exact AllReadyH.nil
                    refine AllReadyH.cons (o := { dst := some 13, op := Op.alloc 24, type := 0, pos := "outright.go:98", after := #[], guard := none }) rfl (fun K hK => ?_) ?_
                    · skip
                      go_simp
                      have bb : Below u3.heap.size u3 (u3.alloc (.cells #[.int .i64 0, .slice none 0 0] 24)) := (Below.refl _ _).alloc (Nat.le_refl _) _
                      have E4 := Lib.hid (E3.out.on bb)
                      have M4 := Lib.hid (M3.out.kept (below_only bb none) (by simp))
                      have R4 := Lib.hid (R3.out.on bb)
                      have Z4 := Lib.hid (Zer.new E3.out)
                      have HBX : Hid (B ≠ u3.heap.size) := Nat.ne_of_lt M3.out.lt
                      clear hHeld bb E3 M3 R3
                      refine hK.out _ _ ⟨(HE.out _ E4.out.below).c0 (.head _), (HE.out _ E4.out.below).c1 (.head _)⟩ (fun hHeld => ?_)
                      clear hK K
                      try simp only [Act.put, List.setIfInBounds_toArray, List.set_cons_zero, List.set_cons_succ]
                      generalize u3.alloc (.cells #[.int .i64 0, .slice none 0 0] 24) = u4 at *
                      generalize u3.heap.size = XB at *
                      refine wpAnyH_ready (rs := [10]) (by kernel_rfl) (by simp) ?_
                      refine AllReadyH.cons (o := { dst := some 90, op := Op.call { callee := Callee.value (Operand.func 26), args := #[Operand.tmp 81, Operand.tmp 89], argTypes := #[3, 22] }, type := 28, pos := "outright.go:98", after := #[{ on := 1, ground := Ground.data }, { on := 9, ground := Ground.data }, { on := 9, ground := Ground.chain }], guard := none }) rfl (fun K hK => ?_) ?_
                      · skip
                        go_simp
                        refine (HOFT.out A5 c5 _ R4.out).mono ?_
                        rintro e u5 hx
                        obtain ⟨T, rfl, hz, he, okT, bb⟩ := gerr_gv hx
                        have E5 := Lib.hid (E4.out.on bb)
                        have M5 := Lib.hid (M4.out.kept (below_only bb none) (by simp))
                        have Z5 := Lib.hid (Z4.out.on bb)
                        have O5 := Lib.hid okT
                        have HT := Lib.hid (And.intro hz he)
                        clear hx hz he okT bb hHeld R4 E4 M4 Z4
                        refine hK.out _ _ ⟨(HE.out _ E5.out.below).c0 (.head _), (HE.out _ E5.out.below).c1 (.head _)⟩ (fun hHeld => ?_)
                        clear hK K
                        try simp only [Act.put, List.setIfInBounds_toArray, List.set_cons_zero, List.set_cons_succ]
                        refine wpAnyH_take (i := 11) (oi := { dst := some 79, op := Op.move (Operand.tmp 90), type := 28, pos := "outright.go:98", after := #[{ on := 10, ground := Ground.data }], guard := none }) (v := .tuple #[.agg #[.int .i64 T.z, .slice T.A T.n T.c], .int .i64 0]) rfl (by kernel_rfl) (by kernel_rfl) (by kernel_rfl) (fun _ _ _ h => h) (Or.inl ⟨by kernel_rfl, fun w' hSw => by (try dsimp only at hSw); go_simp⟩) (by assumption) ?_
                        try simp only [Act.put, List.setIfInBounds_toArray, List.set_cons_zero, List.set_cons_succ]
                        refine wpAnyH_take (i := 12) (oi := { dst := some 91, op := Op.extract (Operand.tmp 79) 0, type := 24, pos := "outright.go:98", after := #[{ on := 11, ground := Ground.data }], guard := none }) (v := .agg #[.int .i64 T.z, .slice T.A T.n T.c]) rfl (by kernel_rfl) (by kernel_rfl) (by kernel_rfl) (fun _ _ _ h => h) (Or.inl ⟨by kernel_rfl, fun w' hSw => by (try dsimp only at hSw); go_simp⟩) (by assumption) ?_
                        try simp only [Act.put, List.setIfInBounds_toArray, List.set_cons_zero, List.set_cons_succ]
                        refine wpAnyH_take (i := 13) (oi := { dst := some 92, op := Op.extract (Operand.tmp 79) 1, type := 27, pos := "outright.go:98", after := #[{ on := 11, ground := Ground.data }, { on := 15, ground := Ground.gcOnly Departure.lateStores }], guard := none }) (v := .int .i64 0) rfl (by kernel_rfl) (by kernel_rfl) (by kernel_rfl) (fun _ _ _ h => h) (Or.inl ⟨by kernel_rfl, fun w' hSw => by (try dsimp only at hSw); go_simp⟩) (by assumption) ?_
                        try simp only [Act.put, List.setIfInBounds_toArray, List.set_cons_zero, List.set_cons_succ]
                        refine wpAnyH_ready (rs := [15]) (by kernel_rfl) (by simp) ?_
                        refine AllReadyH.cons (o := { dst := none, op := Op.store 24 (Operand.tmp 13) (Operand.tmp 91), type := 0, pos := "outright.go:98", after := #[{ on := 14, ground := Ground.data }, { on := 12, ground := Ground.data }, { on := 10, ground := Ground.chain }, { on := 0, ground := Ground.phase }, { on := 1, ground := Ground.phase }, { on := 2, ground := Ground.phase }, { on := 3, ground := Ground.phase }, { on := 4, ground := Ground.phase }, { on := 5, ground := Ground.phase }, { on := 6, ground := Ground.phase }, { on := 7, ground := Ground.phase }, { on := 8, ground := Ground.phase }, { on := 9, ground := Ground.phase }, { on := 10, ground := Ground.phase }, { on := 11, ground := Ground.phase }, { on := 12, ground := Ground.phase }, { on := 13, ground := Ground.textOnly Departure.lateStores }, { on := 14, ground := Ground.phase }], guard := none }) rfl (fun K hK => ?_) ?_
                        · skip
                          have y0 := Z5.out.1.cell 0
                          have y1 := Z5.out.1.cell 1
                          have f0 := Z5.out.1.frozen 0
                          have f1 := Z5.out.1.frozen 1
                          go_simp
                          have E6 := Lib.hid (E5.out.put Z5.out O5.out)
                          have M6 := Lib.hid ((M5.out.setCell (a := ⟨XB, 0, none⟩) HBX.out (.int .i64 T.z)).setCell (a := ⟨XB, 1, none⟩) HBX.out (.slice T.A T.n T.c))
                          clear hHeld y0 y1 f0 f1 E5 M5 Z5 O5
                          refine hK.out _ _ ⟨(HE.out _ E6.out.below).c0 (.head _), (HE.out _ E6.out.below).c1 (.head _)⟩ (fun hHeld => ?_)
                          clear hK K
                          try simp only [Act.put, List.setIfInBounds_toArray, List.set_cons_zero, List.set_cons_succ]
                          generalize (u5.setCell ⟨XB, 0, none⟩ (.int .i64 T.z)).setCell ⟨XB, 1, none⟩ (.slice T.A T.n T.c) = u6 at *
                          refine wpAnyH_take (i := 16) (oi := { dst := some 14, op := Op.assign (Operand.tmp 92), type := 27, pos := "outright.go:98", after := #[{ on := 13, ground := Ground.data }, { on := 15, ground := Ground.chain }, { on := 0, ground := Ground.phase }, { on := 1, ground := Ground.phase }, { on := 2, ground := Ground.phase }, { on := 3, ground := Ground.phase }, { on := 4, ground := Ground.phase }, { on := 5, ground := Ground.phase }, { on := 6, ground := Ground.phase }, { on := 7, ground := Ground.phase }, { on := 8, ground := Ground.phase }, { on := 9, ground := Ground.phase }, { on := 10, ground := Ground.phase }, { on := 11, ground := Ground.phase }, { on := 12, ground := Ground.phase }, { on := 13, ground := Ground.phase }, { on := 14, ground := Ground.phase }, { on := 15, ground := Ground.phase }], guard := none }) (v := .int .i64 0) rfl (by kernel_rfl) (by kernel_rfl) (by kernel_rfl) (fun _ _ _ h => h) (Or.inl ⟨by kernel_rfl, fun w' hSw => by (try dsimp only at hSw); go_simp⟩) (by assumption) ?_
                          try simp only [Act.put, List.setIfInBounds_toArray, List.set_cons_zero, List.set_cons_succ]
                          refine wpAnyH_done (by kernel_rfl) ?_ _
                          refine NoPanic.normal ?_
                          clear hHeld
                          go_wp2_with fail
                          go_meet
                          exact ⟨T, XB, rfl, rfl, HT, E6, M6⟩
                        exact AllReadyH.nil
                      exact AllReadyH.nil
                    exact AllReadyH.nil
                  refine AllReadyH.cons (o := { dst := some 13, op := Op.alloc 24, type := 0, pos := "outright.go:98", after := #[], guard := none }) rfl (fun K hK => ?_) ?_
                  · skip
                    go_simp
                    have bb : Below u2.heap.size u2 (u2.alloc (.cells #[.int .i64 0, .slice none 0 0] 24)) := (Below.refl _ _).alloc (Nat.le_refl _) _
                    have TK3 := Lib.hid (TK2.out.on bb)
                    have SL3 := Lib.hid (SL2.out.on bb)
                    have Z3 := Lib.hid (Zer.new (EC.out.on TK2.out.below))
                    have HBX : Hid (B ≠ u2.heap.size) := Nat.ne_of_lt (Nat.lt_of_lt_of_le MC.out.lt TK2.out.below.size)
                    have HD : Hid (∀ kk, (Value.slice A4 g.n c4).ownBlock = some kk → kk ≠ u2.heap.size) := fun kk hk => Nat.ne_of_lt (TK2.out.own.lt kk hk).2
                    clear hHeld bb TK2 SL2
                    refine hK.out _ _ ⟨(HE.out _ (EC.out.below.trans (TK3.out.below.mono EC.out.below.size))).c0 (.head _), (HE.out _ (EC.out.below.trans (TK3.out.below.mono EC.out.below.size))).c1 (.head _)⟩ (fun hHeld => ?_)
                    clear hK K
                    try simp only [Act.put, List.setIfInBounds_toArray, List.set_cons_zero, List.set_cons_succ]
                    generalize u2.alloc (.cells #[.int .i64 0, .slice none 0 0] 24) = u3 at *
                    generalize u2.heap.size = XB at *
                    refine wpAnyH_ready (rs := [9]) (by kernel_rfl) (by simp) ?_
                    refine AllReadyH.cons (o := { dst := some 89, op := Op.call { callee := Callee.builtin Builtin.append, args := #[Operand.tmp 84, Operand.tmp 88], argTypes := #[22, 22] }, type := 22, pos := "outright.go:98", after := #[{ on := 4, ground := Ground.data }, { on := 8, ground := Ground.data }, { on := 4, ground := Ground.chain }], guard := none }) rfl (fun K hK => ?_) ?_
                    · skip
                      obtain ⟨i0, hi0, hz0, hz1, hz2⟩ := info_parts pair_info
                      refine step_append_any _ rfl (.tmp 84) (.tmp 88) 22 rfl wd.heap.size 34 i0 _ 3 24 Try.underlying22 hi0 hz0 hz1 hz2 rfl (by decide) (.slice A4 g.n c4) g.n _ rfl TK3.out.own _ (some ⟨XS, 0, none⟩) 1 _ (cellsE [((x : Int), (y : Int), (0 : Int))]) rfl SL3.out (cellsE_one _) (by unfold maxLen; omega) (by omega) TK3.out.below.size ?_
                      intro v5 u4 hown5 hgrow5 _
                      obtain ⟨A5, c5, rfl, h51, h52⟩ := own_form2 hown5
                      rw [← cellsE_append] at hown5
                      have bC : Below wd.heap.size wd u4 := TK3.out.below.grown hgrow5 TK3.out.below.size (fun kk hk => (TK3.out.own.lt kk hk).1)
                      have E4 := Lib.hid (EC.out.on bC)
                      have M4 := Lib.hid (MC.out.kept (below_only bC none) (by simp))
                      have R4 := Lib.hid (reads_own hown5)
                      have Z4 : Hid (Zer w5 [] XB u4) := ⟨Z3.out.1.grown hgrow5 (fun e => HD.out _ (by first | exact e | exact e.symm) rfl), Z3.out.2⟩
                      clear hown5 hgrow5 bC h51 h52 hHeld TK3 SL3 EC MC hi0 hz0 hz1 hz2 Z3 HD
                      refine hK.out _ _ ⟨(HE.out _ E4.out.below).c0 (.head _), (HE.out _ E4.out.below).c1 (.head _)⟩ (fun hHeld => ?_)
                      clear hK K
                      try simp only [Act.put, List.setIfInBounds_toArray, List.set_cons_zero, List.set_cons_succ]
                      refine wpAnyH_ready (rs := [10]) (by kernel_rfl) (by simp) ?_
                      refine AllReadyH.cons (o := { dst := some 90, op := Op.call { callee := Callee.value (Operand.func 26), args := #[Operand.tmp 81, Operand.tmp 89], argTypes := #[3, 22] }, type := 28, pos := "outright.go:98", after := #[{ on := 1, ground := Ground.data }, { on := 9, ground := Ground.data }, { on := 9, ground := Ground.chain }], guard := none }) rfl (fun K hK => ?_) ?_
                      · skip
                        go_simp
                        refine (HOFT.out A5 c5 _ R4.out).mono ?_
                        rintro e u5 hx
                        obtain ⟨T, rfl, hz, he, okT, bb⟩ := gerr_gv hx
                        have E5 := Lib.hid (E4.out.on bb)
                        have M5 := Lib.hid (M4.out.kept (below_only bb none) (by simp))
                        have Z5 := Lib.hid (Z4.out.on bb)
                        have O5 := Lib.hid okT
                        have HT := Lib.hid (And.intro hz he)
                        clear hx hz he okT bb hHeld R4 E4 M4 Z4
                        refine hK.out _ _ ⟨(HE.out _ E5.out.below).c0 (.head _), (HE.out _ E5.out.below).c1 (.head _)⟩ (fun hHeld => ?_)
                        clear hK K
                        try simp only [Act.put, List.setIfInBounds_toArray, List.set_cons_zero, List.set_cons_succ]
                        refine wpAnyH_take (i := 11) (oi := { dst := some 79, op := Op.move (Operand.tmp 90), type := 28, pos := "outright.go:98", after := #[{ on := 10, ground := Ground.data }], guard := none }) (v := .tuple #[.agg #[.int .i64 T.z, .slice T.A T.n T.c], .int .i64 0]) rfl (by kernel_rfl) (by kernel_rfl) (by kernel_rfl) (fun _ _ _ h => h) (Or.inl ⟨by kernel_rfl, fun w' hSw => by (try dsimp only at hSw); go_simp⟩) (by assumption) ?_
                        try simp only [Act.put, List.setIfInBounds_toArray, List.set_cons_zero, List.set_cons_succ]
                        refine wpAnyH_take (i := 12) (oi := { dst := some 91, op := Op.extract (Operand.tmp 79) 0, type := 24, pos := "outright.go:98", after := #[{ on := 11, ground := Ground.data }], guard := none }) (v := .agg #[.int .i64 T.z, .slice T.A T.n T.c]) rfl (by kernel_rfl) (by kernel_rfl) (by kernel_rfl) (fun _ _ _ h => h) (Or.inl ⟨by kernel_rfl, fun w' hSw => by (try dsimp only at hSw); go_simp⟩) (by assumption) ?_
                        try simp only [Act.put, List.setIfInBounds_toArray, List.set_cons_zero, List.set_cons_succ]
                        refine wpAnyH_take (i := 13) (oi := { dst := some 92, op := Op.extract (Operand.tmp 79) 1, type := 27, pos := "outright.go:98", after := #[{ on := 11, ground := Ground.data }, { on := 15, ground := Ground.gcOnly Departure.lateStores }], guard := none }) (v := .int .i64 0) rfl (by kernel_rfl) (by kernel_rfl) (by kernel_rfl) (fun _ _ _ h => h) (Or.inl ⟨by kernel_rfl, fun w' hSw => by (try dsimp only at hSw); go_simp⟩) (by assumption) ?_
                        try simp only [Act.put, List.setIfInBounds_toArray, List.set_cons_zero, List.set_cons_succ]
                        refine wpAnyH_ready (rs := [15]) (by kernel_rfl) (by simp) ?_
                        refine AllReadyH.cons (o := { dst := none, op := Op.store 24 (Operand.tmp 13) (Operand.tmp 91), type := 0, pos := "outright.go:98", after := #[{ on := 14, ground := Ground.data }, { on := 12, ground := Ground.data }, { on := 10, ground := Ground.chain }, { on := 0, ground := Ground.phase }, { on := 1, ground := Ground.phase }, { on := 2, ground := Ground.phase }, { on := 3, ground := Ground.phase }, { on := 4, ground := Ground.phase }, { on := 5, ground := Ground.phase }, { on := 6, ground := Ground.phase }, { on := 7, ground := Ground.phase }, { on := 8, ground := Ground.phase }, { on := 9, ground := Ground.phase }, { on := 10, ground := Ground.phase }, { on := 11, ground := Ground.phase }, { on := 12, ground := Ground.phase }, { on := 13, ground := Ground.textOnly Departure.lateStores }, { on := 14, ground := Ground.phase }], guard := none }) rfl (fun K hK => ?_) ?_
                        · skip
                          have y0 := Z5.out.1.cell 0
                          have y1 := Z5.out.1.cell 1
                          have f0 := Z5.out.1.frozen 0
                          have f1 := Z5.out.1.frozen 1
                          go_simp
                          have E6 := Lib.hid (E5.out.put Z5.out O5.out)
                          have M6 := Lib.hid ((M5.out.setCell (a := ⟨XB, 0, none⟩) HBX.out (.int .i64 T.z)).setCell (a := ⟨XB, 1, none⟩) HBX.out (.slice T.A T.n T.c))
                          clear hHeld y0 y1 f0 f1 E5 M5 Z5 O5
                          refine hK.out _ _ ⟨(HE.out _ E6.out.below).c0 (.head _), (HE.out _ E6.out.below).c1 (.head _)⟩ (fun hHeld => ?_)
                          clear hK K
                          try simp only [Act.put, List.setIfInBounds_toArray, List.set_cons_zero, List.set_cons_succ]
                          generalize (u5.setCell ⟨XB, 0, none⟩ (.int .i64 T.z)).setCell ⟨XB, 1, none⟩ (.slice T.A T.n T.c) = u6 at *
                          refine wpAnyH_take (i := 16) (oi := { dst := some 14, op := Op.assign (Operand.tmp 92), type := 27, pos := "outright.go:98", after := #[{ on := 13, ground := Ground.data }, { on := 15, ground := Ground.chain }, { on := 0, ground := Ground.phase }, { on := 1, ground := Ground.phase }, { on := 2, ground := Ground.phase }, { on := 3, ground := Ground.phase }, { on := 4, ground := Ground.phase }, { on := 5, ground := Ground.phase }, { on := 6, ground := Ground.phase }, { on := 7, ground := Ground.phase }, { on := 8, ground := Ground.phase }, { on := 9, ground := Ground.phase }, { on := 10, ground := Ground.phase }, { on := 11, ground := Ground.phase }, { on := 12, ground := Ground.phase }, { on := 13, ground := Ground.phase }, { on := 14, ground := Ground.phase }, { on := 15, ground := Ground.phase }], guard := none }) (v := .int .i64 0) rfl (by kernel_rfl) (by kernel_rfl) (by kernel_rfl) (fun _ _ _ h => h) (Or.inl ⟨by kernel_rfl, fun w' hSw => by (try dsimp only at hSw); go_simp⟩) (by assumption) ?_
                          try simp only [Act.put, List.setIfInBounds_toArray, List.set_cons_zero, List.set_cons_succ]
                          refine wpAnyH_done (by kernel_rfl) ?_ _
                          refine NoPanic.normal ?_
                          clear hHeld
                          go_wp2_with fail
                          go_meet
                          exact ⟨T, XB, rfl, rfl, HT, E6, M6⟩
                        exact AllReadyH.nil
                      exact AllReadyH.nil
                    exact AllReadyH.nil
                  exact AllReadyH.nil
                refine AllReadyH.cons (o := { dst := some 13, op := Op.alloc 24, type := 0, pos := "outright.go:98", after := #[], guard := none }) rfl (fun K hK => ?_) ?_
                · skip
                  go_simp
                  have bb : Below u1.heap.size u1 (u1.alloc (.cells #[.int .i64 0, .slice none 0 0] 24)) := (Below.refl _ _).alloc (Nat.le_refl _) _
                  have TK2 := Lib.hid (TK1.out.on bb)
                  have Z2 := Lib.hid (Zer.new (EC.out.on TK1.out.below))
                  have HBX : Hid (B ≠ u1.heap.size) := Nat.ne_of_lt (Nat.lt_of_lt_of_le MC.out.lt TK1.out.below.size)
                  have HD : Hid (∀ kk, (Value.slice A4 g.n c4).ownBlock = some kk → kk ≠ u1.heap.size) := fun kk hk => Nat.ne_of_lt (TK1.out.own.lt kk hk).2
                  clear hHeld bb TK1
                  refine hK.out _ _ ⟨(HE.out _ (EC.out.below.trans (TK2.out.below.mono EC.out.below.size))).c0 (.head _), (HE.out _ (EC.out.below.trans (TK2.out.below.mono EC.out.below.size))).c1 (.head _)⟩ (fun hHeld => ?_)
                  clear hK K
                  try simp only [Act.put, List.setIfInBounds_toArray, List.set_cons_zero, List.set_cons_succ]
                  generalize u1.alloc (.cells #[.int .i64 0, .slice none 0 0] 24) = u2 at *
                  generalize u1.heap.size = XB at *
                  refine wpAnyH_ready (rs := [8]) (by kernel_rfl) (by simp) ?_
                  refine AllReadyH.cons (o := { dst := some 88, op := Op.buildSlice 22 1 #[(0, Operand.tmp 87)], type := 22, pos := "outright.go:98", after := #[{ on := 7, ground := Ground.data }], guard := none }) rfl (fun K hK => ?_) ?_
                  · skip
                    go_simp
                    have bb : Below u2.heap.size u2 (u2.alloc (.cells #[.int .i64 (x : Int), .int .i64 (y : Int), .int .i64 0] 34)) := (Below.refl _ _).alloc (Nat.le_refl _) _
                    have TK3 := Lib.hid (TK2.out.on bb)
                    have Z3 := Lib.hid (Z2.out.on bb)
                    have SL3 : Hid (Reads (u2.alloc (.cells #[.int .i64 (x : Int), .int .i64 (y : Int), .int .i64 0] 34)) _ 3 (some ⟨u2.heap.size, 0, none⟩) 1 (cellsE [((x : Int), (y : Int), (0 : Int))])) := slice_new u2 ((x : Int), (y : Int), (0 : Int))
                    clear hHeld bb TK2 Z2
                    refine hK.out _ _ ⟨(HE.out _ (EC.out.below.trans (TK3.out.below.mono EC.out.below.size))).c0 (.head _), (HE.out _ (EC.out.below.trans (TK3.out.below.mono EC.out.below.size))).c1 (.head _)⟩ (fun hHeld => ?_)
                    clear hK K
                    try simp only [Act.put, List.setIfInBounds_toArray, List.set_cons_zero, List.set_cons_succ]
                    generalize u2.alloc (.cells #[.int .i64 (x : Int), .int .i64 (y : Int), .int .i64 0] 34) = u3 at *
                    generalize u2.heap.size = XS at *
                    refine wpAnyH_ready (rs := [9]) (by kernel_rfl) (by simp) ?_
                    refine AllReadyH.cons (o := { dst := some 89, op := Op.call { callee := Callee.builtin Builtin.append, args := #[Operand.tmp 84, Operand.tmp 88], argTypes := #[22, 22] }, type := 22, pos := "outright.go:98", after := #[{ on := 4, ground := Ground.data }, { on := 8, ground := Ground.data }, { on := 4, ground := Ground.chain }], guard := none }) rfl (fun K hK => ?_) ?_
                    · skip
                      obtain ⟨i0, hi0, hz0, hz1, hz2⟩ := info_parts pair_info
                      refine step_append_any _ rfl (.tmp 84) (.tmp 88) 22 rfl wd.heap.size 34 i0 _ 3 24 Try.underlying22 hi0 hz0 hz1 hz2 rfl (by decide) (.slice A4 g.n c4) g.n _ rfl TK3.out.own _ (some ⟨XS, 0, none⟩) 1 _ (cellsE [((x : Int), (y : Int), (0 : Int))]) rfl SL3.out (cellsE_one _) (by unfold maxLen; omega) (by omega) TK3.out.below.size ?_
                      intro v5 u4 hown5 hgrow5 _
                      obtain ⟨A5, c5, rfl, h51, h52⟩ := own_form2 hown5
                      rw [← cellsE_append] at hown5
                      have bC : Below wd.heap.size wd u4 := TK3.out.below.grown hgrow5 TK3.out.below.size (fun kk hk => (TK3.out.own.lt kk hk).1)
                      have E4 := Lib.hid (EC.out.on bC)
                      have M4 := Lib.hid (MC.out.kept (below_only bC none) (by simp))
                      have R4 := Lib.hid (reads_own hown5)
                      have Z4 : Hid (Zer w5 [] XB u4) := ⟨Z3.out.1.grown hgrow5 (fun e => HD.out _ (by first | exact e | exact e.symm) rfl), Z3.out.2⟩
                      clear hown5 hgrow5 bC h51 h52 hHeld TK3 SL3 EC MC hi0 hz0 hz1 hz2 Z3 HD
                      refine hK.out _ _ ⟨(HE.out _ E4.out.below).c0 (.head _), (HE.out _ E4.out.below).c1 (.head _)⟩ (fun hHeld => ?_)
                      clear hK K
                      try simp only [Act.put, List.setIfInBounds_toArray, List.set_cons_zero, List.set_cons_succ]
                      refine wpAnyH_ready (rs := [10]) (by kernel_rfl) (by simp) ?_
                      refine AllReadyH.cons (o := { dst := some 90, op := Op.call { callee := Callee.value (Operand.func 26), args := #[Operand.tmp 81, Operand.tmp 89], argTypes := #[3, 22] }, type := 28, pos := "outright.go:98", after := #[{ on := 1, ground := Ground.data }, { on := 9, ground := Ground.data }, { on := 9, ground := Ground.chain }], guard := none }) rfl (fun K hK => ?_) ?_
                      · skip
                        go_simp
                        refine (HOFT.out A5 c5 _ R4.out).mono ?_
                        rintro e u5 hx
                        obtain ⟨T, rfl, hz, he, okT, bb⟩ := gerr_gv hx
                        have E5 := Lib.hid (E4.out.on bb)
                        have M5 := Lib.hid (M4.out.kept (below_only bb none) (by simp))
                        have Z5 := Lib.hid (Z4.out.on bb)
                        have O5 := Lib.hid okT
                        have HT := Lib.hid (And.intro hz he)
                        clear hx hz he okT bb hHeld R4 E4 M4 Z4
                        refine hK.out _ _ ⟨(HE.out _ E5.out.below).c0 (.head _), (HE.out _ E5.out.below).c1 (.head _)⟩ (fun hHeld => ?_)
                        clear hK K
                        try simp only [Act.put, List.setIfInBounds_toArray, List.set_cons_zero, List.set_cons_succ]
                        refine wpAnyH_take (i := 11) (oi := { dst := some 79, op := Op.move (Operand.tmp 90), type := 28, pos := "outright.go:98", after := #[{ on := 10, ground := Ground.data }], guard := none }) (v := .tuple #[.agg #[.int .i64 T.z, .slice T.A T.n T.c], .int .i64 0]) rfl (by kernel_rfl) (by kernel_rfl) (by kernel_rfl) (fun _ _ _ h => h) (Or.inl ⟨by kernel_rfl, fun w' hSw => by (try dsimp only at hSw); go_simp⟩) (by assumption) ?_
                        try simp only [Act.put, List.setIfInBounds_toArray, List.set_cons_zero, List.set_cons_succ]
                        refine wpAnyH_take (i := 12) (oi := { dst := some 91, op := Op.extract (Operand.tmp 79) 0, type := 24, pos := "outright.go:98", after := #[{ on := 11, ground := Ground.data }], guard := none }) (v := .agg #[.int .i64 T.z, .slice T.A T.n T.c]) rfl (by kernel_rfl) (by kernel_rfl) (by kernel_rfl) (fun _ _ _ h => h) (Or.inl ⟨by kernel_rfl, fun w' hSw => by (try dsimp only at hSw); go_simp⟩) (by assumption) ?_
                        try simp only [Act.put, List.setIfInBounds_toArray, List.set_cons_zero, List.set_cons_succ]
                        refine wpAnyH_take (i := 13) (oi := { dst := some 92, op := Op.extract (Operand.tmp 79) 1, type := 27, pos := "outright.go:98", after := #[{ on := 11, ground := Ground.data }, { on := 15, ground := Ground.gcOnly Departure.lateStores }], guard := none }) (v := .int .i64 0) rfl (by kernel_rfl) (by kernel_rfl) (by kernel_rfl) (fun _ _ _ h => h) (Or.inl ⟨by kernel_rfl, fun w' hSw => by (try dsimp only at hSw); go_simp⟩) (by assumption) ?_
                        try simp only [Act.put, List.setIfInBounds_toArray, List.set_cons_zero, List.set_cons_succ]
                        refine wpAnyH_ready (rs := [15]) (by kernel_rfl) (by simp) ?_
                        refine AllReadyH.cons (o := { dst := none, op := Op.store 24 (Operand.tmp 13) (Operand.tmp 91), type := 0, pos := "outright.go:98", after := #[{ on := 14, ground := Ground.data }, { on := 12, ground := Ground.data }, { on := 10, ground := Ground.chain }, { on := 0, ground := Ground.phase }, { on := 1, ground := Ground.phase }, { on := 2, ground := Ground.phase }, { on := 3, ground := Ground.phase }, { on := 4, ground := Ground.phase }, { on := 5, ground := Ground.phase }, { on := 6, ground := Ground.phase }, { on := 7, ground := Ground.phase }, { on := 8, ground := Ground.phase }, { on := 9, ground := Ground.phase }, { on := 10, ground := Ground.phase }, { on := 11, ground := Ground.phase }, { on := 12, ground := Ground.phase }, { on := 13, ground := Ground.textOnly Departure.lateStores }, { on := 14, ground := Ground.phase }], guard := none }) rfl (fun K hK => ?_) ?_
                        · skip
                          have y0 := Z5.out.1.cell 0
                          have y1 := Z5.out.1.cell 1
                          have f0 := Z5.out.1.frozen 0
                          have f1 := Z5.out.1.frozen 1
                          go_simp
                          have E6 := Lib.hid (E5.out.put Z5.out O5.out)
                          have M6 := Lib.hid ((M5.out.setCell (a := ⟨XB, 0, none⟩) HBX.out (.int .i64 T.z)).setCell (a := ⟨XB, 1, none⟩) HBX.out (.slice T.A T.n T.c))
                          clear hHeld y0 y1 f0 f1 E5 M5 Z5 O5
                          refine hK.out _ _ ⟨(HE.out _ E6.out.below).c0 (.head _), (HE.out _ E6.out.below).c1 (.head _)⟩ (fun hHeld => ?_)
                          clear hK K
                          try simp only [Act.put, List.setIfInBounds_toArray, List.set_cons_zero, List.set_cons_succ]
                          generalize (u5.setCell ⟨XB, 0, none⟩ (.int .i64 T.z)).setCell ⟨XB, 1, none⟩ (.slice T.A T.n T.c) = u6 at *
                          refine wpAnyH_take (i := 16) (oi := { dst := some 14, op := Op.assign (Operand.tmp 92), type := 27, pos := "outright.go:98", after := #[{ on := 13, ground := Ground.data }, { on := 15, ground := Ground.chain }, { on := 0, ground := Ground.phase }, { on := 1, ground := Ground.phase }, { on := 2, ground := Ground.phase }, { on := 3, ground := Ground.phase }, { on := 4, ground := Ground.phase }, { on := 5, ground := Ground.phase }, { on := 6, ground := Ground.phase }, { on := 7, ground := Ground.phase }, { on := 8, ground := Ground.phase }, { on := 9, ground := Ground.phase }, { on := 10, ground := Ground.phase }, { on := 11, ground := Ground.phase }, { on := 12, ground := Ground.phase }, { on := 13, ground := Ground.phase }, { on := 14, ground := Ground.phase }, { on := 15, ground := Ground.phase }], guard := none }) (v := .int .i64 0) rfl (by kernel_rfl) (by kernel_rfl) (by kernel_rfl) (fun _ _ _ h => h) (Or.inl ⟨by kernel_rfl, fun w' hSw => by (try dsimp only at hSw); go_simp⟩) (by assumption) ?_
                          try simp only [Act.put, List.setIfInBounds_toArray, List.set_cons_zero, List.set_cons_succ]
                          refine wpAnyH_done (by kernel_rfl) ?_ _
                          refine NoPanic.normal ?_
                          clear hHeld
                          go_wp2_with fail
                          go_meet
                          exact ⟨T, XB, rfl, rfl, HT, E6, M6⟩
                        exact AllReadyH.nil
                      exact AllReadyH.nil
                    exact AllReadyH.nil
                  exact AllReadyH.nil
                exact AllReadyH.nil
              refine AllReadyH.cons (o := { dst := some 88, op := Op.buildSlice 22 1 #[(0, Operand.tmp 87)], type := 22, pos := "outright.go:98", after := #[{ on := 7, ground := Ground.data }], guard := none }) rfl (fun K hK => ?_) ?_
              · skip
                go_simp
                have bb : Below wd.heap.size wd (wd.alloc (.cells #[.int .i64 (x : Int), .int .i64 (y : Int), .int .i64 0] 34)) := (Below.refl _ _).alloc (Nat.le_refl _) _
                have E1 := Lib.hid (E0.out.on bb)
                have M1 := Lib.hid (M0.out.kept (below_only bb none) (by simp))
                have SL1 : Hid (Reads (wd.alloc (.cells #[.int .i64 (x : Int), .int .i64 (y : Int), .int .i64 0] 34)) _ 3 (some ⟨wd.heap.size, 0, none⟩) 1 (cellsE [((x : Int), (y : Int), (0 : Int))])) := slice_new wd ((x : Int), (y : Int), (0 : Int))
                clear hHeld bb E0 M0
                refine hK.out _ _ ⟨(HE.out _ E1.out.below).c0 (.head _), (HE.out _ E1.out.below).c1 (.head _)⟩ (fun hHeld => ?_)
                clear hK K
                try simp only [Act.put, List.setIfInBounds_toArray, List.set_cons_zero, List.set_cons_succ]
                generalize wd.alloc (.cells #[.int .i64 (x : Int), .int .i64 (y : Int), .int .i64 0] 34) = u1 at *
                generalize wd.heap.size = XS at *
                refine wpAnyH_ready (rs := [4, 14]) (by kernel_rfl) (by simp) ?_
                refine AllReadyH.cons (o := { dst := some 84, op := Op.call { callee := Callee.value (Operand.func 27), args := #[Operand.tmp 83], argTypes := #[22] }, type := 22, pos := "outright.go:98", after := #[{ on := 3, ground := Ground.data }], guard := none }) rfl (fun K hK => ?_) ?_
                · skip
                  go_simp
                  have okc := (HE.out _ E1.out.below).ok (.head _)
                  refine (clone_any g.A g.n g.c g.es (by omega) okc.2.2.2 okc.2.1 _ okc.1).mono ?_
                  rintro e u2 ⟨A4, c4, rfl, ho, h1, h2, bb⟩
                  have SL2 := Lib.hid (SL1.out.on bb)
                  have TK2 := Lib.hid (Taken.mk ho bb)
                  have EC := E1
                  have MC := M1
                  clear hHeld okc ho h1 h2 bb E1 M1 SL1
                  refine hK.out _ _ ⟨(HE.out _ (EC.out.below.trans (TK2.out.below.mono EC.out.below.size))).c0 (.head _), (HE.out _ (EC.out.below.trans (TK2.out.below.mono EC.out.below.size))).c1 (.head _)⟩ (fun hHeld => ?_)
                  clear hK K
                  try simp only [Act.put, List.setIfInBounds_toArray, List.set_cons_zero, List.set_cons_succ]
                  refine wpAnyH_ready (rs := [9, 14]) (by kernel_rfl) (by simp) ?_
                  refine AllReadyH.cons (o := { dst := some 89, op := Op.call { callee := Callee.builtin Builtin.append, args := #[Operand.tmp 84, Operand.tmp 88], argTypes := #[22, 22] }, type := 22, pos := "outright.go:98", after := #[{ on := 4, ground := Ground.data }, { on := 8, ground := Ground.data }, { on := 4, ground := Ground.chain }], guard := none }) rfl (fun K hK => ?_) ?_
                  · skip
                    obtain ⟨i0, hi0, hz0, hz1, hz2⟩ := info_parts pair_info
                    refine step_append_any _ rfl (.tmp 84) (.tmp 88) 22 rfl u1.heap.size 34 i0 _ 3 24 Try.underlying22 hi0 hz0 hz1 hz2 rfl (by decide) (.slice A4 g.n c4) g.n _ rfl TK2.out.own _ (some ⟨XS, 0, none⟩) 1 _ (cellsE [((x : Int), (y : Int), (0 : Int))]) rfl SL2.out (cellsE_one _) (by unfold maxLen; omega) (by omega) TK2.out.below.size ?_
                    intro v5 u3 hown5 hgrow5 _
                    obtain ⟨A5, c5, rfl, h51, h52⟩ := own_form2 hown5
                    rw [← cellsE_append] at hown5
                    have bC : Below u1.heap.size u1 u3 := TK2.out.below.grown hgrow5 TK2.out.below.size (fun kk hk => (TK2.out.own.lt kk hk).1)
                    have E3 := Lib.hid (EC.out.on bC)
                    have M3 := Lib.hid (MC.out.kept (below_only bC none) (by simp))
                    have R3 := Lib.hid (reads_own hown5)
                    clear hown5 hgrow5 bC h51 h52 hHeld TK2 SL2 EC MC hi0 hz0 hz1 hz2 
                    refine hK.out _ _ ⟨(HE.out _ E3.out.below).c0 (.head _), (HE.out _ E3.out.below).c1 (.head _)⟩ (fun hHeld => ?_)
                    clear hK K
                    try simp only [Act.put, List.setIfInBounds_toArray, List.set_cons_zero, List.set_cons_succ]
                    refine wpAnyH_ready (rs := [10, 14]) (by kernel_rfl) (by simp) ?_
                    refine AllReadyH.cons (o := { dst := some 90, op := Op.call { callee := Callee.value (Operand.func 26), args := #[Operand.tmp 81, Operand.tmp 89], argTypes := #[3, 22] }, type := 28, pos := "outright.go:98", after := #[{ on := 1, ground := Ground.data }, { on := 9, ground := Ground.data }, { on := 9, ground := Ground.chain }], guard := none }) rfl (fun K hK => ?_) ?_
                    · skip
                      go_simp
                      refine (HOFT.out A5 c5 _ R3.out).mono ?_
                      rintro e u4 hx
                      obtain ⟨T, rfl, hz, he, okT, bb⟩ := gerr_gv hx
                      have E4 := Lib.hid (E3.out.on bb)
                      have M4 := Lib.hid (M3.out.kept (below_only bb none) (by simp))
                      have O4 := Lib.hid okT
                      have HT := Lib.hid (And.intro hz he)
                      clear hx hz he okT bb hHeld R3 E3 M3
                      refine hK.out _ _ ⟨(HE.out _ E4.out.below).c0 (.head _), (HE.out _ E4.out.below).c1 (.head _)⟩ (fun hHeld => ?_)
                      clear hK K
                      try simp only [Act.put, List.setIfInBounds_toArray, List.set_cons_zero, List.set_cons_succ]
                      refine wpAnyH_take (i := 11) (oi := { dst := some 79, op := Op.move (Operand.tmp 90), type := 28, pos := "outright.go:98", after := #[{ on := 10, ground := Ground.data }], guard := none }) (v := .tuple #[.agg #[.int .i64 T.z, .slice T.A T.n T.c], .int .i64 0]) rfl (by kernel_rfl) (by kernel_rfl) (by kernel_rfl) (fun _ _ _ h => h) (Or.inl ⟨by kernel_rfl, fun w' hSw => by (try dsimp only at hSw); go_simp⟩) (by assumption) ?_
                      try simp only [Act.put, List.setIfInBounds_toArray, List.set_cons_zero, List.set_cons_succ]
                      refine wpAnyH_take (i := 12) (oi := { dst := some 91, op := Op.extract (Operand.tmp 79) 0, type := 24, pos := "outright.go:98", after := #[{ on := 11, ground := Ground.data }], guard := none }) (v := .agg #[.int .i64 T.z, .slice T.A T.n T.c]) rfl (by kernel_rfl) (by kernel_rfl) (by kernel_rfl) (fun _ _ _ h => h) (Or.inl ⟨by kernel_rfl, fun w' hSw => by (try dsimp only at hSw); go_simp⟩) (by assumption) ?_
                      try simp only [Act.put, List.setIfInBounds_toArray, List.set_cons_zero, List.set_cons_succ]
                      refine wpAnyH_take (i := 13) (oi := { dst := some 92, op := Op.extract (Operand.tmp 79) 1, type := 27, pos := "outright.go:98", after := #[{ on := 11, ground := Ground.data }, { on := 15, ground := Ground.gcOnly Departure.lateStores }], guard := none }) (v := .int .i64 0) rfl (by kernel_rfl) (by kernel_rfl) (by kernel_rfl) (fun _ _ _ h => h) (Or.inl ⟨by kernel_rfl, fun w' hSw => by (try dsimp only at hSw); go_simp⟩) (by assumption) ?_
                      try simp only [Act.put, List.setIfInBounds_toArray, List.set_cons_zero, List.set_cons_succ]
                      refine wpAnyH_ready (rs := [14]) (by kernel_rfl) (by simp) ?_
                      refine AllReadyH.cons (o := { dst := some 13, op := Op.alloc 24, type := 0, pos := "outright.go:98", after := #[], guard := none }) rfl (fun K hK => ?_) ?_
                      · skip
                        go_simp
                        have bb : Below u4.heap.size u4 (u4.alloc (.cells #[.int .i64 0, .slice none 0 0] 24)) := (Below.refl _ _).alloc (Nat.le_refl _) _
                        have E5 := Lib.hid (E4.out.on bb)
                        have M5 := Lib.hid (M4.out.kept (below_only bb none) (by simp))
                        have O5 := Lib.hid (O4.out.on bb)
                        have Z5 := Lib.hid (Zer.new E4.out)
                        have HBX : Hid (B ≠ u4.heap.size) := Nat.ne_of_lt M4.out.lt
                        clear hHeld bb E4 M4 O4
                        refine hK.out _ _ ⟨(HE.out _ E5.out.below).c0 (.head _), (HE.out _ E5.out.below).c1 (.head _)⟩ (fun hHeld => ?_)
                        clear hK K
                        try simp only [Act.put, List.setIfInBounds_toArray, List.set_cons_zero, List.set_cons_succ]
                        generalize u4.alloc (.cells #[.int .i64 0, .slice none 0 0] 24) = u5 at *
                        generalize u4.heap.size = XB at *
                        refine wpAnyH_ready (rs := [15]) (by kernel_rfl) (by simp) ?_
                        refine AllReadyH.cons (o := { dst := none, op := Op.store 24 (Operand.tmp 13) (Operand.tmp 91), type := 0, pos := "outright.go:98", after := #[{ on := 14, ground := Ground.data }, { on := 12, ground := Ground.data }, { on := 10, ground := Ground.chain }, { on := 0, ground := Ground.phase }, { on := 1, ground := Ground.phase }, { on := 2, ground := Ground.phase }, { on := 3, ground := Ground.phase }, { on := 4, ground := Ground.phase }, { on := 5, ground := Ground.phase }, { on := 6, ground := Ground.phase }, { on := 7, ground := Ground.phase }, { on := 8, ground := Ground.phase }, { on := 9, ground := Ground.phase }, { on := 10, ground := Ground.phase }, { on := 11, ground := Ground.phase }, { on := 12, ground := Ground.phase }, { on := 13, ground := Ground.textOnly Departure.lateStores }, { on := 14, ground := Ground.phase }], guard := none }) rfl (fun K hK => ?_) ?_
                        · skip
                          have y0 := Z5.out.1.cell 0
                          have y1 := Z5.out.1.cell 1
                          have f0 := Z5.out.1.frozen 0
                          have f1 := Z5.out.1.frozen 1
                          go_simp
                          have E6 := Lib.hid (E5.out.put Z5.out O5.out)
                          have M6 := Lib.hid ((M5.out.setCell (a := ⟨XB, 0, none⟩) HBX.out (.int .i64 T.z)).setCell (a := ⟨XB, 1, none⟩) HBX.out (.slice T.A T.n T.c))
                          clear hHeld y0 y1 f0 f1 E5 M5 Z5 O5
                          refine hK.out _ _ ⟨(HE.out _ E6.out.below).c0 (.head _), (HE.out _ E6.out.below).c1 (.head _)⟩ (fun hHeld => ?_)
                          clear hK K
                          try simp only [Act.put, List.setIfInBounds_toArray, List.set_cons_zero, List.set_cons_succ]
                          generalize (u5.setCell ⟨XB, 0, none⟩ (.int .i64 T.z)).setCell ⟨XB, 1, none⟩ (.slice T.A T.n T.c) = u6 at *
                          refine wpAnyH_take (i := 16) (oi := { dst := some 14, op := Op.assign (Operand.tmp 92), type := 27, pos := "outright.go:98", after := #[{ on := 13, ground := Ground.data }, { on := 15, ground := Ground.chain }, { on := 0, ground := Ground.phase }, { on := 1, ground := Ground.phase }, { on := 2, ground := Ground.phase }, { on := 3, ground := Ground.phase }, { on := 4, ground := Ground.phase }, { on := 5, ground := Ground.phase }, { on := 6, ground := Ground.phase }, { on := 7, ground := Ground.phase }, { on := 8, ground := Ground.phase }, { on := 9, ground := Ground.phase }, { on := 10, ground := Ground.phase }, { on := 11, ground := Ground.phase }, { on := 12, ground := Ground.phase }, { on := 13, ground := Ground.phase }, { on := 14, ground := Ground.phase }, { on := 15, ground := Ground.phase }], guard := none }) (v := .int .i64 0) rfl (by kernel_rfl) (by kernel_rfl) (by kernel_rfl) (fun _ _ _ h => h) (Or.inl ⟨by kernel_rfl, fun w' hSw => by (try dsimp only at hSw); go_simp⟩) (by assumption) ?_
                          try simp only [Act.put, List.setIfInBounds_toArray, List.set_cons_zero, List.set_cons_succ]
                          refine wpAnyH_done (by kernel_rfl) ?_ _
                          refine NoPanic.normal ?_
                          clear hHeld
                          go_wp2_with fail
                          go_meet
                          exact ⟨T, XB, rfl, rfl, HT, E6, M6⟩
                        exact AllReadyH.nil
                      exact AllReadyH.nil
                    refine AllReadyH.cons (o := { dst := some 13, op := Op.alloc 24, type := 0, pos := "outright.go:98", after := #[], guard := none }) rfl (fun K hK => ?_) ?_
                    · skip
                      go_simp
                      have bb : Below u3.heap.size u3 (u3.alloc (.cells #[.int .i64 0, .slice none 0 0] 24)) := (Below.refl _ _).alloc (Nat.le_refl _) _
                      have E4 := Lib.hid (E3.out.on bb)
                      have M4 := Lib.hid (M3.out.kept (below_only bb none) (by simp))
                      have R4 := Lib.hid (R3.out.on bb)
                      have Z4 := Lib.hid (Zer.new E3.out)
                      have HBX : Hid (B ≠ u3.heap.size) := Nat.ne_of_lt M3.out.lt
                      clear hHeld bb E3 M3 R3
                      refine hK.out _ _ ⟨(HE.out _ E4.out.below).c0 (.head _), (HE.out _ E4.out.below).c1 (.head _)⟩ (fun hHeld => ?_)
                      clear hK K
                      try simp only [Act.put, List.setIfInBounds_toArray, List.set_cons_zero, List.set_cons_succ]
                      generalize u3.alloc (.cells #[.int .i64 0, .slice none 0 0] 24) = u4 at *
                      generalize u3.heap.size = XB at *
                      refine wpAnyH_ready (rs := [10]) (by kernel_rfl) (by simp) ?_
                      refine AllReadyH.cons (o := { dst := some 90, op := Op.call { callee := Callee.value (Operand.func 26), args := #[Operand.tmp 81, Operand.tmp 89], argTypes := #[3, 22] }, type := 28, pos := "outright.go:98", after := #[{ on := 1, ground := Ground.data }, { on := 9, ground := Ground.data }, { on := 9, ground := Ground.chain }], guard := none }) rfl (fun K hK => ?_) ?_
                      · skip
                        go_simp
                        refine (HOFT.out A5 c5 _ R4.out).mono ?_
                        rintro e u5 hx
                        obtain ⟨T, rfl, hz, he, okT, bb⟩ := gerr_gv hx
                        have E5 := Lib.hid (E4.out.on bb)
                        have M5 := Lib.hid (M4.out.kept (below_only bb none) (by simp))
                        have Z5 := Lib.hid (Z4.out.on bb)
                        have O5 := Lib.hid okT
                        have HT := Lib.hid (And.intro hz he)
                        clear hx hz he okT bb hHeld R4 E4 M4 Z4
                        refine hK.out _ _ ⟨(HE.out _ E5.out.below).c0 (.head _), (HE.out _ E5.out.below).c1 (.head _)⟩ (fun hHeld => ?_)
                        clear hK K
                        try simp only [Act.put, List.setIfInBounds_toArray, List.set_cons_zero, List.set_cons_succ]
                        refine wpAnyH_take (i := 11) (oi := { dst := some 79, op := Op.move (Operand.tmp 90), type := 28, pos := "outright.go:98", after := #[{ on := 10, ground := Ground.data }], guard := none }) (v := .tuple #[.agg #[.int .i64 T.z, .slice T.A T.n T.c], .int .i64 0]) rfl (by kernel_rfl) (by kernel_rfl) (by kernel_rfl) (fun _ _ _ h => h) (Or.inl ⟨by kernel_rfl, fun w' hSw => by (try dsimp only at hSw); go_simp⟩) (by assumption) ?_
                        try simp only [Act.put, List.setIfInBounds_toArray, List.set_cons_zero, List.set_cons_succ]
                        refine wpAnyH_take (i := 12) (oi := { dst := some 91, op := Op.extract (Operand.tmp 79) 0, type := 24, pos := "outright.go:98", after := #[{ on := 11, ground := Ground.data }], guard := none }) (v := .agg #[.int .i64 T.z, .slice T.A T.n T.c]) rfl (by kernel_rfl) (by kernel_rfl) (by kernel_rfl) (fun _ _ _ h => h) (Or.inl ⟨by kernel_rfl, fun w' hSw => by (try dsimp only at hSw); go_simp⟩) (by assumption) ?_
                        try simp only [Act.put, List.setIfInBounds_toArray, List.set_cons_zero, List.set_cons_succ]
                        refine wpAnyH_take (i := 13) (oi := { dst := some 92, op := Op.extract (Operand.tmp 79) 1, type := 27, pos := "outright.go:98", after := #[{ on := 11, ground := Ground.data }, { on := 15, ground := Ground.gcOnly Departure.lateStores }], guard := none }) (v := .int .i64 0) rfl (by kernel_rfl) (by kernel_rfl) (by kernel_rfl) (fun _ _ _ h => h) (Or.inl ⟨by kernel_rfl, fun w' hSw => by (try dsimp only at hSw); go_simp⟩) (by assumption) ?_
                        try simp only [Act.put, List.setIfInBounds_toArray, List.set_cons_zero, List.set_cons_succ]
                        refine wpAnyH_ready (rs := [15]) (by kernel_rfl) (by simp) ?_
                        refine AllReadyH.cons (o := { dst := none, op := Op.store 24 (Operand.tmp 13) (Operand.tmp 91), type := 0, pos := "outright.go:98", after := #[{ on := 14, ground := Ground.data }, { on := 12, ground := Ground.data }, { on := 10, ground := Ground.chain }, { on := 0, ground := Ground.phase }, { on := 1, ground := Ground.phase }, { on := 2, ground := Ground.phase }, { on := 3, ground := Ground.phase }, { on := 4, ground := Ground.phase }, { on := 5, ground := Ground.phase }, { on := 6, ground := Ground.phase }, { on := 7, ground := Ground.phase }, { on := 8, ground := Ground.phase }, { on := 9, ground := Ground.phase }, { on := 10, ground := Ground.phase }, { on := 11, ground := Ground.phase }, { on := 12, ground := Ground.phase }, { on := 13, ground := Ground.textOnly Departure.lateStores }, { on := 14, ground := Ground.phase }], guard := none }) rfl (fun K hK => ?_) ?_
                        · skip
                          have y0 := Z5.out.1.cell 0
                          have y1 := Z5.out.1.cell 1
                          have f0 := Z5.out.1.frozen 0
                          have f1 := Z5.out.1.frozen 1
                          go_simp
                          have E6 := Lib.hid (E5.out.put Z5.out O5.out)
                          have M6 := Lib.hid ((M5.out.setCell (a := ⟨XB, 0, none⟩) HBX.out (.int .i64 T.z)).setCell (a := ⟨XB, 1, none⟩) HBX.out (.slice T.A T.n T.c))
                          clear hHeld y0 y1 f0 f1 E5 M5 Z5 O5
                          refine hK.out _ _ ⟨(HE.out _ E6.out.below).c0 (.head _), (HE.out _ E6.out.below).c1 (.head _)⟩ (fun hHeld => ?_)
                          clear hK K
                          try simp only [Act.put, List.setIfInBounds_toArray, List.set_cons_zero, List.set_cons_succ]
                          generalize (u5.setCell ⟨XB, 0, none⟩ (.int .i64 T.z)).setCell ⟨XB, 1, none⟩ (.slice T.A T.n T.c) = u6 at *
                          refine wpAnyH_take (i := 16) (oi := { dst := some 14, op := Op.assign (Operand.tmp 92), type := 27, pos := "outright.go:98", after := #[{ on := 13, ground := Ground.data }, { on := 15, ground := Ground.chain }, { on := 0, ground := Ground.phase }, { on := 1, ground := Ground.phase }, { on := 2, ground := Ground.phase }, { on := 3, ground := Ground.phase }, { on := 4, ground := Ground.phase }, { on := 5, ground := Ground.phase }, { on := 6, ground := Ground.phase }, { on := 7, ground := Ground.phase }, { on := 8, ground := Ground.phase }, { on := 9, ground := Ground.phase }, { on := 10, ground := Ground.phase }, { on := 11, ground := Ground.phase }, { on := 12, ground := Ground.phase }, { on := 13, ground := Ground.phase }, { on := 14, ground := Ground.phase }, { on := 15, ground := Ground.phase }], guard := none }) (v := .int .i64 0) rfl (by kernel_rfl) (by kernel_rfl) (by kernel_rfl) (fun _ _ _ h => h) (Or.inl ⟨by kernel_rfl, fun w' hSw => by (try dsimp only at hSw); go_simp⟩) (by assumption) ?_
                          try simp only [Act.put, List.setIfInBounds_toArray, List.set_cons_zero, List.set_cons_succ]
                          refine wpAnyH_done (by kernel_rfl) ?_ _
                          refine NoPanic.normal ?_
                          clear hHeld
                          go_wp2_with fail
                          go_meet
                          exact ⟨T, XB, rfl, rfl, HT, E6, M6⟩
                        exact AllReadyH.nil
                      exact AllReadyH.nil
                    exact AllReadyH.nil
                  refine AllReadyH.cons (o := { dst := some 13, op := Op.alloc 24, type := 0, pos := "outright.go:98", after := #[], guard := none }) rfl (fun K hK => ?_) ?_
                  · skip
                    go_simp
                    have bb : Below u2.heap.size u2 (u2.alloc (.cells #[.int .i64 0, .slice none 0 0] 24)) := (Below.refl _ _).alloc (Nat.le_refl _) _
                    have TK3 := Lib.hid (TK2.out.on bb)
                    have SL3 := Lib.hid (SL2.out.on bb)
                    have Z3 := Lib.hid (Zer.new (EC.out.on TK2.out.below))
                    have HBX : Hid (B ≠ u2.heap.size) := Nat.ne_of_lt (Nat.lt_of_lt_of_le MC.out.lt TK2.out.below.size)
                    have HD : Hid (∀ kk, (Value.slice A4 g.n c4).ownBlock = some kk → kk ≠ u2.heap.size) := fun kk hk => Nat.ne_of_lt (TK2.out.own.lt kk hk).2
                    clear hHeld bb TK2 SL2
                    refine hK.out _ _ ⟨(HE.out _ (EC.out.below.trans (TK3.out.below.mono EC.out.below.size))).c0 (.head _), (HE.out _ (EC.out.below.trans (TK3.out.below.mono EC.out.below.size))).c1 (.head _)⟩ (fun hHeld => ?_)
                    clear hK K
                    try simp only [Act.put, List.setIfInBounds_toArray, List.set_cons_zero, List.set_cons_succ]
                    generalize u2.alloc (.cells #[.int .i64 0, .slice none 0 0] 24) = u3 at *
                    generalize u2.heap.size = XB at *
                    refine wpAnyH_ready (rs := [9]) (by kernel_rfl) (by simp) ?_
                    refine AllReadyH.cons (o := { dst := some 89, op := Op.call { callee := Callee.builtin Builtin.append, args := #[Operand.tmp 84, Operand.tmp 88], argTypes := #[22, 22] }, type := 22, pos := "outright.go:98", after := #[{ on := 4, ground := Ground.data }, { on := 8, ground := Ground.data }, { on := 4, ground := Ground.chain }], guard := none }) rfl (fun K hK => ?_) ?_
                    · skip
                      obtain ⟨i0, hi0, hz0, hz1, hz2⟩ := info_parts pair_info
                      refine step_append_any _ rfl (.tmp 84) (.tmp 88) 22 rfl u1.heap.size 34 i0 _ 3 24 Try.underlying22 hi0 hz0 hz1 hz2 rfl (by decide) (.slice A4 g.n c4) g.n _ rfl TK3.out.own _ (some ⟨XS, 0, none⟩) 1 _ (cellsE [((x : Int), (y : Int), (0 : Int))]) rfl SL3.out (cellsE_one _) (by unfold maxLen; omega) (by omega) TK3.out.below.size ?_
                      intro v5 u4 hown5 hgrow5 _
                      obtain ⟨A5, c5, rfl, h51, h52⟩ := own_form2 hown5
                      rw [← cellsE_append] at hown5
                      have bC : Below u1.heap.size u1 u4 := TK3.out.below.grown hgrow5 TK3.out.below.size (fun kk hk => (TK3.out.own.lt kk hk).1)
                      have E4 := Lib.hid (EC.out.on bC)
                      have M4 := Lib.hid (MC.out.kept (below_only bC none) (by simp))
                      have R4 := Lib.hid (reads_own hown5)
                      have Z4 : Hid (Zer w5 [] XB u4) := ⟨Z3.out.1.grown hgrow5 (fun e => HD.out _ (by first | exact e | exact e.symm) rfl), Z3.out.2⟩
                      clear hown5 hgrow5 bC h51 h52 hHeld TK3 SL3 EC MC hi0 hz0 hz1 hz2 Z3 HD
                      refine hK.out _ _ ⟨(HE.out _ E4.out.below).c0 (.head _), (HE.out _ E4.out.below).c1 (.head _)⟩ (fun hHeld => ?_)
                      clear hK K
                      try simp only [Act.put, List.setIfInBounds_toArray, List.set_cons_zero, List.set_cons_succ]
                      refine wpAnyH_ready (rs := [10]) (by kernel_rfl) (by simp) ?_
                      refine AllReadyH.cons (o := { dst := some 90, op := Op.call { callee := Callee.value (Operand.func 26), args := #[Operand.tmp 81, Operand.tmp 89], argTypes := #[3, 22] }, type := 28, pos := "outright.go:98", after := #[{ on := 1, ground := Ground.data }, { on := 9, ground := Ground.data }, { on := 9, ground := Ground.chain }], guard := none }) rfl (fun K hK => ?_) ?_
                      · skip
                        go_simp
                        refine (HOFT.out A5 c5 _ R4.out).mono ?_
                        rintro e u5 hx
                        obtain ⟨T, rfl, hz, he, okT, bb⟩ := gerr_gv hx
                        have E5 := Lib.hid (E4.out.on bb)
                        have M5 := Lib.hid (M4.out.kept (below_only bb none) (by simp))
                        have Z5 := Lib.hid (Z4.out.on bb)
                        have O5 := Lib.hid okT
                        have HT := Lib.hid (And.intro hz he)
                        clear hx hz he okT bb hHeld R4 E4 M4 Z4
                        refine hK.out _ _ ⟨(HE.out _ E5.out.below).c0 (.head _), (HE.out _ E5.out.below).c1 (.head _)⟩ (fun hHeld => ?_)
                        clear hK K
                        try simp only [Act.put, List.setIfInBounds_toArray, List.set_cons_zero, List.set_cons_succ]
                        refine wpAnyH_take (i := 11) (oi := { dst := some 79, op := Op.move (Operand.tmp 90), type := 28, pos := "outright.go:98", after := #[{ on := 10, ground := Ground.data }], guard := none }) (v := .tuple #[.agg #[.int .i64 T.z, .slice T.A T.n T.c], .int .i64 0]) rfl (by kernel_rfl) (by kernel_rfl) (by kernel_rfl) (fun _ _ _ h => h) (Or.inl ⟨by kernel_rfl, fun w' hSw => by (try dsimp only at hSw); go_simp⟩) (by assumption) ?_
                        try simp only [Act.put, List.setIfInBounds_toArray, List.set_cons_zero, List.set_cons_succ]
                        refine wpAnyH_take (i := 12) (oi := { dst := some 91, op := Op.extract (Operand.tmp 79) 0, type := 24, pos := "outright.go:98", after := #[{ on := 11, ground := Ground.data }], guard := none }) (v := .agg #[.int .i64 T.z, .slice T.A T.n T.c]) rfl (by kernel_rfl) (by kernel_rfl) (by kernel_rfl) (fun _ _ _ h => h) (Or.inl ⟨by kernel_rfl, fun w' hSw => by (try dsimp only at hSw); go_simp⟩) (by assumption) ?_
                        try simp only [Act.put, List.setIfInBounds_toArray, List.set_cons_zero, List.set_cons_succ]
                        refine wpAnyH_take (i := 13) (oi := { dst := some 92, op := Op.extract (Operand.tmp 79) 1, type := 27, pos := "outright.go:98", after := #[{ on := 11, ground := Ground.data }, { on := 15, ground := Ground.gcOnly Departure.lateStores }], guard := none }) (v := .int .i64 0) rfl (by kernel_rfl) (by kernel_rfl) (by kernel_rfl) (fun _ _ _ h => h) (Or.inl ⟨by kernel_rfl, fun w' hSw => by (try dsimp only at hSw); go_simp⟩) (by assumption) ?_
                        try simp only [Act.put, List.setIfInBounds_toArray, List.set_cons_zero, List.set_cons_succ]
                        refine wpAnyH_ready (rs := [15]) (by kernel_rfl) (by simp) ?_
                        refine AllReadyH.cons (o := { dst := none, op := Op.store 24 (Operand.tmp 13) (Operand.tmp 91), type := 0, pos := "outright.go:98", after := #[{ on := 14, ground := Ground.data }, { on := 12, ground := Ground.data }, { on := 10, ground := Ground.chain }, { on := 0, ground := Ground.phase }, { on := 1, ground := Ground.phase }, { on := 2, ground := Ground.phase }, { on := 3, ground := Ground.phase }, { on := 4, ground := Ground.phase }, { on := 5, ground := Ground.phase }, { on := 6, ground := Ground.phase }, { on := 7, ground := Ground.phase }, { on := 8, ground := Ground.phase }, { on := 9, ground := Ground.phase }, { on := 10, ground := Ground.phase }, { on := 11, ground := Ground.phase }, { on := 12, ground := Ground.phase }, { on := 13, ground := Ground.textOnly Departure.lateStores }, { on := 14, ground := Ground.phase }], guard := none }) rfl (fun K hK => ?_) ?_
                        · skip
                          have y0 := Z5.out.1.cell 0
                          have y1 := Z5.out.1.cell 1
                          have f0 := Z5.out.1.frozen 0
                          have f1 := Z5.out.1.frozen 1
                          go_simp
                          have E6 := Lib.hid (E5.out.put Z5.out O5.out)
                          have M6 := Lib.hid ((M5.out.setCell (a := ⟨XB, 0, none⟩) HBX.out (.int .i64 T.z)).setCell (a := ⟨XB, 1, none⟩) HBX.out (.slice T.A T.n T.c))
                          clear hHeld y0 y1 f0 f1 E5 M5 Z5 O5
                          refine hK.out _ _ ⟨(HE.out _ E6.out.below).c0 (.head _), (HE.out _ E6.out.below).c1 (.head _)⟩ (fun hHeld => ?_)
                          clear hK K
                          try simp only [Act.put, List.setIfInBounds_toArray, List.set_cons_zero, List.set_cons_succ]
                          generalize (u5.setCell ⟨XB, 0, none⟩ (.int .i64 T.z)).setCell ⟨XB, 1, none⟩ (.slice T.A T.n T.c) = u6 at *
                          refine wpAnyH_take (i := 16) (oi := { dst := some 14, op := Op.assign (Operand.tmp 92), type := 27, pos := "outright.go:98", after := #[{ on := 13, ground := Ground.data }, { on := 15, ground := Ground.chain }, { on := 0, ground := Ground.phase }, { on := 1, ground := Ground.phase }, { on := 2, ground := Ground.phase }, { on := 3, ground := Ground.phase }, { on := 4, ground := Ground.phase }, { on := 5, ground := Ground.phase }, { on := 6, ground := Ground.phase }, { on := 7, ground := Ground.phase }, { on := 8, ground := Ground.phase }, { on := 9, ground := Ground.phase }, { on := 10, ground := Ground.phase }, { on := 11, ground := Ground.phase }, { on := 12, ground := Ground.phase }, { on := 13, ground := Ground.phase }, { on := 14, ground := Ground.phase }, { on := 15, ground := Ground.phase }], guard := none }) (v := .int .i64 0) rfl (by kernel_rfl) (by kernel_rfl) (by kernel_rfl) (fun _ _ _ h => h) (Or.inl ⟨by kernel_rfl, fun w' hSw => by (try dsimp only at hSw); go_simp⟩) (by assumption) ?_
                          try simp only [Act.put, List.setIfInBounds_toArray, List.set_cons_zero, List.set_cons_succ]
                          refine wpAnyH_done (by kernel_rfl) ?_ _
                          refine NoPanic.normal ?_
                          clear hHeld
                          go_wp2_with fail
                          go_meet
                          exact ⟨T, XB, rfl, rfl, HT, E6, M6⟩
                        exact AllReadyH.nil
                      exact AllReadyH.nil
                    exact AllReadyH.nil
                  exact AllReadyH.nil
                refine AllReadyH.cons (o := { dst := some 13, op := Op.alloc 24, type := 0, pos := "outright.go:98", after := #[], guard := none }) rfl (fun K hK => ?_) ?_
                · skip
                  go_simp
                  have bb : Below u1.heap.size u1 (u1.alloc (.cells #[.int .i64 0, .slice none 0 0] 24)) := (Below.refl _ _).alloc (Nat.le_refl _) _
                  have E2 := Lib.hid (E1.out.on bb)
                  have M2 := Lib.hid (M1.out.kept (below_only bb none) (by simp))
                  have SL2 := Lib.hid (SL1.out.on bb)
                  have Z2 := Lib.hid (Zer.new E1.out)
                  have HBX : Hid (B ≠ u1.heap.size) := Nat.ne_of_lt M1.out.lt
                  clear hHeld bb E1 M1 SL1
                  refine hK.out _ _ ⟨(HE.out _ E2.out.below).c0 (.head _), (HE.out _ E2.out.below).c1 (.head _)⟩ (fun hHeld => ?_)
                  clear hK K
                  try simp only [Act.put, List.setIfInBounds_toArray, List.set_cons_zero, List.set_cons_succ]
                  generalize u1.alloc (.cells #[.int .i64 0, .slice none 0 0] 24) = u2 at *
                  generalize u1.heap.size = XB at *
                  refine wpAnyH_ready (rs := [4]) (by kernel_rfl) (by simp) ?_
                  refine AllReadyH.cons (o := { dst := some 84, op := Op.call { callee := Callee.value (Operand.func 27), args := #[Operand.tmp 83], argTypes := #[22] }, type := 22, pos := "outright.go:98", after := #[{ on := 3, ground := Ground.data }], guard := none }) rfl (fun K hK => ?_) ?_
                  · skip
                    go_simp
                    have okc := (HE.out _ E2.out.below).ok (.head _)
                    refine (clone_any g.A g.n g.c g.es (by omega) okc.2.2.2 okc.2.1 _ okc.1).mono ?_
                    rintro e u3 ⟨A4, c4, rfl, ho, h1, h2, bb⟩
                    have SL3 := Lib.hid (SL2.out.on bb)
                    have Z3 := Lib.hid (Z2.out.on bb)
                    have TK3 := Lib.hid (Taken.mk ho bb)
                    have EC := E2
                    have MC := M2
                    have HD : Hid (∀ kk, (Value.slice A4 g.n c4).ownBlock = some kk → kk ≠ XB) := fun kk hk => Nat.ne_of_gt (Nat.lt_of_lt_of_le Z2.out.1.lt (ho.lt kk hk).1)
                    clear hHeld okc ho h1 h2 bb E2 M2 SL2 Z2
                    refine hK.out _ _ ⟨(HE.out _ (EC.out.below.trans (TK3.out.below.mono EC.out.below.size))).c0 (.head _), (HE.out _ (EC.out.below.trans (TK3.out.below.mono EC.out.below.size))).c1 (.head _)⟩ (fun hHeld => ?_)
                    clear hK K
                    try simp only [Act.put, List.setIfInBounds_toArray, List.set_cons_zero, List.set_cons_succ]
                    refine wpAnyH_ready (rs := [9]) (by kernel_rfl) (by simp) ?_
                    refine AllReadyH.cons (o := { dst := some 89, op := Op.call { callee := Callee.builtin Builtin.append, args := #[Operand.tmp 84, Operand.tmp 88], argTypes := #[22, 22] }, type := 22, pos := "outright.go:98", after := #[{ on := 4, ground := Ground.data }, { on := 8, ground := Ground.data }, { on := 4, ground := Ground.chain }], guard := none }) rfl (fun K hK => ?_) ?_
                    · skip
                      obtain ⟨i0, hi0, hz0, hz1, hz2⟩ := info_parts pair_info
                      refine step_append_any _ rfl (.tmp 84) (.tmp 88) 22 rfl u2.heap.size 34 i0 _ 3 24 Try.underlying22 hi0 hz0 hz1 hz2 rfl (by decide) (.slice A4 g.n c4) g.n _ rfl TK3.out.own _ (some ⟨XS, 0, none⟩) 1 _ (cellsE [((x : Int), (y : Int), (0 : Int))]) rfl SL3.out (cellsE_one _) (by unfold maxLen; omega) (by omega) TK3.out.below.size ?_
                      intro v5 u4 hown5 hgrow5 _
                      obtain ⟨A5, c5, rfl, h51, h52⟩ := own_form2 hown5
                      rw [← cellsE_append] at hown5
                      have bC : Below u2.heap.size u2 u4 := TK3.out.below.grown hgrow5 TK3.out.below.size (fun kk hk => (TK3.out.own.lt kk hk).1)
                      have E4 := Lib.hid (EC.out.on bC)
                      have M4 := Lib.hid (MC.out.kept (below_only bC none) (by simp))
                      have R4 := Lib.hid (reads_own hown5)
                      have Z4 : Hid (Zer w5 [] XB u4) := ⟨Z3.out.1.grown hgrow5 (fun e => HD.out _ (by first | exact e | exact e.symm) rfl), Z3.out.2⟩
                      clear hown5 hgrow5 bC h51 h52 hHeld TK3 SL3 EC MC hi0 hz0 hz1 hz2 Z3 HD
                      refine hK.out _ _ ⟨(HE.out _ E4.out.below).c0 (.head _), (HE.out _ E4.out.below).c1 (.head _)⟩ (fun hHeld => ?_)
                      clear hK K
                      try simp only [Act.put, List.setIfInBounds_toArray, List.set_cons_zero, List.set_cons_succ]
                      refine wpAnyH_ready (rs := [10]) (by kernel_rfl) (by simp) ?_
                      refine AllReadyH.cons (o := { dst := some 90, op := Op.call { callee := Callee.value (Operand.func 26), args := #[Operand.tmp 81, Operand.tmp 89], argTypes := #[3, 22] }, type := 28, pos := "outright.go:98", after := #[{ on := 1, ground := Ground.data }, { on := 9, ground := Ground.data }, { on := 9, ground := Ground.chain }], guard := none }) rfl (fun K hK => ?_) ?_
                      · skip
                        go_simp
                        refine (HOFT.out A5 c5 _ R4.out).mono ?_
                        rintro e u5 hx
                        obtain ⟨T, rfl, hz, he, okT, bb⟩ := gerr_gv hx
                        have E5 := Lib.hid (E4.out.on bb)
                        have M5 := Lib.hid (M4.out.kept (below_only bb none) (by simp))
                        have Z5 := Lib.hid (Z4.out.on bb)
                        have O5 := Lib.hid okT
                        have HT := Lib.hid (And.intro hz he)
                        clear hx hz he okT bb hHeld R4 E4 M4 Z4
                        refine hK.out _ _ ⟨(HE.out _ E5.out.below).c0 (.head _), (HE.out _ E5.out.below).c1 (.head _)⟩ (fun hHeld => ?_)
                        clear hK K
                        try simp only [Act.put, List.setIfInBounds_toArray, List.set_cons_zero, List.set_cons_succ]
                        refine wpAnyH_take (i := 11) (oi := { dst := some 79, op := Op.move (Operand.tmp 90), type := 28, pos := "outright.go:98", after := #[{ on := 10, ground := Ground.data }], guard := none }) (v := .tuple #[.agg #[.int .i64 T.z, .slice T.A T.n T.c], .int .i64 0]) rfl (by kernel_rfl) (by kernel_rfl) (by kernel_rfl) (fun _ _ _ h => h) (Or.inl ⟨by kernel_rfl, fun w' hSw => by (try dsimp only at hSw); go_simp⟩) (by assumption) ?_
                        try simp only [Act.put, List.setIfInBounds_toArray, List.set_cons_zero, List.set_cons_succ]
                        refine wpAnyH_take (i := 12) (oi := { dst := some 91, op := Op.extract (Operand.tmp 79) 0, type := 24, pos := "outright.go:98", after := #[{ on := 11, ground := Ground.data }], guard := none }) (v := .agg #[.int .i64 T.z, .slice T.A T.n T.c]) rfl (by kernel_rfl) (by kernel_rfl) (by kernel_rfl) (fun _ _ _ h => h) (Or.inl ⟨by kernel_rfl, fun w' hSw => by (try dsimp only at hSw); go_simp⟩) (by assumption) ?_
                        try simp only [Act.put, List.setIfInBounds_toArray, List.set_cons_zero, List.set_cons_succ]
                        refine wpAnyH_take (i := 13) (oi := { dst := some 92, op := Op.extract (Operand.tmp 79) 1, type := 27, pos := "outright.go:98", after := #[{ on := 11, ground := Ground.data }, { on := 15, ground := Ground.gcOnly Departure.lateStores }], guard := none }) (v := .int .i64 0) rfl (by kernel_rfl) (by kernel_rfl) (by kernel_rfl) (fun _ _ _ h => h) (Or.inl ⟨by kernel_rfl, fun w' hSw => by (try dsimp only at hSw); go_simp⟩) (by assumption) ?_
                        try simp only [Act.put, List.setIfInBounds_toArray, List.set_cons_zero, List.set_cons_succ]
                        refine wpAnyH_ready (rs := [15]) (by kernel_rfl) (by simp) ?_
                        refine AllReadyH.cons (o := { dst := none, op := Op.store 24 (Operand.tmp 13) (Operand.tmp 91), type := 0, pos := "outright.go:98", after := #[{ on := 14, ground := Ground.data }, { on := 12, ground := Ground.data }, { on := 10, ground := Ground.chain }, { on := 0, ground := Ground.phase }, { on := 1, ground := Ground.phase }, { on := 2, ground := Ground.phase }, { on := 3, ground := Ground.phase }, { on := 4, ground := Ground.phase }, { on := 5, ground := Ground.phase }, { on := 6, ground := Ground.phase }, { on := 7, ground := Ground.phase }, { on := 8, ground := Ground.phase }, { on := 9, ground := Ground.phase }, { on := 10, ground := Ground.phase }, { on := 11, ground := Ground.phase }, { on := 12, ground := Ground.phase }, { on := 13, ground := Ground.textOnly Departure.lateStores }, { on := 14, ground := Ground.phase }], guard := none }) rfl (fun K hK => ?_) ?_
                        · skip
                          have y0 := Z5.out.1.cell 0
                          have y1 := Z5.out.1.cell 1
                          have f0 := Z5.out.1.frozen 0
                          have f1 := Z5.out.1.frozen 1
                          go_simp
                          have E6 := Lib.hid (E5.out.put Z5.out O5.out)
                          have M6 := Lib.hid ((M5.out.setCell (a := ⟨XB, 0, none⟩) HBX.out (.int .i64 T.z)).setCell (a := ⟨XB, 1, none⟩) HBX.out (.slice T.A T.n T.c))
                          clear hHeld y0 y1 f0 f1 E5 M5 Z5 O5
                          refine hK.out _ _ ⟨(HE.out _ E6.out.below).c0 (.head _), (HE.out _ E6.out.below).c1 (.head _)⟩ (fun hHeld => ?_)
                          clear hK K
                          try simp only [Act.put, List.setIfInBounds_toArray, List.set_cons_zero, List.set_cons_succ]
                          generalize (u5.setCell ⟨XB, 0, none⟩ (.int .i64 T.z)).setCell ⟨XB, 1, none⟩ (.slice T.A T.n T.c) = u6 at *
                          refine wpAnyH_take (i := 16) (oi := { dst := some 14, op := Op.assign (Operand.tmp 92), type := 27, pos := "outright.go:98", after := #[{ on := 13, ground := Ground.data }, { on := 15, ground := Ground.chain }, { on := 0, ground := Ground.phase }, { on := 1, ground := Ground.phase }, { on := 2, ground := Ground.phase }, { on := 3, ground := Ground.phase }, { on := 4, ground := Ground.phase }, { on := 5, ground := Ground.phase }, { on := 6, ground := Ground.phase }, { on := 7, ground := Ground.phase }, { on := 8, ground := Ground.phase }, { on := 9, ground := Ground.phase }, { on := 10, ground := Ground.phase }, { on := 11, ground := Ground.phase }, { on := 12, ground := Ground.phase }, { on := 13, ground := Ground.phase }, { on := 14, ground := Ground.phase }, { on := 15, ground := Ground.phase }], guard := none }) (v := .int .i64 0) rfl (by kernel_rfl) (by kernel_rfl) (by kernel_rfl) (fun _ _ _ h => h) (Or.inl ⟨by kernel_rfl, fun w' hSw => by (try dsimp only at hSw); go_simp⟩) (by assumption) ?_
                          try simp only [Act.put, List.setIfInBounds_toArray, List.set_cons_zero, List.set_cons_succ]
                          refine wpAnyH_done (by kernel_rfl) ?_ _
                          refine NoPanic.normal ?_
                          clear hHeld
                          go_wp2_with fail
                          go_meet
                          exact ⟨T, XB, rfl, rfl, HT, E6, M6⟩
                        exact AllReadyH.nil
                      exact AllReadyH.nil
                    exact AllReadyH.nil
                  exact AllReadyH.nil
                exact AllReadyH.nil
              refine AllReadyH.cons (o := { dst := some 13, op := Op.alloc 24, type := 0, pos := "outright.go:98", after := #[], guard := none }) rfl (fun K hK => ?_) ?_
              · skip
                go_simp
                have bb : Below wd.heap.size wd (wd.alloc (.cells #[.int .i64 0, .slice none 0 0] 24)) := (Below.refl _ _).alloc (Nat.le_refl _) _
                have E1 := Lib.hid (E0.out.on bb)
                have M1 := Lib.hid (M0.out.kept (below_only bb none) (by simp))
                have Z1 := Lib.hid (Zer.new E0.out)
                have HBX : Hid (B ≠ wd.heap.size) := Nat.ne_of_lt M0.out.lt
                clear hHeld bb E0 M0
                refine hK.out _ _ ⟨(HE.out _ E1.out.below).c0 (.head _), (HE.out _ E1.out.below).c1 (.head _)⟩ (fun hHeld => ?_)
                clear hK K
                try simp only [Act.put, List.setIfInBounds_toArray, List.set_cons_zero, List.set_cons_succ]
                generalize wd.alloc (.cells #[.int .i64 0, .slice none 0 0] 24) = u1 at *
                generalize wd.heap.size = XB at *
                refine wpAnyH_ready (rs := [4, 8]) (by kernel_rfl) (by simp) ?_
                refine AllReadyH.cons (o := { dst := some 84, op := Op.call { callee := Callee.value (Operand.func 27), args := #[Operand.tmp 83], argTypes := #[22] }, type := 22, pos := "outright.go:98", after := #[{ on := 3, ground := Ground.data }], guard := none }) rfl (fun K hK => ?_) ?_
                · skip
                  go_simp
                  have okc := (HE.out _ E1.out.below).ok (.head _)
                  refine (clone_any g.A g.n g.c g.es (by omega) okc.2.2.2 okc.2.1 _ okc.1).mono ?_
                  rintro e u2 ⟨A4, c4, rfl, ho, h1, h2, bb⟩
                  have Z2 := Lib.hid (Z1.out.on bb)
                  have TK2 := Lib.hid (Taken.mk ho bb)
                  have EC := E1
                  have MC := M1
                  have HD : Hid (∀ kk, (Value.slice A4 g.n c4).ownBlock = some kk → kk ≠ XB) := fun kk hk => Nat.ne_of_gt (Nat.lt_of_lt_of_le Z1.out.1.lt (ho.lt kk hk).1)
                  clear hHeld okc ho h1 h2 bb E1 M1 Z1
                  refine hK.out _ _ ⟨(HE.out _ (EC.out.below.trans (TK2.out.below.mono EC.out.below.size))).c0 (.head _), (HE.out _ (EC.out.below.trans (TK2.out.below.mono EC.out.below.size))).c1 (.head _)⟩ (fun hHeld => ?_)
                  clear hK K
                  try simp only [Act.put, List.setIfInBounds_toArray, List.set_cons_zero, List.set_cons_succ]
                  refine wpAnyH_ready (rs := [8]) (by kernel_rfl) (by simp) ?_
                  refine AllReadyH.cons (o := { dst := some 88, op := Op.buildSlice 22 1 #[(0, Operand.tmp 87)], type := 22, pos := "outright.go:98", after := #[{ on := 7, ground := Ground.data }], guard := none }) rfl (fun K hK => ?_) ?_
                  · skip
                    go_simp
                    have bb : Below u2.heap.size u2 (u2.alloc (.cells #[.int .i64 (x : Int), .int .i64 (y : Int), .int .i64 0] 34)) := (Below.refl _ _).alloc (Nat.le_refl _) _
                    have TK3 := Lib.hid (TK2.out.on bb)
                    have Z3 := Lib.hid (Z2.out.on bb)
                    have SL3 : Hid (Reads (u2.alloc (.cells #[.int .i64 (x : Int), .int .i64 (y : Int), .int .i64 0] 34)) _ 3 (some ⟨u2.heap.size, 0, none⟩) 1 (cellsE [((x : Int), (y : Int), (0 : Int))])) := slice_new u2 ((x : Int), (y : Int), (0 : Int))
                    clear hHeld bb TK2 Z2
                    refine hK.out _ _ ⟨(HE.out _ (EC.out.below.trans (TK3.out.below.mono EC.out.below.size))).c0 (.head _), (HE.out _ (EC.out.below.trans (TK3.out.below.mono EC.out.below.size))).c1 (.head _)⟩ (fun hHeld => ?_)
                    clear hK K
                    try simp only [Act.put, List.setIfInBounds_toArray, List.set_cons_zero, List.set_cons_succ]
                    generalize u2.alloc (.cells #[.int .i64 (x : Int), .int .i64 (y : Int), .int .i64 0] 34) = u3 at *
                    generalize u2.heap.size = XS at *
                    refine wpAnyH_ready (rs := [9]) (by kernel_rfl) (by simp) ?_
                    refine AllReadyH.cons (o := { dst := some 89, op := Op.call { callee := Callee.builtin Builtin.append, args := #[Operand.tmp 84, Operand.tmp 88], argTypes := #[22, 22] }, type := 22, pos := "outright.go:98", after := #[{ on := 4, ground := Ground.data }, { on := 8, ground := Ground.data }, { on := 4, ground := Ground.chain }], guard := none }) rfl (fun K hK => ?_) ?_
                    · skip
                      obtain ⟨i0, hi0, hz0, hz1, hz2⟩ := info_parts pair_info
                      refine step_append_any _ rfl (.tmp 84) (.tmp 88) 22 rfl u1.heap.size 34 i0 _ 3 24 Try.underlying22 hi0 hz0 hz1 hz2 rfl (by decide) (.slice A4 g.n c4) g.n _ rfl TK3.out.own _ (some ⟨XS, 0, none⟩) 1 _ (cellsE [((x : Int), (y : Int), (0 : Int))]) rfl SL3.out (cellsE_one _) (by unfold maxLen; omega) (by omega) TK3.out.below.size ?_
                      intro v5 u4 hown5 hgrow5 _
                      obtain ⟨A5, c5, rfl, h51, h52⟩ := own_form2 hown5
                      rw [← cellsE_append] at hown5
                      have bC : Below u1.heap.size u1 u4 := TK3.out.below.grown hgrow5 TK3.out.below.size (fun kk hk => (TK3.out.own.lt kk hk).1)
                      have E4 := Lib.hid (EC.out.on bC)
                      have M4 := Lib.hid (MC.out.kept (below_only bC none) (by simp))
                      have R4 := Lib.hid (reads_own hown5)
                      have Z4 : Hid (Zer w5 [] XB u4) := ⟨Z3.out.1.grown hgrow5 (fun e => HD.out _ (by first | exact e | exact e.symm) rfl), Z3.out.2⟩
                      clear hown5 hgrow5 bC h51 h52 hHeld TK3 SL3 EC MC hi0 hz0 hz1 hz2 Z3 HD
                      refine hK.out _ _ ⟨(HE.out _ E4.out.below).c0 (.head _), (HE.out _ E4.out.below).c1 (.head _)⟩ (fun hHeld => ?_)
                      clear hK K
                      try simp only [Act.put, List.setIfInBounds_toArray, List.set_cons_zero, List.set_cons_succ]
                      refine wpAnyH_ready (rs := [10]) (by kernel_rfl) (by simp) ?_
                      refine AllReadyH.cons (o := { dst := some 90, op := Op.call { callee := Callee.value (Operand.func 26), args := #[Operand.tmp 81, Operand.tmp 89], argTypes := #[3, 22] }, type := 28, pos := "outright.go:98", after := #[{ on := 1, ground := Ground.data }, { on := 9, ground := Ground.data }, { on := 9, ground := Ground.chain }], guard := none }) rfl (fun K hK => ?_) ?_
                      · skip
                        go_simp
                        refine (HOFT.out A5 c5 _ R4.out).mono ?_
                        rintro e u5 hx
                        obtain ⟨T, rfl, hz, he, okT, bb⟩ := gerr_gv hx
                        have E5 := Lib.hid (E4.out.on bb)
                        have M5 := Lib.hid (M4.out.kept (below_only bb none) (by simp))
                        have Z5 := Lib.hid (Z4.out.on bb)
                        have O5 := Lib.hid okT
                        have HT := Lib.hid (And.intro hz he)
                        clear hx hz he okT bb hHeld R4 E4 M4 Z4
                        refine hK.out _ _ ⟨(HE.out _ E5.out.below).c0 (.head _), (HE.out _ E5.out.below).c1 (.head _)⟩ (fun hHeld => ?_)
                        clear hK K
                        try simp only [Act.put, List.setIfInBounds_toArray, List.set_cons_zero, List.set_cons_succ]
                        refine wpAnyH_take (i := 11) (oi := { dst := some 79, op := Op.move (Operand.tmp 90), type := 28, pos := "outright.go:98", after := #[{ on := 10, ground := Ground.data }], guard := none }) (v := .tuple #[.agg #[.int .i64 T.z, .slice T.A T.n T.c], .int .i64 0]) rfl (by kernel_rfl) (by kernel_rfl) (by kernel_rfl) (fun _ _ _ h => h) (Or.inl ⟨by kernel_rfl, fun w' hSw => by (try dsimp only at hSw); go_simp⟩) (by assumption) ?_
                        try simp only [Act.put, List.setIfInBounds_toArray, List.set_cons_zero, List.set_cons_succ]
                        refine wpAnyH_take (i := 12) (oi := { dst := some 91, op := Op.extract (Operand.tmp 79) 0, type := 24, pos := "outright.go:98", after := #[{ on := 11, ground := Ground.data }], guard := none }) (v := .agg #[.int .i64 T.z, .slice T.A T.n T.c]) rfl (by kernel_rfl) (by kernel_rfl) (by kernel_rfl) (fun _ _ _ h => h) (Or.inl ⟨by kernel_rfl, fun w' hSw => by (try dsimp only at hSw); go_simp⟩) (by assumption) ?_
                        try simp only [Act.put, List.setIfInBounds_toArray, List.set_cons_zero, List.set_cons_succ]
                        refine wpAnyH_take (i := 13) (oi := { dst := some 92, op := Op.extract (Operand.tmp 79) 1, type := 27, pos := "outright.go:98", after := #[{ on := 11, ground := Ground.data }, { on := 15, ground := Ground.gcOnly Departure.lateStores }], guard := none }) (v := .int .i64 0) rfl (by kernel_rfl) (by kernel_rfl) (by kernel_rfl) (fun _ _ _ h => h) (Or.inl ⟨by kernel_rfl, fun w' hSw => by (try dsimp only at hSw); go_simp⟩) (by assumption) ?_
                        try simp only [Act.put, List.setIfInBounds_toArray, List.set_cons_zero, List.set_cons_succ]
                        refine wpAnyH_ready (rs := [15]) (by kernel_rfl) (by simp) ?_
                        refine AllReadyH.cons (o := { dst := none, op := Op.store 24 (Operand.tmp 13) (Operand.tmp 91), type := 0, pos := "outright.go:98", after := #[{ on := 14, ground := Ground.data }, { on := 12, ground := Ground.data }, { on := 10, ground := Ground.chain }, { on := 0, ground := Ground.phase }, { on := 1, ground := Ground.phase }, { on := 2, ground := Ground.phase }, { on := 3, ground := Ground.phase }, { on := 4, ground := Ground.phase }, { on := 5, ground := Ground.phase }, { on := 6, ground := Ground.phase }, { on := 7, ground := Ground.phase }, { on := 8, ground := Ground.phase }, { on := 9, ground := Ground.phase }, { on := 10, ground := Ground.phase }, { on := 11, ground := Ground.phase }, { on := 12, ground := Ground.phase }, { on := 13, ground := Ground.textOnly Departure.lateStores }, { on := 14, ground := Ground.phase }], guard := none }) rfl (fun K hK => ?_) ?_
                        · skip
                          have y0 := Z5.out.1.cell 0
                          have y1 := Z5.out.1.cell 1
                          have f0 := Z5.out.1.frozen 0
                          have f1 := Z5.out.1.frozen 1
                          go_simp
                          have E6 := Lib.hid (E5.out.put Z5.out O5.out)
                          have M6 := Lib.hid ((M5.out.setCell (a := ⟨XB, 0, none⟩) HBX.out (.int .i64 T.z)).setCell (a := ⟨XB, 1, none⟩) HBX.out (.slice T.A T.n T.c))
                          clear hHeld y0 y1 f0 f1 E5 M5 Z5 O5
                          refine hK.out _ _ ⟨(HE.out _ E6.out.below).c0 (.head _), (HE.out _ E6.out.below).c1 (.head _)⟩ (fun hHeld => ?_)
                          clear hK K
                          try simp only [Act.put, List.setIfInBounds_toArray, List.set_cons_zero, List.set_cons_succ]
                          generalize (u5.setCell ⟨XB, 0, none⟩ (.int .i64 T.z)).setCell ⟨XB, 1, none⟩ (.slice T.A T.n T.c) = u6 at *
                          refine wpAnyH_take (i := 16) (oi := { dst := some 14, op := Op.assign (Operand.tmp 92), type := 27, pos := "outright.go:98", after := #[{ on := 13, ground := Ground.data }, { on := 15, ground := Ground.chain }, { on := 0, ground := Ground.phase }, { on := 1, ground := Ground.phase }, { on := 2, ground := Ground.phase }, { on := 3, ground := Ground.phase }, { on := 4, ground := Ground.phase }, { on := 5, ground := Ground.phase }, { on := 6, ground := Ground.phase }, { on := 7, ground := Ground.phase }, { on := 8, ground := Ground.phase }, { on := 9, ground := Ground.phase }, { on := 10, ground := Ground.phase }, { on := 11, ground := Ground.phase }, { on := 12, ground := Ground.phase }, { on := 13, ground := Ground.phase }, { on := 14, ground := Ground.phase }, { on := 15, ground := Ground.phase }], guard := none }) (v := .int .i64 0) rfl (by kernel_rfl) (by kernel_rfl) (by kernel_rfl) (fun _ _ _ h => h) (Or.inl ⟨by kernel_rfl, fun w' hSw => by (try dsimp only at hSw); go_simp⟩) (by assumption) ?_
                          try simp only [Act.put, List.setIfInBounds_toArray, List.set_cons_zero, List.set_cons_succ]
                          refine wpAnyH_done (by kernel_rfl) ?_ _
                          refine NoPanic.normal ?_
                          clear hHeld
                          go_wp2_with fail
                          go_meet
                          exact ⟨T, XB, rfl, rfl, HT, E6, M6⟩
                        exact AllReadyH.nil
                      exact AllReadyH.nil
                    exact AllReadyH.nil
                  exact AllReadyH.nil
                refine AllReadyH.cons (o := { dst := some 88, op := Op.buildSlice 22 1 #[(0, Operand.tmp 87)], type := 22, pos := "outright.go:98", after := #[{ on := 7, ground := Ground.data }], guard := none }) rfl (fun K hK => ?_) ?_
                · skip
                  go_simp
                  have bb : Below u1.heap.size u1 (u1.alloc (.cells #[.int .i64 (x : Int), .int .i64 (y : Int), .int .i64 0] 34)) := (Below.refl _ _).alloc (Nat.le_refl _) _
                  have E2 := Lib.hid (E1.out.on bb)
                  have M2 := Lib.hid (M1.out.kept (below_only bb none) (by simp))
                  have Z2 := Lib.hid (Z1.out.on bb)
                  have SL2 : Hid (Reads (u1.alloc (.cells #[.int .i64 (x : Int), .int .i64 (y : Int), .int .i64 0] 34)) _ 3 (some ⟨u1.heap.size, 0, none⟩) 1 (cellsE [((x : Int), (y : Int), (0 : Int))])) := slice_new u1 ((x : Int), (y : Int), (0 : Int))
                  clear hHeld bb E1 M1 Z1
                  refine hK.out _ _ ⟨(HE.out _ E2.out.below).c0 (.head _), (HE.out _ E2.out.below).c1 (.head _)⟩ (fun hHeld => ?_)
                  clear hK K
                  try simp only [Act.put, List.setIfInBounds_toArray, List.set_cons_zero, List.set_cons_succ]
                  generalize u1.alloc (.cells #[.int .i64 (x : Int), .int .i64 (y : Int), .int .i64 0] 34) = u2 at *
                  generalize u1.heap.size = XS at *
                  refine wpAnyH_ready (rs := [4]) (by kernel_rfl) (by simp) ?_
                  refine AllReadyH.cons (o := { dst := some 84, op := Op.call { callee := Callee.value (Operand.func 27), args := #[Operand.tmp 83], argTypes := #[22] }, type := 22, pos := "outright.go:98", after := #[{ on := 3, ground := Ground.data }], guard := none }) rfl (fun K hK => ?_) ?_
                  · skip
                    go_simp
                    have okc := (HE.out _ E2.out.below).ok (.head _)
                    refine (clone_any g.A g.n g.c g.es (by omega) okc.2.2.2 okc.2.1 _ okc.1).mono ?_
                    rintro e u3 ⟨A4, c4, rfl, ho, h1, h2, bb⟩
                    have SL3 := Lib.hid (SL2.out.on bb)
                    have Z3 := Lib.hid (Z2.out.on bb)
                    have TK3 := Lib.hid (Taken.mk ho bb)
                    have EC := E2
                    have MC := M2
                    have HD : Hid (∀ kk, (Value.slice A4 g.n c4).ownBlock = some kk → kk ≠ XB) := fun kk hk => Nat.ne_of_gt (Nat.lt_of_lt_of_le Z2.out.1.lt (ho.lt kk hk).1)
                    clear hHeld okc ho h1 h2 bb E2 M2 SL2 Z2
                    refine hK.out _ _ ⟨(HE.out _ (EC.out.below.trans (TK3.out.below.mono EC.out.below.size))).c0 (.head _), (HE.out _ (EC.out.below.trans (TK3.out.below.mono EC.out.below.size))).c1 (.head _)⟩ (fun hHeld => ?_)
                    clear hK K
                    try simp only [Act.put, List.setIfInBounds_toArray, List.set_cons_zero, List.set_cons_succ]
                    refine wpAnyH_ready (rs := [9]) (by kernel_rfl) (by simp) ?_
                    refine AllReadyH.cons (o := { dst := some 89, op := Op.call { callee := Callee.builtin Builtin.append, args := #[Operand.tmp 84, Operand.tmp 88], argTypes := #[22, 22] }, type := 22, pos := "outright.go:98", after := #[{ on := 4, ground := Ground.data }, { on := 8, ground := Ground.data }, { on := 4, ground := Ground.chain }], guard := none }) rfl (fun K hK => ?_) ?_
                    · skip
                      obtain ⟨i0, hi0, hz0, hz1, hz2⟩ := info_parts pair_info
                      refine step_append_any _ rfl (.tmp 84) (.tmp 88) 22 rfl u2.heap.size 34 i0 _ 3 24 Try.underlying22 hi0 hz0 hz1 hz2 rfl (by decide) (.slice A4 g.n c4) g.n _ rfl TK3.out.own _ (some ⟨XS, 0, none⟩) 1 _ (cellsE [((x : Int), (y : Int), (0 : Int))]) rfl SL3.out (cellsE_one _) (by unfold maxLen; omega) (by omega) TK3.out.below.size ?_
                      intro v5 u4 hown5 hgrow5 _
                      obtain ⟨A5, c5, rfl, h51, h52⟩ := own_form2 hown5
                      rw [← cellsE_append] at hown5
                      have bC : Below u2.heap.size u2 u4 := TK3.out.below.grown hgrow5 TK3.out.below.size (fun kk hk => (TK3.out.own.lt kk hk).1)
                      have E4 := Lib.hid (EC.out.on bC)
                      have M4 := Lib.hid (MC.out.kept (below_only bC none) (by simp))
                      have R4 := Lib.hid (reads_own hown5)
                      have Z4 : Hid (Zer w5 [] XB u4) := ⟨Z3.out.1.grown hgrow5 (fun e => HD.out _ (by first | exact e | exact e.symm) rfl), Z3.out.2⟩
                      clear hown5 hgrow5 bC h51 h52 hHeld TK3 SL3 EC MC hi0 hz0 hz1 hz2 Z3 HD
                      refine hK.out _ _ ⟨(HE.out _ E4.out.below).c0 (.head _), (HE.out _ E4.out.below).c1 (.head _)⟩ (fun hHeld => ?_)
                      clear hK K
                      try simp only [Act.put, List.setIfInBounds_toArray, List.set_cons_zero, List.set_cons_succ]
                      refine wpAnyH_ready (rs := [10]) (by kernel_rfl) (by simp) ?_
                      refine AllReadyH.cons (o := { dst := some 90, op := Op.call { callee := Callee.value (Operand.func 26), args := #[Operand.tmp 81, Operand.tmp 89], argTypes := #[3, 22] }, type := 28, pos := "outright.go:98", after := #[{ on := 1, ground := Ground.data }, { on := 9, ground := Ground.data }, { on := 9, ground := Ground.chain }], guard := none }) rfl (fun K hK => ?_) ?_
                      · skip
                        go_simp
                        refine (HOFT.out A5 c5 _ R4.out).mono ?_
                        rintro e u5 hx
                        obtain ⟨T, rfl, hz, he, okT, bb⟩ := gerr_gv hx
                        have E5 := Lib.hid (E4.out.on bb)
                        have M5 := Lib.hid (M4.out.kept (below_only bb none) (by simp))
                        have Z5 := Lib.hid (Z4.out.on bb)
                        have O5 := Lib.hid okT
                        have HT := Lib.hid (And.intro hz he)
                        clear hx hz he okT bb hHeld R4 E4 M4 Z4
                        refine hK.out _ _ ⟨(HE.out _ E5.out.below).c0 (.head _), (HE.out _ E5.out.below).c1 (.head _)⟩ (fun hHeld => ?_)
                        clear hK K
                        try simp only [Act.put, List.setIfInBounds_toArray, List.set_cons_zero, List.set_cons_succ]
                        refine wpAnyH_take (i := 11) (oi := { dst := some 79, op := Op.move (Operand.tmp 90), type := 28, pos := "outright.go:98", after := #[{ on := 10, ground := Ground.data }], guard := none }) (v := .tuple #[.agg #[.int .i64 T.z, .slice T.A T.n T.c], .int .i64 0]) rfl (by kernel_rfl) (by kernel_rfl) (by kernel_rfl) (fun _ _ _ h => h) (Or.inl ⟨by kernel_rfl, fun w' hSw => by (try dsimp only at hSw); go_simp⟩) (by assumption) ?_
                        try simp only [Act.put, List.setIfInBounds_toArray, List.set_cons_zero, List.set_cons_succ]
                        refine wpAnyH_take (i := 12) (oi := { dst := some 91, op := Op.extract (Operand.tmp 79) 0, type := 24, pos := "outright.go:98", after := #[{ on := 11, ground := Ground.data }], guard := none }) (v := .agg #[.int .i64 T.z, .slice T.A T.n T.c]) rfl (by kernel_rfl) (by kernel_rfl) (by kernel_rfl) (fun _ _ _ h => h) (Or.inl ⟨by kernel_rfl, fun w' hSw => by (try dsimp only at hSw); go_simp⟩) (by assumption) ?_
                        try simp only [Act.put, List.setIfInBounds_toArray, List.set_cons_zero, List.set_cons_succ]
                        refine wpAnyH_take (i := 13) (oi := { dst := some 92, op := Op.extract (Operand.tmp 79) 1, type := 27, pos := "outright.go:98", after := #[{ on := 11, ground := Ground.data }, { on := 15, ground := Ground.gcOnly Departure.lateStores }], guard := none }) (v := .int .i64 0) rfl (by kernel_rfl) (by kernel_rfl) (by kernel_rfl) (fun _ _ _ h => h) (Or.inl ⟨by kernel_rfl, fun w' hSw => by (try dsimp only at hSw); go_simp⟩) (by assumption) ?_
                        try simp only [Act.put, List.setIfInBounds_toArray, List.set_cons_zero, List.set_cons_succ]
                        refine wpAnyH_ready (rs := [15]) (by kernel_rfl) (by simp) ?_
                        refine AllReadyH.cons (o := { dst := none, op := Op.store 24 (Operand.tmp 13) (Operand.tmp 91), type := 0, pos := "outright.go:98", after := #[{ on := 14, ground := Ground.data }, { on := 12, ground := Ground.data }, { on := 10, ground := Ground.chain }, { on := 0, ground := Ground.phase }, { on := 1, ground := Ground.phase }, { on := 2, ground := Ground.phase }, { on := 3, ground := Ground.phase }, { on := 4, ground := Ground.phase }, { on := 5, ground := Ground.phase }, { on := 6, ground := Ground.phase }, { on := 7, ground := Ground.phase }, { on := 8, ground := Ground.phase }, { on := 9, ground := Ground.phase }, { on := 10, ground := Ground.phase }, { on := 11, ground := Ground.phase }, { on := 12, ground := Ground.phase }, { on := 13, ground := Ground.textOnly Departure.lateStores }, { on := 14, ground := Ground.phase }], guard := none }) rfl (fun K hK => ?_) ?_
                        · skip
                          have y0 := Z5.out.1.cell 0
                          have y1 := Z5.out.1.cell 1
                          have f0 := Z5.out.1.frozen 0
                          have f1 := Z5.out.1.frozen 1
                          go_simp
                          have E6 := Lib.hid (E5.out.put Z5.out O5.out)
                          have M6 := Lib.hid ((M5.out.setCell (a := ⟨XB, 0, none⟩) HBX.out (.int .i64 T.z)).setCell (a := ⟨XB, 1, none⟩) HBX.out (.slice T.A T.n T.c))
                          clear hHeld y0 y1 f0 f1 E5 M5 Z5 O5
                          refine hK.out _ _ ⟨(HE.out _ E6.out.below).c0 (.head _), (HE.out _ E6.out.below).c1 (.head _)⟩ (fun hHeld => ?_)
                          clear hK K
                          try simp only [Act.put, List.setIfInBounds_toArray, List.set_cons_zero, List.set_cons_succ]
                          generalize (u5.setCell ⟨XB, 0, none⟩ (.int .i64 T.z)).setCell ⟨XB, 1, none⟩ (.slice T.A T.n T.c) = u6 at *
                          refine wpAnyH_take (i := 16) (oi := { dst := some 14, op := Op.assign (Operand.tmp 92), type := 27, pos := "outright.go:98", after := #[{ on := 13, ground := Ground.data }, { on := 15, ground := Ground.chain }, { on := 0, ground := Ground.phase }, { on := 1, ground := Ground.phase }, { on := 2, ground := Ground.phase }, { on := 3, ground := Ground.phase }, { on := 4, ground := Ground.phase }, { on := 5, ground := Ground.phase }, { on := 6, ground := Ground.phase }, { on := 7, ground := Ground.phase }, { on := 8, ground := Ground.phase }, { on := 9, ground := Ground.phase }, { on := 10, ground := Ground.phase }, { on := 11, ground := Ground.phase }, { on := 12, ground := Ground.phase }, { on := 13, ground := Ground.phase }, { on := 14, ground := Ground.phase }, { on := 15, ground := Ground.phase }], guard := none }) (v := .int .i64 0) rfl (by kernel_rfl) (by kernel_rfl) (by kernel_rfl) (fun _ _ _ h => h) (Or.inl ⟨by kernel_rfl, fun w' hSw => by (try dsimp only at hSw); go_simp⟩) (by assumption) ?_
                          try simp only [Act.put, List.setIfInBounds_toArray, List.set_cons_zero, List.set_cons_succ]
                          refine wpAnyH_done (by kernel_rfl) ?_ _
                          refine NoPanic.normal ?_
                          clear hHeld
                          go_wp2_with fail
                          go_meet
                          exact ⟨T, XB, rfl, rfl, HT, E6, M6⟩
                        exact AllReadyH.nil
                      exact AllReadyH.nil
                    exact AllReadyH.nil
                  exact AllReadyH.nil
                exact AllReadyH.nil
              exact AllReadyH.nil
            case rest =>
              clear EE M9 HOFT
              rename World => w8
              obtain ⟨T1, X1, rfl, rfl, HT1, EE, M9⟩ := hcut
              go_upto_region 21 with fail
              go_cut [15, 16] (fun s15 s16 wx => ∃ (T : GV) (X : Nat), s15 = .pointer (some ⟨X, 0, none⟩) ∧ s16 = .int .i64 0 ∧ Hid (T.z = g.z ∧ T.es = sorE (g.es ++ [((y : Int), (x : Int), (0 : Int))])) ∧ Hid (Env w5 [(X, T), (X1, T1)] wx) ∧ Hid (wx.ownsMap (H := Unit) Try.prog 3 (plainElem Try.prog 4) B q D))
              case first =>
                clear HS HL HXY HM HM3 HGM HCS HNE HRO HB HB2 MW MS HY HRT HRB HT1
                have E0 := Lib.hid EE.out.drew
                have M0 : Hid (w8.drew.ownsMap (H := Unit) Try.prog 3 (plainElem Try.prog 4) B q D) := M9.out.drew
                clear EE M9
                refine wp_region_noPanic ?_
                refine wp_region_held_drew (S := fun w' => w'.cell? ⟨b3, 0, none⟩ = some (.int .i64 g.z) ∧ w'.cell? ⟨b3, 1, none⟩ = some (.slice g.A g.n g.c)) (by kernel_rfl) ⟨(HE.out _ E0.out.below).c0 (.head _), (HE.out _ E0.out.below).c1 (.head _)⟩ (fun hHeld => ?_)
                generalize w8.drew = wd at *
                refine wpAnyH_take (i := 0) (oi := { dst := some 94, op := Op.fieldAddr 24 (Operand.tmp 7) 0, type := 0, pos := "outright.go:99", after := #[], guard := none }) (v := .pointer (some ⟨b3, 0, none⟩)) rfl (by kernel_rfl) (by kernel_rfl) (by kernel_rfl) (fun _ _ _ h => h) (Or.inl ⟨by kernel_rfl, fun w' hSw => by (try dsimp only at hSw); go_simp⟩) (by assumption) ?_
                try simp only [Act.put, List.setIfInBounds_toArray, List.set_cons_zero, List.set_cons_succ]
                refine wpAnyH_take (i := 1) (oi := { dst := some 95, op := Op.load 3 (Operand.tmp 94), type := 3, pos := "outright.go:99", after := #[{ on := 0, ground := Ground.data }], guard := none }) (v := .int .i64 g.z) rfl (by kernel_rfl) (by kernel_rfl) (by kernel_rfl) (fun _ _ _ h => h) (Or.inl ⟨by kernel_rfl, fun w' hSw => by (try dsimp only at hSw); go_simp⟩) (by assumption) ?_
                try simp only [Act.put, List.setIfInBounds_toArray, List.set_cons_zero, List.set_cons_succ]
                refine wpAnyH_take (i := 2) (oi := { dst := some 96, op := Op.fieldAddr 24 (Operand.tmp 7) 1, type := 0, pos := "outright.go:99", after := #[], guard := none }) (v := .pointer (some ⟨b3, 1, none⟩)) rfl (by kernel_rfl) (by kernel_rfl) (by kernel_rfl) (fun _ _ _ h => h) (Or.inl ⟨by kernel_rfl, fun w' hSw => by (try dsimp only at hSw); go_simp⟩) (by assumption) ?_
                try simp only [Act.put, List.setIfInBounds_toArray, List.set_cons_zero, List.set_cons_succ]
                refine wpAnyH_take (i := 3) (oi := { dst := some 97, op := Op.load 22 (Operand.tmp 96), type := 22, pos := "outright.go:99", after := #[{ on := 2, ground := Ground.data }], guard := none }) (v := .slice g.A g.n g.c) rfl (by kernel_rfl) (by kernel_rfl) (by kernel_rfl) (fun _ _ _ h => h) (Or.inl ⟨by kernel_rfl, fun w' hSw => by (try dsimp only at hSw); go_simp⟩) (by assumption) ?_
                try simp only [Act.put, List.setIfInBounds_toArray, List.set_cons_zero, List.set_cons_succ]
                refine wpAnyH_take (i := 5) (oi := { dst := some 99, op := Op.move (Operand.tmp 2), type := 3, pos := "outright.go:99", after := #[], guard := none }) (v := .int .i64 (y : Int)) rfl (by kernel_rfl) (by kernel_rfl) (by kernel_rfl) (fun _ _ _ h => h) (Or.inl ⟨by kernel_rfl, fun w' hSw => by (try dsimp only at hSw); go_simp⟩) (by assumption) ?_
                try simp only [Act.put, List.setIfInBounds_toArray, List.set_cons_zero, List.set_cons_succ]
                refine wpAnyH_take (i := 6) (oi := { dst := some 100, op := Op.move (Operand.tmp 1), type := 3, pos := "outright.go:99", after := #[], guard := none }) (v := .int .i64 (x : Int)) rfl (by kernel_rfl) (by kernel_rfl) (by kernel_rfl) (fun _ _ _ h => h) (Or.inl ⟨by kernel_rfl, fun w' hSw => by (try dsimp only at hSw); go_simp⟩) (by assumption) ?_
                try simp only [Act.put, List.setIfInBounds_toArray, List.set_cons_zero, List.set_cons_succ]
                refine wpAnyH_take (i := 7) (oi := { dst := some 101, op := Op.build 34 #[(0, Operand.tmp 99), (1, Operand.tmp 100)], type := 34, pos := "outright.go:99", after := #[{ on := 5, ground := Ground.data }, { on := 6, ground := Ground.data }], guard := none }) (v := .agg #[.int .i64 (y : Int), .int .i64 (x : Int), .int .i64 0]) rfl (by kernel_rfl) (by kernel_rfl) (by kernel_rfl) (fun _ _ _ h => h) (Or.inl ⟨by kernel_rfl, fun w' hSw => by (try dsimp only at hSw); go_simp⟩) (by assumption) ?_
                try simp only [Act.put, List.setIfInBounds_toArray, List.set_cons_zero, List.set_cons_succ]
                refine wpAnyH_ready (rs := [4, 8, 14]) (by kernel_rfl) (by simp) ?_
                refine AllReadyH.cons (o := { dst := some 98, op := Op.call { callee := Callee.value (Operand.func 27), args := #[Operand.tmp 97], argTypes := #[22] }, type := 22, pos := "outright.go:99", after := #[{ on := 3, ground := Ground.data }], guard := none }) rfl (fun K hK => ?_) ?_
                · skip
                  go_simp
                  have okc := (HE.out _ E0.out.below).ok (.head _)
                  refine (clone_any g.A g.n g.c g.es (by omega) okc.2.2.2 okc.2.1 _ okc.1).mono ?_
                  rintro e u1 ⟨A4, c4, rfl, ho, h1, h2, bb⟩
                  have TK1 := Lib.hid (Taken.mk ho bb)
                  have EC := E0
                  have MC := M0
                  clear hHeld okc ho h1 h2 bb E0 M0 
                  refine hK.out _ _ ⟨(HE.out _ (EC.out.below.trans (TK1.out.below.mono EC.out.below.size))).c0 (.head _), (HE.out _ (EC.out.below.trans (TK1.out.below.mono EC.out.below.size))).c1 (.head _)⟩ (fun hHeld => ?_)
                  clear hK K
                  try simp only [Act.put, List.setIfInBounds_toArray, List.set_cons_zero, List.set_cons_succ]
                  refine wpAnyH_ready (rs := [8, 14]) (by kernel_rfl) (by simp) ?_
                  refine AllReadyH.cons (o := { dst := some 102, op := Op.buildSlice 22 1 #[(0, Operand.tmp 101)], type := 22, pos := "outright.go:99", after := #[{ on := 7, ground := Ground.data }], guard := none }) rfl (fun K hK => ?_) ?_
                  · skip
                    go_simp
                    have bb : Below u1.heap.size u1 (u1.alloc (.cells #[.int .i64 (y : Int), .int .i64 (x : Int), .int .i64 0] 34)) := (Below.refl _ _).alloc (Nat.le_refl _) _
                    have TK2 := Lib.hid (TK1.out.on bb)
                    have SL2 : Hid (Reads (u1.alloc (.cells #[.int .i64 (y : Int), .int .i64 (x : Int), .int .i64 0] 34)) _ 3 (some ⟨u1.heap.size, 0, none⟩) 1 (cellsE [((y : Int), (x : Int), (0 : Int))])) := slice_new u1 ((y : Int), (x : Int), (0 : Int))
                    clear hHeld bb TK1
                    refine hK.out _ _ ⟨(HE.out _ (EC.out.below.trans (TK2.out.below.mono EC.out.below.size))).c0 (.head _), (HE.out _ (EC.out.below.trans (TK2.out.below.mono EC.out.below.size))).c1 (.head _)⟩ (fun hHeld => ?_)
                    clear hK K
                    try simp only [Act.put, List.setIfInBounds_toArray, List.set_cons_zero, List.set_cons_succ]
                    generalize u1.alloc (.cells #[.int .i64 (y : Int), .int .i64 (x : Int), .int .i64 0] 34) = u2 at *
                    generalize u1.heap.size = XS at *
                    refine wpAnyH_ready (rs := [9, 14]) (by kernel_rfl) (by simp) ?_
                    refine AllReadyH.cons (o := { dst := some 103, op := Op.call { callee := Callee.builtin Builtin.append, args := #[Operand.tmp 98, Operand.tmp 102], argTypes := #[22, 22] }, type := 22, pos := "outright.go:99", after := #[{ on := 4, ground := Ground.data }, { on := 8, ground := Ground.data }, { on := 4, ground := Ground.chain }], guard := none }) rfl (fun K hK => ?_) ?_
                    · skip
                      obtain ⟨i0, hi0, hz0, hz1, hz2⟩ := info_parts pair_info
                      refine step_append_any _ rfl (.tmp 98) (.tmp 102) 22 rfl wd.heap.size 34 i0 _ 3 24 Try.underlying22 hi0 hz0 hz1 hz2 rfl (by decide) (.slice A4 g.n c4) g.n _ rfl TK2.out.own _ (some ⟨XS, 0, none⟩) 1 _ (cellsE [((y : Int), (x : Int), (0 : Int))]) rfl SL2.out (cellsE_one _) (by unfold maxLen; omega) (by omega) TK2.out.below.size ?_
                      intro v5 u3 hown5 hgrow5 _
                      obtain ⟨A5, c5, rfl, h51, h52⟩ := own_form2 hown5
                      rw [← cellsE_append] at hown5
                      have bC : Below wd.heap.size wd u3 := TK2.out.below.grown hgrow5 TK2.out.below.size (fun kk hk => (TK2.out.own.lt kk hk).1)
                      have E3 := Lib.hid (EC.out.on bC)
                      have M3 := Lib.hid (MC.out.kept (below_only bC none) (by simp))
                      have R3 := Lib.hid (reads_own hown5)
                      clear hown5 hgrow5 bC h51 h52 hHeld TK2 SL2 EC MC hi0 hz0 hz1 hz2 
                      refine hK.out _ _ ⟨(HE.out _ E3.out.below).c0 (.head _), (HE.out _ E3.out.below).c1 (.head _)⟩ (fun hHeld => ?_)
                      clear hK K
                      try simp only [Act.put, List.setIfInBounds_toArray, List.set_cons_zero, List.set_cons_succ]
                      refine wpAnyH_ready (rs := [10, 14]) (by kernel_rfl) (by simp) ?_
                      refine AllReadyH.cons (o := { dst := some 104, op := Op.call { callee := Callee.value (Operand.func 26), args := #[Operand.tmp 95, Operand.tmp 103], argTypes := #[3, 22] }, type := 28, pos := "outright.go:99", after := #[{ on := 1, ground := Ground.data }, { on := 9, ground := Ground.data }, { on := 9, ground := Ground.chain }], guard := none }) rfl (fun K hK => ?_) ?_
                      · skip
                        go_simp
                        refine (HOFB.out A5 c5 _ R3.out).mono ?_
                        rintro e u4 hx
                        obtain ⟨T, rfl, hz, he, okT, bb⟩ := gerr_gv hx
                        have E4 := Lib.hid (E3.out.on bb)
                        have M4 := Lib.hid (M3.out.kept (below_only bb none) (by simp))
                        have O4 := Lib.hid okT
                        have HT := Lib.hid (And.intro hz he)
                        clear hx hz he okT bb hHeld R3 E3 M3
                        refine hK.out _ _ ⟨(HE.out _ E4.out.below).c0 (.head _), (HE.out _ E4.out.below).c1 (.head _)⟩ (fun hHeld => ?_)
                        clear hK K
                        try simp only [Act.put, List.setIfInBounds_toArray, List.set_cons_zero, List.set_cons_succ]
                        refine wpAnyH_take (i := 11) (oi := { dst := some 93, op := Op.move (Operand.tmp 104), type := 28, pos := "outright.go:99", after := #[{ on := 10, ground := Ground.data }], guard := none }) (v := .tuple #[.agg #[.int .i64 T.z, .slice T.A T.n T.c], .int .i64 0]) rfl (by kernel_rfl) (by kernel_rfl) (by kernel_rfl) (fun _ _ _ h => h) (Or.inl ⟨by kernel_rfl, fun w' hSw => by (try dsimp only at hSw); go_simp⟩) (by assumption) ?_
                        try simp only [Act.put, List.setIfInBounds_toArray, List.set_cons_zero, List.set_cons_succ]
                        refine wpAnyH_take (i := 12) (oi := { dst := some 105, op := Op.extract (Operand.tmp 93) 0, type := 24, pos := "outright.go:99", after := #[{ on := 11, ground := Ground.data }], guard := none }) (v := .agg #[.int .i64 T.z, .slice T.A T.n T.c]) rfl (by kernel_rfl) (by kernel_rfl) (by kernel_rfl) (fun _ _ _ h => h) (Or.inl ⟨by kernel_rfl, fun w' hSw => by (try dsimp only at hSw); go_simp⟩) (by assumption) ?_
                        try simp only [Act.put, List.setIfInBounds_toArray, List.set_cons_zero, List.set_cons_succ]
                        refine wpAnyH_take (i := 13) (oi := { dst := some 106, op := Op.extract (Operand.tmp 93) 1, type := 27, pos := "outright.go:99", after := #[{ on := 11, ground := Ground.data }, { on := 15, ground := Ground.gcOnly Departure.lateStores }], guard := none }) (v := .int .i64 0) rfl (by kernel_rfl) (by kernel_rfl) (by kernel_rfl) (fun _ _ _ h => h) (Or.inl ⟨by kernel_rfl, fun w' hSw => by (try dsimp only at hSw); go_simp⟩) (by assumption) ?_
                        try simp only [Act.put, List.setIfInBounds_toArray, List.set_cons_zero, List.set_cons_succ]
                        refine wpAnyH_ready (rs := [14]) (by kernel_rfl) (by simp) ?_
                        refine AllReadyH.cons (o := { dst := some 15, op := Op.alloc 24, type := 0, pos := "outright.go:99", after := #[], guard := none }) rfl (fun K hK => ?_) ?_
                        · skip
                          go_simp
                          have bb : Below u4.heap.size u4 (u4.alloc (.cells #[.int .i64 0, .slice none 0 0] 24)) := (Below.refl _ _).alloc (Nat.le_refl _) _
                          have E5 := Lib.hid (E4.out.on bb)
                          have M5 := Lib.hid (M4.out.kept (below_only bb none) (by simp))
                          have O5 := Lib.hid (O4.out.on bb)
                          have Z5 := Lib.hid (Zer.new E4.out)
                          have HBX : Hid (B ≠ u4.heap.size) := Nat.ne_of_lt M4.out.lt
                          clear hHeld bb E4 M4 O4
                          refine hK.out _ _ ⟨(HE.out _ E5.out.below).c0 (.head _), (HE.out _ E5.out.below).c1 (.head _)⟩ (fun hHeld => ?_)
                          clear hK K
                          try simp only [Act.put, List.setIfInBounds_toArray, List.set_cons_zero, List.set_cons_succ]
                          generalize u4.alloc (.cells #[.int .i64 0, .slice none 0 0] 24) = u5 at *
                          generalize u4.heap.size = XB at *
                          refine wpAnyH_ready (rs := [15]) (by kernel_rfl) (by simp) ?_
                          refine AllReadyH.cons (o := { dst := none, op := Op.store 24 (Operand.tmp 15) (Operand.tmp 105), type := 0, pos := "outright.go:99", after := #[{ on := 14, ground := Ground.data }, { on := 12, ground := Ground.data }, { on := 10, ground := Ground.chain }, { on := 0, ground := Ground.phase }, { on := 1, ground := Ground.phase }, { on := 2, ground := Ground.phase }, { on := 3, ground := Ground.phase }, { on := 4, ground := Ground.phase }, { on := 5, ground := Ground.phase }, { on := 6, ground := Ground.phase }, { on := 7, ground := Ground.phase }, { on := 8, ground := Ground.phase }, { on := 9, ground := Ground.phase }, { on := 10, ground := Ground.phase }, { on := 11, ground := Ground.phase }, { on := 12, ground := Ground.phase }, { on := 13, ground := Ground.textOnly Departure.lateStores }, { on := 14, ground := Ground.phase }], guard := none }) rfl (fun K hK => ?_) ?_
                          · skip
                            have y0 := Z5.out.1.cell 0
                            have y1 := Z5.out.1.cell 1
                            have f0 := Z5.out.1.frozen 0
                            have f1 := Z5.out.1.frozen 1
                            go_simp
                            have E6 := Lib.hid (E5.out.put Z5.out O5.out)
                            have M6 := Lib.hid ((M5.out.setCell (a := ⟨XB, 0, none⟩) HBX.out (.int .i64 T.z)).setCell (a := ⟨XB, 1, none⟩) HBX.out (.slice T.A T.n T.c))
                            clear hHeld y0 y1 f0 f1 E5 M5 Z5 O5
                            refine hK.out _ _ ⟨(HE.out _ E6.out.below).c0 (.head _), (HE.out _ E6.out.below).c1 (.head _)⟩ (fun hHeld => ?_)
                            clear hK K
                            try simp only [Act.put, List.setIfInBounds_toArray, List.set_cons_zero, List.set_cons_succ]
                            generalize (u5.setCell ⟨XB, 0, none⟩ (.int .i64 T.z)).setCell ⟨XB, 1, none⟩ (.slice T.A T.n T.c) = u6 at *
                            refine wpAnyH_take (i := 16) (oi := { dst := some 16, op := Op.assign (Operand.tmp 106), type := 27, pos := "outright.go:99", after := #[{ on := 13, ground := Ground.data }, { on := 15, ground := Ground.chain }, { on := 0, ground := Ground.phase }, { on := 1, ground := Ground.phase }, { on := 2, ground := Ground.phase }, { on := 3, ground := Ground.phase }, { on := 4, ground := Ground.phase }, { on := 5, ground := Ground.phase }, { on := 6, ground := Ground.phase }, { on := 7, ground := Ground.phase }, { on := 8, ground := Ground.phase }, { on := 9, ground := Ground.phase }, { on := 10, ground := Ground.phase }, { on := 11, ground := Ground.phase }, { on := 12, ground := Ground.phase }, { on := 13, ground := Ground.phase }, { on := 14, ground := Ground.phase }, { on := 15, ground := Ground.phase }], guard := none }) (v := .int .i64 0) rfl (by kernel_rfl) (by kernel_rfl) (by kernel_rfl) (fun _ _ _ h => h) (Or.inl ⟨by kernel_rfl, fun w' hSw => by (try dsimp only at hSw); go_simp⟩) (by assumption) ?_
                            try simp only [Act.put, List.setIfInBounds_toArray, List.set_cons_zero, List.set_cons_succ]
                            refine wpAnyH_done (by kernel_rfl) ?_ _
                            refine NoPanic.normal ?_
                            clear hHeld
                            go_wp2_with fail
                            go_meet
                            exact ⟨T, XB, rfl, rfl, HT, E6, M6⟩
                          exact AllReadyH.nil
                        exact AllReadyH.nil
                      refine AllReadyH.cons (o := { dst := some 15, op := Op.alloc 24, type := 0, pos := "outright.go:99", after := #[], guard := none }) rfl (fun K hK => ?_) ?_
                      · skip
                        go_simp
                        have bb : Below u3.heap.size u3 (u3.alloc (.cells #[.int .i64 0, .slice none 0 0] 24)) := (Below.refl _ _).alloc (Nat.le_refl _) _
                        have E4 := Lib.hid (E3.out.on bb)
                        have M4 := Lib.hid (M3.out.kept (below_only bb none) (by simp))
                        have R4 := Lib.hid (R3.out.on bb)
                        have Z4 := Lib.hid (Zer.new E3.out)
                        have HBX : Hid (B ≠ u3.heap.size) := Nat.ne_of_lt M3.out.lt
                        clear hHeld bb E3 M3 R3
                        refine hK.out _ _ ⟨(HE.out _ E4.out.below).c0 (.head _), (HE.out _ E4.out.below).c1 (.head _)⟩ (fun hHeld => ?_)
                        clear hK K
                        try simp only [Act.put, List.setIfInBounds_toArray, List.set_cons_zero, List.set_cons_succ]
                        generalize u3.alloc (.cells #[.int .i64 0, .slice none 0 0] 24) = u4 at *
                        generalize u3.heap.size = XB at *
                        refine wpAnyH_ready (rs := [10]) (by kernel_rfl) (by simp) ?_
                        refine AllReadyH.cons (o := { dst := some 104, op := Op.call { callee := Callee.value (Operand.func 26), args := #[Operand.tmp 95, Operand.tmp 103], argTypes := #[3, 22] }, type := 28, pos := "outright.go:99", after := #[{ on := 1, ground := Ground.data }, { on := 9, ground := Ground.data }, { on := 9, ground := Ground.chain }], guard := none }) rfl (fun K hK => ?_) ?_
                        · skip
                          go_simp
                          refine (HOFB.out A5 c5 _ R4.out).mono ?_
                          rintro e u5 hx
                          obtain ⟨T, rfl, hz, he, okT, bb⟩ := gerr_gv hx
                          have E5 := Lib.hid (E4.out.on bb)
                          have M5 := Lib.hid (M4.out.kept (below_only bb none) (by simp))
                          have Z5 := Lib.hid (Z4.out.on bb)
                          have O5 := Lib.hid okT
                          have HT := Lib.hid (And.intro hz he)
                          clear hx hz he okT bb hHeld R4 E4 M4 Z4
                          refine hK.out _ _ ⟨(HE.out _ E5.out.below).c0 (.head _), (HE.out _ E5.out.below).c1 (.head _)⟩ (fun hHeld => ?_)
                          clear hK K
                          try simp only [Act.put, List.setIfInBounds_toArray, List.set_cons_zero, List.set_cons_succ]
                          refine wpAnyH_take (i := 11) (oi := { dst := some 93, op := Op.move (Operand.tmp 104), type := 28, pos := "outright.go:99", after := #[{ on := 10, ground := Ground.data }], guard := none }) (v := .tuple #[.agg #[.int .i64 T.z, .slice T.A T.n T.c], .int .i64 0]) rfl (by kernel_rfl) (by kernel_rfl) (by kernel_rfl) (fun _ _ _ h => h) (Or.inl ⟨by kernel_rfl, fun w' hSw => by (try dsimp only at hSw); go_simp⟩) (by assumption) ?_
                          try simp only [Act.put, List.setIfInBounds_toArray, List.set_cons_zero, List.set_cons_succ]
                          refine wpAnyH_take (i := 12) (oi := { dst := some 105, op := Op.extract (Operand.tmp 93) 0, type := 24, pos := "outright.go:99", after := #[{ on := 11, ground := Ground.data }], guard := none }) (v := .agg #[.int .i64 T.z, .slice T.A T.n T.c]) rfl (by kernel_rfl) (by kernel_rfl) (by kernel_rfl) (fun _ _ _ h => h) (Or.inl ⟨by kernel_rfl, fun w' hSw => by (try dsimp only at hSw); go_simp⟩) (by assumption) ?_
                          try simp only [Act.put, List.setIfInBounds_toArray, List.set_cons_zero, List.set_cons_succ]
                          refine wpAnyH_take (i := 13) (oi := { dst := some 106, op := Op.extract (Operand.tmp 93) 1, type := 27, pos := "outright.go:99", after := #[{ on := 11, ground := Ground.data }, { on := 15, ground := Ground.gcOnly Departure.lateStores }], guard := none }) (v := .int .i64 0) rfl (by kernel_rfl) (by kernel_rfl) (by kernel_rfl) (fun _ _ _ h => h) (Or.inl ⟨by kernel_rfl, fun w' hSw => by (try dsimp only at hSw); go_simp⟩) (by assumption) ?_
                          try simp only [Act.put, List.setIfInBounds_toArray, List.set_cons_zero, List.set_cons_succ]
                          refine wpAnyH_ready (rs := [15]) (by kernel_rfl) (by simp) ?_
                          refine AllReadyH.cons (o := { dst := none, op := Op.store 24 (Operand.tmp 15) (Operand.tmp 105), type := 0, pos := "outright.go:99", after := #[{ on := 14, ground := Ground.data }, { on := 12, ground := Ground.data }, { on := 10, ground := Ground.chain }, { on := 0, ground := Ground.phase }, { on := 1, ground := Ground.phase }, { on := 2, ground := Ground.phase }, { on := 3, ground := Ground.phase }, { on := 4, ground := Ground.phase }, { on := 5, ground := Ground.phase }, { on := 6, ground := Ground.phase }, { on := 7, ground := Ground.phase }, { on := 8, ground := Ground.phase }, { on := 9, ground := Ground.phase }, { on := 10, ground := Ground.phase }, { on := 11, ground := Ground.phase }, { on := 12, ground := Ground.phase }, { on := 13, ground := Ground.textOnly Departure.lateStores }, { on := 14, ground := Ground.phase }], guard := none }) rfl (fun K hK => ?_) ?_
                          · skip
                            have y0 := Z5.out.1.cell 0
                            have y1 := Z5.out.1.cell 1
                            have f0 := Z5.out.1.frozen 0
                            have f1 := Z5.out.1.frozen 1
                            go_simp
                            have E6 := Lib.hid (E5.out.put Z5.out O5.out)
                            have M6 := Lib.hid ((M5.out.setCell (a := ⟨XB, 0, none⟩) HBX.out (.int .i64 T.z)).setCell (a := ⟨XB, 1, none⟩) HBX.out (.slice T.A T.n T.c))
                            clear hHeld y0 y1 f0 f1 E5 M5 Z5 O5
                            refine hK.out _ _ ⟨(HE.out _ E6.out.below).c0 (.head _), (HE.out _ E6.out.below).c1 (.head _)⟩ (fun hHeld => ?_)
                            clear hK K
                            try simp only [Act.put, List.setIfInBounds_toArray, List.set_cons_zero, List.set_cons_succ]
                            generalize (u5.setCell ⟨XB, 0, none⟩ (.int .i64 T.z)).setCell ⟨XB, 1, none⟩ (.slice T.A T.n T.c) = u6 at *
                            refine wpAnyH_take (i := 16) (oi := { dst := some 16, op := Op.assign (Operand.tmp 106), type := 27, pos := "outright.go:99", after := #[{ on := 13, ground := Ground.data }, { on := 15, ground := Ground.chain }, { on := 0, ground := Ground.phase }, { on := 1, ground := Ground.phase }, { on := 2, ground := Ground.phase }, { on := 3, ground := Ground.phase }, { on := 4, ground := Ground.phase }, { on := 5, ground := Ground.phase }, { on := 6, ground := Ground.phase }, { on := 7, ground := Ground.phase }, { on := 8, ground := Ground.phase }, { on := 9, ground := Ground.phase }, { on := 10, ground := Ground.phase }, { on := 11, ground := Ground.phase }, { on := 12, ground := Ground.phase }, { on := 13, ground := Ground.phase }, { on := 14, ground := Ground.phase }, { on := 15, ground := Ground.phase }], guard := none }) (v := .int .i64 0) rfl (by kernel_rfl) (by kernel_rfl) (by kernel_rfl) (fun _ _ _ h => h) (Or.inl ⟨by kernel_rfl, fun w' hSw => by (try dsimp only at hSw); go_simp⟩) (by assumption) ?_
                            try simp only [Act.put, List.setIfInBounds_toArray, List.set_cons_zero, List.set_cons_succ]
                            refine wpAnyH_done (by kernel_rfl) ?_ _
                            refine NoPanic.normal ?_
                            clear hHeld
                            go_wp2_with fail
                            go_meet
                            exact ⟨T, XB, rfl, rfl, HT, E6, M6⟩
                          exact AllReadyH.nil
                        exact AllReadyH.nil
                      exact AllReadyH.nil
                    refine AllReadyH.cons (o := { dst := some 15, op := Op.alloc 24, type := 0, pos := "outright.go:99", after := #[], guard := none }) rfl (fun K hK => ?_) ?_
                    · skip
                      go_simp
                      have bb : Below u2.heap.size u2 (u2.alloc (.cells #[.int .i64 0, .slice none 0 0] 24)) := (Below.refl _ _).alloc (Nat.le_refl _) _
                      have TK3 := Lib.hid (TK2.out.on bb)
                      have SL3 := Lib.hid (SL2.out.on bb)
                      have Z3 := Lib.hid (Zer.new (EC.out.on TK2.out.below))
                      have HBX : Hid (B ≠ u2.heap.size) := Nat.ne_of_lt (Nat.lt_of_lt_of_le MC.out.lt TK2.out.below.size)
                      have HD : Hid (∀ kk, (Value.slice A4 g.n c4).ownBlock = some kk → kk ≠ u2.heap.size) := fun kk hk => Nat.ne_of_lt (TK2.out.own.lt kk hk).2
                      clear hHeld bb TK2 SL2
                      refine hK.out _ _ ⟨(HE.out _ (EC.out.below.trans (TK3.out.below.mono EC.out.below.size))).c0 (.head _), (HE.out _ (EC.out.below.trans (TK3.out.below.mono EC.out.below.size))).c1 (.head _)⟩ (fun hHeld => ?_)
                      clear hK K
                      try simp only [Act.put, List.setIfInBounds_toArray, List.set_cons_zero, List.set_cons_succ]
                      generalize u2.alloc (.cells #[.int .i64 0, .slice none 0 0] 24) = u3 at *
                      generalize u2.heap.size = XB at *
                      refine wpAnyH_ready (rs := [9]) (by kernel_rfl) (by simp) ?_
                      refine AllReadyH.cons (o := { dst := some 103, op := Op.call { callee := Callee.builtin Builtin.append, args := #[Operand.tmp 98, Operand.tmp 102], argTypes := #[22, 22] }, type := 22, pos := "outright.go:99", after := #[{ on := 4, ground := Ground.data }, { on := 8, ground := Ground.data }, { on := 4, ground := Ground.chain }], guard := none }) rfl (fun K hK => ?_) ?_
                      · skip
                        obtain ⟨i0, hi0, hz0, hz1, hz2⟩ := info_parts pair_info
                        refine step_append_any _ rfl (.tmp 98) (.tmp 102) 22 rfl wd.heap.size 34 i0 _ 3 24 Try.underlying22 hi0 hz0 hz1 hz2 rfl (by decide) (.slice A4 g.n c4) g.n _ rfl TK3.out.own _ (some ⟨XS, 0, none⟩) 1 _ (cellsE [((y : Int), (x : Int), (0 : Int))]) rfl SL3.out (cellsE_one _) (by unfold maxLen; omega) (by omega) TK3.out.below.size ?_
                        intro v5 u4 hown5 hgrow5 _
                        obtain ⟨A5, c5, rfl, h51, h52⟩ := own_form2 hown5
                        rw [← cellsE_append] at hown5
                        have bC : Below wd.heap.size wd u4 := TK3.out.below.grown hgrow5 TK3.out.below.size (fun kk hk => (TK3.out.own.lt kk hk).1)
                        have E4 := Lib.hid (EC.out.on bC)
                        have M4 := Lib.hid (MC.out.kept (below_only bC none) (by simp))
                        have R4 := Lib.hid (reads_own hown5)
                        have Z4 : Hid (Zer w5 [(X1, T1)] XB u4) := ⟨Z3.out.1.grown hgrow5 (fun e => HD.out _ (by first | exact e | exact e.symm) rfl), Z3.out.2⟩
                        clear hown5 hgrow5 bC h51 h52 hHeld TK3 SL3 EC MC hi0 hz0 hz1 hz2 Z3 HD
                        refine hK.out _ _ ⟨(HE.out _ E4.out.below).c0 (.head _), (HE.out _ E4.out.below).c1 (.head _)⟩ (fun hHeld => ?_)
                        clear hK K
                        try simp only [Act.put, List.setIfInBounds_toArray, List.set_cons_zero, List.set_cons_succ]
                        refine wpAnyH_ready (rs := [10]) (by kernel_rfl) (by simp) ?_
                        refine AllReadyH.cons (o := { dst := some 104, op := Op.call { callee := Callee.value (Operand.func 26), args := #[Operand.tmp 95, Operand.tmp 103], argTypes := #[3, 22] }, type := 28, pos := "outright.go:99", after := #[{ on := 1, ground := Ground.data }, { on := 9, ground := Ground.data }, { on := 9, ground := Ground.chain }], guard := none }) rfl (fun K hK => ?_) ?_
                        · skip
                          go_simp
                          refine (HOFB.out A5 c5 _ R4.out).mono ?_
                          rintro e u5 hx
                          obtain ⟨T, rfl, hz, he, okT, bb⟩ := gerr_gv hx
                          have E5 := Lib.hid (E4.out.on bb)
                          have M5 := Lib.hid (M4.out.kept (below_only bb none) (by simp))
                          have Z5 := Lib.hid (Z4.out.on bb)
                          have O5 := Lib.hid okT
                          have HT := Lib.hid (And.intro hz he)
                          clear hx hz he okT bb hHeld R4 E4 M4 Z4
                          refine hK.out _ _ ⟨(HE.out _ E5.out.below).c0 (.head _), (HE.out _ E5.out.below).c1 (.head _)⟩ (fun hHeld => ?_)
                          clear hK K
                          try simp only [Act.put, List.setIfInBounds_toArray, List.set_cons_zero, List.set_cons_succ]
                          refine wpAnyH_take (i := 11) (oi := { dst := some 93, op := Op.move (Operand.tmp 104), type := 28, pos := "outright.go:99", after := #[{ on := 10, ground := Ground.data }], guard := none }) (v := .tuple #[.agg #[.int .i64 T.z, .slice T.A T.n T.c], .int .i64 0]) rfl (by kernel_rfl) (by kernel_rfl) (by kernel_rfl) (fun _ _ _ h => h) (Or.inl ⟨by kernel_rfl, fun w' hSw => by (try dsimp only at hSw); go_simp⟩) (by assumption) ?_
                          try simp only [Act.put, List.setIfInBounds_toArray, List.set_cons_zero, List.set_cons_succ]
                          refine wpAnyH_take (i := 12) (oi := { dst := some 105, op := Op.extract (Operand.tmp 93) 0, type := 24, pos := "outright.go:99", after := #[{ on := 11, ground := Ground.data }], guard := none }) (v := .agg #[.int .i64 T.z, .slice T.A T.n T.c]) rfl (by kernel_rfl) (by kernel_rfl) (by kernel_rfl) (fun _ _ _ h => h) (Or.inl ⟨by kernel_rfl, fun w' hSw => by (try dsimp only at hSw); go_simp⟩) (by assumption) ?_
                          try simp only [Act.put, List.setIfInBounds_toArray, List.set_cons_zero, List.set_cons_succ]
                          refine wpAnyH_take (i := 13) (oi := { dst := some 106, op := Op.extract (Operand.tmp 93) 1, type := 27, pos := "outright.go:99", after := #[{ on := 11, ground := Ground.data }, { on := 15, ground := Ground.gcOnly Departure.lateStores }], guard := none }) (v := .int .i64 0) rfl (by kernel_rfl) (by kernel_rfl) (by kernel_rfl) (fun _ _ _ h => h) (Or.inl ⟨by kernel_rfl, fun w' hSw => by (try dsimp only at hSw); go_simp⟩) (by assumption) ?_
                          try simp only [Act.put, List.setIfInBounds_toArray, List.set_cons_zero, List.set_cons_succ]
                          refine wpAnyH_ready (rs := [15]) (by kernel_rfl) (by simp) ?_
                          refine AllReadyH.cons (o := { dst := none, op := Op.store 24 (Operand.tmp 15) (Operand.tmp 105), type := 0, pos := "outright.go:99", after := #[{ on := 14, ground := Ground.data }, { on := 12, ground := Ground.data }, { on := 10, ground := Ground.chain }, { on := 0, ground := Ground.phase }, { on := 1, ground := Ground.phase }, { on := 2, ground := Ground.phase }, { on := 3, ground := Ground.phase }, { on := 4, ground := Ground.phase }, { on := 5, ground := Ground.phase }, { on := 6, ground := Ground.phase }, { on := 7, ground := Ground.phase }, { on := 8, ground := Ground.phase }, { on := 9, ground := Ground.phase }, { on := 10, ground := Ground.phase }, { on := 11, ground := Ground.phase }, { on := 12, ground := Ground.phase }, { on := 13, ground := Ground.textOnly Departure.lateStores }, { on := 14, ground := Ground.phase }], guard := none }) rfl (fun K hK => ?_) ?_
                          · skip
                            have y0 := Z5.out.1.cell 0
                            have y1 := Z5.out.1.cell 1
                            have f0 := Z5.out.1.frozen 0
                            have f1 := Z5.out.1.frozen 1
                            go_simp
                            have E6 := Lib.hid (E5.out.put Z5.out O5.out)
                            have M6 := Lib.hid ((M5.out.setCell (a := ⟨XB, 0, none⟩) HBX.out (.int .i64 T.z)).setCell (a := ⟨XB, 1, none⟩) HBX.out (.slice T.A T.n T.c))
                            clear hHeld y0 y1 f0 f1 E5 M5 Z5 O5
                            refine hK.out _ _ ⟨(HE.out _ E6.out.below).c0 (.head _), (HE.out _ E6.out.below).c1 (.head _)⟩ (fun hHeld => ?_)
                            clear hK K
                            try simp only [Act.put, List.setIfInBounds_toArray, List.set_cons_zero, List.set_cons_succ]
                            generalize (u5.setCell ⟨XB, 0, none⟩ (.int .i64 T.z)).setCell ⟨XB, 1, none⟩ (.slice T.A T.n T.c) = u6 at *
                            refine wpAnyH_take (i := 16) (oi := { dst := some 16, op := Op.assign (Operand.tmp 106), type := 27, pos := "outright.go:99", after := #[{ on := 13, ground := Ground.data }, { on := 15, ground := Ground.chain }, { on := 0, ground := Ground.phase }, { on := 1, ground := Ground.phase }, { on := 2, ground := Ground.phase }, { on := 3, ground := Ground.phase }, { on := 4, ground := Ground.phase }, { on := 5, ground := Ground.phase }, { on := 6, ground := Ground.phase }, { on := 7, ground := Ground.phase }, { on := 8, ground := Ground.phase }, { on := 9, ground := Ground.phase }, { on := 10, ground := Ground.phase }, { on := 11, ground := Ground.phase }, { on := 12, ground := Ground.phase }, { on := 13, ground := Ground.phase }, { on := 14, ground := Ground.phase }, { on := 15, ground := Ground.phase }], guard := none }) (v := .int .i64 0) rfl (by kernel_rfl) (by kernel_rfl) (by kernel_rfl) (fun _ _ _ h => h) (Or.inl ⟨by kernel_rfl, fun w' hSw => by (try dsimp only at hSw); go_simp⟩) (by assumption) ?_
                            try simp only [Act.put, List.setIfInBounds_toArray, List.set_cons_zero, List.set_cons_succ]
                            refine wpAnyH_done (by kernel_rfl) ?_ _
                            refine NoPanic.normal ?_
                            clear hHeld
                            go_wp2_with fail
                            go_meet
                            exact ⟨T, XB, rfl, rfl, HT, E6, M6⟩
                          exact AllReadyH.nil
                        exact AllReadyH.nil
                      exact AllReadyH.nil
                    exact AllReadyH.nil
                  refine AllReadyH.cons (o := { dst := some 15, op := Op.alloc 24, type := 0, pos := "outright.go:99", after := #[], guard := none }) rfl (fun K hK => ?_) ?_
                  · skip
                    go_simp
                    have bb : Below u1.heap.size u1 (u1.alloc (.cells #[.int .i64 0, .slice none 0 0] 24)) := (Below.refl _ _).alloc (Nat.le_refl _) _
                    have TK2 := Lib.hid (TK1.out.on bb)
                    have Z2 := Lib.hid (Zer.new (EC.out.on TK1.out.below))
                    have HBX : Hid (B ≠ u1.heap.size) := Nat.ne_of_lt (Nat.lt_of_lt_of_le MC.out.lt TK1.out.below.size)
                    have HD : Hid (∀ kk, (Value.slice A4 g.n c4).ownBlock = some kk → kk ≠ u1.heap.size) := fun kk hk => Nat.ne_of_lt (TK1.out.own.lt kk hk).2
                    clear hHeld bb TK1
                    refine hK.out _ _ ⟨(HE.out _ (EC.out.below.trans (TK2.out.below.mono EC.out.below.size))).c0 (.head _), (HE.out _ (EC.out.below.trans (TK2.out.below.mono EC.out.below.size))).c1 (.head _)⟩ (fun hHeld => ?_)
                    clear hK K
                    try simp only [Act.put, List.setIfInBounds_toArray, List.set_cons_zero, List.set_cons_succ]
                    generalize u1.alloc (.cells #[.int .i64 0, .slice none 0 0] 24) = u2 at *
                    generalize u1.heap.size = XB at *
                    refine wpAnyH_ready (rs := [8]) (by kernel_rfl) (by simp) ?_
                    refine AllReadyH.cons (o := { dst := some 102, op := Op.buildSlice 22 1 #[(0, Operand.tmp 101)], type := 22, pos := "outright.go:99", after := #[{ on := 7, ground := Ground.data }], guard := none }) rfl (fun K hK => ?_) ?_
                    · skip
                      go_simp
                      have bb : Below u2.heap.size u2 (u2.alloc (.cells #[.int .i64 (y : Int), .int .i64 (x : Int), .int .i64 0] 34)) := (Below.refl _ _).alloc (Nat.le_refl _) _
                      have TK3 := Lib.hid (TK2.out.on bb)
                      have Z3 := Lib.hid (Z2.out.on bb)
                      have SL3 : Hid (Reads (u2.alloc (.cells #[.int .i64 (y : Int), .int .i64 (x : Int), .int .i64 0] 34)) _ 3 (some ⟨u2.heap.size, 0, none⟩) 1 (cellsE [((y : Int), (x : Int), (0 : Int))])) := slice_new u2 ((y : Int), (x : Int), (0 : Int))
                      clear hHeld bb TK2 Z2
                      refine hK.out _ _ ⟨(HE.out _ (EC.out.below.trans (TK3.out.below.mono EC.out.below.size))).c0 (.head _), (HE.out _ (EC.out.below.trans (TK3.out.below.mono EC.out.below.size))).c1 (.head _)⟩ (fun hHeld => ?_)
                      clear hK K
                      try simp only [Act.put, List.setIfInBounds_toArray, List.set_cons_zero, List.set_cons_succ]
                      generalize u2.alloc (.cells #[.int .i64 (y : Int), .int .i64 (x : Int), .int .i64 0] 34) = u3 at *
                      generalize u2.heap.size = XS at *
                      refine wpAnyH_ready (rs := [9]) (by kernel_rfl) (by simp) ?_
                      refine AllReadyH.cons (o := { dst := some 103, op := Op.call { callee := Callee.builtin Builtin.append, args := #[Operand.tmp 98, Operand.tmp 102], argTypes := #[22, 22] }, type := 22, pos := "outright.go:99", after := #[{ on := 4, ground := Ground.data }, { on := 8, ground := Ground.data }, { on := 4, ground := Ground.chain }], guard := none }) rfl (fun K hK => ?_) ?_
                      · skip
                        obtain ⟨i0, hi0, hz0, hz1, hz2⟩ := info_parts pair_info
                        refine step_append_any _ rfl (.tmp 98) (.tmp 102) 22 rfl wd.heap.size 34 i0 _ 3 24 Try.underlying22 hi0 hz0 hz1 hz2 rfl (by decide) (.slice A4 g.n c4) g.n _ rfl TK3.out.own _ (some ⟨XS, 0, none⟩) 1 _ (cellsE [((y : Int), (x : Int), (0 : Int))]) rfl SL3.out (cellsE_one _) (by unfold maxLen; omega) (by omega) TK3.out.below.size ?_
                        intro v5 u4 hown5 hgrow5 _
                        obtain ⟨A5, c5, rfl, h51, h52⟩ := own_form2 hown5
                        rw [← cellsE_append] at hown5
                        have bC : Below wd.heap.size wd u4 := TK3.out.below.grown hgrow5 TK3.out.below.size (fun kk hk => (TK3.out.own.lt kk hk).1)
                        have E4 := Lib.hid (EC.out.on bC)
                        have M4 := Lib.hid (MC.out.kept (below_only bC none) (by simp))
                        have R4 := Lib.hid (reads_own hown5)
                        have Z4 : Hid (Zer w5 [(X1, T1)] XB u4) := ⟨Z3.out.1.grown hgrow5 (fun e => HD.out _ (by first | exact e | exact e.symm) rfl), Z3.out.2⟩
                        clear hown5 hgrow5 bC h51 h52 hHeld TK3 SL3 EC MC hi0 hz0 hz1 hz2 Z3 HD
                        refine hK.out _ _ ⟨(HE.out _ E4.out.below).c0 (.head _), (HE.out _ E4.out.below).c1 (.head _)⟩ (fun hHeld => ?_)
                        clear hK K
                        try simp only [Act.put, List.setIfInBounds_toArray, List.set_cons_zero, List.set_cons_succ]
                        refine wpAnyH_ready (rs := [10]) (by kernel_rfl) (by simp) ?_
                        refine AllReadyH.cons (o := { dst := some 104, op := Op.call { callee := Callee.value (Operand.func 26), args := #[Operand.tmp 95, Operand.tmp 103], argTypes := #[3, 22] }, type := 28, pos := "outright.go:99", after := #[{ on := 1, ground := Ground.data }, { on := 9, ground := Ground.data }, { on := 9, ground := Ground.chain }], guard := none }) rfl (fun K hK => ?_) ?_
                        · skip
                          go_simp
                          refine (HOFB.out A5 c5 _ R4.out).mono ?_
                          rintro e u5 hx
                          obtain ⟨T, rfl, hz, he, okT, bb⟩ := gerr_gv hx
                          have E5 := Lib.hid (E4.out.on bb)
                          have M5 := Lib.hid (M4.out.kept (below_only bb none) (by simp))
                          have Z5 := Lib.hid (Z4.out.on bb)
                          have O5 := Lib.hid okT
                          have HT := Lib.hid (And.intro hz he)
                          clear hx hz he okT bb hHeld R4 E4 M4 Z4
                          refine hK.out _ _ ⟨(HE.out _ E5.out.below).c0 (.head _), (HE.out _ E5.out.below).c1 (.head _)⟩ (fun hHeld => ?_)
                          clear hK K
                          try simp only [Act.put, List.setIfInBounds_toArray, List.set_cons_zero, List.set_cons_succ]
                          refine wpAnyH_take (i := 11) (oi := { dst := some 93, op := Op.move (Operand.tmp 104), type := 28, pos := "outright.go:99", after := #[{ on := 10, ground := Ground.data }], guard := none }) (v := .tuple #[.agg #[.int .i64 T.z, .slice T.A T.n T.c], .int .i64 0]) rfl (by kernel_rfl) (by kernel_rfl) (by kernel_rfl) (fun _ _ _ h => h) (Or.inl ⟨by kernel_rfl, fun w' hSw => by (try dsimp only at hSw); go_simp⟩) (by assumption) ?_
                          try simp only [Act.put, List.setIfInBounds_toArray, List.set_cons_zero, List.set_cons_succ]
                          refine wpAnyH_take (i := 12) (oi := { dst := some 105, op := Op.extract (Operand.tmp 93) 0, type := 24, pos := "outright.go:99", after := #[{ on := 11, ground := Ground.data }], guard := none }) (v := .agg #[.int .i64 T.z, .slice T.A T.n T.c]) rfl (by kernel_rfl) (by kernel_rfl) (by kernel_rfl) (fun _ _ _ h => h) (Or.inl ⟨by kernel_rfl, fun w' hSw => by (try dsimp only at hSw); go_simp⟩) (by assumption) ?_
                          try simp only [Act.put, List.setIfInBounds_toArray, List.set_cons_zero, List.set_cons_succ]
                          refine wpAnyH_take (i := 13) (oi := { dst := some 106, op := Op.extract (Operand.tmp 93) 1, type := 27, pos := "outright.go:99", after := #[{ on := 11, ground := Ground.data }, { on := 15, ground := Ground.gcOnly Departure.lateStores }], guard := none }) (v := .int .i64 0) rfl (by kernel_rfl) (by kernel_rfl) (by kernel_rfl) (fun _ _ _ h => h) (Or.inl ⟨by kernel_rfl, fun w' hSw => by (try dsimp only at hSw); go_simp⟩) (by assumption) ?_
                          try simp only [Act.put, List.setIfInBounds_toArray, List.set_cons_zero, List.set_cons_succ]
                          refine wpAnyH_ready (rs := [15]) (by kernel_rfl) (by simp) ?_
                          refine AllReadyH.cons (o := { dst := none, op := Op.store 24 (Operand.tmp 15) (Operand.tmp 105), type := 0, pos := "outright.go:99", after := #[{ on := 14, ground := Ground.data }, { on := 12, ground := Ground.data }, { on := 10, ground := Ground.chain }, { on := 0, ground := Ground.phase }, { on := 1, ground := Ground.phase }, { on := 2, ground := Ground.phase }, { on := 3, ground := Ground.phase }, { on := 4, ground := Ground.phase }, { on := 5, ground := Ground.phase }, { on := 6, ground := Ground.phase }, { on := 7, ground := Ground.phase }, { on := 8, ground := Ground.phase }, { on := 9, ground := Ground.phase }, { on := 10, ground := Ground.phase }, { on := 11, ground := Ground.phase }, { on := 12, ground := Ground.phase }, { on := 13, ground := Ground.textOnly Departure.lateStores }, { on := 14, ground := Ground.phase }], guard := none }) rfl (fun K hK => ?_) ?_
                          · skip
                            have y0 := Z5.out.1.cell 0
                            have y1 := Z5.out.1.cell 1
                            have f0 := Z5.out.1.frozen 0
                            have f1 := Z5.out.1.frozen 1
                            go_simp
                            have E6 := Lib.hid (E5.out.put Z5.out O5.out)
                            have M6 := Lib.hid ((M5.out.setCell (a := ⟨XB, 0, none⟩) HBX.out (.int .i64 T.z)).setCell (a := ⟨XB, 1, none⟩) HBX.out (.slice T.A T.n T.c))
                            clear hHeld y0 y1 f0 f1 E5 M5 Z5 O5
                            refine hK.out _ _ ⟨(HE.out _ E6.out.below).c0 (.head _), (HE.out _ E6.out.below).c1 (.head _)⟩ (fun hHeld => ?_)
                            clear hK K
                            try simp only [Act.put, List.setIfInBounds_toArray, List.set_cons_zero, List.set_cons_succ]
                            generalize (u5.setCell ⟨XB, 0, none⟩ (.int .i64 T.z)).setCell ⟨XB, 1, none⟩ (.slice T.A T.n T.c) = u6 at *
                            refine wpAnyH_take (i := 16) (oi := { dst := some 16, op := Op.assign (Operand.tmp 106), type := 27, pos := "outright.go:99", after := #[{ on := 13, ground := Ground.data }, { on := 15, ground := Ground.chain }, { on := 0, ground := Ground.phase }, { on := 1, ground := Ground.phase }, { on := 2, ground := Ground.phase }, { on := 3, ground := Ground.phase }, { on := 4, ground := Ground.phase }, { on := 5, ground := Ground.phase }, { on := 6, ground := Ground.phase }, { on := 7, ground := Ground.phase }, { on := 8, ground := Ground.phase }, { on := 9, ground := Ground.phase }, { on := 10, ground := Ground.phase }, { on := 11, ground := Ground.phase }, { on := 12, ground := Ground.phase }, { on := 13, ground := Ground.phase }, { on := 14, ground := Ground.phase }, { on := 15, ground := Ground.phase }], guard := none }) (v := .int .i64 0) rfl (by kernel_rfl) (by kernel_rfl) (by kernel_rfl) (fun _ _ _ h => h) (Or.inl ⟨by kernel_rfl, fun w' hSw => by (try dsimp only at hSw); go_simp⟩) (by assumption) ?_
                            try simp only [Act.put, List.setIfInBounds_toArray, List.set_cons_zero, List.set_cons_succ]
                            refine wpAnyH_done (by kernel_rfl) ?_ _
                            refine NoPanic.normal ?_
                            clear hHeld
                            go_wp2_with fail
                            go_meet
                            exact ⟨T, XB, rfl, rfl, HT, E6, M6⟩
                          exact AllReadyH.nil
                        exact AllReadyH.nil
                      exact AllReadyH.nil
                    exact AllReadyH.nil
                  exact AllReadyH.nil
                refine AllReadyH.cons (o := { dst := some 102, op := Op.buildSlice 22 1 #[(0, Operand.tmp 101)], type := 22, pos := "outright.go:99", after := #[{ on := 7, ground := Ground.data }], guard := none }) rfl (fun K hK => ?_) ?_
                · skip
                  go_simp
                  have bb : Below wd.heap.size wd (wd.alloc (.cells #[.int .i64 (y : Int), .int .i64 (x : Int), .int .i64 0] 34)) := (Below.refl _ _).alloc (Nat.le_refl _) _
                  have E1 := Lib.hid (E0.out.on bb)
                  have M1 := Lib.hid (M0.out.kept (below_only bb none) (by simp))
                  have SL1 : Hid (Reads (wd.alloc (.cells #[.int .i64 (y : Int), .int .i64 (x : Int), .int .i64 0] 34)) _ 3 (some ⟨wd.heap.size, 0, none⟩) 1 (cellsE [((y : Int), (x : Int), (0 : Int))])) := slice_new wd ((y : Int), (x : Int), (0 : Int))
                  clear hHeld bb E0 M0
                  refine hK.out _ _ ⟨(HE.out _ E1.out.below).c0 (.head _), (HE.out _ E1.out.below).c1 (.head _)⟩ (fun hHeld => ?_)
                  clear hK K
                  try simp only [Act.put, List.setIfInBounds_toArray, List.set_cons_zero, List.set_cons_succ]
                  generalize wd.alloc (.cells #[.int .i64 (y : Int), .int .i64 (x : Int), .int .i64 0] 34) = u1 at *
                  generalize wd.heap.size = XS at *
                  refine wpAnyH_ready (rs := [4, 14]) (by kernel_rfl) (by simp) ?_
                  refine AllReadyH.cons (o := { dst := some 98, op := Op.call { callee := Callee.value (Operand.func 27), args := #[Operand.tmp 97], argTypes := #[22] }, type := 22, pos := "outright.go:99", after := #[{ on := 3, ground := Ground.data }], guard := none }) rfl (fun K hK => ?_) ?_
                  · skip
                    go_simp
                    have okc := (HE.out _ E1.out.below).ok (.head _)
                    refine (clone_any g.A g.n g.c g.es (by omega) okc.2.2.2 okc.2.1 _ okc.1).mono ?_
                    rintro e u2 ⟨A4, c4, rfl, ho, h1, h2, bb⟩
                    have SL2 := Lib.hid (SL1.out.on bb)
                    have TK2 := Lib.hid (Taken.mk ho bb)
                    have EC := E1
                    have MC := M1
                    clear hHeld okc ho h1 h2 bb E1 M1 SL1
                    refine hK.out _ _ ⟨(HE.out _ (EC.out.below.trans (TK2.out.below.mono EC.out.below.size))).c0 (.head _), (HE.out _ (EC.out.below.trans (TK2.out.below.mono EC.out.below.size))).c1 (.head _)⟩ (fun hHeld => ?_)
                    clear hK K
                    try simp only [Act.put, List.setIfInBounds_toArray, List.set_cons_zero, List.set_cons_succ]
                    refine wpAnyH_ready (rs := [9, 14]) (by kernel_rfl) (by simp) ?_
                    refine AllReadyH.cons (o := { dst := some 103, op := Op.call { callee := Callee.builtin Builtin.append, args := #[Operand.tmp 98, Operand.tmp 102], argTypes := #[22, 22] }, type := 22, pos := "outright.go:99", after := #[{ on := 4, ground := Ground.data }, { on := 8, ground := Ground.data }, { on := 4, ground := Ground.chain }], guard := none }) rfl (fun K hK => ?_) ?_
                    · skip
                      obtain ⟨i0, hi0, hz0, hz1, hz2⟩ := info_parts pair_info
                      refine step_append_any _ rfl (.tmp 98) (.tmp 102) 22 rfl u1.heap.size 34 i0 _ 3 24 Try.underlying22 hi0 hz0 hz1 hz2 rfl (by decide) (.slice A4 g.n c4) g.n _ rfl TK2.out.own _ (some ⟨XS, 0, none⟩) 1 _ (cellsE [((y : Int), (x : Int), (0 : Int))]) rfl SL2.out (cellsE_one _) (by unfold maxLen; omega) (by omega) TK2.out.below.size ?_
                      intro v5 u3 hown5 hgrow5 _
                      obtain ⟨A5, c5, rfl, h51, h52⟩ := own_form2 hown5
                      rw [← cellsE_append] at hown5
                      have bC : Below u1.heap.size u1 u3 := TK2.out.below.grown hgrow5 TK2.out.below.size (fun kk hk => (TK2.out.own.lt kk hk).1)
                      have E3 := Lib.hid (EC.out.on bC)
                      have M3 := Lib.hid (MC.out.kept (below_only bC none) (by simp))
                      have R3 := Lib.hid (reads_own hown5)
                      clear hown5 hgrow5 bC h51 h52 hHeld TK2 SL2 EC MC hi0 hz0 hz1 hz2 
                      refine hK.out _ _ ⟨(HE.out _ E3.out.below).c0 (.head _), (HE.out _ E3.out.below).c1 (.head _)⟩ (fun hHeld => ?_)
                      clear hK K
                      try simp only [Act.put, List.setIfInBounds_toArray, List.set_cons_zero, List.set_cons_succ]
                      refine wpAnyH_ready (rs := [10, 14]) (by kernel_rfl) (by simp) ?_
                      refine AllReadyH.cons (o := { dst := some 104, op := Op.call { callee := Callee.value (Operand.func 26), args := #[Operand.tmp 95, Operand.tmp 103], argTypes := #[3, 22] }, type := 28, pos := "outright.go:99", after := #[{ on := 1, ground := Ground.data }, { on := 9, ground := Ground.data }, { on := 9, ground := Ground.chain }], guard := none }) rfl (fun K hK => ?_) ?_
                      · skip
                        go_simp
                        refine (HOFB.out A5 c5 _ R3.out).mono ?_
                        rintro e u4 hx
                        obtain ⟨T, rfl, hz, he, okT, bb⟩ := gerr_gv hx
                        have E4 := Lib.hid (E3.out.on bb)
                        have M4 := Lib.hid (M3.out.kept (below_only bb none) (by simp))
                        have O4 := Lib.hid okT
                        have HT := Lib.hid (And.intro hz he)
                        clear hx hz he okT bb hHeld R3 E3 M3
                        refine hK.out _ _ ⟨(HE.out _ E4.out.below).c0 (.head _), (HE.out _ E4.out.below).c1 (.head _)⟩ (fun hHeld => ?_)
                        clear hK K
                        try simp only [Act.put, List.setIfInBounds_toArray, List.set_cons_zero, List.set_cons_succ]
                        refine wpAnyH_take (i := 11) (oi := { dst := some 93, op := Op.move (Operand.tmp 104), type := 28, pos := "outright.go:99", after := #[{ on := 10, ground := Ground.data }], guard := none }) (v := .tuple #[.agg #[.int .i64 T.z, .slice T.A T.n T.c], .int .i64 0]) rfl (by kernel_rfl) (by kernel_rfl) (by kernel_rfl) (fun _ _ _ h => h) (Or.inl ⟨by kernel_rfl, fun w' hSw => by (try dsimp only at hSw); go_simp⟩) (by assumption) ?_
                        try simp only [Act.put, List.setIfInBounds_toArray, List.set_cons_zero, List.set_cons_succ]
                        refine wpAnyH_take (i := 12) (oi := { dst := some 105, op := Op.extract (Operand.tmp 93) 0, type := 24, pos := "outright.go:99", after := #[{ on := 11, ground := Ground.data }], guard := none }) (v := .agg #[.int .i64 T.z, .slice T.A T.n T.c]) rfl (by kernel_rfl) (by kernel_rfl) (by kernel_rfl) (fun _ _ _ h => h) (Or.inl ⟨by kernel_rfl, fun w' hSw => by (try dsimp only at hSw); go_simp⟩) (by assumption) ?_
                        try simp only [Act.put, List.setIfInBounds_toArray, List.set_cons_zero, List.set_cons_succ]
                        refine wpAnyH_take (i := 13) (oi := { dst := some 106, op := Op.extract (Operand.tmp 93) 1, type := 27, pos := "outright.go:99", after := #[{ on := 11, ground := Ground.data }, { on := 15, ground := Ground.gcOnly Departure.lateStores }], guard := none }) (v := .int .i64 0) rfl (by kernel_rfl) (by kernel_rfl) (by kernel_rfl) (fun _ _ _ h => h) (Or.inl ⟨by kernel_rfl, fun w' hSw => by (try dsimp only at hSw); go_simp⟩) (by assumption) ?_
                        try simp only [Act.put, List.setIfInBounds_toArray, List.set_cons_zero, List.set_cons_succ]
                        refine wpAnyH_ready (rs := [14]) (by kernel_rfl) (by simp) ?_
                        refine AllReadyH.cons (o := { dst := some 15, op := Op.alloc 24, type := 0, pos := "outright.go:99", after := #[], guard := none }) rfl (fun K hK => ?_) ?_
                        · skip
                          go_simp
                          have bb : Below u4.heap.size u4 (u4.alloc (.cells #[.int .i64 0, .slice none 0 0] 24)) := (Below.refl _ _).alloc (Nat.le_refl _) _
                          have E5 := Lib.hid (E4.out.on bb)
                          have M5 := Lib.hid (M4.out.kept (below_only bb none) (by simp))
                          have O5 := Lib.hid (O4.out.on bb)
                          have Z5 := Lib.hid (Zer.new E4.out)
                          have HBX : Hid (B ≠ u4.heap.size) := Nat.ne_of_lt M4.out.lt
                          clear hHeld bb E4 M4 O4
                          refine hK.out _ _ ⟨(HE.out _ E5.out.below).c0 (.head _), (HE.out _ E5.out.below).c1 (.head _)⟩ (fun hHeld => ?_)
                          clear hK K
                          try simp only [Act.put, List.setIfInBounds_toArray, List.set_cons_zero, List.set_cons_succ]
                          generalize u4.alloc (.cells #[.int .i64 0, .slice none 0 0] 24) = u5 at *
                          generalize u4.heap.size = XB at *
                          refine wpAnyH_ready (rs := [15]) (by kernel_rfl) (by simp) ?_
                          refine AllReadyH.cons (o := { dst := none, op := Op.store 24 (Operand.tmp 15) (Operand.tmp 105), type := 0, pos := "outright.go:99", after := #[{ on := 14, ground := Ground.data }, { on := 12, ground := Ground.data }, { on := 10, ground := Ground.chain }, { on := 0, ground := Ground.phase }, { on := 1, ground := Ground.phase }, { on := 2, ground := Ground.phase }, { on := 3, ground := Ground.phase }, { on := 4, ground := Ground.phase }, { on := 5, ground := Ground.phase }, { on := 6, ground := Ground.phase }, { on := 7, ground := Ground.phase }, { on := 8, ground := Ground.phase }, { on := 9, ground := Ground.phase }, { on := 10, ground := Ground.phase }, { on := 11, ground := Ground.phase }, { on := 12, ground := Ground.phase }, { on := 13, ground := Ground.textOnly Departure.lateStores }, { on := 14, ground := Ground.phase }], guard := none }) rfl (fun K hK => ?_) ?_
                          · skip
                            have y0 := Z5.out.1.cell 0
                            have y1 := Z5.out.1.cell 1
                            have f0 := Z5.out.1.frozen 0
                            have f1 := Z5.out.1.frozen 1
                            go_simp
                            have E6 := Lib.hid (E5.out.put Z5.out O5.out)
                            have M6 := Lib.hid ((M5.out.setCell (a := ⟨XB, 0, none⟩) HBX.out (.int .i64 T.z)).setCell (a := ⟨XB, 1, none⟩) HBX.out (.slice T.A T.n T.c))
                            clear hHeld y0 y1 f0 f1 E5 M5 Z5 O5
                            refine hK.out _ _ ⟨(HE.out _ E6.out.below).c0 (.head _), (HE.out _ E6.out.below).c1 (.head _)⟩ (fun hHeld => ?_)
                            clear hK K
                            try simp only [Act.put, List.setIfInBounds_toArray, List.set_cons_zero, List.set_cons_succ]
                            generalize (u5.setCell ⟨XB, 0, none⟩ (.int .i64 T.z)).setCell ⟨XB, 1, none⟩ (.slice T.A T.n T.c) = u6 at *
                            refine wpAnyH_take (i := 16) (oi := { dst := some 16, op := Op.assign (Operand.tmp 106), type := 27, pos := "outright.go:99", after := #[{ on := 13, ground := Ground.data }, { on := 15, ground := Ground.chain }, { on := 0, ground := Ground.phase }, { on := 1, ground := Ground.phase }, { on := 2, ground := Ground.phase }, { on := 3, ground := Ground.phase }, { on := 4, ground := Ground.phase }, { on := 5, ground := Ground.phase }, { on := 6, ground := Ground.phase }, { on := 7, ground := Ground.phase }, { on := 8, ground := Ground.phase }, { on := 9, ground := Ground.phase }, { on := 10, ground := Ground.phase }, { on := 11, ground := Ground.phase }, { on := 12, ground := Ground.phase }, { on := 13, ground := Ground.phase }, { on := 14, ground := Ground.phase }, { on := 15, ground := Ground.phase }], guard := none }) (v := .int .i64 0) rfl (by kernel_rfl) (by kernel_rfl) (by kernel_rfl) (fun _ _ _ h => h) (Or.inl ⟨by kernel_rfl, fun w' hSw => by (try dsimp only at hSw); go_simp⟩) (by assumption) ?_
                            try simp only [Act.put, List.setIfInBounds_toArray, List.set_cons_zero, List.set_cons_succ]
                            refine wpAnyH_done (by kernel_rfl) ?_ _
                            refine NoPanic.normal ?_
                            clear hHeld
                            go_wp2_with fail
                            go_meet
                            exact ⟨T, XB, rfl, rfl, HT, E6, M6⟩
                          exact AllReadyH.nil
                        exact AllReadyH.nil
                      refine AllReadyH.cons (o := { dst := some 15, op := Op.alloc 24, type := 0, pos := "outright.go:99", after := #[], guard := none }) rfl (fun K hK => ?_) ?_
                      · skip
                        go_simp
                        have bb : Below u3.heap.size u3 (u3.alloc (.cells #[.int .i64 0, .slice none 0 0] 24)) := (Below.refl _ _).alloc (Nat.le_refl _) _
                        have E4 := Lib.hid (E3.out.on bb)
                        have M4 := Lib.hid (M3.out.kept (below_only bb none) (by simp))
                        have R4 := Lib.hid (R3.out.on bb)
                        have Z4 := Lib.hid (Zer.new E3.out)
                        have HBX : Hid (B ≠ u3.heap.size) := Nat.ne_of_lt M3.out.lt
                        clear hHeld bb E3 M3 R3
                        refine hK.out _ _ ⟨(HE.out _ E4.out.below).c0 (.head _), (HE.out _ E4.out.below).c1 (.head _)⟩ (fun hHeld => ?_)
                        clear hK K
                        try simp only [Act.put, List.setIfInBounds_toArray, List.set_cons_zero, List.set_cons_succ]
                        generalize u3.alloc (.cells #[.int .i64 0, .slice none 0 0] 24) = u4 at *
                        generalize u3.heap.size = XB at *
                        refine wpAnyH_ready (rs := [10]) (by kernel_rfl) (by simp) ?_
                        refine AllReadyH.cons (o := { dst := some 104, op := Op.call { callee := Callee.value (Operand.func 26), args := #[Operand.tmp 95, Operand.tmp 103], argTypes := #[3, 22] }, type := 28, pos := "outright.go:99", after := #[{ on := 1, ground := Ground.data }, { on := 9, ground := Ground.data }, { on := 9, ground := Ground.chain }], guard := none }) rfl (fun K hK => ?_) ?_
                        · skip
                          go_simp
                          refine (HOFB.out A5 c5 _ R4.out).mono ?_
                          rintro e u5 hx
                          obtain ⟨T, rfl, hz, he, okT, bb⟩ := gerr_gv hx
                          have E5 := Lib.hid (E4.out.on bb)
                          have M5 := Lib.hid (M4.out.kept (below_only bb none) (by simp))
                          have Z5 := Lib.hid (Z4.out.on bb)
                          have O5 := Lib.hid okT
                          have HT := Lib.hid (And.intro hz he)
                          clear hx hz he okT bb hHeld R4 E4 M4 Z4
                          refine hK.out _ _ ⟨(HE.out _ E5.out.below).c0 (.head _), (HE.out _ E5.out.below).c1 (.head _)⟩ (fun hHeld => ?_)
                          clear hK K
                          try simp only [Act.put, List.setIfInBounds_toArray, List.set_cons_zero, List.set_cons_succ]
                          refine wpAnyH_take (i := 11) (oi := { dst := some 93, op := Op.move (Operand.tmp 104), type := 28, pos := "outright.go:99", after := #[{ on := 10, ground := Ground.data }], guard := none }) (v := .tuple #[.agg #[.int .i64 T.z, .slice T.A T.n T.c], .int .i64 0]) rfl (by kernel_rfl) (by kernel_rfl) (by kernel_rfl) (fun _ _ _ h => h) (Or.inl ⟨by kernel_rfl, fun w' hSw => by (try dsimp only at hSw); go_simp⟩) (by assumption) ?_
                          try simp only [Act.put, List.setIfInBounds_toArray, List.set_cons_zero, List.set_cons_succ]
                          refine wpAnyH_take (i := 12) (oi := { dst := some 105, op := Op.extract (Operand.tmp 93) 0, type := 24, pos := "outright.go:99", after := #[{ on := 11, ground := Ground.data }], guard := none }) (v := .agg #[.int .i64 T.z, .slice T.A T.n T.c]) rfl (by kernel_rfl) (by kernel_rfl) (by kernel_rfl) (fun _ _ _ h => h) (Or.inl ⟨by kernel_rfl, fun w' hSw => by (try dsimp only at hSw); go_simp⟩) (by assumption) ?_
                          try simp only [Act.put, List.setIfInBounds_toArray, List.set_cons_zero, List.set_cons_succ]
                          refine wpAnyH_take (i := 13) (oi := { dst := some 106, op := Op.extract (Operand.tmp 93) 1, type := 27, pos := "outright.go:99", after := #[{ on := 11, ground := Ground.data }, { on := 15, ground := Ground.gcOnly Departure.lateStores }], guard := none }) (v := .int .i64 0) rfl (by kernel_rfl) (by kernel_rfl) (by kernel_rfl) (fun _ _ _ h => h) (Or.inl ⟨by kernel_rfl, fun w' hSw => by (try dsimp only at hSw); go_simp⟩) (by assumption) ?_
                          try simp only [Act.put, List.setIfInBounds_toArray, List.set_cons_zero, List.set_cons_succ]
                          refine wpAnyH_ready (rs := [15]) (by kernel_rfl) (by simp) ?_
                          refine AllReadyH.cons (o := { dst := none, op := Op.store 24 (Operand.tmp 15) (Operand.tmp 105), type := 0, pos := "outright.go:99", after := #[{ on := 14, ground := Ground.data }, { on := 12, ground := Ground.data }, { on := 10, ground := Ground.chain }, { on := 0, ground := Ground.phase }, { on := 1, ground := Ground.phase }, { on := 2, ground := Ground.phase }, { on := 3, ground := Ground.phase }, { on := 4, ground := Ground.phase }, { on := 5, ground := Ground.phase }, { on := 6, ground := Ground.phase }, { on := 7, ground := Ground.phase }, { on := 8, ground := Ground.phase }, { on := 9, ground := Ground.phase }, { on := 10, ground := Ground.phase }, { on := 11, ground := Ground.phase }, { on := 12, ground := Ground.phase }, { on := 13, ground := Ground.textOnly Departure.lateStores }, { on := 14, ground := Ground.phase }], guard := none }) rfl (fun K hK => ?_) ?_
                          · skip
                            have y0 := Z5.out.1.cell 0
                            have y1 := Z5.out.1.cell 1
                            have f0 := Z5.out.1.frozen 0
                            have f1 := Z5.out.1.frozen 1
                            go_simp
                            have E6 := Lib.hid (E5.out.put Z5.out O5.out)
                            have M6 := Lib.hid ((M5.out.setCell (a := ⟨XB, 0, none⟩) HBX.out (.int .i64 T.z)).setCell (a := ⟨XB, 1, none⟩) HBX.out (.slice T.A T.n T.c))
                            clear hHeld y0 y1 f0 f1 E5 M5 Z5 O5
                            refine hK.out _ _ ⟨(HE.out _ E6.out.below).c0 (.head _), (HE.out _ E6.out.below).c1 (.head _)⟩ (fun hHeld => ?_)
                            clear hK K
                            try simp only [Act.put, List.setIfInBounds_toArray, List.set_cons_zero, List.set_cons_succ]
                            generalize (u5.setCell ⟨XB, 0, none⟩ (.int .i64 T.z)).setCell ⟨XB, 1, none⟩ (.slice T.A T.n T.c) = u6 at *
                            refine wpAnyH_take (i := 16) (oi := { dst := some 16, op := Op.assign (Operand.tmp 106), type := 27, pos := "outright.go:99", after := #[{ on := 13, ground := Ground.data }, { on := 15, ground := Ground.chain }, { on := 0, ground := Ground.phase }, { on := 1, ground := Ground.phase }, { on := 2, ground := Ground.phase }, { on := 3, ground := Ground.phase }, { on := 4, ground := Ground.phase }, { on := 5, ground := Ground.phase }, { on := 6, ground := Ground.phase }, { on := 7, ground := Ground.phase }, { on := 8, ground := Ground.phase }, { on := 9, ground := Ground.phase }, { on := 10, ground := Ground.phase }, { on := 11, ground := Ground.phase }, { on := 12, ground := Ground.phase }, { on := 13, ground := Ground.phase }, { on := 14, ground := Ground.phase }, { on := 15, ground := Ground.phase }], guard := none }) (v := .int .i64 0) rfl (by kernel_rfl) (by kernel_rfl) (by kernel_rfl) (fun _ _ _ h => h) (Or.inl ⟨by kernel_rfl, fun w' hSw => by (try dsimp only at hSw); go_simp⟩) (by assumption) ?_
                            try simp only [Act.put, List.setIfInBounds_toArray, List.set_cons_zero, List.set_cons_succ]
                            refine wpAnyH_done (by kernel_rfl) ?_ _
                            refine NoPanic.normal ?_
                            clear hHeld
                            go_wp2_with fail
                            go_meet
                            exact ⟨T, XB, rfl, rfl, HT, E6, M6⟩
                          exact AllReadyH.nil
                        exact AllReadyH.nil
                      exact AllReadyH.nil
                    refine AllReadyH.cons (o := { dst := some 15, op := Op.alloc 24, type := 0, pos := "outright.go:99", after := #[], guard := none }) rfl (fun K hK => ?_) ?_
                    · skip
                      go_simp
                      have bb : Below u2.heap.size u2 (u2.alloc (.cells #[.int .i64 0, .slice none 0 0] 24)) := (Below.refl _ _).alloc (Nat.le_refl _) _
                      have TK3 := Lib.hid (TK2.out.on bb)
                      have SL3 := Lib.hid (SL2.out.on bb)
                      have Z3 := Lib.hid (Zer.new (EC.out.on TK2.out.below))
                      have HBX : Hid (B ≠ u2.heap.size) := Nat.ne_of_lt (Nat.lt_of_lt_of_le MC.out.lt TK2.out.below.size)
                      have HD : Hid (∀ kk, (Value.slice A4 g.n c4).ownBlock = some kk → kk ≠ u2.heap.size) := fun kk hk => Nat.ne_of_lt (TK2.out.own.lt kk hk).2
                      clear hHeld bb TK2 SL2
                      refine hK.out _ _ ⟨(HE.out _ (EC.out.below.trans (TK3.out.below.mono EC.out.below.size))).c0 (.head _), (HE.out _ (EC.out.below.trans (TK3.out.below.mono EC.out.below.size))).c1 (.head _)⟩ (fun hHeld => ?_)
                      clear hK K
                      try simp only [Act.put, List.setIfInBounds_toArray, List.set_cons_zero, List.set_cons_succ]
                      generalize u2.alloc (.cells #[.int .i64 0, .slice none 0 0] 24) = u3 at *
                      generalize u2.heap.size = XB at *
                      refine wpAnyH_ready (rs := [9]) (by kernel_rfl) (by simp) ?_
                      refine AllReadyH.cons (o := { dst := some 103, op := Op.call { callee := Callee.builtin Builtin.append, args := #[Operand.tmp 98, Operand.tmp 102], argTypes := #[22, 22] }, type := 22, pos := "outright.go:99", after := #[{ on := 4, ground := Ground.data }, { on := 8, ground := Ground.data }, { on := 4, ground := Ground.chain }], guard := none }) rfl (fun K hK => ?_) ?_
                      · skip
                        obtain ⟨i0, hi0, hz0, hz1, hz2⟩ := info_parts pair_info
                        refine step_append_any _ rfl (.tmp 98) (.tmp 102) 22 rfl u1.heap.size 34 i0 _ 3 24 Try.underlying22 hi0 hz0 hz1 hz2 rfl (by decide) (.slice A4 g.n c4) g.n _ rfl TK3.out.own _ (some ⟨XS, 0, none⟩) 1 _ (cellsE [((y : Int), (x : Int), (0 : Int))]) rfl SL3.out (cellsE_one _) (by unfold maxLen; omega) (by omega) TK3.out.below.size ?_
                        intro v5 u4 hown5 hgrow5 _
                        obtain ⟨A5, c5, rfl, h51, h52⟩ := own_form2 hown5
                        rw [← cellsE_append] at hown5
                        have bC : Below u1.heap.size u1 u4 := TK3.out.below.grown hgrow5 TK3.out.below.size (fun kk hk => (TK3.out.own.lt kk hk).1)
                        have E4 := Lib.hid (EC.out.on bC)
                        have M4 := Lib.hid (MC.out.kept (below_only bC none) (by simp))
                        have R4 := Lib.hid (reads_own hown5)
                        have Z4 : Hid (Zer w5 [(X1, T1)] XB u4) := ⟨Z3.out.1.grown hgrow5 (fun e => HD.out _ (by first | exact e | exact e.symm) rfl), Z3.out.2⟩
                        clear hown5 hgrow5 bC h51 h52 hHeld TK3 SL3 EC MC hi0 hz0 hz1 hz2 Z3 HD
                        refine hK.out _ _ ⟨(HE.out _ E4.out.below).c0 (.head _), (HE.out _ E4.out.below).c1 (.head _)⟩ (fun hHeld => ?_)
                        clear hK K
                        try simp only [Act.put, List.setIfInBounds_toArray, List.set_cons_zero, List.set_cons_succ]
                        refine wpAnyH_ready (rs := [10]) (by kernel_rfl) (by simp) ?_
                        refine AllReadyH.cons (o := { dst := some 104, op := Op.call { callee := Callee.value (Operand.func 26), args := #[Operand.tmp 95, Operand.tmp 103], argTypes := #[3, 22] }, type := 28, pos := "outright.go:99", after := #[{ on := 1, ground := Ground.data }, { on := 9, ground := Ground.data }, { on := 9, ground := Ground.chain }], guard := none }) rfl (fun K hK => ?_) ?_
                        · skip
                          go_simp
                          refine (HOFB.out A5 c5 _ R4.out).mono ?_
                          rintro e u5 hx
                          obtain ⟨T, rfl, hz, he, okT, bb⟩ := gerr_gv hx
                          have E5 := Lib.hid (E4.out.on bb)
                          have M5 := Lib.hid (M4.out.kept (below_only bb none) (by simp))
                          have Z5 := Lib.hid (Z4.out.on bb)
                          have O5 := Lib.hid okT
                          have HT := Lib.hid (And.intro hz he)
                          clear hx hz he okT bb hHeld R4 E4 M4 Z4
                          refine hK.out _ _ ⟨(HE.out _ E5.out.below).c0 (.head _), (HE.out _ E5.out.below).c1 (.head _)⟩ (fun hHeld => ?_)
                          clear hK K
                          try simp only [Act.put, List.setIfInBounds_toArray, List.set_cons_zero, List.set_cons_succ]
                          refine wpAnyH_take (i := 11) (oi := { dst := some 93, op := Op.move (Operand.tmp 104), type := 28, pos := "outright.go:99", after := #[{ on := 10, ground := Ground.data }], guard := none }) (v := .tuple #[.agg #[.int .i64 T.z, .slice T.A T.n T.c], .int .i64 0]) rfl (by kernel_rfl) (by kernel_rfl) (by kernel_rfl) (fun _ _ _ h => h) (Or.inl ⟨by kernel_rfl, fun w' hSw => by (try dsimp only at hSw); go_simp⟩) (by assumption) ?_
                          try simp only [Act.put, List.setIfInBounds_toArray, List.set_cons_zero, List.set_cons_succ]
                          refine wpAnyH_take (i := 12) (oi := { dst := some 105, op := Op.extract (Operand.tmp 93) 0, type := 24, pos := "outright.go:99", after := #[{ on := 11, ground := Ground.data }], guard := none }) (v := .agg #[.int .i64 T.z, .slice T.A T.n T.c]) rfl (by kernel_rfl) (by kernel_rfl) (by kernel_rfl) (fun _ _ _ h => h) (Or.inl ⟨by kernel_rfl, fun w' hSw => by (try dsimp only at hSw); go_simp⟩) (by assumption) ?_
                          try simp only [Act.put, List.setIfInBounds_toArray, List.set_cons_zero, List.set_cons_succ]
                          refine wpAnyH_take (i := 13) (oi := { dst := some 106, op := Op.extract (Operand.tmp 93) 1, type := 27, pos := "outright.go:99", after := #[{ on := 11, ground := Ground.data }, { on := 15, ground := Ground.gcOnly Departure.lateStores }], guard := none }) (v := .int .i64 0) rfl (by kernel_rfl) (by kernel_rfl) (by kernel_rfl) (fun _ _ _ h => h) (Or.inl ⟨by kernel_rfl, fun w' hSw => by (try dsimp only at hSw); go_simp⟩) (by assumption) ?_
                          try simp only [Act.put, List.setIfInBounds_toArray, List.set_cons_zero, List.set_cons_succ]
                          refine wpAnyH_ready (rs := [15]) (by kernel_rfl) (by simp) ?_
                          refine AllReadyH.cons (o := { dst := none, op := Op.store 24 (Operand.tmp 15) (Operand.tmp 105), type := 0, pos := "outright.go:99", after := #[{ on := 14, ground := Ground.data }, { on := 12, ground := Ground.data }, { on := 10, ground := Ground.chain }, { on := 0, ground := Ground.phase }, { on := 1, ground := Ground.phase }, { on := 2, ground := Ground.phase }, { on := 3, ground := Ground.phase }, { on := 4, ground := Ground.phase }, { on := 5, ground := Ground.phase }, { on := 6, ground := Ground.phase }, { on := 7, ground := Ground.phase }, { on := 8, ground := Ground.phase }, { on := 9, ground := Ground.phase }, { on := 10, ground := Ground.phase }, { on := 11, ground := Ground.phase }, { on := 12, ground := Ground.phase }, { on := 13, ground := Ground.textOnly Departure.lateStores }, { on := 14, ground := Ground.phase }], guard := none }) rfl (fun K hK => ?_) ?_
                          · skip
                            have y0 := Z5.out.1.cell 0
                            have y1 := Z5.out.1.cell 1
                            have f0 := Z5.out.1.frozen 0
                            have f1 := Z5.out.1.frozen 1
                            go_simp
                            have E6 := Lib.hid (E5.out.put Z5.out O5.out)
                            have M6 := Lib.hid ((M5.out.setCell (a := ⟨XB, 0, none⟩) HBX.out (.int .i64 T.z)).setCell (a := ⟨XB, 1, none⟩) HBX.out (.slice T.A T.n T.c))
                            clear hHeld y0 y1 f0 f1 E5 M5 Z5 O5
                            refine hK.out _ _ ⟨(HE.out _ E6.out.below).c0 (.head _), (HE.out _ E6.out.below).c1 (.head _)⟩ (fun hHeld => ?_)
                            clear hK K
                            try simp only [Act.put, List.setIfInBounds_toArray, List.set_cons_zero, List.set_cons_succ]
                            generalize (u5.setCell ⟨XB, 0, none⟩ (.int .i64 T.z)).setCell ⟨XB, 1, none⟩ (.slice T.A T.n T.c) = u6 at *
                            refine wpAnyH_take (i := 16) (oi := { dst := some 16, op := Op.assign (Operand.tmp 106), type := 27, pos := "outright.go:99", after := #[{ on := 13, ground := Ground.data }, { on := 15, ground := Ground.chain }, { on := 0, ground := Ground.phase }, { on := 1, ground := Ground.phase }, { on := 2, ground := Ground.phase }, { on := 3, ground := Ground.phase }, { on := 4, ground := Ground.phase }, { on := 5, ground := Ground.phase }, { on := 6, ground := Ground.phase }, { on := 7, ground := Ground.phase }, { on := 8, ground := Ground.phase }, { on := 9, ground := Ground.phase }, { on := 10, ground := Ground.phase }, { on := 11, ground := Ground.phase }, { on := 12, ground := Ground.phase }, { on := 13, ground := Ground.phase }, { on := 14, ground := Ground.phase }, { on := 15, ground := Ground.phase }], guard := none }) (v := .int .i64 0) rfl (by kernel_rfl) (by kernel_rfl) (by kernel_rfl) (fun _ _ _ h => h) (Or.inl ⟨by kernel_rfl, fun w' hSw => by (try dsimp only at hSw); go_simp⟩) (by assumption) ?_
                            try simp only [Act.put, List.setIfInBounds_toArray, List.set_cons_zero, List.set_cons_succ]
                            refine wpAnyH_done (by kernel_rfl) ?_ _
                            refine NoPanic.normal ?_
                            clear hHeld
                            go_wp2_with fail
                            go_meet
                            exact ⟨T, XB, rfl, rfl, HT, E6, M6⟩
                          exact AllReadyH.nil
                        exact AllReadyH.nil
                      exact AllReadyH.nil
                    exact AllReadyH.nil
                  refine AllReadyH.cons (o := { dst := some 15, op := Op.alloc 24, type := 0, pos := "outright.go:99", after := #[], guard := none }) rfl (fun K hK => ?_) ?_
                  · skip
                    go_simp
                    have bb : Below u1.heap.size u1 (u1.alloc (.cells #[.int .i64 0, .slice none 0 0] 24)) := (Below.refl _ _).alloc (Nat.le_refl _) _
                    have E2 := Lib.hid (E1.out.on bb)
                    have M2 := Lib.hid (M1.out.kept (below_only bb none) (by simp))
                    have SL2 := Lib.hid (SL1.out.on bb)
                    have Z2 := Lib.hid (Zer.new E1.out)
                    have HBX : Hid (B ≠ u1.heap.size) := Nat.ne_of_lt M1.out.lt
                    clear hHeld bb E1 M1 SL1
                    refine hK.out _ _ ⟨(HE.out _ E2.out.below).c0 (.head _), (HE.out _ E2.out.below).c1 (.head _)⟩ (fun hHeld => ?_)
                    clear hK K
                    try simp only [Act.put, List.setIfInBounds_toArray, List.set_cons_zero, List.set_cons_succ]
                    generalize u1.alloc (.cells #[.int .i64 0, .slice none 0 0] 24) = u2 at *
                    generalize u1.heap.size = XB at *
                    refine wpAnyH_ready (rs := [4]) (by kernel_rfl) (by simp) ?_
                    refine AllReadyH.cons (o := { dst := some 98, op := Op.call { callee := Callee.value (Operand.func 27), args := #[Operand.tmp 97], argTypes := #[22] }, type := 22, pos := "outright.go:99", after := #[{ on := 3, ground := Ground.data }], guard := none }) rfl (fun K hK => ?_) ?_
                    · skip
                      go_simp
                      have okc := (HE.out _ E2.out.below).ok (.head _)
                      refine (clone_any g.A g.n g.c g.es (by omega) okc.2.2.2 okc.2.1 _ okc.1).mono ?_
                      rintro e u3 ⟨A4, c4, rfl, ho, h1, h2, bb⟩
                      have SL3 := Lib.hid (SL2.out.on bb)
                      have Z3 := Lib.hid (Z2.out.on bb)
                      have TK3 := Lib.hid (Taken.mk ho bb)
                      have EC := E2
                      have MC := M2
                      have HD : Hid (∀ kk, (Value.slice A4 g.n c4).ownBlock = some kk → kk ≠ XB) := fun kk hk => Nat.ne_of_gt (Nat.lt_of_lt_of_le Z2.out.1.lt (ho.lt kk hk).1)
                      clear hHeld okc ho h1 h2 bb E2 M2 SL2 Z2
                      refine hK.out _ _ ⟨(HE.out _ (EC.out.below.trans (TK3.out.below.mono EC.out.below.size))).c0 (.head _), (HE.out _ (EC.out.below.trans (TK3.out.below.mono EC.out.below.size))).c1 (.head _)⟩ (fun hHeld => ?_)
                      clear hK K
                      try simp only [Act.put, List.setIfInBounds_toArray, List.set_cons_zero, List.set_cons_succ]
                      refine wpAnyH_ready (rs := [9]) (by kernel_rfl) (by simp) ?_
                      refine AllReadyH.cons (o := { dst := some 103, op := Op.call { callee := Callee.builtin Builtin.append, args := #[Operand.tmp 98, Operand.tmp 102], argTypes := #[22, 22] }, type := 22, pos := "outright.go:99", after := #[{ on := 4, ground := Ground.data }, { on := 8, ground := Ground.data }, { on := 4, ground := Ground.chain }], guard := none }) rfl (fun K hK => ?_) ?_
                      · skip
                        obtain ⟨i0, hi0, hz0, hz1, hz2⟩ := info_parts pair_info
                        refine step_append_any _ rfl (.tmp 98) (.tmp 102) 22 rfl u2.heap.size 34 i0 _ 3 24 Try.underlying22 hi0 hz0 hz1 hz2 rfl (by decide) (.slice A4 g.n c4) g.n _ rfl TK3.out.own _ (some ⟨XS, 0, none⟩) 1 _ (cellsE [((y : Int), (x : Int), (0 : Int))]) rfl SL3.out (cellsE_one _) (by unfold maxLen; omega) (by omega) TK3.out.below.size ?_
                        intro v5 u4 hown5 hgrow5 _
                        obtain ⟨A5, c5, rfl, h51, h52⟩ := own_form2 hown5
                        rw [← cellsE_append] at hown5
                        have bC : Below u2.heap.size u2 u4 := TK3.out.below.grown hgrow5 TK3.out.below.size (fun kk hk => (TK3.out.own.lt kk hk).1)
                        have E4 := Lib.hid (EC.out.on bC)
                        have M4 := Lib.hid (MC.out.kept (below_only bC none) (by simp))
                        have R4 := Lib.hid (reads_own hown5)
                        have Z4 : Hid (Zer w5 [(X1, T1)] XB u4) := ⟨Z3.out.1.grown hgrow5 (fun e => HD.out _ (by first | exact e | exact e.symm) rfl), Z3.out.2⟩
                        clear hown5 hgrow5 bC h51 h52 hHeld TK3 SL3 EC MC hi0 hz0 hz1 hz2 Z3 HD
                        refine hK.out _ _ ⟨(HE.out _ E4.out.below).c0 (.head _), (HE.out _ E4.out.below).c1 (.head _)⟩ (fun hHeld => ?_)
                        clear hK K
                        try simp only [Act.put, List.setIfInBounds_toArray, List.set_cons_zero, List.set_cons_succ]
                        refine wpAnyH_ready (rs := [10]) (by kernel_rfl) (by simp) ?_
                        refine AllReadyH.cons (o := { dst := some 104, op := Op.call { callee := Callee.value (Operand.func 26), args := #[Operand.tmp 95, Operand.tmp 103], argTypes := #[3, 22] }, type := 28, pos := "outright.go:99", after := #[{ on := 1, ground := Ground.data }, { on := 9, ground := Ground.data }, { on := 9, ground := Ground.chain }], guard := none }) rfl (fun K hK => ?_) ?_
                        · skip
                          go_simp
                          refine (HOFB.out A5 c5 _ R4.out).mono ?_
                          rintro e u5 hx
                          obtain ⟨T, rfl, hz, he, okT, bb⟩ := gerr_gv hx
                          have E5 := Lib.hid (E4.out.on bb)
                          have M5 := Lib.hid (M4.out.kept (below_only bb none) (by simp))
                          have Z5 := Lib.hid (Z4.out.on bb)
                          have O5 := Lib.hid okT
                          have HT := Lib.hid (And.intro hz he)
                          clear hx hz he okT bb hHeld R4 E4 M4 Z4
                          refine hK.out _ _ ⟨(HE.out _ E5.out.below).c0 (.head _), (HE.out _ E5.out.below).c1 (.head _)⟩ (fun hHeld => ?_)
                          clear hK K
                          try simp only [Act.put, List.setIfInBounds_toArray, List.set_cons_zero, List.set_cons_succ]
                          refine wpAnyH_take (i := 11) (oi := { dst := some 93, op := Op.move (Operand.tmp 104), type := 28, pos := "outright.go:99", after := #[{ on := 10, ground := Ground.data }], guard := none }) (v := .tuple #[.agg #[.int .i64 T.z, .slice T.A T.n T.c], .int .i64 0]) rfl (by kernel_rfl) (by kernel_rfl) (by kernel_rfl) (fun _ _ _ h => h) (Or.inl ⟨by kernel_rfl, fun w' hSw => by (try dsimp only at hSw); go_simp⟩) (by assumption) ?_
                          try simp only [Act.put, List.setIfInBounds_toArray, List.set_cons_zero, List.set_cons_succ]
                          refine wpAnyH_take (i := 12) (oi := { dst := some 105, op := Op.extract (Operand.tmp 93) 0, type := 24, pos := "outright.go:99", after := #[{ on := 11, ground := Ground.data }], guard := none }) (v := .agg #[.int .i64 T.z, .slice T.A T.n T.c]) rfl (by kernel_rfl) (by kernel_rfl) (by kernel_rfl) (fun _ _ _ h => h) (Or.inl ⟨by kernel_rfl, fun w' hSw => by (try dsimp only at hSw); go_simp⟩) (by assumption) ?_
                          try simp only [Act.put, List.setIfInBounds_toArray, List.set_cons_zero, List.set_cons_succ]
                          refine wpAnyH_take (i := 13) (oi := { dst := some 106, op := Op.extract (Operand.tmp 93) 1, type := 27, pos := "outright.go:99", after := #[{ on := 11, ground := Ground.data }, { on := 15, ground := Ground.gcOnly Departure.lateStores }], guard := none }) (v := .int .i64 0) rfl (by kernel_rfl) (by kernel_rfl) (by kernel_rfl) (fun _ _ _ h => h) (Or.inl ⟨by kernel_rfl, fun w' hSw => by (try dsimp only at hSw); go_simp⟩) (by assumption) ?_
                          try simp only [Act.put, List.setIfInBounds_toArray, List.set_cons_zero, List.set_cons_succ]
                          refine wpAnyH_ready (rs := [15]) (by kernel_rfl) (by simp) ?_
                          refine AllReadyH.cons (o := { dst := none, op := Op.store 24 (Operand.tmp 15) (Operand.tmp 105), type := 0, pos := "outright.go:99", after := #[{ on := 14, ground := Ground.data }, { on := 12, ground := Ground.data }, { on := 10, ground := Ground.chain }, { on := 0, ground := Ground.phase }, { on := 1, ground := Ground.phase }, { on := 2, ground := Ground.phase }, { on := 3, ground := Ground.phase }, { on := 4, ground := Ground.phase }, { on := 5, ground := Ground.phase }, { on := 6, ground := Ground.phase }, { on := 7, ground := Ground.phase }, { on := 8, ground := Ground.phase }, { on := 9, ground := Ground.phase }, { on := 10, ground := Ground.phase }, { on := 11, ground := Ground.phase }, { on := 12, ground := Ground.phase }, { on := 13, ground := Ground.textOnly Departure.lateStores }, { on := 14, ground := Ground.phase }], guard := none }) rfl (fun K hK => ?_) ?_
                          · skip
                            have y0 := Z5.out.1.cell 0
                            have y1 := Z5.out.1.cell 1
                            have f0 := Z5.out.1.frozen 0
                            have f1 := Z5.out.1.frozen 1
                            go_simp
                            have E6 := Lib.hid (E5.out.put Z5.out O5.out)
                            have M6 := Lib.hid ((M5.out.setCell (a := ⟨XB, 0, none⟩) HBX.out (.int .i64 T.z)).setCell (a := ⟨XB, 1, none⟩) HBX.out (.slice T.A T.n T.c))
                            clear hHeld y0 y1 f0 f1 E5 M5 Z5 O5
                            refine hK.out _ _ ⟨(HE.out _ E6.out.below).c0 (.head _), (HE.out _ E6.out.below).c1 (.head _)⟩ (fun hHeld => ?_)
                            clear hK K
                            try simp only [Act.put, List.setIfInBounds_toArray, List.set_cons_zero, List.set_cons_succ]
                            generalize (u5.setCell ⟨XB, 0, none⟩ (.int .i64 T.z)).setCell ⟨XB, 1, none⟩ (.slice T.A T.n T.c) = u6 at *
                            refine wpAnyH_take (i := 16) (oi := { dst := some 16, op := Op.assign (Operand.tmp 106), type := 27, pos := "outright.go:99", after := #[{ on := 13, ground := Ground.data }, { on := 15, ground := Ground.chain }, { on := 0, ground := Ground.phase }, { on := 1, ground := Ground.phase }, { on := 2, ground := Ground.phase }, { on := 3, ground := Ground.phase }, { on := 4, ground := Ground.phase }, { on := 5, ground := Ground.phase }, { on := 6, ground := Ground.phase }, { on := 7, ground := Ground.phase }, { on := 8, ground := Ground.phase }, { on := 9, ground := Ground.phase }, { on := 10, ground := Ground.phase }, { on := 11, ground := Ground.phase }, { on := 12, ground := Ground.phase }, { on := 13, ground := Ground.phase }, { on := 14, ground := Ground.phase }, { on := 15, ground := Ground.phase }], guard := none }) (v := .int .i64 0) rfl (by kernel_rfl) (by kernel_rfl) (by kernel_rfl) (fun _ _ _ h => h) (Or.inl ⟨by kernel_rfl, fun w' hSw => by (try dsimp only at hSw); go_simp⟩) (by assumption) ?_
                            try simp only [Act.put, List.setIfInBounds_toArray, List.set_cons_zero, List.set_cons_succ]
                            refine wpAnyH_done (by kernel_rfl) ?_ _
                            refine NoPanic.normal ?_
                            clear hHeld
                            go_wp2_with fail
                            go_meet
                            exact ⟨T, XB, rfl, rfl, HT, E6, M6⟩
                          exact AllReadyH.nil
                        exact AllReadyH.nil
                      exact AllReadyH.nil
                    exact AllReadyH.nil
                  exact AllReadyH.nil
                refine AllReadyH.cons (o := { dst := some 15, op := Op.alloc 24, type := 0, pos := "outright.go:99", after := #[], guard := none }) rfl (fun K hK => ?_) ?_
                · skip
                  go_simp
                  have bb : Below wd.heap.size wd (wd.alloc (.cells #[.int .i64 0, .slice none 0 0] 24)) := (Below.refl _ _).alloc (Nat.le_refl _) _
                  have E1 := Lib.hid (E0.out.on bb)
                  have M1 := Lib.hid (M0.out.kept (below_only bb none) (by simp))
                  have Z1 := Lib.hid (Zer.new E0.out)
                  have HBX : Hid (B ≠ wd.heap.size) := Nat.ne_of_lt M0.out.lt
                  clear hHeld bb E0 M0
                  refine hK.out _ _ ⟨(HE.out _ E1.out.below).c0 (.head _), (HE.out _ E1.out.below).c1 (.head _)⟩ (fun hHeld => ?_)
                  clear hK K
                  try simp only [Act.put, List.setIfInBounds_toArray, List.set_cons_zero, List.set_cons_succ]
                  generalize wd.alloc (.cells #[.int .i64 0, .slice none 0 0] 24) = u1 at *
                  generalize wd.heap.size = XB at *
                  refine wpAnyH_ready (rs := [4, 8]) (by kernel_rfl) (by simp) ?_
                  refine AllReadyH.cons (o := { dst := some 98, op := Op.call { callee := Callee.value (Operand.func 27), args := #[Operand.tmp 97], argTypes := #[22] }, type := 22, pos := "outright.go:99", after := #[{ on := 3, ground := Ground.data }], guard := none }) rfl (fun K hK => ?_) ?_
                  · skip
                    go_simp
                    have okc := (HE.out _ E1.out.below).ok (.head _)
                    refine (clone_any g.A g.n g.c g.es (by omega) okc.2.2.2 okc.2.1 _ okc.1).mono ?_
                    rintro e u2 ⟨A4, c4, rfl, ho, h1, h2, bb⟩
                    have Z2 := Lib.hid (Z1.out.on bb)
                    have TK2 := Lib.hid (Taken.mk ho bb)
                    have EC := E1
                    have MC := M1
                    have HD : Hid (∀ kk, (Value.slice A4 g.n c4).ownBlock = some kk → kk ≠ XB) := fun kk hk => Nat.ne_of_gt (Nat.lt_of_lt_of_le Z1.out.1.lt (ho.lt kk hk).1)
                    clear hHeld okc ho h1 h2 bb E1 M1 Z1
                    refine hK.out _ _ ⟨(HE.out _ (EC.out.below.trans (TK2.out.below.mono EC.out.below.size))).c0 (.head _), (HE.out _ (EC.out.below.trans (TK2.out.below.mono EC.out.below.size))).c1 (.head _)⟩ (fun hHeld => ?_)
                    clear hK K
                    try simp only [Act.put, List.setIfInBounds_toArray, List.set_cons_zero, List.set_cons_succ]
                    refine wpAnyH_ready (rs := [8]) (by kernel_rfl) (by simp) ?_
                    refine AllReadyH.cons (o := { dst := some 102, op := Op.buildSlice 22 1 #[(0, Operand.tmp 101)], type := 22, pos := "outright.go:99", after := #[{ on := 7, ground := Ground.data }], guard := none }) rfl (fun K hK => ?_) ?_
                    · skip
                      go_simp
                      have bb : Below u2.heap.size u2 (u2.alloc (.cells #[.int .i64 (y : Int), .int .i64 (x : Int), .int .i64 0] 34)) := (Below.refl _ _).alloc (Nat.le_refl _) _
                      have TK3 := Lib.hid (TK2.out.on bb)
                      have Z3 := Lib.hid (Z2.out.on bb)
                      have SL3 : Hid (Reads (u2.alloc (.cells #[.int .i64 (y : Int), .int .i64 (x : Int), .int .i64 0] 34)) _ 3 (some ⟨u2.heap.size, 0, none⟩) 1 (cellsE [((y : Int), (x : Int), (0 : Int))])) := slice_new u2 ((y : Int), (x : Int), (0 : Int))
                      clear hHeld bb TK2 Z2
                      refine hK.out _ _ ⟨(HE.out _ (EC.out.below.trans (TK3.out.below.mono EC.out.below.size))).c0 (.head _), (HE.out _ (EC.out.below.trans (TK3.out.below.mono EC.out.below.size))).c1 (.head _)⟩ (fun hHeld => ?_)
                      clear hK K
                      try simp only [Act.put, List.setIfInBounds_toArray, List.set_cons_zero, List.set_cons_succ]
                      generalize u2.alloc (.cells #[.int .i64 (y : Int), .int .i64 (x : Int), .int .i64 0] 34) = u3 at *
                      generalize u2.heap.size = XS at *
                      refine wpAnyH_ready (rs := [9]) (by kernel_rfl) (by simp) ?_
                      refine AllReadyH.cons (o := { dst := some 103, op := Op.call { callee := Callee.builtin Builtin.append, args := #[Operand.tmp 98, Operand.tmp 102], argTypes := #[22, 22] }, type := 22, pos := "outright.go:99", after := #[{ on := 4, ground := Ground.data }, { on := 8, ground := Ground.data }, { on := 4, ground := Ground.chain }], guard := none }) rfl (fun K hK => ?_) ?_
                      · skip
                        obtain ⟨i0, hi0, hz0, hz1, hz2⟩ := info_parts pair_info
                        refine step_append_any _ rfl (.tmp 98) (.tmp 102) 22 rfl u1.heap.size 34 i0 _ 3 24 Try.underlying22 hi0 hz0 hz1 hz2 rfl (by decide) (.slice A4 g.n c4) g.n _ rfl TK3.out.own _ (some ⟨XS, 0, none⟩) 1 _ (cellsE [((y : Int), (x : Int), (0 : Int))]) rfl SL3.out (cellsE_one _) (by unfold maxLen; omega) (by omega) TK3.out.below.size ?_
                        intro v5 u4 hown5 hgrow5 _
                        obtain ⟨A5, c5, rfl, h51, h52⟩ := own_form2 hown5
                        rw [← cellsE_append] at hown5
                        have bC : Below u1.heap.size u1 u4 := TK3.out.below.grown hgrow5 TK3.out.below.size (fun kk hk => (TK3.out.own.lt kk hk).1)
                        have E4 := Lib.hid (EC.out.on bC)
                        have M4 := Lib.hid (MC.out.kept (below_only bC none) (by simp))
                        have R4 := Lib.hid (reads_own hown5)
                        have Z4 : Hid (Zer w5 [(X1, T1)] XB u4) := ⟨Z3.out.1.grown hgrow5 (fun e => HD.out _ (by first | exact e | exact e.symm) rfl), Z3.out.2⟩
                        clear hown5 hgrow5 bC h51 h52 hHeld TK3 SL3 EC MC hi0 hz0 hz1 hz2 Z3 HD
                        refine hK.out _ _ ⟨(HE.out _ E4.out.below).c0 (.head _), (HE.out _ E4.out.below).c1 (.head _)⟩ (fun hHeld => ?_)
                        clear hK K
                        try simp only [Act.put, List.setIfInBounds_toArray, List.set_cons_zero, List.set_cons_succ]
                        refine wpAnyH_ready (rs := [10]) (by kernel_rfl) (by simp) ?_
                        refine AllReadyH.cons (o := { dst := some 104, op := Op.call { callee := Callee.value (Operand.func 26), args := #[Operand.tmp 95, Operand.tmp 103], argTypes := #[3, 22] }, type := 28, pos := "outright.go:99", after := #[{ on := 1, ground := Ground.data }, { on := 9, ground := Ground.data }, { on := 9, ground := Ground.chain }], guard := none }) rfl (fun K hK => ?_) ?_
                        · skip
                          go_simp
                          refine (HOFB.out A5 c5 _ R4.out).mono ?_
                          rintro e u5 hx
                          obtain ⟨T, rfl, hz, he, okT, bb⟩ := gerr_gv hx
                          have E5 := Lib.hid (E4.out.on bb)
                          have M5 := Lib.hid (M4.out.kept (below_only bb none) (by simp))
                          have Z5 := Lib.hid (Z4.out.on bb)
                          have O5 := Lib.hid okT
                          have HT := Lib.hid (And.intro hz he)
                          clear hx hz he okT bb hHeld R4 E4 M4 Z4
                          refine hK.out _ _ ⟨(HE.out _ E5.out.below).c0 (.head _), (HE.out _ E5.out.below).c1 (.head _)⟩ (fun hHeld => ?_)
                          clear hK K
                          try simp only [Act.put, List.setIfInBounds_toArray, List.set_cons_zero, List.set_cons_succ]
                          refine wpAnyH_take (i := 11) (oi := { dst := some 93, op := Op.move (Operand.tmp 104), type := 28, pos := "outright.go:99", after := #[{ on := 10, ground := Ground.data }], guard := none }) (v := .tuple #[.agg #[.int .i64 T.z, .slice T.A T.n T.c], .int .i64 0]) rfl (by kernel_rfl) (by kernel_rfl) (by kernel_rfl) (fun _ _ _ h => h) (Or.inl ⟨by kernel_rfl, fun w' hSw => by (try dsimp only at hSw); go_simp⟩) (by assumption) ?_
                          try simp only [Act.put, List.setIfInBounds_toArray, List.set_cons_zero, List.set_cons_succ]
                          refine wpAnyH_take (i := 12) (oi := { dst := some 105, op := Op.extract (Operand.tmp 93) 0, type := 24, pos := "outright.go:99", after := #[{ on := 11, ground := Ground.data }], guard := none }) (v := .agg #[.int .i64 T.z, .slice T.A T.n T.c]) rfl (by kernel_rfl) (by kernel_rfl) (by kernel_rfl) (fun _ _ _ h => h) (Or.inl ⟨by kernel_rfl, fun w' hSw => by (try dsimp only at hSw); go_simp⟩) (by assumption) ?_
                          try simp only [Act.put, List.setIfInBounds_toArray, List.set_cons_zero, List.set_cons_succ]
                          refine wpAnyH_take (i := 13) (oi := { dst := some 106, op := Op.extract (Operand.tmp 93) 1, type := 27, pos := "outright.go:99", after := #[{ on := 11, ground := Ground.data }, { on := 15, ground := Ground.gcOnly Departure.lateStores }], guard := none }) (v := .int .i64 0) rfl (by kernel_rfl) (by kernel_rfl) (by kernel_rfl) (fun _ _ _ h => h) (Or.inl ⟨by kernel_rfl, fun w' hSw => by (try dsimp only at hSw); go_simp⟩) (by assumption) ?_
                          try simp only [Act.put, List.setIfInBounds_toArray, List.set_cons_zero, List.set_cons_succ]
                          refine wpAnyH_ready (rs := [15]) (by kernel_rfl) (by simp) ?_
                          refine AllReadyH.cons (o := { dst := none, op := Op.store 24 (Operand.tmp 15) (Operand.tmp 105), type := 0, pos := "outright.go:99", after := #[{ on := 14, ground := Ground.data }, { on := 12, ground := Ground.data }, { on := 10, ground := Ground.chain }, { on := 0, ground := Ground.phase }, { on := 1, ground := Ground.phase }, { on := 2, ground := Ground.phase }, { on := 3, ground := Ground.phase }, { on := 4, ground := Ground.phase }, { on := 5, ground := Ground.phase }, { on := 6, ground := Ground.phase }, { on := 7, ground := Ground.phase }, { on := 8, ground := Ground.phase }, { on := 9, ground := Ground.phase }, { on := 10, ground := Ground.phase }, { on := 11, ground := Ground.phase }, { on := 12, ground := Ground.phase }, { on := 13, ground := Ground.textOnly Departure.lateStores }, { on := 14, ground := Ground.phase }], guard := none }) rfl (fun K hK => ?_) ?_
                          · skip
                            have y0 := Z5.out.1.cell 0
                            have y1 := Z5.out.1.cell 1
                            have f0 := Z5.out.1.frozen 0
                            have f1 := Z5.out.1.frozen 1
                            go_simp
                            have E6 := Lib.hid (E5.out.put Z5.out O5.out)
                            have M6 := Lib.hid ((M5.out.setCell (a := ⟨XB, 0, none⟩) HBX.out (.int .i64 T.z)).setCell (a := ⟨XB, 1, none⟩) HBX.out (.slice T.A T.n T.c))
                            clear hHeld y0 y1 f0 f1 E5 M5 Z5 O5
                            refine hK.out _ _ ⟨(HE.out _ E6.out.below).c0 (.head _), (HE.out _ E6.out.below).c1 (.head _)⟩ (fun hHeld => ?_)
                            clear hK K
                            try simp only [Act.put, List.setIfInBounds_toArray, List.set_cons_zero, List.set_cons_succ]
                            generalize (u5.setCell ⟨XB, 0, none⟩ (.int .i64 T.z)).setCell ⟨XB, 1, none⟩ (.slice T.A T.n T.c) = u6 at *
                            refine wpAnyH_take (i := 16) (oi := { dst := some 16, op := Op.assign (Operand.tmp 106), type := 27, pos := "outright.go:99", after := #[{ on := 13, ground := Ground.data }, { on := 15, ground := Ground.chain }, { on := 0, ground := Ground.phase }, { on := 1, ground := Ground.phase }, { on := 2, ground := Ground.phase }, { on := 3, ground := Ground.phase }, { on := 4, ground := Ground.phase }, { on := 5, ground := Ground.phase }, { on := 6, ground := Ground.phase }, { on := 7, ground := Ground.phase }, { on := 8, ground := Ground.phase }, { on := 9, ground := Ground.phase }, { on := 10, ground := Ground.phase }, { on := 11, ground := Ground.phase }, { on := 12, ground := Ground.phase }, { on := 13, ground := Ground.phase }, { on := 14, ground := Ground.phase }, { on := 15, ground := Ground.phase }], guard := none }) (v := .int .i64 0) rfl (by kernel_rfl) (by kernel_rfl) (by kernel_rfl) (fun _ _ _ h => h) (Or.inl ⟨by kernel_rfl, fun w' hSw => by (try dsimp only at hSw); go_simp⟩) (by assumption) ?_
                            try simp only [Act.put, List.setIfInBounds_toArray, List.set_cons_zero, List.set_cons_succ]
                            refine wpAnyH_done (by kernel_rfl) ?_ _
                            refine NoPanic.normal ?_
                            clear hHeld
                            go_wp2_with fail
                            go_meet
                            exact ⟨T, XB, rfl, rfl, HT, E6, M6⟩
                          exact AllReadyH.nil
                        exact AllReadyH.nil
                      exact AllReadyH.nil
                    exact AllReadyH.nil
                  refine AllReadyH.cons (o := { dst := some 102, op := Op.buildSlice 22 1 #[(0, Operand.tmp 101)], type := 22, pos := "outright.go:99", after := #[{ on := 7, ground := Ground.data }], guard := none }) rfl (fun K hK => ?_) ?_
                  · skip
                    go_simp
                    have bb : Below u1.heap.size u1 (u1.alloc (.cells #[.int .i64 (y : Int), .int .i64 (x : Int), .int .i64 0] 34)) := (Below.refl _ _).alloc (Nat.le_refl _) _
                    have E2 := Lib.hid (E1.out.on bb)
                    have M2 := Lib.hid (M1.out.kept (below_only bb none) (by simp))
                    have Z2 := Lib.hid (Z1.out.on bb)
                    have SL2 : Hid (Reads (u1.alloc (.cells #[.int .i64 (y : Int), .int .i64 (x : Int), .int .i64 0] 34)) _ 3 (some ⟨u1.heap.size, 0, none⟩) 1 (cellsE [((y : Int), (x : Int), (0 : Int))])) := slice_new u1 ((y : Int), (x : Int), (0 : Int))
                    clear hHeld bb E1 M1 Z1
                    refine hK.out _ _ ⟨(HE.out _ E2.out.below).c0 (.head _), (HE.out _ E2.out.below).c1 (.head _)⟩ (fun hHeld => ?_)
                    clear hK K
                    try simp only [Act.put, List.setIfInBounds_toArray, List.set_cons_zero, List.set_cons_succ]
                    generalize u1.alloc (.cells #[.int .i64 (y : Int), .int .i64 (x : Int), .int .i64 0] 34) = u2 at *
                    generalize u1.heap.size = XS at *
                    refine wpAnyH_ready (rs := [4]) (by kernel_rfl) (by simp) ?_
                    refine AllReadyH.cons (o := { dst := some 98, op := Op.call { callee := Callee.value (Operand.func 27), args := #[Operand.tmp 97], argTypes := #[22] }, type := 22, pos := "outright.go:99", after := #[{ on := 3, ground := Ground.data }], guard := none }) rfl (fun K hK => ?_) ?_
                    · skip
                      go_simp
                      have okc := (HE.out _ E2.out.below).ok (.head _)
                      refine (clone_any g.A g.n g.c g.es (by omega) okc.2.2.2 okc.2.1 _ okc.1).mono ?_
                      rintro e u3 ⟨A4, c4, rfl, ho, h1, h2, bb⟩
                      have SL3 := Lib.hid (SL2.out.on bb)
                      have Z3 := Lib.hid (Z2.out.on bb)
                      have TK3 := Lib.hid (Taken.mk ho bb)
                      have EC := E2
                      have MC := M2
                      have HD : Hid (∀ kk, (Value.slice A4 g.n c4).ownBlock = some kk → kk ≠ XB) := fun kk hk => Nat.ne_of_gt (Nat.lt_of_lt_of_le Z2.out.1.lt (ho.lt kk hk).1)
                      clear hHeld okc ho h1 h2 bb E2 M2 SL2 Z2
                      refine hK.out _ _ ⟨(HE.out _ (EC.out.below.trans (TK3.out.below.mono EC.out.below.size))).c0 (.head _), (HE.out _ (EC.out.below.trans (TK3.out.below.mono EC.out.below.size))).c1 (.head _)⟩ (fun hHeld => ?_)
                      clear hK K
                      try simp only [Act.put, List.setIfInBounds_toArray, List.set_cons_zero, List.set_cons_succ]
                      refine wpAnyH_ready (rs := [9]) (by kernel_rfl) (by simp) ?_
                      refine AllReadyH.cons (o := { dst := some 103, op := Op.call { callee := Callee.builtin Builtin.append, args := #[Operand.tmp 98, Operand.tmp 102], argTypes := #[22, 22] }, type := 22, pos := "outright.go:99", after := #[{ on := 4, ground := Ground.data }, { on := 8, ground := Ground.data }, { on := 4, ground := Ground.chain }], guard := none }) rfl (fun K hK => ?_) ?_
                      · skip
                        obtain ⟨i0, hi0, hz0, hz1, hz2⟩ := info_parts pair_info
                        refine step_append_any _ rfl (.tmp 98) (.tmp 102) 22 rfl u2.heap.size 34 i0 _ 3 24 Try.underlying22 hi0 hz0 hz1 hz2 rfl (by decide) (.slice A4 g.n c4) g.n _ rfl TK3.out.own _ (some ⟨XS, 0, none⟩) 1 _ (cellsE [((y : Int), (x : Int), (0 : Int))]) rfl SL3.out (cellsE_one _) (by unfold maxLen; omega) (by omega) TK3.out.below.size ?_
                        intro v5 u4 hown5 hgrow5 _
                        obtain ⟨A5, c5, rfl, h51, h52⟩ := own_form2 hown5
                        rw [← cellsE_append] at hown5
                        have bC : Below u2.heap.size u2 u4 := TK3.out.below.grown hgrow5 TK3.out.below.size (fun kk hk => (TK3.out.own.lt kk hk).1)
                        have E4 := Lib.hid (EC.out.on bC)
                        have M4 := Lib.hid (MC.out.kept (below_only bC none) (by simp))
                        have R4 := Lib.hid (reads_own hown5)
                        have Z4 : Hid (Zer w5 [(X1, T1)] XB u4) := ⟨Z3.out.1.grown hgrow5 (fun e => HD.out _ (by first | exact e | exact e.symm) rfl), Z3.out.2⟩
                        clear hown5 hgrow5 bC h51 h52 hHeld TK3 SL3 EC MC hi0 hz0 hz1 hz2 Z3 HD
                        refine hK.out _ _ ⟨(HE.out _ E4.out.below).c0 (.head _), (HE.out _ E4.out.below).c1 (.head _)⟩ (fun hHeld => ?_)
                        clear hK K
                        try simp only [Act.put, List.setIfInBounds_toArray, List.set_cons_zero, List.set_cons_succ]
                        refine wpAnyH_ready (rs := [10]) (by kernel_rfl) (by simp) ?_
                        refine AllReadyH.cons (o := { dst := some 104, op := Op.call { callee := Callee.value (Operand.func 26), args := #[Operand.tmp 95, Operand.tmp 103], argTypes := #[3, 22] }, type := 28, pos := "outright.go:99", after := #[{ on := 1, ground := Ground.data }, { on := 9, ground := Ground.data }, { on := 9, ground := Ground.chain }], guard := none }) rfl (fun K hK => ?_) ?_
                        · skip
                          go_simp
                          refine (HOFB.out A5 c5 _ R4.out).mono ?_
                          rintro e u5 hx
                          obtain ⟨T, rfl, hz, he, okT, bb⟩ := gerr_gv hx
                          have E5 := Lib.hid (E4.out.on bb)
                          have M5 := Lib.hid (M4.out.kept (below_only bb none) (by simp))
                          have Z5 := Lib.hid (Z4.out.on bb)
                          have O5 := Lib.hid okT
                          have HT := Lib.hid (And.intro hz he)
                          clear hx hz he okT bb hHeld R4 E4 M4 Z4
                          refine hK.out _ _ ⟨(HE.out _ E5.out.below).c0 (.head _), (HE.out _ E5.out.below).c1 (.head _)⟩ (fun hHeld => ?_)
                          clear hK K
                          try simp only [Act.put, List.setIfInBounds_toArray, List.set_cons_zero, List.set_cons_succ]
                          refine wpAnyH_take (i := 11) (oi := { dst := some 93, op := Op.move (Operand.tmp 104), type := 28, pos := "outright.go:99", after := #[{ on := 10, ground := Ground.data }], guard := none }) (v := .tuple #[.agg #[.int .i64 T.z, .slice T.A T.n T.c], .int .i64 0]) rfl (by kernel_rfl) (by kernel_rfl) (by kernel_rfl) (fun _ _ _ h => h) (Or.inl ⟨by kernel_rfl, fun w' hSw => by (try dsimp only at hSw); go_simp⟩) (by assumption) ?_
                          try simp only [Act.put, List.setIfInBounds_toArray, List.set_cons_zero, List.set_cons_succ]
                          refine wpAnyH_take (i := 12) (oi := { dst := some 105, op := Op.extract (Operand.tmp 93) 0, type := 24, pos := "outright.go:99", after := #[{ on := 11, ground := Ground.data }], guard := none }) (v := .agg #[.int .i64 T.z, .slice T.A T.n T.c]) rfl (by kernel_rfl) (by kernel_rfl) (by kernel_rfl) (fun _ _ _ h => h) (Or.inl ⟨by kernel_rfl, fun w' hSw => by (try dsimp only at hSw); go_simp⟩) (by assumption) ?_
                          try simp only [Act.put, List.setIfInBounds_toArray, List.set_cons_zero, List.set_cons_succ]
                          refine wpAnyH_take (i := 13) (oi := { dst := some 106, op := Op.extract (Operand.tmp 93) 1, type := 27, pos := "outright.go:99", after := #[{ on := 11, ground := Ground.data }, { on := 15, ground := Ground.gcOnly Departure.lateStores }], guard := none }) (v := .int .i64 0) rfl (by kernel_rfl) (by kernel_rfl) (by kernel_rfl) (fun _ _ _ h => h) (Or.inl ⟨by kernel_rfl, fun w' hSw => by (try dsimp only at hSw); go_simp⟩) (by assumption) ?_
                          try simp only [Act.put, List.setIfInBounds_toArray, List.set_cons_zero, List.set_cons_succ]
                          refine wpAnyH_ready (rs := [15]) (by kernel_rfl) (by simp) ?_
                          refine AllReadyH.cons (o := { dst := none, op := Op.store 24 (Operand.tmp 15) (Operand.tmp 105), type := 0, pos := "outright.go:99", after := #[{ on := 14, ground := Ground.data }, { on := 12, ground := Ground.data }, { on := 10, ground := Ground.chain }, { on := 0, ground := Ground.phase }, { on := 1, ground := Ground.phase }, { on := 2, ground := Ground.phase }, { on := 3, ground := Ground.phase }, { on := 4, ground := Ground.phase }, { on := 5, ground := Ground.phase }, { on := 6, ground := Ground.phase }, { on := 7, ground := Ground.phase }, { on := 8, ground := Ground.phase }, { on := 9, ground := Ground.phase }, { on := 10, ground := Ground.phase }, { on := 11, ground := Ground.phase }, { on := 12, ground := Ground.phase }, { on := 13, ground := Ground.textOnly Departure.lateStores }, { on := 14, ground := Ground.phase }], guard := none }) rfl (fun K hK => ?_) ?_
                          · skip
                            have y0 := Z5.out.1.cell 0
                            have y1 := Z5.out.1.cell 1
                            have f0 := Z5.out.1.frozen 0
                            have f1 := Z5.out.1.frozen 1
                            go_simp
                            have E6 := Lib.hid (E5.out.put Z5.out O5.out)
                            have M6 := Lib.hid ((M5.out.setCell (a := ⟨XB, 0, none⟩) HBX.out (.int .i64 T.z)).setCell (a := ⟨XB, 1, none⟩) HBX.out (.slice T.A T.n T.c))
                            clear hHeld y0 y1 f0 f1 E5 M5 Z5 O5
                            refine hK.out _ _ ⟨(HE.out _ E6.out.below).c0 (.head _), (HE.out _ E6.out.below).c1 (.head _)⟩ (fun hHeld => ?_)
                            clear hK K
                            try simp only [Act.put, List.setIfInBounds_toArray, List.set_cons_zero, List.set_cons_succ]
                            generalize (u5.setCell ⟨XB, 0, none⟩ (.int .i64 T.z)).setCell ⟨XB, 1, none⟩ (.slice T.A T.n T.c) = u6 at *
                            refine wpAnyH_take (i := 16) (oi := { dst := some 16, op := Op.assign (Operand.tmp 106), type := 27, pos := "outright.go:99", after := #[{ on := 13, ground := Ground.data }, { on := 15, ground := Ground.chain }, { on := 0, ground := Ground.phase }, { on := 1, ground := Ground.phase }, { on := 2, ground := Ground.phase }, { on := 3, ground := Ground.phase }, { on := 4, ground := Ground.phase }, { on := 5, ground := Ground.phase }, { on := 6, ground := Ground.phase }, { on := 7, ground := Ground.phase }, { on := 8, ground := Ground.phase }, { on := 9, ground := Ground.phase }, { on := 10, ground := Ground.phase }, { on := 11, ground := Ground.phase }, { on := 12, ground := Ground.phase }, { on := 13, ground := Ground.phase }, { on := 14, ground := Ground.phase }, { on := 15, ground := Ground.phase }], guard := none }) (v := .int .i64 0) rfl (by kernel_rfl) (by kernel_rfl) (by kernel_rfl) (fun _ _ _ h => h) (Or.inl ⟨by kernel_rfl, fun w' hSw => by (try dsimp only at hSw); go_simp⟩) (by assumption) ?_
                            try simp only [Act.put, List.setIfInBounds_toArray, List.set_cons_zero, List.set_cons_succ]
                            refine wpAnyH_done (by kernel_rfl) ?_ _
                            refine NoPanic.normal ?_
                            clear hHeld
                            go_wp2_with fail
                            go_meet
                            exact ⟨T, XB, rfl, rfl, HT, E6, M6⟩
                          exact AllReadyH.nil
                        exact AllReadyH.nil
                      exact AllReadyH.nil
                    exact AllReadyH.nil
                  exact AllReadyH.nil
                exact AllReadyH.nil
              case rest =>
                clear EE M9 HOFB
                rename World => w9
                obtain ⟨T2, X2, rfl, rfl, HT2, EE, M9⟩ := hcut
                have z0 := EE.out.c0 (.tail _ (.head _))
                have z1 := EE.out.c1 (.tail _ (.head _))
                have hrT : rightG T1.z T1.es = true := by rw [HT1.out.1, HT1.out.2, HM.out]; exact rightG_iff.2 HRT.out.2.1
                have hrB : rightG T2.z T2.es = true := by rw [HT2.out.1, HT2.out.2, HM.out]; exact rightG_iff.2 HRB.out.2.1
                have hn1 : T1.n ≤ 700 := by
                  have h1 := (EE.out.ok (.tail _ (.head _))).len
                  have h2 := sorE_len (g.es ++ [((x : Int), (y : Int), (0 : Int))])
                  have h3 := HL.out
                  rw [HT1.out.2] at h1
                  rw [List.length_append] at h2
                  simp only [List.length_cons, List.length_nil] at h2
                  omega
                have hn2 : T2.n ≤ 700 := by
                  have h1 := (EE.out.ok (.head _)).len
                  have h2 := sorE_len (g.es ++ [((y : Int), (x : Int), (0 : Int))])
                  have h3 := HL.out
                  rw [HT2.out.2] at h1
                  rw [List.length_append] at h2
                  simp only [List.length_cons, List.length_nil] at h2
                  omega
                have hzt1 : T1.z.toNat = m := by rw [HT1.out.1, HM.out]; simp
                have hzt2 : T2.z.toNat = m := by rw [HT2.out.1, HM.out]; simp
                have HC1 : Hid (∀ l o, Comps T1.es T1.z.toNat l o → Comps (sorE (g.es ++ [((x : Int), (y : Int), (0 : Int))])) m l o) := fun l o h => by rwa [HT1.out.2, hzt1] at h
                have HC2 : Hid (∀ l o, Comps T2.es T2.z.toNat l o → Comps (sorE (g.es ++ [((y : Int), (x : Int), (0 : Int))])) m l o) := fun l o h => by rwa [HT2.out.2, hzt2] at h
                have HRR := Lib.hid (And.intro hrT hrB)
                have HN := Lib.hid (And.intro hn1 hn2)
                have HSO := Lib.hid HS.out.of
                clear hrT hrB hn1 hn2 hzt1 hzt2 HS hmm
                go_wp2_with fail
                refine (HSO.out T1 w9 HN.out.1 (EE.out.ok (.tail _ (.head _)))).mono ?_
                rintro e v1 ⟨o1, k1, hx, hr1, _⟩
                obtain ⟨A1, c1, rfl, ro1, _, _, bb⟩ := hx
                obtain ⟨hk, l1, hc1⟩ := hr1 HRR.out.1
                subst hk
                have D1 := Lib.hid (HC1.out _ _ hc1)
                have R1 := Lib.hid ro1
                have E1 := Lib.hid (EE.out.on bb)
                have N1 := Lib.hid (M9.out.kept (below_only bb none) (by simp))
                clear hr1 hc1 ro1 bb EE M9 z0 z1 HC1
                have z0 := E1.out.c0 (.head _)
                have z1 := E1.out.c1 (.head _)
                go_wp2_with fail
                refine (HSO.out T2 v1 HN.out.2 (E1.out.ok (.head _))).mono ?_
                rintro e v2 ⟨o2, k2, hx, hr2, _⟩
                obtain ⟨A2, c2, rfl, ro2, _, _, bb⟩ := hx
                obtain ⟨hk, l2, hc2⟩ := hr2 HRR.out.2
                subst hk
                have D2 := Lib.hid (HC2.out _ _ hc2)
                have R1b := Lib.hid ((R1.out.below bb).more bb.size)
                have E2 := Lib.hid (E1.out.on bb)
                have N2 := Lib.hid (N1.out.kept (below_only bb none) (by simp))
                have RO2 := Lib.hid (HRO.out _ E2.out.below)
                have B2 : Hid (Below w.heap.size w v2) := (HE.out _ E2.out.below).below
                have hlen : o2.length = m := D2.out.len.1
                have hx0 : (0 : Int) ≤ (x : Int) := by omega
                have hx1 : (x : Int) < (o2.length : Int) := by have := HXY.out.1; omega
                have hy0 : (0 : Int) ≤ (y : Int) := by omega
                have hy1 : (y : Int) < (o2.length : Int) := by have := HXY.out.2; omega
                obtain ⟨c, hc⟩ : ∃ c, S (y : Int) = c := ⟨_, rfl⟩
                have hq : ((o2.getD x 0 : Int) == o2.getD y 0) = c := by
                  have h1 := more_back HGM.out HXY.out.1 HXY.out.2 HNE.out D2.out
                  cases c
                  · rw [beq_eq_false_iff_ne]
                    intro h
                    have := HY.out.2 (h1.1 h)
                    rw [hc] at this
                    exact absurd this (by decide)
                  · rw [beq_iff_eq]
                    exact h1.2 (HY.out.1 hc)
                have hcx : o2[x]? = some (o2.getD x 0) := getD_of hlen HXY.out.1
                have hcy : o2[y]? = some (o2.getD y 0) := getD_of hlen HXY.out.2
                generalize o2.getD x 0 = ox at hq hcx
                generalize o2.getD y 0 = oy at hq hcy
                obtain ⟨bx, px, rfl, hbx, q0⟩ := int_at ro2 hcx
                obtain ⟨by', py, hA3, _, q1⟩ := int_at ro2 hcy
                injection hA3 with hA3
                injection hA3 with e1 e2 _
                subst e1; subst e2
                have HLK : Hid (∀ W, W.ownsMap (H := Unit) Try.prog 3 (plainElem Try.prog 4) B q D → (Instr.lookup 55 (.map (some B)) (.int .i64 (y : Int)) false).run Try.prog W = .ok (.bool c) W) := fun W h => look_b h (int_keyed Try.underlying3) Try.underlying55 Try.underlying4 (zeroBool6 _) (keyOf_int_mk Try.underlying3 (WalkArith.wf_i64 (by have := HXY.out.2; have := HM3.out; omega))) (by rw [← hc]; exact MS.out (y : Int))
                have hlk := HLK.out _ N2.out
                have HLN2 := Lib.hid fun n => HLK.out (v2.drewN n) (N2.out.kept (below_only (below_drewN (Below.refl _ _) n) none) (by simp))
                have HTH : Hid (c = true → o1 = os) := fun h => more_there HGM.out HXY.out.1 HXY.out.2 HNE.out HCS.out D1.out (HY.out.1 (hc.trans h))
                have HLN : Hid (o1.length ≤ 300 ∧ os.length ≤ 300) := by have h1 := D1.out.len.1; have h2 := HCS.out.len.1; have h3 := HM3.out; show _ ∧ _; omega
                have HQQ : Hid (∀ W, Below v2.heap.size v2 W → W.cell? ⟨bx, px + x, none⟩ = some (.int .i64 ox) ∧ W.cell? ⟨bx, px + y, none⟩ = some (.int .i64 oy)) := fun W h => ⟨(h.cell (p := ⟨bx, px + x, none⟩) hbx).trans q0, (h.cell (p := ⟨bx, px + y, none⟩) hbx).trans q1⟩
                clear hr2 hc2 ro2 bb E1 N1 R1 z0 z1 HC2 hc hlen hcx hcy hbx HSO HRR HN HRT HRB HT1 HT2 HY MS MW HCS HGM HM HNE HRO
                cases c
                · clear RO2 R1b D1 D2 HTH HQQ HLK
                  have hlkn := HLN2.out
                  go_wp2_with fail
                  go_quiet (fail)
                  go_wp2_with fail
                  go_ret
                  exact ⟨rfl, below_drewN B2.out _⟩
                · have HEQ := eqi_any A1 AO o1.length os.length c1 co o1 os (by have := HLN.out.1; omega) (by have := HLN.out.2; omega) v2 R1b.out RO2.out
                  rw [decide_eq_true (HTH.out rfl)] at HEQ
                  have HEH := Lib.hid HEQ
                  clear HEQ q0 q1 D1 D2 HTH RO2 R1b
                  go_wp2_with fail
                  refine HEH.out.mono ?_
                  rintro e v3 ⟨rfl, bb⟩
                  have q0 := (HQQ.out _ bb).1
                  have q1 := (HQQ.out _ bb).2
                  have hlk3 := HLK.out _ (N2.out.kept (below_only bb none) (by simp))
                  have B3 : Hid (Below w.heap.size w v3) := B2.out.trans (bb.mono B2.out.size)
                  have hlkn := fun n => HLK.out (v3.drewN n) ((N2.out.kept (below_only bb none) (by simp)).kept (below_only (below_drewN (Below.refl _ _) n) none) (by simp))
                  clear hlk bb HQQ HLK N2 HEH HLN2
                  go_wp2_with fail
                  go_quiet (fail)
                  go_wp2_with fail
                  go_ret
                  exact ⟨rfl, below_drewN B3.out _⟩
          | succ g2 =>
            have hlt : (i : Int) < g.z := by have := HM.out; omega
            have E := Lib.hid (HE.out _ J.out)
            have z1 := E.out.c1 (.head _)
            have HIG := Lib.hid hi
            have M1 : Hid (wr.ownsMap (H := Unit) Try.prog 3 (plainElem Try.prog 4) B q D ∧ q ≤ 1 + i * 600 + 0 ∧ SeenI D (hops S (g.es.take 0)) ∧ Went g.es m (x : Int) i S) := ⟨MM.out.1, MM.out.2.1, MM.out.2.2.1, MM.out.2.2.2⟩
            clear hi MM
            go_wp2_with fail
            clear z1 E
            go_loopg [66] g.n (fun gg s66 wx => ∃ (j : Nat) (D : DataW Unit) (q : Nat), s66 = .int .i64 j ∧ j + gg = g.n ∧ Hid (wx.ownsMap (H := Unit) Try.prog 3 (plainElem Try.prog 4) B q D ∧ q ≤ 1 + i * 600 + j ∧ SeenI D (hops S (g.es.take j)) ∧ Went g.es m (x : Int) i S) ∧ Hid (Below w5.heap.size w5 wx))
            case atStart => exact ⟨0, D, q, rfl, by omega, M1, J⟩
            case round =>
              clear M1 J
              obtain ⟨j, D2, q2, rfl, hj, MM, J⟩ := hrel
              rename World => wi
              cases gk with
              | zero =>
                have hgej : ¬ (j : Int) < (g.n : Int) := by omega
                have hw1 : IntKind.i64.wrap ((i : Int) + 1) = ((i + 1 : Nat) : Int) := by have := HIG.out; have := HM3.out; rw [IntKind.wrap_i64]; omega
                have M2 : Hid (wi.ownsMap (H := Unit) Try.prog 3 (plainElem Try.prog 4) B q2 D2 ∧ q2 ≤ 1 + (i + 1) * 600 ∧ SeenI D2 (hops S g.es) ∧ Went g.es m (x : Int) (i + 1) (hops S g.es)) := by
                  obtain ⟨h1, h2, h3, h4⟩ := MM.out
                  rw [show g.es.take j = g.es from List.take_of_length_le (by have := HL.out; omega)] at h3
                  exact ⟨h1, by omega, h3, h4.next HGM.out.all⟩
                clear hj MM
                go_wp2_with fail
                go_roundg g2
                case measure => omega
                case rel => exact ⟨i + 1, D2, q2, _, by have := HM3.out; have := HIG.out; go_num, by have := HIG.out; omega, M2, J⟩
              | succ g3 =>
                have hltj : (j : Int) < (g.n : Int) := by omega
                obtain ⟨p, hp⟩ : ∃ p, g.es[j]? = some p := ⟨g.es[j]'(by have := HL.out; omega), List.getElem?_eq_getElem _⟩
                have okr := (HE.out _ J.out).ok (.head _)
                obtain ⟨bl, ol, hgA, hbl, y0, y1, y2⟩ := ed_at okr.1 hp
                have hre := of_decide_eq_true (HGM.out.all p (List.mem_of_getElem? hp))
                have hk1 : keyOf Try.prog 3 (.int .i64 p.1) = some (.int .i64 p.1) := keyOf_int_mk Try.underlying3 (WalkArith.wf_i64 (by have := HM3.out; omega))
                have hk2 : keyOf Try.prog 3 (.int .i64 p.2.1) = some (.int .i64 p.2.1) := keyOf_int_mk Try.underlying3 (WalkArith.wf_i64 (by have := HM3.out; omega))
                have HK2 := Lib.hid hk2
                have HP := Lib.hid hp
                have HGA := Lib.hid hgA
                have HX := Lib.hid (Blk.new wi 34 #[.int .i64 p.1, .int .i64 p.2.1, .int .i64 p.2.2])
                have J1 : Hid (Below w5.heap.size w5 (wi.alloc (.cells #[.int .i64 p.1, .int .i64 p.2.1, .int .i64 p.2.2] 34))) := J.out.alloc J.out.size _
                have M1 := Lib.hid (MM.out.1.alloc (.cells #[.int .i64 p.1, .int .i64 p.2.1, .int .i64 p.2.2] 34))
                have MQ : Hid (q2 + 1 ≤ 1 + i * 600 + (j + 1) ∧ q2 < maxLen) := by have h1 := MM.out.2.1; have h2 := HIG.out; have h3 := HM3.out; refine ⟨by omega, ?_⟩; unfold maxLen; omega
                have MS := Lib.hid MM.out.2.2.1
                have MW := Lib.hid MM.out.2.2.2
                obtain ⟨j1, hj1⟩ : ∃ j1 : Nat, j1 = j + 1 := ⟨_, rfl⟩
                have HJ1 := Lib.hid hj1
                have hwj : IntKind.i64.wrap ((j : Int) + 1) = (j1 : Int) := by rw [IntKind.wrap_i64]; omega
                have HJG : Hid (j1 + g3 = g.n) := by show _ = _; omega
                clear hj1 okr hp hj MM J hre hk2
                rw [hgA]
                clear hgA
                go_upto_region 16 with fail
                clear y0 y1 y2
                generalize wi.alloc (.cells #[.int .i64 p.1, .int .i64 p.2.1, .int .i64 p.2.2] 34) = wx at *
                generalize wi.heap.size = X at *
                have y0 : wx.cell? ⟨X, 0, none⟩ = some (.int .i64 p.1) := HX.out.cell 0
                have y1 : wx.cell? ⟨X, 1, none⟩ = some (.int .i64 p.2.1) := HX.out.cell 1
                have hl := look_b M1.out (int_keyed Try.underlying3) Try.underlying55 Try.underlying4 (zeroBool6 _) hk1 (MS.out p.1)
                clear hk1
                have HH := Lib.hid (hops_next (S := S) HP.out)
                obtain ⟨c, hcv⟩ : ∃ c, hops S (g.es.take j) p.1 = c := ⟨_, rfl⟩
                rw [hcv] at hl
                cases c
                · have MS2 : Hid (SeenI D2 (hops S (g.es.take j1))) := by
                    rw [HJ1.out, HH.out]
                    unfold hop
                    rw [if_neg (by rw [hcv]; decide)]
                    exact MS.out
                  clear hcv HH MS HP HX
                  go_wp2_with fail
                  rw [← HGA.out]
                  go_roundg g3
                  case measure => omega
                  case rel => exact ⟨j1, D2, q2, rfl, HJG.out, ⟨M1.out, by have := MQ.out.1; have := HJ1.out; omega, MS2.out, MW.out⟩, J1⟩
                · have MS2 : Hid (SeenI (D2.put (.int .i64 p.2.1) (.lit (.bool true))) (hops S (g.es.take j1))) := by
                    rw [HJ1.out, HH.out]
                    unfold hop
                    rw [if_pos hcv]
                    exact MS.out.put M1.out.isMap p.2.1
                  clear hcv HH MS HP HX
                  go_wp2_with (at_mapUpdate; refine wpList_mapUpdate_own _ rfl _ _ _ 55 rfl 3 4 (int_keyed Try.underlying3) Try.underlying55 _ B q2 D2 rfl M1.out MQ.out.2 _ _ (.int .i64 p.2.1) rfl rfl HK2.out (.lit (.bool true)) [] (plainElem_bool Try.underlying4 true) ?_; intro w7 hown7 hgrow7)
                  have M7 := Lib.hid hown7
                  have J7 : Hid (Below w5.heap.size w5 w7) := J1.out.grown hgrow7 J1.out.size (fun k hk => by injection hk with hk; have := HB.out; omega)
                  clear hown7 hgrow7 hl M1 J1
                  go_wp2_with fail
                  rw [← HGA.out]
                  go_roundg g3
                  case measure => omega
                  case rel => exact ⟨j1, _, q2 + 1, rfl, HJG.out, ⟨M7.out, by have := MQ.out.1; have := HJ1.out; omega, MS2.out, MW.out⟩, J7⟩
end Go.Proofs.Ytkebeadaoiiokaa
