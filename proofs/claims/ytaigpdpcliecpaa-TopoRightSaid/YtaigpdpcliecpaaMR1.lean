/- TopoRight: the walk. -/
import Derived.Test.YtaigpdpcliecpaaM18
-- holds: YtaigpdpcliecpaaTra
namespace Go.Proofs.Ytaigpdpcliecpaa
open Go.RowKit Go.Shelf
open Go.Maps (Keyed IsMap int_keyed keyOf_int_mk)

set_option maxRecDepth 100000 in
set_option maxHeartbeats 16000000 in
theorem torders_core (nodes : Int) (A : Option Addr) (n c : Nat) (zs : List Ed) (Ar : Option Addr) (nr cr : Nat) (rs : List Row7) (hc : A = none → c = 0) (hnc : n ≤ c) (hcm : c ≤ 9223372036854775807) (w : World) (hR : Reads w w.heap.size 3 A n (cellsE zs)) (hRR : Rows7 w w.heap.size Ar nr rs) :
    Calls Try.prog 4 #[.agg #[.int .i64 nodes, .slice A n c], .slice Ar nr cr] w fun e w' => e = .returned (.bool true) ∧ Below w.heap.size w w' := by
  have E0 := Lib.hid ((Env.start w).add (g := ⟨nodes, A, n, c, zs⟩) ⟨hR, hnc, hcm, hc⟩)
  obtain ⟨gx, hgx⟩ : ∃ gx : GV, (⟨nodes, A, n, c, zs⟩ : GV) = gx := ⟨_, rfl⟩
  have hz : nodes = gx.z := by rw [← hgx]
  have hA : A = gx.A := by rw [← hgx]
  have hn : n = gx.n := by rw [← hgx]
  have hcc : c = gx.c := by rw [← hgx]
  rw [hgx] at E0
  subst hz; subst hA; subst hn; subst hcc
  have HRR := Lib.hid hRR
  clear hRR
  clear hR hc hnc hcm hgx
  go_enter Try.func4, Try.ntmps4
  go_wp2_with fail
  generalize w.alloc (.cells #[.int .i64 gx.z, .slice gx.A gx.n gx.c] 24) = W0 at *
  refine (wakes7_any _).mono ?_
  rintro e w1 ⟨rfl, b⟩
  have E1 := Lib.hid (E0.out.on b)
  clear b E0
  have z0 := E1.out.c0 (.head _)
  have z1 := E1.out.c1 (.head _)
  go_wp2_with fail
  have ok1 := E1.out.ok (.head _)
  refine (fair7_any gx.z gx.A gx.n gx.c gx.es ok1.2.2.2 ok1.2.1 ok1.2.2.1 w1 ok1.1).mono ?_
  clear ok1
  rintro e w2 hx
  obtain ⟨g, rfl, hz, he, okg, b⟩ := gis_gv hx
  have E3 := Lib.hid ((E1.out.on b).add okg)
  have HN : Hid (g.n ≤ 1000) := by
    show _ ≤ _
    have h1 := okg.len
    rw [he, List.length_take] at h1
    omega
  have HL : Hid (g.es.length = g.n) := okg.len
  clear hx hz he okg b E1 z0 z1
  have z0 := E3.out.c0 (.head _)
  have z1 := E3.out.c1 (.head _)
  have x0 := E3.out.c0 (.tail _ (.head _))
  have x1 := E3.out.c1 (.tail _ (.head _))
  go_wp2_with fail
  generalize w2.alloc (.cells #[.int .i64 g.z, .slice g.A g.n g.c] 24) = w3 at *
  generalize w2.heap.size = b3 at *
  clear z0 z1 x0 x1
  go_loopg [14] nr (fun gg s14 wr => ∃ i : Nat, i + gg = nr ∧ i ≤ 8 ∧ s14 = .int .i64 i ∧ Hid (Env w [(b3, g), (w.heap.size, gx)] wr))
  case atStart => exact ⟨0, by omega, by omega, rfl, E3⟩
  case round =>
    clear E3
    obtain ⟨i, hig, hi8, rfl, E3⟩ := hrel
    cases gk with
    | zero =>
      have hge : ¬ (i : Int) < (nr : Int) := by omega
      clear hig
      go_wp2_with fail
      go_ret
      exact ⟨rfl, E3.out.below⟩
    | succ g2 =>
      have hlt : (i : Int) < (nr : Int) := by omega
      have HI : Hid (i + 1 + g2 = nr) := by show _ = _; omega
      obtain ⟨rb, ro, r, hAr, hrb, hcell, hrd, hrnc, hrcm⟩ := (HRR.out.below E3.out.below).at_ (show i < nr by omega)
      subst hAr
      have RR : Hid (Reads wr wr.heap.size 1 r.A r.n (ints r.l)) := hrd.more E3.out.below.size
      clear hrd hrb hig
      by_cases h8 : i = 8
      · subst h8
        have hb8 : (((8 : Nat) : Int) == 8) = true := rfl
        clear HI RR
        go_wp2_with fail
        go_ret
        exact ⟨rfl, E3.out.below⟩
      · have hb8 : ((i : Int) == 8) = false := by simp; omega
        have hmin : min (r.n : Int) 310 = ((min r.n 310 : Nat) : Int) := by omega
        have hq : min r.n 310 ≤ r.n ∧ min r.n 310 ≤ 310 := by omega
        have hsl := fun W => t_slice_h r.A r.n r.c (min r.n 310) (by omega) W
        generalize min r.n 310 = q at *
        have RQ := Lib.hid (reads_cut RR.out hq.1)
        have HQ := Lib.hid hq.2
        obtain ⟨o, ho⟩ : ∃ o, r.l.take q = o := ⟨_, rfl⟩
        rw [ho] at RQ
        have HOL : Hid (o.length ≤ 310) := by
          show _ ≤ _
          rw [← ho, List.length_take]
          have := HQ.out
          omega
        have HI8 : Hid (i < 8) := by show _ < _; omega
        clear ho h8 hi8 hq RR
        go_wp2_with fail
        refine (clone7_any r.A q r.c o (by have := HQ.out; omega) _ RQ.out).mono ?_
        rintro e w5 ⟨Ao, co, rfl, hro, b⟩
        have E5 := Lib.hid (E3.out.on b)
        have RO := Lib.hid hro
        clear hro b E3 RQ hb8 hmin hsl hcell hrnc hrcm
        have z0 := E5.out.c0 (.head _)
        have z1 := E5.out.c1 (.head _)
        have x0 := E5.out.c0 (.tail _ (.head _))
        have x1 := E5.out.c1 (.tail _ (.head _))
        go_upto_region 9 with fail
        clear z0 z1 x0 x1
        have K0 := Lib.hid E5.out.drew
        have RO' : Hid (Reads w5.drew w5.drew.heap.size 1 _ _ _) := (RO.out.below (Below.refl _ _).drew).more (Below.refl w5.heap.size w5).drew.size
        clear RO
        have RO := RO'
        clear RO'
        clear E5
        cases hr : rightG g.z g.es
        · skip
          have HRF := Lib.hid hr
          clear hr RO
          refine wp_region_noPanic ?_
          refine wp_region_held_drew (S := fun w' => w'.cell? ⟨b3, 0, none⟩ = some (.int .i64 g.z) ∧ w'.cell? ⟨b3, 1, none⟩ = some (.slice g.A g.n g.c)) (by kernel_rfl) ⟨K0.out.c0 (.head _), K0.out.c1 (.head _)⟩ (fun hHeld => ?_)
          refine wpAnyH_take (i := 0) (oi := { dst := some 27, op := Op.load 24 (Operand.tmp 5), type := 24, pos := "law.go:59", after := #[], guard := none }) (v := .agg #[.int .i64 g.z, .slice g.A g.n g.c]) rfl (by kernel_rfl) (by kernel_rfl) (by kernel_rfl) (fun _ _ _ h => h) (Or.inl ⟨by kernel_rfl, fun w' hSw => by (try dsimp only at hSw); go_simp⟩) (by assumption) ?_
          try simp only [Act.put, List.setIfInBounds_toArray, List.set_cons_zero, List.set_cons_succ]
          refine wpAnyH_take (i := 1) (oi := { dst := some 28, op := Op.move (Operand.tmp 7), type := 27, pos := "law.go:59", after := #[], guard := none }) (v := .slice Ao o.length co) rfl (by kernel_rfl) (by kernel_rfl) (by kernel_rfl) (fun _ _ _ h => h) (Or.inl ⟨by kernel_rfl, fun w' hSw => by (try dsimp only at hSw); go_simp⟩) (by assumption) ?_
          try simp only [Act.put, List.setIfInBounds_toArray, List.set_cons_zero, List.set_cons_succ]
          refine wpAnyH_take (i := 3) (oi := { dst := some 30, op := Op.load 24 (Operand.tmp 5), type := 24, pos := "law.go:59", after := #[], guard := none }) (v := .agg #[.int .i64 g.z, .slice g.A g.n g.c]) rfl (by kernel_rfl) (by kernel_rfl) (by kernel_rfl) (fun _ _ _ h => h) (Or.inl ⟨by kernel_rfl, fun w' hSw => by (try dsimp only at hSw); go_simp⟩) (by assumption) ?_
          try simp only [Act.put, List.setIfInBounds_toArray, List.set_cons_zero, List.set_cons_succ]
          refine wpAnyH_ready (rs := [2]) (by kernel_rfl) (by simp) ?_
          refine AllReadyH.cons (o := { dst := some 29, op := Op.call { callee := Callee.value (Operand.func 19), args := #[Operand.tmp 27, Operand.tmp 28], argTypes := #[24, 27] }, type := 4, pos := "law.go:59", after := #[{ on := 0, ground := Ground.data }, { on := 1, ground := Ground.data }], guard := none }) rfl (fun K hK => ?_) AllReadyH.nil
          go_simp
          refine (right7_no g.z g.A g.n g.c g.es HRF.out Ao o.length co HN.out _ (K0.out.ok (.head _)).1).mono ?_
          rintro e u1 ⟨rfl, b⟩
          have K1 := Lib.hid (K0.out.on b)
          clear b K0 hHeld
          refine hK.out _ _ ⟨K1.out.c0 (.head _), K1.out.c1 (.head _)⟩ (fun hHeld => ?_)
          clear hK K
          try simp only [Act.put, List.setIfInBounds_toArray, List.set_cons_zero, List.set_cons_succ]
          refine wpAnyH_ready (rs := [4]) (by kernel_rfl) (by simp) ?_
          refine AllReadyH.cons (o := { dst := some 31, op := Op.call { callee := Callee.value (Operand.func 13), args := #[Operand.tmp 30], argTypes := #[24] }, type := 4, pos := "law.go:59", after := #[{ on := 3, ground := Ground.data }, { on := 2, ground := Ground.chain }], guard := none }) rfl (fun K hK => ?_) AllReadyH.nil
          go_simp
          have HRG := right_any g.z g.A g.n g.c g.es HN.out _ (K1.out.ok (.head _)).1
          rw [HRF.out] at HRG
          refine HRG.mono ?_
          clear HRG
          rintro e u2 ⟨rfl, b⟩
          have K3 := Lib.hid (K1.out.on b)
          clear b K1 hHeld
          refine hK.out _ _ ⟨K3.out.c0 (.head _), K3.out.c1 (.head _)⟩ (fun hHeld => ?_)
          clear hK K
          try simp only [Act.put, List.setIfInBounds_toArray, List.set_cons_zero, List.set_cons_succ]
          refine wpAnyH_take (i := 5) (oi := { dst := some 32, op := Op.move (Operand.tmp 31), type := 4, pos := "law.go:59", after := #[{ on := 4, ground := Ground.data }, { on := 4, ground := Ground.chain }], guard := none }) (v := .bool false) rfl (by kernel_rfl) (by kernel_rfl) (by kernel_rfl) (fun _ _ _ h => h) (Or.inl ⟨by kernel_rfl, fun w' hSw => by (try dsimp only at hSw); go_simp⟩) (by assumption) ?_
          try simp only [Act.put, List.setIfInBounds_toArray, List.set_cons_zero, List.set_cons_succ]
          refine wpAnyH_take (i := 6) (oi := { dst := some 33, op := Op.load 24 (Operand.tmp 5), type := 24, pos := "law.go:59", after := #[{ on := 5, ground := Ground.guard }], guard := some (5, true) }) (v := undef) rfl (by kernel_rfl) (by kernel_rfl) (by kernel_rfl) (fun _ _ _ h => h) (Or.inr ⟨by kernel_rfl, rfl⟩) (by assumption) ?_
          try simp only [Act.put, List.setIfInBounds_toArray, List.set_cons_zero, List.set_cons_succ]
          refine wpAnyH_take (i := 7) (oi := { dst := some 34, op := Op.move (Operand.tmp 7), type := 27, pos := "law.go:59", after := #[{ on := 5, ground := Ground.guard }], guard := some (5, true) }) (v := undef) rfl (by kernel_rfl) (by kernel_rfl) (by kernel_rfl) (fun _ _ _ h => h) (Or.inr ⟨by kernel_rfl, rfl⟩) (by assumption) ?_
          try simp only [Act.put, List.setIfInBounds_toArray, List.set_cons_zero, List.set_cons_succ]
          refine wpAnyH_take (i := 8) (oi := { dst := some 35, op := Op.call { callee := Callee.value (Operand.func 20), args := #[Operand.tmp 33, Operand.tmp 34], argTypes := #[24, 27] }, type := 4, pos := "law.go:59", after := #[{ on := 6, ground := Ground.data }, { on := 7, ground := Ground.data }, { on := 5, ground := Ground.chain }, { on := 5, ground := Ground.guard }], guard := some (5, true) }) (v := undef) rfl (by kernel_rfl) (by kernel_rfl) (by kernel_rfl) (fun _ _ _ h => h) (Or.inr ⟨by kernel_rfl, rfl⟩) (by assumption) ?_
          try simp only [Act.put, List.setIfInBounds_toArray, List.set_cons_zero, List.set_cons_succ]
          refine wpAnyH_take (i := 9) (oi := { dst := some 36, op := Op.pick (Operand.tmp 32) (Operand.tmp 35) (Operand.const (Value.bool false)), type := 4, pos := "law.go:59", after := #[{ on := 5, ground := Ground.data }, { on := 8, ground := Ground.data }], guard := none }) (v := .bool false) rfl (by kernel_rfl) (by kernel_rfl) (by kernel_rfl) (fun _ _ _ h => h) (Or.inl ⟨by kernel_rfl, fun w' hSw => by (try dsimp only at hSw); go_simp⟩) (by assumption) ?_
          try simp only [Act.put, List.setIfInBounds_toArray, List.set_cons_zero, List.set_cons_succ]
          refine wpAnyH_take (i := 10) (oi := { dst := some 37, op := Op.binOp BinOp.neq 4 (Operand.tmp 29) (Operand.tmp 36) 4, type := 4, pos := "law.go:59", after := #[{ on := 2, ground := Ground.data }, { on := 9, ground := Ground.data }], guard := none }) (v := .bool false) rfl (by kernel_rfl) (by kernel_rfl) (by kernel_rfl) (fun _ _ _ h => h) (Or.inl ⟨by kernel_rfl, fun w' hSw => by (try dsimp only at hSw); go_simp⟩) (by assumption) ?_
          try simp only [Act.put, List.setIfInBounds_toArray, List.set_cons_zero, List.set_cons_succ]
          refine wpAnyH_done (by kernel_rfl) ?_ _
          refine NoPanic.normal ?_
          clear HRF
          have hi8 := HI8.out
          go_wp2_with fail
          go_roundg g2
          case measure => omega
          case rel => exact ⟨i + 1, by have := HI.out; omega, by omega, by go_num, K3⟩
        · skip
          have HRT := Lib.hid hr
          clear hr
          refine wp_region_noPanic ?_
          refine wp_region_held_drew (S := fun w' => w'.cell? ⟨b3, 0, none⟩ = some (.int .i64 g.z) ∧ w'.cell? ⟨b3, 1, none⟩ = some (.slice g.A g.n g.c)) (by kernel_rfl) ⟨K0.out.c0 (.head _), K0.out.c1 (.head _)⟩ (fun hHeld => ?_)
          refine wpAnyH_take (i := 0) (oi := { dst := some 27, op := Op.load 24 (Operand.tmp 5), type := 24, pos := "law.go:59", after := #[], guard := none }) (v := .agg #[.int .i64 g.z, .slice g.A g.n g.c]) rfl (by kernel_rfl) (by kernel_rfl) (by kernel_rfl) (fun _ _ _ h => h) (Or.inl ⟨by kernel_rfl, fun w' hSw => by (try dsimp only at hSw); go_simp⟩) (by assumption) ?_
          try simp only [Act.put, List.setIfInBounds_toArray, List.set_cons_zero, List.set_cons_succ]
          refine wpAnyH_take (i := 1) (oi := { dst := some 28, op := Op.move (Operand.tmp 7), type := 27, pos := "law.go:59", after := #[], guard := none }) (v := .slice Ao o.length co) rfl (by kernel_rfl) (by kernel_rfl) (by kernel_rfl) (fun _ _ _ h => h) (Or.inl ⟨by kernel_rfl, fun w' hSw => by (try dsimp only at hSw); go_simp⟩) (by assumption) ?_
          try simp only [Act.put, List.setIfInBounds_toArray, List.set_cons_zero, List.set_cons_succ]
          refine wpAnyH_take (i := 3) (oi := { dst := some 30, op := Op.load 24 (Operand.tmp 5), type := 24, pos := "law.go:59", after := #[], guard := none }) (v := .agg #[.int .i64 g.z, .slice g.A g.n g.c]) rfl (by kernel_rfl) (by kernel_rfl) (by kernel_rfl) (fun _ _ _ h => h) (Or.inl ⟨by kernel_rfl, fun w' hSw => by (try dsimp only at hSw); go_simp⟩) (by assumption) ?_
          try simp only [Act.put, List.setIfInBounds_toArray, List.set_cons_zero, List.set_cons_succ]
          refine wpAnyH_ready (rs := [2]) (by kernel_rfl) (by simp) ?_
          refine AllReadyH.cons (o := { dst := some 29, op := Op.call { callee := Callee.value (Operand.func 19), args := #[Operand.tmp 27, Operand.tmp 28], argTypes := #[24, 27] }, type := 4, pos := "law.go:59", after := #[{ on := 0, ground := Ground.data }, { on := 1, ground := Ground.data }], guard := none }) rfl (fun K hK => ?_) AllReadyH.nil
          go_simp
          refine (right7_at g _ HN.out HRT.out (K0.out.ok (.head _)) Ao o.length co o RO.out).mono ?_
          rintro e u1 ⟨b1, rfl, hb1, b⟩
          have K1 := Lib.hid (K0.out.on b)
          have HB1 := Lib.hid hb1
          have RO' := Lib.hid ((RO.out.below b).more b.size)
          clear RO
          have RO := RO'
          clear RO'
          clear b hb1 K0 hHeld
          refine hK.out _ _ ⟨K1.out.c0 (.head _), K1.out.c1 (.head _)⟩ (fun hHeld => ?_)
          clear hK K
          try simp only [Act.put, List.setIfInBounds_toArray, List.set_cons_zero, List.set_cons_succ]
          refine wpAnyH_ready (rs := [4]) (by kernel_rfl) (by simp) ?_
          refine AllReadyH.cons (o := { dst := some 31, op := Op.call { callee := Callee.value (Operand.func 13), args := #[Operand.tmp 30], argTypes := #[24] }, type := 4, pos := "law.go:59", after := #[{ on := 3, ground := Ground.data }, { on := 2, ground := Ground.chain }], guard := none }) rfl (fun K hK => ?_) AllReadyH.nil
          go_simp
          have HRG := right_any g.z g.A g.n g.c g.es HN.out _ (K1.out.ok (.head _)).1
          rw [HRT.out] at HRG
          refine HRG.mono ?_
          clear HRG
          rintro e u2 ⟨rfl, b⟩
          have K2 := Lib.hid (K1.out.on b)
          have RO' := Lib.hid ((RO.out.below b).more b.size)
          clear RO
          have RO := RO'
          clear RO'
          clear b K1 hHeld
          refine hK.out _ _ ⟨K2.out.c0 (.head _), K2.out.c1 (.head _)⟩ (fun hHeld => ?_)
          clear hK K
          try simp only [Act.put, List.setIfInBounds_toArray, List.set_cons_zero, List.set_cons_succ]
          refine wpAnyH_take (i := 5) (oi := { dst := some 32, op := Op.move (Operand.tmp 31), type := 4, pos := "law.go:59", after := #[{ on := 4, ground := Ground.data }, { on := 4, ground := Ground.chain }], guard := none }) (v := .bool true) rfl (by kernel_rfl) (by kernel_rfl) (by kernel_rfl) (fun _ _ _ h => h) (Or.inl ⟨by kernel_rfl, fun w' hSw => by (try dsimp only at hSw); go_simp⟩) (by assumption) ?_
          try simp only [Act.put, List.setIfInBounds_toArray, List.set_cons_zero, List.set_cons_succ]
          refine wpAnyH_take (i := 6) (oi := { dst := some 33, op := Op.load 24 (Operand.tmp 5), type := 24, pos := "law.go:59", after := #[{ on := 5, ground := Ground.guard }], guard := some (5, true) }) (v := .agg #[.int .i64 g.z, .slice g.A g.n g.c]) rfl (by kernel_rfl) (by kernel_rfl) (by kernel_rfl) (fun _ _ _ h => h) (Or.inl ⟨by kernel_rfl, fun w' hSw => by (try dsimp only at hSw); go_simp⟩) (by assumption) ?_
          try simp only [Act.put, List.setIfInBounds_toArray, List.set_cons_zero, List.set_cons_succ]
          refine wpAnyH_take (i := 7) (oi := { dst := some 34, op := Op.move (Operand.tmp 7), type := 27, pos := "law.go:59", after := #[{ on := 5, ground := Ground.guard }], guard := some (5, true) }) (v := .slice Ao o.length co) rfl (by kernel_rfl) (by kernel_rfl) (by kernel_rfl) (fun _ _ _ h => h) (Or.inl ⟨by kernel_rfl, fun w' hSw => by (try dsimp only at hSw); go_simp⟩) (by assumption) ?_
          try simp only [Act.put, List.setIfInBounds_toArray, List.set_cons_zero, List.set_cons_succ]
          refine wpAnyH_ready (rs := [8]) (by kernel_rfl) (by simp) ?_
          refine AllReadyH.cons (o := { dst := some 35, op := Op.call { callee := Callee.value (Operand.func 20), args := #[Operand.tmp 33, Operand.tmp 34], argTypes := #[24, 27] }, type := 4, pos := "law.go:59", after := #[{ on := 6, ground := Ground.data }, { on := 7, ground := Ground.data }, { on := 5, ground := Ground.chain }, { on := 5, ground := Ground.guard }], guard := some (5, true) }) rfl (fun K hK => ?_) AllReadyH.nil
          go_simp
          refine (rright7_at g _ HN.out HRT.out (K2.out.ok (.head _)) Ao o.length co o (by have := HOL.out; omega) RO.out).mono ?_
          rintro e u3 ⟨b2, rfl, hb2, b⟩
          have hbb : b1 = b2 := Bool.eq_iff_iff.2 (HB1.out.trans hb2.symm)
          subst hbb
          have hbn : (b1 != b1) = false := by simp
          have K3 := Lib.hid (K2.out.on b)
          clear b hb2 HB1 K2 RO hHeld
          refine hK.out _ _ ⟨K3.out.c0 (.head _), K3.out.c1 (.head _)⟩ (fun hHeld => ?_)
          clear hK K
          try simp only [Act.put, List.setIfInBounds_toArray, List.set_cons_zero, List.set_cons_succ]
          refine wpAnyH_take (i := 9) (oi := { dst := some 36, op := Op.pick (Operand.tmp 32) (Operand.tmp 35) (Operand.const (Value.bool false)), type := 4, pos := "law.go:59", after := #[{ on := 5, ground := Ground.data }, { on := 8, ground := Ground.data }], guard := none }) (v := .bool b1) rfl (by kernel_rfl) (by kernel_rfl) (by kernel_rfl) (fun _ _ _ h => h) (Or.inl ⟨by kernel_rfl, fun w' hSw => by (try dsimp only at hSw); go_simp⟩) (by assumption) ?_
          try simp only [Act.put, List.setIfInBounds_toArray, List.set_cons_zero, List.set_cons_succ]
          refine wpAnyH_take (i := 10) (oi := { dst := some 37, op := Op.binOp BinOp.neq 4 (Operand.tmp 29) (Operand.tmp 36) 4, type := 4, pos := "law.go:59", after := #[{ on := 2, ground := Ground.data }, { on := 9, ground := Ground.data }], guard := none }) (v := .bool false) rfl (by kernel_rfl) (by kernel_rfl) (by kernel_rfl) (fun _ _ _ h => h) (Or.inl ⟨by kernel_rfl, fun w' hSw => by (try dsimp only at hSw); go_simp⟩) (by assumption) ?_
          try simp only [Act.put, List.setIfInBounds_toArray, List.set_cons_zero, List.set_cons_succ]
          refine wpAnyH_done (by kernel_rfl) ?_ _
          refine NoPanic.normal ?_
          clear HRT hbn
          have hi8 := HI8.out
          go_wp2_with fail
          go_roundg g2
          case measure => omega
          case rel => exact ⟨i + 1, by have := HI.out; omega, by omega, by go_num, K3⟩
end Go.Proofs.Ytaigpdpcliecpaa
