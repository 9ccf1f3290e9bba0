/- TopoOrders: the walk. -/
import Derived.Test.YtaigpdpcliecpaaM17
-- holds: YtaigpdpcliecpaaTw
namespace Go.Proofs.Ytaigpdpcliecpaa
open Go.RowKit Go.Shelf

section
variable {f g : GV} (h1 : f.z = g.z) (h2 : f.es = g.es) (w : World) (hn : f.n ≤ 1000) (hr : rightG g.z g.es = true) (ok : f.ok w)
include h1 h2 hn hr ok
theorem rorder7_of : Calls Try.prog 14 #[.agg #[.int .i64 f.z, .slice f.A f.n f.c]] w (ROrderIs g.es g.z.toNat w) := by
  rw [← h1, ← h2] at *
  exact rorder7_at f w hn hr ok
theorem rdepth7_of (D o : List Int) (hD : DepthIs g.es g.z.toNat D) (ho : RightO g.es g.z.toNat o) : Calls Try.prog 17 #[.agg #[.int .i64 f.z, .slice f.A f.n f.c]] w (RDepthIs D w) :=
  rdepth7_at f w hn (by rw [h1, h2]; exact hr) ok D o (by rw [h1, h2]; exact hD) (by rw [h1, h2]; exact ho)
end

set_option maxRecDepth 100000 in
set_option maxHeartbeats 16000000 in
theorem orders7_core (nodes : Int) (A : Option Addr) (n c : Nat) (zs : List Ed) (hc : A = none → c = 0) (hnc : n ≤ c) (hcm : c ≤ 9223372036854775807) (w : World) (hR : Reads w w.heap.size 3 A n (cellsE zs)) :
    Calls Try.prog 3 #[.agg #[.int .i64 nodes, .slice A n c]] w fun e w' => e = .returned (.bool true) ∧ Below w.heap.size w w' := by
  have E0 := Lib.hid ((Env.start w).add (g := ⟨nodes, A, n, c, zs⟩) ⟨hR, hnc, hcm, hc⟩)
  obtain ⟨gx, hgx⟩ : ∃ gx : GV, (⟨nodes, A, n, c, zs⟩ : GV) = gx := ⟨_, rfl⟩
  have hz : nodes = gx.z := by rw [← hgx]
  have hA : A = gx.A := by rw [← hgx]
  have hn : n = gx.n := by rw [← hgx]
  have hcc : c = gx.c := by rw [← hgx]
  rw [hgx] at E0
  subst hz; subst hA; subst hn; subst hcc
  clear hR hc hnc hcm hgx
  go_enter Try.func3, Try.ntmps3
  go_wp2_with fail
  generalize w.alloc (.cells #[.int .i64 gx.z, .slice gx.A gx.n gx.c] 24) = W0 at *
  refine (wakes7_any _).mono ?_
  rintro e w1 ⟨rfl, b⟩
  have E1 := Lib.hid (E0.out.on b)
  clear b E0
  have z0 := E1.out.c0 (.head _)
  have z1 := E1.out.c1 (.head _)
  go_wp2_with fail
  have ok1 := E1.out.ok (.head _)
  refine (fair7_any gx.z gx.A gx.n gx.c gx.es ok1.2.2.2 ok1.2.1 ok1.2.2.1 w1 ok1.1).mono ?_
  clear ok1
  rintro e w2 hx
  obtain ⟨g, rfl, hz, he, okg, b⟩ := gis_gv hx
  have E3 := Lib.hid ((E1.out.on b).add okg)
  have HN : Hid (g.n ≤ 1000) := by
    show _ ≤ _
    have h1 := okg.len
    rw [he, List.length_take] at h1
    omega
  have HGE := Lib.hid (And.intro hz he)
  have HL : Hid (g.es.length = g.n) := okg.len
  clear hx hz he okg b E1 z0 z1
  have z0 := E3.out.c0 (.head _)
  have z1 := E3.out.c1 (.head _)
  have x0 := E3.out.c0 (.tail _ (.head _))
  have x1 := E3.out.c1 (.tail _ (.head _))
  go_wp2_with fail
  generalize w2.alloc (.cells #[.int .i64 g.z, .slice g.A g.n g.c] 24) = w3 at *
  generalize w2.heap.size = b3 at *
  cases hr : rightG g.z g.es
  · skip
    clear HGE HL
    have HRF := Lib.hid hr
    clear hr
    refine (order7_no g.z g.A g.n g.c g.es HRF.out HN.out _ (E3.out.ok (.head _)).1).mono ?_
    rintro e w4 ⟨rfl, b⟩
    have E4 := Lib.hid (E3.out.on b)
    clear b E3 z0 z1 x0 x1
    have z0 := E4.out.c0 (.head _)
    have z1 := E4.out.c1 (.head _)
    have x0 := E4.out.c0 (.tail _ (.head _))
    have x1 := E4.out.c1 (.tail _ (.head _))
    go_wp2_with fail
    refine (left7_no g.z g.A g.n g.c g.es HRF.out HN.out _ (E4.out.ok (.head _)).1).mono ?_
    rintro e w5 ⟨rfl, b⟩
    have E5 := Lib.hid (E4.out.on b)
    clear b E4 z0 z1 x0 x1
    have z0 := E5.out.c0 (.head _)
    have z1 := E5.out.c1 (.head _)
    have x0 := E5.out.c0 (.tail _ (.head _))
    have x1 := E5.out.c1 (.tail _ (.head _))
    go_wp2_with fail
    refine (depth7_no g.z g.A g.n g.c g.es HRF.out HN.out _ (E5.out.ok (.head _)).1).mono ?_
    rintro e w6 ⟨rfl, b⟩
    have E6 := Lib.hid (E5.out.on b)
    clear b E5 z0 z1 x0 x1
    have z0 := E6.out.c0 (.head _)
    have z1 := E6.out.c1 (.head _)
    have x0 := E6.out.c0 (.tail _ (.head _))
    have x1 := E6.out.c1 (.tail _ (.head _))
    go_wp2_with fail
    have HRG := right_any g.z g.A g.n g.c g.es HN.out w6 (E6.out.ok (.head _)).1
    rw [HRF.out] at HRG
    refine HRG.mono ?_
    clear HRG
    rintro e w7 ⟨rfl, b⟩
    have E7 := Lib.hid (E6.out.on b)
    clear b E6 z0 z1 x0 x1
    go_wp2_with fail
    go_ret
    exact ⟨rfl, E7.out.below⟩
  · skip
    have HRT := Lib.hid hr
    clear hr
    refine (order7_at g _ HN.out HRT.out (E3.out.ok (.head _))).mono ?_
    rintro e w4 ⟨l, hk, b, hor⟩
    have E4 := Lib.hid (E3.out.on b)
    have HK := Lib.hid hk
    clear hk
    rcases hor with ⟨hlt, rfl⟩ | ⟨heq, Ao, co, rfl, ho, _, _⟩
    · skip
      have HLM := Lib.hid hlt
      clear hlt b E3 z0 z1 x0 x1
      have z0 := E4.out.c0 (.head _)
      have z1 := E4.out.c1 (.head _)
      have x0 := E4.out.c0 (.tail _ (.head _))
      have x1 := E4.out.c1 (.tail _ (.head _))
      go_wp2_with fail
      refine (left7_at g _ HN.out HRT.out (E4.out.ok (.head _))).mono ?_
      rintro e w5 ⟨l2, Al, cl, hk2, rfl, hol, _, _, b⟩
      have hll : l2 = l := hk2.unique HK.out
      subst l2
      have E5 := Lib.hid (E4.out.on b)
      have RL := Lib.hid (Reads.of_own hol)
      clear hk2 hol b E4 z0 z1 x0 x1
      obtain ⟨ls, hls⟩ : ∃ ls, leftE g.z.toNat l = ls := ⟨_, rfl⟩
      rw [hls] at RL
      have hq : ((ls.length : Int) == 0) = false := by
        rw [← hls, beq_eq_false_iff_ne]
        intro h
        have h1 := (left_none HK.out.way).1 (List.eq_nil_of_length_eq_zero (by omega))
        have := HLM.out
        omega
      have HLS := Lib.hid hls
      rw [hls]
      clear hls
      have HLN : Hid (ls.length ≤ 300) := by
        show _ ≤ _
        have h1 := left_len g.z.toNat l
        have h2 := (GV.nat HRT.out).2.1
        rw [HLS.out] at h1
        omega
      have z0 := E5.out.c0 (.head _)
      have z1 := E5.out.c1 (.head _)
      have x0 := E5.out.c0 (.tail _ (.head _))
      have x1 := E5.out.c1 (.tail _ (.head _))
      go_wp2_with fail
      refine (depth7_at g _ HN.out HRT.out (E5.out.ok (.head _))).mono ?_
      rintro e w6 ⟨l3, hk3, b, hor⟩
      have hll : l3 = l := hk3.unique HK.out
      subst l3
      have E6 := Lib.hid (E5.out.on b)
      have RL' := Lib.hid ((RL.out.below b).more b.size)
      clear RL
      have RL := RL'
      clear RL'
      obtain ⟨_, rfl⟩ := hor.resolve_right fun h => by have h1 := h.1; have h2 := HLM.out; omega
      clear hk3 b hor E5 z0 z1 x0 x1
      have z0 := E6.out.c0 (.head _)
      have z1 := E6.out.c1 (.head _)
      have x0 := E6.out.c0 (.tail _ (.head _))
      have x1 := E6.out.c1 (.tail _ (.head _))
      go_wp2_with fail
      have HRG := right_any g.z g.A g.n g.c g.es HN.out w6 (E6.out.ok (.head _)).1
      rw [HRT.out] at HRG
      refine HRG.mono ?_
      clear HRG
      rintro e w7 ⟨rfl, b⟩
      have E7 := Lib.hid (E6.out.on b)
      have RL' := Lib.hid ((RL.out.below b).more b.size)
      clear RL
      have RL := RL'
      clear RL'
      clear b E6 z0 z1 x0 x1
      have z0 := E7.out.c0 (.head _)
      have z1 := E7.out.c1 (.head _)
      have x0 := E7.out.c0 (.tail _ (.head _))
      have x1 := E7.out.c1 (.tail _ (.head _))
      go_wp2_with fail
      refine (fair7_any gx.z gx.A gx.n gx.c gx.es (E7.out.ok (.tail _ (.head _))).2.2.2 (E7.out.ok (.tail _ (.head _))).2.1 (E7.out.ok (.tail _ (.head _))).2.2.1 _ (E7.out.ok (.tail _ (.head _))).1).mono ?_
      rintro e w8 hx
      obtain ⟨f, rfl, hz, he, okf, b⟩ := gis_gv hx
      have E8 := Lib.hid (E7.out.on b)
      have RL' := Lib.hid ((RL.out.below b).more b.size)
      clear RL
      have RL := RL'
      clear RL'
      have HF := Lib.hid okf
      have HFE : Hid (f.z = g.z ∧ f.es = g.es) := ⟨hz.trans HGE.out.1.symm, he.trans HGE.out.2.symm⟩
      have HFN : Hid (f.n ≤ 60) := by
        show _ ≤ _
        have h1 := okf.len
        rw [he, List.length_take] at h1
        omega
      clear hx hz he okf b E7 z0 z1 x0 x1
      go_wp2_with fail
      refine (rorder7_of HFE.out.1 HFE.out.2 _ (by have := HFN.out; omega) HRT.out HF.out).mono ?_
      rintro e w9 ⟨l4, A4, A5, c4, c5, hk4, rfl, r1, r2, b⟩
      have hll : l4 = l := hk4.unique HK.out
      subst l4
      have E9 := Lib.hid (E8.out.on b)
      have RL' := Lib.hid ((RL.out.below b).more b.size)
      clear RL
      have RL := RL'
      clear RL'
      have R4 := Lib.hid r1
      have R5 := Lib.hid r2
      rw [HLS.out] at R5
      rw [HLS.out]
      clear r1 r2 hk4 b E8 HF HFE HFN
      have z0 := E9.out.c0 (.head _)
      have z1 := E9.out.c1 (.head _)
      have x0 := E9.out.c0 (.tail _ (.head _))
      have x1 := E9.out.c1 (.tail _ (.head _))
      go_wp2_with fail
      have K0 := Lib.hid E9.out.drew
      have RL' : Hid (Reads w9.drew w9.drew.heap.size 1 _ _ _) := (RL.out.below (Below.refl _ _).drew).more (Below.refl w9.heap.size w9).drew.size
      clear RL
      have RL := RL'
      clear RL'
      have R4' : Hid (Reads w9.drew w9.drew.heap.size 1 _ _ _) := (R4.out.below (Below.refl _ _).drew).more (Below.refl w9.heap.size w9).drew.size
      clear R4
      have R4 := R4'
      clear R4'
      have R5' : Hid (Reads w9.drew w9.drew.heap.size 1 _ _ _) := (R5.out.below (Below.refl _ _).drew).more (Below.refl w9.heap.size w9).drew.size
      clear R5
      have R5 := R5'
      clear R5'
      clear E9 z0 z1 x0 x1
      refine wp_region_noPanic ?_
      refine wp_region_held_drew (S := fun w' => w'.cell? ⟨b3, 0, none⟩ = some (.int .i64 g.z) ∧ w'.cell? ⟨b3, 1, none⟩ = some (.slice g.A g.n g.c) ∧ w'.cell? ⟨w.heap.size, 0, none⟩ = some (.int .i64 gx.z) ∧ w'.cell? ⟨w.heap.size, 1, none⟩ = some (.slice gx.A gx.n gx.c)) (by kernel_rfl) ⟨K0.out.c0 (.head _), K0.out.c1 (.head _), K0.out.c0 (.tail _ (.head _)), K0.out.c1 (.tail _ (.head _))⟩ (fun hHeld => ?_)
      refine wpAnyH_take (i := 0) (oi := { dst := some 75, op := Op.move (Operand.tmp 6), type := 28, pos := "law.go:39", after := #[], guard := none }) (v := .int .i64 0) rfl (by kernel_rfl) (by kernel_rfl) (by kernel_rfl) (fun _ _ _ h => h) (Or.inl ⟨by kernel_rfl, fun w' hSw => by (try dsimp only at hSw); go_simp⟩) (by assumption) ?_
      try simp only [Act.put, List.setIfInBounds_toArray, List.set_cons_zero, List.set_cons_succ]
      refine wpAnyH_take (i := 1) (oi := { dst := some 76, op := Op.binOp BinOp.neq 28 (Operand.tmp 75) (Operand.const (Value.int IntKind.i64 0)) 28, type := 4, pos := "law.go:39", after := #[{ on := 0, ground := Ground.data }], guard := none }) (v := .bool false) rfl (by kernel_rfl) (by kernel_rfl) (by kernel_rfl) (fun _ _ _ h => h) (Or.inl ⟨by kernel_rfl, fun w' hSw => by (try dsimp only at hSw); go_simp⟩) (by assumption) ?_
      try simp only [Act.put, List.setIfInBounds_toArray, List.set_cons_zero, List.set_cons_succ]
      refine wpAnyH_take (i := 2) (oi := { dst := some 77, op := Op.move (Operand.tmp 76), type := 4, pos := "law.go:39", after := #[{ on := 1, ground := Ground.data }], guard := none }) (v := .bool false) rfl (by kernel_rfl) (by kernel_rfl) (by kernel_rfl) (fun _ _ _ h => h) (Or.inl ⟨by kernel_rfl, fun w' hSw => by (try dsimp only at hSw); go_simp⟩) (by assumption) ?_
      try simp only [Act.put, List.setIfInBounds_toArray, List.set_cons_zero, List.set_cons_succ]
      refine wpAnyH_take (i := 3) (oi := { dst := some 78, op := Op.move (Operand.tmp 8), type := 28, pos := "law.go:39", after := #[{ on := 2, ground := Ground.guard }], guard := some (2, false) }) (v := .int .i64 0) rfl (by kernel_rfl) (by kernel_rfl) (by kernel_rfl) (fun _ _ _ h => h) (Or.inl ⟨by kernel_rfl, fun w' hSw => by (try dsimp only at hSw); go_simp⟩) (by assumption) ?_
      try simp only [Act.put, List.setIfInBounds_toArray, List.set_cons_zero, List.set_cons_succ]
      refine wpAnyH_take (i := 4) (oi := { dst := some 79, op := Op.binOp BinOp.neq 28 (Operand.tmp 78) (Operand.const (Value.int IntKind.i64 0)) 28, type := 4, pos := "law.go:39", after := #[{ on := 3, ground := Ground.data }, { on := 2, ground := Ground.guard }], guard := some (2, false) }) (v := .bool false) rfl (by kernel_rfl) (by kernel_rfl) (by kernel_rfl) (fun _ _ _ h => h) (Or.inl ⟨by kernel_rfl, fun w' hSw => by (try dsimp only at hSw); go_simp⟩) (by assumption) ?_
      try simp only [Act.put, List.setIfInBounds_toArray, List.set_cons_zero, List.set_cons_succ]
      refine wpAnyH_take (i := 5) (oi := { dst := some 80, op := Op.pick (Operand.tmp 77) (Operand.const (Value.bool true)) (Operand.tmp 79), type := 4, pos := "law.go:39", after := #[{ on := 2, ground := Ground.data }, { on := 4, ground := Ground.data }], guard := none }) (v := .bool false) rfl (by kernel_rfl) (by kernel_rfl) (by kernel_rfl) (fun _ _ _ h => h) (Or.inl ⟨by kernel_rfl, fun w' hSw => by (try dsimp only at hSw); go_simp⟩) (by assumption) ?_
      try simp only [Act.put, List.setIfInBounds_toArray, List.set_cons_zero, List.set_cons_succ]
      refine wpAnyH_take (i := 6) (oi := { dst := some 81, op := Op.move (Operand.tmp 80), type := 4, pos := "law.go:39", after := #[{ on := 5, ground := Ground.data }, { on := 2, ground := Ground.chain }], guard := none }) (v := .bool false) rfl (by kernel_rfl) (by kernel_rfl) (by kernel_rfl) (fun _ _ _ h => h) (Or.inl ⟨by kernel_rfl, fun w' hSw => by (try dsimp only at hSw); go_simp⟩) (by assumption) ?_
      try simp only [Act.put, List.setIfInBounds_toArray, List.set_cons_zero, List.set_cons_succ]
      refine wpAnyH_take (i := 7) (oi := { dst := some 82, op := Op.move (Operand.tmp 11), type := 28, pos := "law.go:39", after := #[{ on := 6, ground := Ground.guard }], guard := some (6, false) }) (v := .int .i64 0) rfl (by kernel_rfl) (by kernel_rfl) (by kernel_rfl) (fun _ _ _ h => h) (Or.inl ⟨by kernel_rfl, fun w' hSw => by (try dsimp only at hSw); go_simp⟩) (by assumption) ?_
      try simp only [Act.put, List.setIfInBounds_toArray, List.set_cons_zero, List.set_cons_succ]
      refine wpAnyH_take (i := 8) (oi := { dst := some 83, op := Op.binOp BinOp.neq 28 (Operand.tmp 82) (Operand.const (Value.int IntKind.i64 0)) 28, type := 4, pos := "law.go:39", after := #[{ on := 7, ground := Ground.data }, { on := 6, ground := Ground.guard }], guard := some (6, false) }) (v := .bool false) rfl (by kernel_rfl) (by kernel_rfl) (by kernel_rfl) (fun _ _ _ h => h) (Or.inl ⟨by kernel_rfl, fun w' hSw => by (try dsimp only at hSw); go_simp⟩) (by assumption) ?_
      try simp only [Act.put, List.setIfInBounds_toArray, List.set_cons_zero, List.set_cons_succ]
      refine wpAnyH_take (i := 9) (oi := { dst := some 84, op := Op.pick (Operand.tmp 81) (Operand.const (Value.bool true)) (Operand.tmp 83), type := 4, pos := "law.go:39", after := #[{ on := 6, ground := Ground.data }, { on := 8, ground := Ground.data }], guard := none }) (v := .bool false) rfl (by kernel_rfl) (by kernel_rfl) (by kernel_rfl) (fun _ _ _ h => h) (Or.inl ⟨by kernel_rfl, fun w' hSw => by (try dsimp only at hSw); go_simp⟩) (by assumption) ?_
      try simp only [Act.put, List.setIfInBounds_toArray, List.set_cons_zero, List.set_cons_succ]
      refine wpAnyH_take (i := 10) (oi := { dst := some 85, op := Op.move (Operand.tmp 84), type := 4, pos := "law.go:39", after := #[{ on := 9, ground := Ground.data }, { on := 6, ground := Ground.chain }], guard := none }) (v := .bool false) rfl (by kernel_rfl) (by kernel_rfl) (by kernel_rfl) (fun _ _ _ h => h) (Or.inl ⟨by kernel_rfl, fun w' hSw => by (try dsimp only at hSw); go_simp⟩) (by assumption) ?_
      try simp only [Act.put, List.setIfInBounds_toArray, List.set_cons_zero, List.set_cons_succ]
      refine wpAnyH_take (i := 11) (oi := { dst := some 86, op := Op.move (Operand.tmp 7), type := 27, pos := "law.go:39", after := #[{ on := 10, ground := Ground.guard }], guard := some (10, false) }) (v := .slice Al ls.length cl) rfl (by kernel_rfl) (by kernel_rfl) (by kernel_rfl) (fun _ _ _ h => h) (Or.inl ⟨by kernel_rfl, fun w' hSw => by (try dsimp only at hSw); go_simp⟩) (by assumption) ?_
      try simp only [Act.put, List.setIfInBounds_toArray, List.set_cons_zero, List.set_cons_succ]
      refine wpAnyH_take (i := 12) (oi := { dst := some 87, op := Op.move (Operand.tmp 13), type := 27, pos := "law.go:39", after := #[{ on := 10, ground := Ground.guard }], guard := some (10, false) }) (v := .slice A5 ls.length c5) rfl (by kernel_rfl) (by kernel_rfl) (by kernel_rfl) (fun _ _ _ h => h) (Or.inl ⟨by kernel_rfl, fun w' hSw => by (try dsimp only at hSw); go_simp⟩) (by assumption) ?_
      try simp only [Act.put, List.setIfInBounds_toArray, List.set_cons_zero, List.set_cons_succ]
      refine wpAnyH_ready (rs := [13]) (by kernel_rfl) (by simp) ?_
      refine AllReadyH.cons (o := { dst := some 88, op := Op.call { callee := Callee.value (Operand.func 15), args := #[Operand.tmp 86, Operand.tmp 87], argTypes := #[27, 27] }, type := 4, pos := "law.go:39", after := #[{ on := 11, ground := Ground.data }, { on := 12, ground := Ground.data }, { on := 10, ground := Ground.chain }, { on := 10, ground := Ground.guard }], guard := some (10, false) }) rfl (fun K hK => ?_) AllReadyH.nil
      go_simp
      refine (eqi_any Al A5 ls.length ls.length cl c5 ls ls (by have := HLN.out; omega) (by have := HLN.out; omega) _ RL.out R5.out).mono ?_
      rintro e u1 ⟨rfl, b⟩
      rw [decide_eq_true (rfl : ls = ls)]
      have K1 := Lib.hid (K0.out.on b)
      have RL' := Lib.hid ((RL.out.below b).more b.size)
      clear RL
      have RL := RL'
      clear RL'
      have R4' := Lib.hid ((R4.out.below b).more b.size)
      clear R4
      have R4 := R4'
      clear R4'
      have R5' := Lib.hid ((R5.out.below b).more b.size)
      clear R5
      have R5 := R5'
      clear R5'
      clear b K0 hHeld
      refine hK.out _ _ ⟨K1.out.c0 (.head _), K1.out.c1 (.head _), K1.out.c0 (.tail _ (.head _)), K1.out.c1 (.tail _ (.head _))⟩ (fun hHeld => ?_)
      clear hK K
      try simp only [Act.put, List.setIfInBounds_toArray, List.set_cons_zero, List.set_cons_succ]
      refine wpAnyH_take (i := 14) (oi := { dst := some 89, op := Op.unOp UnOp.not 4 (Operand.tmp 88), type := 4, pos := "law.go:39", after := #[{ on := 13, ground := Ground.data }, { on := 10, ground := Ground.guard }], guard := some (10, false) }) (v := .bool false) rfl (by kernel_rfl) (by kernel_rfl) (by kernel_rfl) (fun _ _ _ h => h) (Or.inl ⟨by kernel_rfl, fun w' hSw => by (try dsimp only at hSw); go_simp⟩) (by assumption) ?_
      try simp only [Act.put, List.setIfInBounds_toArray, List.set_cons_zero, List.set_cons_succ]
      refine wpAnyH_take (i := 15) (oi := { dst := some 90, op := Op.pick (Operand.tmp 85) (Operand.const (Value.bool true)) (Operand.tmp 89), type := 4, pos := "law.go:39", after := #[{ on := 10, ground := Ground.data }, { on := 14, ground := Ground.data }], guard := none }) (v := .bool false) rfl (by kernel_rfl) (by kernel_rfl) (by kernel_rfl) (fun _ _ _ h => h) (Or.inl ⟨by kernel_rfl, fun w' hSw => by (try dsimp only at hSw); go_simp⟩) (by assumption) ?_
      try simp only [Act.put, List.setIfInBounds_toArray, List.set_cons_zero, List.set_cons_succ]
      refine wpAnyH_take (i := 16) (oi := { dst := some 91, op := Op.move (Operand.tmp 90), type := 4, pos := "law.go:39", after := #[{ on := 15, ground := Ground.data }, { on := 13, ground := Ground.chain }], guard := none }) (v := .bool false) rfl (by kernel_rfl) (by kernel_rfl) (by kernel_rfl) (fun _ _ _ h => h) (Or.inl ⟨by kernel_rfl, fun w' hSw => by (try dsimp only at hSw); go_simp⟩) (by assumption) ?_
      try simp only [Act.put, List.setIfInBounds_toArray, List.set_cons_zero, List.set_cons_succ]
      refine wpAnyH_take (i := 17) (oi := { dst := some 92, op := Op.move (Operand.tmp 5), type := 4, pos := "law.go:39", after := #[{ on := 16, ground := Ground.guard }], guard := some (16, false) }) (v := .bool false) rfl (by kernel_rfl) (by kernel_rfl) (by kernel_rfl) (fun _ _ _ h => h) (Or.inl ⟨by kernel_rfl, fun w' hSw => by (try dsimp only at hSw); go_simp⟩) (by assumption) ?_
      try simp only [Act.put, List.setIfInBounds_toArray, List.set_cons_zero, List.set_cons_succ]
      refine wpAnyH_take (i := 18) (oi := { dst := some 93, op := Op.move (Operand.tmp 13), type := 27, pos := "law.go:39", after := #[{ on := 16, ground := Ground.guard }], guard := some (16, false) }) (v := .slice A5 ls.length c5) rfl (by kernel_rfl) (by kernel_rfl) (by kernel_rfl) (fun _ _ _ h => h) (Or.inl ⟨by kernel_rfl, fun w' hSw => by (try dsimp only at hSw); go_simp⟩) (by assumption) ?_
      try simp only [Act.put, List.setIfInBounds_toArray, List.set_cons_zero, List.set_cons_succ]
      refine wpAnyH_take (i := 19) (oi := { dst := some 94, op := Op.call { callee := Callee.builtin Builtin.len, args := #[Operand.tmp 93], argTypes := #[27] }, type := 3, pos := "law.go:39", after := #[{ on := 18, ground := Ground.data }, { on := 16, ground := Ground.guard }], guard := some (16, false) }) (v := .int .i64 (ls.length : Int)) rfl (by kernel_rfl) (by kernel_rfl) (by kernel_rfl) (fun _ _ _ h => h) (Or.inl ⟨by kernel_rfl, fun w' hSw => by (try dsimp only at hSw); go_simp⟩) (by assumption) ?_
      try simp only [Act.put, List.setIfInBounds_toArray, List.set_cons_zero, List.set_cons_succ]
      refine wpAnyH_take (i := 20) (oi := { dst := some 95, op := Op.binOp BinOp.eql 3 (Operand.tmp 94) (Operand.const (Value.int IntKind.i64 0)) 3, type := 4, pos := "law.go:39", after := #[{ on := 19, ground := Ground.data }, { on := 16, ground := Ground.guard }], guard := some (16, false) }) (v := .bool false) rfl (by kernel_rfl) (by kernel_rfl) (by kernel_rfl) (fun _ _ _ h => h) (Or.inl ⟨by kernel_rfl, fun w' hSw => by (try dsimp only at hSw); go_simp⟩) (by assumption) ?_
      try simp only [Act.put, List.setIfInBounds_toArray, List.set_cons_zero, List.set_cons_succ]
      refine wpAnyH_take (i := 21) (oi := { dst := some 96, op := Op.binOp BinOp.neq 4 (Operand.tmp 92) (Operand.tmp 95) 4, type := 4, pos := "law.go:39", after := #[{ on := 17, ground := Ground.data }, { on := 20, ground := Ground.data }, { on := 16, ground := Ground.guard }], guard := some (16, false) }) (v := .bool false) rfl (by kernel_rfl) (by kernel_rfl) (by kernel_rfl) (fun _ _ _ h => h) (Or.inl ⟨by kernel_rfl, fun w' hSw => by (try dsimp only at hSw); go_simp⟩) (by assumption) ?_
      try simp only [Act.put, List.setIfInBounds_toArray, List.set_cons_zero, List.set_cons_succ]
      refine wpAnyH_take (i := 22) (oi := { dst := some 97, op := Op.pick (Operand.tmp 91) (Operand.const (Value.bool true)) (Operand.tmp 96), type := 4, pos := "law.go:39", after := #[{ on := 16, ground := Ground.data }, { on := 21, ground := Ground.data }], guard := none }) (v := .bool false) rfl (by kernel_rfl) (by kernel_rfl) (by kernel_rfl) (fun _ _ _ h => h) (Or.inl ⟨by kernel_rfl, fun w' hSw => by (try dsimp only at hSw); go_simp⟩) (by assumption) ?_
      try simp only [Act.put, List.setIfInBounds_toArray, List.set_cons_zero, List.set_cons_succ]
      refine wpAnyH_take (i := 23) (oi := { dst := some 98, op := Op.move (Operand.tmp 97), type := 4, pos := "law.go:39", after := #[{ on := 22, ground := Ground.data }, { on := 16, ground := Ground.chain }], guard := none }) (v := .bool false) rfl (by kernel_rfl) (by kernel_rfl) (by kernel_rfl) (fun _ _ _ h => h) (Or.inl ⟨by kernel_rfl, fun w' hSw => by (try dsimp only at hSw); go_simp⟩) (by assumption) ?_
      try simp only [Act.put, List.setIfInBounds_toArray, List.set_cons_zero, List.set_cons_succ]
      refine wpAnyH_take (i := 24) (oi := { dst := some 99, op := Op.move (Operand.tmp 10), type := 4, pos := "law.go:39", after := #[{ on := 23, ground := Ground.guard }], guard := some (23, false) }) (v := .bool false) rfl (by kernel_rfl) (by kernel_rfl) (by kernel_rfl) (fun _ _ _ h => h) (Or.inl ⟨by kernel_rfl, fun w' hSw => by (try dsimp only at hSw); go_simp⟩) (by assumption) ?_
      try simp only [Act.put, List.setIfInBounds_toArray, List.set_cons_zero, List.set_cons_succ]
      refine wpAnyH_take (i := 25) (oi := { dst := some 100, op := Op.move (Operand.tmp 5), type := 4, pos := "law.go:39", after := #[{ on := 23, ground := Ground.guard }], guard := some (23, false) }) (v := .bool false) rfl (by kernel_rfl) (by kernel_rfl) (by kernel_rfl) (fun _ _ _ h => h) (Or.inl ⟨by kernel_rfl, fun w' hSw => by (try dsimp only at hSw); go_simp⟩) (by assumption) ?_
      try simp only [Act.put, List.setIfInBounds_toArray, List.set_cons_zero, List.set_cons_succ]
      refine wpAnyH_take (i := 26) (oi := { dst := some 101, op := Op.binOp BinOp.neq 4 (Operand.tmp 99) (Operand.tmp 100) 4, type := 4, pos := "law.go:39", after := #[{ on := 24, ground := Ground.data }, { on := 25, ground := Ground.data }, { on := 23, ground := Ground.guard }], guard := some (23, false) }) (v := .bool false) rfl (by kernel_rfl) (by kernel_rfl) (by kernel_rfl) (fun _ _ _ h => h) (Or.inl ⟨by kernel_rfl, fun w' hSw => by (try dsimp only at hSw); go_simp⟩) (by assumption) ?_
      try simp only [Act.put, List.setIfInBounds_toArray, List.set_cons_zero, List.set_cons_succ]
      refine wpAnyH_take (i := 27) (oi := { dst := some 102, op := Op.pick (Operand.tmp 98) (Operand.const (Value.bool true)) (Operand.tmp 101), type := 4, pos := "law.go:39", after := #[{ on := 23, ground := Ground.data }, { on := 26, ground := Ground.data }], guard := none }) (v := .bool false) rfl (by kernel_rfl) (by kernel_rfl) (by kernel_rfl) (fun _ _ _ h => h) (Or.inl ⟨by kernel_rfl, fun w' hSw => by (try dsimp only at hSw); go_simp⟩) (by assumption) ?_
      try simp only [Act.put, List.setIfInBounds_toArray, List.set_cons_zero, List.set_cons_succ]
      refine wpAnyH_take (i := 28) (oi := { dst := some 103, op := Op.move (Operand.tmp 102), type := 4, pos := "law.go:39", after := #[{ on := 27, ground := Ground.data }, { on := 23, ground := Ground.chain }], guard := none }) (v := .bool false) rfl (by kernel_rfl) (by kernel_rfl) (by kernel_rfl) (fun _ _ _ h => h) (Or.inl ⟨by kernel_rfl, fun w' hSw => by (try dsimp only at hSw); go_simp⟩) (by assumption) ?_
      try simp only [Act.put, List.setIfInBounds_toArray, List.set_cons_zero, List.set_cons_succ]
      refine wpAnyH_take (i := 29) (oi := { dst := some 104, op := Op.load 24 (Operand.tmp 3), type := 24, pos := "law.go:39", after := #[{ on := 28, ground := Ground.guard }], guard := some (28, false) }) (v := .agg #[.int .i64 g.z, .slice g.A g.n g.c]) rfl (by kernel_rfl) (by kernel_rfl) (by kernel_rfl) (fun _ _ _ h => h) (Or.inl ⟨by kernel_rfl, fun w' hSw => by (try dsimp only at hSw); go_simp⟩) (by assumption) ?_
      try simp only [Act.put, List.setIfInBounds_toArray, List.set_cons_zero, List.set_cons_succ]
      refine wpAnyH_take (i := 30) (oi := { dst := some 105, op := Op.load 24 (Operand.tmp 1), type := 24, pos := "law.go:39", after := #[{ on := 28, ground := Ground.guard }], guard := some (28, false) }) (v := .agg #[.int .i64 gx.z, .slice gx.A gx.n gx.c]) rfl (by kernel_rfl) (by kernel_rfl) (by kernel_rfl) (fun _ _ _ h => h) (Or.inl ⟨by kernel_rfl, fun w' hSw => by (try dsimp only at hSw); go_simp⟩) (by assumption) ?_
      try simp only [Act.put, List.setIfInBounds_toArray, List.set_cons_zero, List.set_cons_succ]
      refine wpAnyH_ready (rs := [31]) (by kernel_rfl) (by simp) ?_
      refine AllReadyH.cons (o := { dst := some 106, op := Op.call { callee := Callee.value (Operand.func 9), args := #[Operand.tmp 105], argTypes := #[24] }, type := 24, pos := "law.go:39", after := #[{ on := 30, ground := Ground.data }, { on := 28, ground := Ground.chain }, { on := 28, ground := Ground.guard }], guard := some (28, false) }) rfl (fun K hK => ?_) AllReadyH.nil
      go_simp
      refine (fair7_any gx.z gx.A gx.n gx.c gx.es (K1.out.ok (.tail _ (.head _))).2.2.2 (K1.out.ok (.tail _ (.head _))).2.1 (K1.out.ok (.tail _ (.head _))).2.2.1 _ (K1.out.ok (.tail _ (.head _))).1).mono ?_
      rintro e u2 hx
      obtain ⟨f, rfl, hz, he, okf, b⟩ := gis_gv hx
      have K2 := Lib.hid (K1.out.on b)
      have RL' := Lib.hid ((RL.out.below b).more b.size)
      clear RL
      have RL := RL'
      clear RL'
      have R4' := Lib.hid ((R4.out.below b).more b.size)
      clear R4
      have R4 := R4'
      clear R4'
      have R5' := Lib.hid ((R5.out.below b).more b.size)
      clear R5
      have R5 := R5'
      clear R5'
      have HF := Lib.hid okf
      have HFE : Hid (f.z = g.z ∧ f.es = g.es) := ⟨hz.trans HGE.out.1.symm, he.trans HGE.out.2.symm⟩
      have HFN : Hid (f.n ≤ 60) := by
        show _ ≤ _
        have h1 := okf.len
        rw [he, List.length_take] at h1
        omega
      clear hx hz he okf b K1 hHeld
      refine hK.out _ _ ⟨K2.out.c0 (.head _), K2.out.c1 (.head _), K2.out.c0 (.tail _ (.head _)), K2.out.c1 (.tail _ (.head _))⟩ (fun hHeld => ?_)
      clear hK K
      try simp only [Act.put, List.setIfInBounds_toArray, List.set_cons_zero, List.set_cons_succ]
      refine wpAnyH_ready (rs := [32]) (by kernel_rfl) (by simp) ?_
      refine AllReadyH.cons (o := { dst := some 107, op := Op.call { callee := Callee.value (Operand.func 16), args := #[Operand.tmp 104, Operand.tmp 106], argTypes := #[24, 24] }, type := 4, pos := "law.go:39", after := #[{ on := 29, ground := Ground.data }, { on := 31, ground := Ground.data }, { on := 31, ground := Ground.chain }, { on := 28, ground := Ground.guard }], guard := some (28, false) }) rfl (fun K hK => ?_) AllReadyH.nil
      go_simp
      have hs := rsame_any g.z f.z g.A f.A g.n g.c f.n f.c g.es f.es (by have := HN.out; omega) _ (K2.out.ok (.head _)).1 HF.out.1
      rw [decide_eq_true ⟨HFE.out.1.symm, HFE.out.2.symm⟩] at hs
      refine hs.mono ?_
      clear hs
      rintro e u3 ⟨rfl, b⟩
      have K3 := Lib.hid (K2.out.on b)
      have RL' := Lib.hid ((RL.out.below b).more b.size)
      clear RL
      have RL := RL'
      clear RL'
      have R4' := Lib.hid ((R4.out.below b).more b.size)
      clear R4
      have R4 := R4'
      clear R4'
      have R5' := Lib.hid ((R5.out.below b).more b.size)
      clear R5
      have R5 := R5'
      clear R5'
      clear b K2 HF HFE HFN hHeld
      refine hK.out _ _ ⟨K3.out.c0 (.head _), K3.out.c1 (.head _), K3.out.c0 (.tail _ (.head _)), K3.out.c1 (.tail _ (.head _))⟩ (fun hHeld => ?_)
      clear hK K
      try simp only [Act.put, List.setIfInBounds_toArray, List.set_cons_zero, List.set_cons_succ]
      refine wpAnyH_take (i := 33) (oi := { dst := some 108, op := Op.unOp UnOp.not 4 (Operand.tmp 107), type := 4, pos := "law.go:39", after := #[{ on := 32, ground := Ground.data }, { on := 28, ground := Ground.guard }], guard := some (28, false) }) (v := .bool false) rfl (by kernel_rfl) (by kernel_rfl) (by kernel_rfl) (fun _ _ _ h => h) (Or.inl ⟨by kernel_rfl, fun w' hSw => by (try dsimp only at hSw); go_simp⟩) (by assumption) ?_
      try simp only [Act.put, List.setIfInBounds_toArray, List.set_cons_zero, List.set_cons_succ]
      refine wpAnyH_take (i := 34) (oi := { dst := some 109, op := Op.pick (Operand.tmp 103) (Operand.const (Value.bool true)) (Operand.tmp 108), type := 4, pos := "law.go:39", after := #[{ on := 28, ground := Ground.data }, { on := 33, ground := Ground.data }], guard := none }) (v := .bool false) rfl (by kernel_rfl) (by kernel_rfl) (by kernel_rfl) (fun _ _ _ h => h) (Or.inl ⟨by kernel_rfl, fun w' hSw => by (try dsimp only at hSw); go_simp⟩) (by assumption) ?_
      try simp only [Act.put, List.setIfInBounds_toArray, List.set_cons_zero, List.set_cons_succ]
      refine wpAnyH_done (by kernel_rfl) ?_ _
      refine NoPanic.normal ?_
      clear hq
      go_wp2_with fail
      go_ret
      exact ⟨rfl, K3.out.below⟩
    · skip
      have RO := Lib.hid (Reads.of_own ho)
      have HLM := Lib.hid heq
      clear ho heq b E3 z0 z1 x0 x1
      have z0 := E4.out.c0 (.head _)
      have z1 := E4.out.c1 (.head _)
      have x0 := E4.out.c0 (.tail _ (.head _))
      have x1 := E4.out.c1 (.tail _ (.head _))
      go_wp2_with fail
      refine (left7_at g _ HN.out HRT.out (E4.out.ok (.head _))).mono ?_
      rintro e w5 ⟨l2, Al, cl, hk2, rfl, hol, _, _, b⟩
      have hll : l2 = l := hk2.unique HK.out
      subst l2
      have E5 := Lib.hid (E4.out.on b)
      have RO' := Lib.hid ((RO.out.below b).more b.size)
      clear RO
      have RO := RO'
      clear RO'
      have RL := Lib.hid (Reads.of_own hol)
      clear hk2 hol b E4 z0 z1 x0 x1
      obtain ⟨ls, hls⟩ : ∃ ls, leftE g.z.toNat l = ls := ⟨_, rfl⟩
      rw [hls] at RL
      have hq : ((ls.length : Int) == 0) = true := by rw [← hls, (left_none HK.out.way).2 HLM.out]; rfl
      have HLS := Lib.hid hls
      rw [hls]
      clear hls
      have HLN : Hid (ls.length ≤ 300) := by
        show _ ≤ _
        have h1 := left_len g.z.toNat l
        have h2 := (GV.nat HRT.out).2.1
        rw [HLS.out] at h1
        omega
      have z0 := E5.out.c0 (.head _)
      have z1 := E5.out.c1 (.head _)
      have x0 := E5.out.c0 (.tail _ (.head _))
      have x1 := E5.out.c1 (.tail _ (.head _))
      go_wp2_with fail
      refine (depth7_at g _ HN.out HRT.out (E5.out.ok (.head _))).mono ?_
      rintro e w6 ⟨l3, hk3, b, hor⟩
      have hll : l3 = l := hk3.unique HK.out
      subst l3
      have E6 := Lib.hid (E5.out.on b)
      have RO' := Lib.hid ((RO.out.below b).more b.size)
      clear RO
      have RO := RO'
      clear RO'
      have RL' := Lib.hid ((RL.out.below b).more b.size)
      clear RL
      have RL := RL'
      clear RL'
      obtain ⟨hl9, D, Ad, cd, hD, rfl, hod, _, _⟩ := hor.resolve_left fun h => by have h1 := h.1; have h2 := HLM.out; omega
      clear hl9
      have RD := Lib.hid (Reads.of_own hod)
      have HD := Lib.hid hD
      clear hod hD hk3 b E5 z0 z1 x0 x1
      have z0 := E6.out.c0 (.head _)
      have z1 := E6.out.c1 (.head _)
      have x0 := E6.out.c0 (.tail _ (.head _))
      have x1 := E6.out.c1 (.tail _ (.head _))
      go_wp2_with fail
      have HRG := right_any g.z g.A g.n g.c g.es HN.out w6 (E6.out.ok (.head _)).1
      rw [HRT.out] at HRG
      refine HRG.mono ?_
      clear HRG
      rintro e w7 ⟨rfl, b⟩
      have E7 := Lib.hid (E6.out.on b)
      have RO' := Lib.hid ((RO.out.below b).more b.size)
      clear RO
      have RO := RO'
      clear RO'
      have RL' := Lib.hid ((RL.out.below b).more b.size)
      clear RL
      have RL := RL'
      clear RL'
      have RD' := Lib.hid ((RD.out.below b).more b.size)
      clear RD
      have RD := RD'
      clear RD'
      clear b E6 z0 z1 x0 x1
      have z0 := E7.out.c0 (.head _)
      have z1 := E7.out.c1 (.head _)
      have x0 := E7.out.c0 (.tail _ (.head _))
      have x1 := E7.out.c1 (.tail _ (.head _))
      go_wp2_with fail
      refine (fair7_any gx.z gx.A gx.n gx.c gx.es (E7.out.ok (.tail _ (.head _))).2.2.2 (E7.out.ok (.tail _ (.head _))).2.1 (E7.out.ok (.tail _ (.head _))).2.2.1 _ (E7.out.ok (.tail _ (.head _))).1).mono ?_
      rintro e w8 hx
      obtain ⟨f, rfl, hz, he, okf, b⟩ := gis_gv hx
      have E8 := Lib.hid (E7.out.on b)
      have RO' := Lib.hid ((RO.out.below b).more b.size)
      clear RO
      have RO := RO'
      clear RO'
      have RL' := Lib.hid ((RL.out.below b).more b.size)
      clear RL
      have RL := RL'
      clear RL'
      have RD' := Lib.hid ((RD.out.below b).more b.size)
      clear RD
      have RD := RD'
      clear RD'
      have HF := Lib.hid okf
      have HFE : Hid (f.z = g.z ∧ f.es = g.es) := ⟨hz.trans HGE.out.1.symm, he.trans HGE.out.2.symm⟩
      have HFN : Hid (f.n ≤ 60) := by
        show _ ≤ _
        have h1 := okf.len
        rw [he, List.length_take] at h1
        omega
      clear hx hz he okf b E7 z0 z1 x0 x1
      go_wp2_with fail
      refine (rorder7_of HFE.out.1 HFE.out.2 _ (by have := HFN.out; omega) HRT.out HF.out).mono ?_
      rintro e w9 ⟨l4, A4, A5, c4, c5, hk4, rfl, r1, r2, b⟩
      have hll : l4 = l := hk4.unique HK.out
      subst l4
      have E9 := Lib.hid (E8.out.on b)
      have RO' := Lib.hid ((RO.out.below b).more b.size)
      clear RO
      have RO := RO'
      clear RO'
      have RL' := Lib.hid ((RL.out.below b).more b.size)
      clear RL
      have RL := RL'
      clear RL'
      have RD' := Lib.hid ((RD.out.below b).more b.size)
      clear RD
      have RD := RD'
      clear RD'
      have R4 := Lib.hid r1
      have R5 := Lib.hid r2
      rw [HLS.out] at R5
      rw [HLS.out]
      clear r1 r2 hk4 b E8 HF HFE HFN
      have z0 := E9.out.c0 (.head _)
      have z1 := E9.out.c1 (.head _)
      have x0 := E9.out.c0 (.tail _ (.head _))
      have x1 := E9.out.c1 (.tail _ (.head _))
      go_wp2_with fail
      have K0 := Lib.hid E9.out.drew
      have RO' : Hid (Reads w9.drew w9.drew.heap.size 1 _ _ _) := (RO.out.below (Below.refl _ _).drew).more (Below.refl w9.heap.size w9).drew.size
      clear RO
      have RO := RO'
      clear RO'
      have RL' : Hid (Reads w9.drew w9.drew.heap.size 1 _ _ _) := (RL.out.below (Below.refl _ _).drew).more (Below.refl w9.heap.size w9).drew.size
      clear RL
      have RL := RL'
      clear RL'
      have RD' : Hid (Reads w9.drew w9.drew.heap.size 1 _ _ _) := (RD.out.below (Below.refl _ _).drew).more (Below.refl w9.heap.size w9).drew.size
      clear RD
      have RD := RD'
      clear RD'
      have R4' : Hid (Reads w9.drew w9.drew.heap.size 1 _ _ _) := (R4.out.below (Below.refl _ _).drew).more (Below.refl w9.heap.size w9).drew.size
      clear R4
      have R4 := R4'
      clear R4'
      have R5' : Hid (Reads w9.drew w9.drew.heap.size 1 _ _ _) := (R5.out.below (Below.refl _ _).drew).more (Below.refl w9.heap.size w9).drew.size
      clear R5
      have R5 := R5'
      clear R5'
      clear E9 z0 z1 x0 x1
      refine wp_region_noPanic ?_
      refine wp_region_held_drew (S := fun w' => w'.cell? ⟨b3, 0, none⟩ = some (.int .i64 g.z) ∧ w'.cell? ⟨b3, 1, none⟩ = some (.slice g.A g.n g.c) ∧ w'.cell? ⟨w.heap.size, 0, none⟩ = some (.int .i64 gx.z) ∧ w'.cell? ⟨w.heap.size, 1, none⟩ = some (.slice gx.A gx.n gx.c)) (by kernel_rfl) ⟨K0.out.c0 (.head _), K0.out.c1 (.head _), K0.out.c0 (.tail _ (.head _)), K0.out.c1 (.tail _ (.head _))⟩ (fun hHeld => ?_)
      refine wpAnyH_take (i := 0) (oi := { dst := some 75, op := Op.move (Operand.tmp 6), type := 28, pos := "law.go:39", after := #[], guard := none }) (v := .int .i64 0) rfl (by kernel_rfl) (by kernel_rfl) (by kernel_rfl) (fun _ _ _ h => h) (Or.inl ⟨by kernel_rfl, fun w' hSw => by (try dsimp only at hSw); go_simp⟩) (by assumption) ?_
      try simp only [Act.put, List.setIfInBounds_toArray, List.set_cons_zero, List.set_cons_succ]
      refine wpAnyH_take (i := 1) (oi := { dst := some 76, op := Op.binOp BinOp.neq 28 (Operand.tmp 75) (Operand.const (Value.int IntKind.i64 0)) 28, type := 4, pos := "law.go:39", after := #[{ on := 0, ground := Ground.data }], guard := none }) (v := .bool false) rfl (by kernel_rfl) (by kernel_rfl) (by kernel_rfl) (fun _ _ _ h => h) (Or.inl ⟨by kernel_rfl, fun w' hSw => by (try dsimp only at hSw); go_simp⟩) (by assumption) ?_
      try simp only [Act.put, List.setIfInBounds_toArray, List.set_cons_zero, List.set_cons_succ]
      refine wpAnyH_take (i := 2) (oi := { dst := some 77, op := Op.move (Operand.tmp 76), type := 4, pos := "law.go:39", after := #[{ on := 1, ground := Ground.data }], guard := none }) (v := .bool false) rfl (by kernel_rfl) (by kernel_rfl) (by kernel_rfl) (fun _ _ _ h => h) (Or.inl ⟨by kernel_rfl, fun w' hSw => by (try dsimp only at hSw); go_simp⟩) (by assumption) ?_
      try simp only [Act.put, List.setIfInBounds_toArray, List.set_cons_zero, List.set_cons_succ]
      refine wpAnyH_take (i := 3) (oi := { dst := some 78, op := Op.move (Operand.tmp 8), type := 28, pos := "law.go:39", after := #[{ on := 2, ground := Ground.guard }], guard := some (2, false) }) (v := .int .i64 0) rfl (by kernel_rfl) (by kernel_rfl) (by kernel_rfl) (fun _ _ _ h => h) (Or.inl ⟨by kernel_rfl, fun w' hSw => by (try dsimp only at hSw); go_simp⟩) (by assumption) ?_
      try simp only [Act.put, List.setIfInBounds_toArray, List.set_cons_zero, List.set_cons_succ]
      refine wpAnyH_take (i := 4) (oi := { dst := some 79, op := Op.binOp BinOp.neq 28 (Operand.tmp 78) (Operand.const (Value.int IntKind.i64 0)) 28, type := 4, pos := "law.go:39", after := #[{ on := 3, ground := Ground.data }, { on := 2, ground := Ground.guard }], guard := some (2, false) }) (v := .bool false) rfl (by kernel_rfl) (by kernel_rfl) (by kernel_rfl) (fun _ _ _ h => h) (Or.inl ⟨by kernel_rfl, fun w' hSw => by (try dsimp only at hSw); go_simp⟩) (by assumption) ?_
      try simp only [Act.put, List.setIfInBounds_toArray, List.set_cons_zero, List.set_cons_succ]
      refine wpAnyH_take (i := 5) (oi := { dst := some 80, op := Op.pick (Operand.tmp 77) (Operand.const (Value.bool true)) (Operand.tmp 79), type := 4, pos := "law.go:39", after := #[{ on := 2, ground := Ground.data }, { on := 4, ground := Ground.data }], guard := none }) (v := .bool false) rfl (by kernel_rfl) (by kernel_rfl) (by kernel_rfl) (fun _ _ _ h => h) (Or.inl ⟨by kernel_rfl, fun w' hSw => by (try dsimp only at hSw); go_simp⟩) (by assumption) ?_
      try simp only [Act.put, List.setIfInBounds_toArray, List.set_cons_zero, List.set_cons_succ]
      refine wpAnyH_take (i := 6) (oi := { dst := some 81, op := Op.move (Operand.tmp 80), type := 4, pos := "law.go:39", after := #[{ on := 5, ground := Ground.data }, { on := 2, ground := Ground.chain }], guard := none }) (v := .bool false) rfl (by kernel_rfl) (by kernel_rfl) (by kernel_rfl) (fun _ _ _ h => h) (Or.inl ⟨by kernel_rfl, fun w' hSw => by (try dsimp only at hSw); go_simp⟩) (by assumption) ?_
      try simp only [Act.put, List.setIfInBounds_toArray, List.set_cons_zero, List.set_cons_succ]
      refine wpAnyH_take (i := 7) (oi := { dst := some 82, op := Op.move (Operand.tmp 11), type := 28, pos := "law.go:39", after := #[{ on := 6, ground := Ground.guard }], guard := some (6, false) }) (v := .int .i64 0) rfl (by kernel_rfl) (by kernel_rfl) (by kernel_rfl) (fun _ _ _ h => h) (Or.inl ⟨by kernel_rfl, fun w' hSw => by (try dsimp only at hSw); go_simp⟩) (by assumption) ?_
      try simp only [Act.put, List.setIfInBounds_toArray, List.set_cons_zero, List.set_cons_succ]
      refine wpAnyH_take (i := 8) (oi := { dst := some 83, op := Op.binOp BinOp.neq 28 (Operand.tmp 82) (Operand.const (Value.int IntKind.i64 0)) 28, type := 4, pos := "law.go:39", after := #[{ on := 7, ground := Ground.data }, { on := 6, ground := Ground.guard }], guard := some (6, false) }) (v := .bool false) rfl (by kernel_rfl) (by kernel_rfl) (by kernel_rfl) (fun _ _ _ h => h) (Or.inl ⟨by kernel_rfl, fun w' hSw => by (try dsimp only at hSw); go_simp⟩) (by assumption) ?_
      try simp only [Act.put, List.setIfInBounds_toArray, List.set_cons_zero, List.set_cons_succ]
      refine wpAnyH_take (i := 9) (oi := { dst := some 84, op := Op.pick (Operand.tmp 81) (Operand.const (Value.bool true)) (Operand.tmp 83), type := 4, pos := "law.go:39", after := #[{ on := 6, ground := Ground.data }, { on := 8, ground := Ground.data }], guard := none }) (v := .bool false) rfl (by kernel_rfl) (by kernel_rfl) (by kernel_rfl) (fun _ _ _ h => h) (Or.inl ⟨by kernel_rfl, fun w' hSw => by (try dsimp only at hSw); go_simp⟩) (by assumption) ?_
      try simp only [Act.put, List.setIfInBounds_toArray, List.set_cons_zero, List.set_cons_succ]
      refine wpAnyH_take (i := 10) (oi := { dst := some 85, op := Op.move (Operand.tmp 84), type := 4, pos := "law.go:39", after := #[{ on := 9, ground := Ground.data }, { on := 6, ground := Ground.chain }], guard := none }) (v := .bool false) rfl (by kernel_rfl) (by kernel_rfl) (by kernel_rfl) (fun _ _ _ h => h) (Or.inl ⟨by kernel_rfl, fun w' hSw => by (try dsimp only at hSw); go_simp⟩) (by assumption) ?_
      try simp only [Act.put, List.setIfInBounds_toArray, List.set_cons_zero, List.set_cons_succ]
      refine wpAnyH_take (i := 11) (oi := { dst := some 86, op := Op.move (Operand.tmp 7), type := 27, pos := "law.go:39", after := #[{ on := 10, ground := Ground.guard }], guard := some (10, false) }) (v := .slice Al ls.length cl) rfl (by kernel_rfl) (by kernel_rfl) (by kernel_rfl) (fun _ _ _ h => h) (Or.inl ⟨by kernel_rfl, fun w' hSw => by (try dsimp only at hSw); go_simp⟩) (by assumption) ?_
      try simp only [Act.put, List.setIfInBounds_toArray, List.set_cons_zero, List.set_cons_succ]
      refine wpAnyH_take (i := 12) (oi := { dst := some 87, op := Op.move (Operand.tmp 13), type := 27, pos := "law.go:39", after := #[{ on := 10, ground := Ground.guard }], guard := some (10, false) }) (v := .slice A5 ls.length c5) rfl (by kernel_rfl) (by kernel_rfl) (by kernel_rfl) (fun _ _ _ h => h) (Or.inl ⟨by kernel_rfl, fun w' hSw => by (try dsimp only at hSw); go_simp⟩) (by assumption) ?_
      try simp only [Act.put, List.setIfInBounds_toArray, List.set_cons_zero, List.set_cons_succ]
      refine wpAnyH_ready (rs := [13]) (by kernel_rfl) (by simp) ?_
      refine AllReadyH.cons (o := { dst := some 88, op := Op.call { callee := Callee.value (Operand.func 15), args := #[Operand.tmp 86, Operand.tmp 87], argTypes := #[27, 27] }, type := 4, pos := "law.go:39", after := #[{ on := 11, ground := Ground.data }, { on := 12, ground := Ground.data }, { on := 10, ground := Ground.chain }, { on := 10, ground := Ground.guard }], guard := some (10, false) }) rfl (fun K hK => ?_) AllReadyH.nil
      go_simp
      refine (eqi_any Al A5 ls.length ls.length cl c5 ls ls (by have := HLN.out; omega) (by have := HLN.out; omega) _ RL.out R5.out).mono ?_
      rintro e u1 ⟨rfl, b⟩
      rw [decide_eq_true (rfl : ls = ls)]
      have K1 := Lib.hid (K0.out.on b)
      have RO' := Lib.hid ((RO.out.below b).more b.size)
      clear RO
      have RO := RO'
      clear RO'
      have RL' := Lib.hid ((RL.out.below b).more b.size)
      clear RL
      have RL := RL'
      clear RL'
      have RD' := Lib.hid ((RD.out.below b).more b.size)
      clear RD
      have RD := RD'
      clear RD'
      have R4' := Lib.hid ((R4.out.below b).more b.size)
      clear R4
      have R4 := R4'
      clear R4'
      have R5' := Lib.hid ((R5.out.below b).more b.size)
      clear R5
      have R5 := R5'
      clear R5'
      clear b K0 hHeld
      refine hK.out _ _ ⟨K1.out.c0 (.head _), K1.out.c1 (.head _), K1.out.c0 (.tail _ (.head _)), K1.out.c1 (.tail _ (.head _))⟩ (fun hHeld => ?_)
      clear hK K
      try simp only [Act.put, List.setIfInBounds_toArray, List.set_cons_zero, List.set_cons_succ]
      refine wpAnyH_take (i := 14) (oi := { dst := some 89, op := Op.unOp UnOp.not 4 (Operand.tmp 88), type := 4, pos := "law.go:39", after := #[{ on := 13, ground := Ground.data }, { on := 10, ground := Ground.guard }], guard := some (10, false) }) (v := .bool false) rfl (by kernel_rfl) (by kernel_rfl) (by kernel_rfl) (fun _ _ _ h => h) (Or.inl ⟨by kernel_rfl, fun w' hSw => by (try dsimp only at hSw); go_simp⟩) (by assumption) ?_
      try simp only [Act.put, List.setIfInBounds_toArray, List.set_cons_zero, List.set_cons_succ]
      refine wpAnyH_take (i := 15) (oi := { dst := some 90, op := Op.pick (Operand.tmp 85) (Operand.const (Value.bool true)) (Operand.tmp 89), type := 4, pos := "law.go:39", after := #[{ on := 10, ground := Ground.data }, { on := 14, ground := Ground.data }], guard := none }) (v := .bool false) rfl (by kernel_rfl) (by kernel_rfl) (by kernel_rfl) (fun _ _ _ h => h) (Or.inl ⟨by kernel_rfl, fun w' hSw => by (try dsimp only at hSw); go_simp⟩) (by assumption) ?_
      try simp only [Act.put, List.setIfInBounds_toArray, List.set_cons_zero, List.set_cons_succ]
      refine wpAnyH_take (i := 16) (oi := { dst := some 91, op := Op.move (Operand.tmp 90), type := 4, pos := "law.go:39", after := #[{ on := 15, ground := Ground.data }, { on := 13, ground := Ground.chain }], guard := none }) (v := .bool false) rfl (by kernel_rfl) (by kernel_rfl) (by kernel_rfl) (fun _ _ _ h => h) (Or.inl ⟨by kernel_rfl, fun w' hSw => by (try dsimp only at hSw); go_simp⟩) (by assumption) ?_
      try simp only [Act.put, List.setIfInBounds_toArray, List.set_cons_zero, List.set_cons_succ]
      refine wpAnyH_take (i := 17) (oi := { dst := some 92, op := Op.move (Operand.tmp 5), type := 4, pos := "law.go:39", after := #[{ on := 16, ground := Ground.guard }], guard := some (16, false) }) (v := .bool true) rfl (by kernel_rfl) (by kernel_rfl) (by kernel_rfl) (fun _ _ _ h => h) (Or.inl ⟨by kernel_rfl, fun w' hSw => by (try dsimp only at hSw); go_simp⟩) (by assumption) ?_
      try simp only [Act.put, List.setIfInBounds_toArray, List.set_cons_zero, List.set_cons_succ]
      refine wpAnyH_take (i := 18) (oi := { dst := some 93, op := Op.move (Operand.tmp 13), type := 27, pos := "law.go:39", after := #[{ on := 16, ground := Ground.guard }], guard := some (16, false) }) (v := .slice A5 ls.length c5) rfl (by kernel_rfl) (by kernel_rfl) (by kernel_rfl) (fun _ _ _ h => h) (Or.inl ⟨by kernel_rfl, fun w' hSw => by (try dsimp only at hSw); go_simp⟩) (by assumption) ?_
      try simp only [Act.put, List.setIfInBounds_toArray, List.set_cons_zero, List.set_cons_succ]
      refine wpAnyH_take (i := 19) (oi := { dst := some 94, op := Op.call { callee := Callee.builtin Builtin.len, args := #[Operand.tmp 93], argTypes := #[27] }, type := 3, pos := "law.go:39", after := #[{ on := 18, ground := Ground.data }, { on := 16, ground := Ground.guard }], guard := some (16, false) }) (v := .int .i64 (ls.length : Int)) rfl (by kernel_rfl) (by kernel_rfl) (by kernel_rfl) (fun _ _ _ h => h) (Or.inl ⟨by kernel_rfl, fun w' hSw => by (try dsimp only at hSw); go_simp⟩) (by assumption) ?_
      try simp only [Act.put, List.setIfInBounds_toArray, List.set_cons_zero, List.set_cons_succ]
      refine wpAnyH_take (i := 20) (oi := { dst := some 95, op := Op.binOp BinOp.eql 3 (Operand.tmp 94) (Operand.const (Value.int IntKind.i64 0)) 3, type := 4, pos := "law.go:39", after := #[{ on := 19, ground := Ground.data }, { on := 16, ground := Ground.guard }], guard := some (16, false) }) (v := .bool true) rfl (by kernel_rfl) (by kernel_rfl) (by kernel_rfl) (fun _ _ _ h => h) (Or.inl ⟨by kernel_rfl, fun w' hSw => by (try dsimp only at hSw); go_simp⟩) (by assumption) ?_
      try simp only [Act.put, List.setIfInBounds_toArray, List.set_cons_zero, List.set_cons_succ]
      refine wpAnyH_take (i := 21) (oi := { dst := some 96, op := Op.binOp BinOp.neq 4 (Operand.tmp 92) (Operand.tmp 95) 4, type := 4, pos := "law.go:39", after := #[{ on := 17, ground := Ground.data }, { on := 20, ground := Ground.data }, { on := 16, ground := Ground.guard }], guard := some (16, false) }) (v := .bool false) rfl (by kernel_rfl) (by kernel_rfl) (by kernel_rfl) (fun _ _ _ h => h) (Or.inl ⟨by kernel_rfl, fun w' hSw => by (try dsimp only at hSw); go_simp⟩) (by assumption) ?_
      try simp only [Act.put, List.setIfInBounds_toArray, List.set_cons_zero, List.set_cons_succ]
      refine wpAnyH_take (i := 22) (oi := { dst := some 97, op := Op.pick (Operand.tmp 91) (Operand.const (Value.bool true)) (Operand.tmp 96), type := 4, pos := "law.go:39", after := #[{ on := 16, ground := Ground.data }, { on := 21, ground := Ground.data }], guard := none }) (v := .bool false) rfl (by kernel_rfl) (by kernel_rfl) (by kernel_rfl) (fun _ _ _ h => h) (Or.inl ⟨by kernel_rfl, fun w' hSw => by (try dsimp only at hSw); go_simp⟩) (by assumption) ?_
      try simp only [Act.put, List.setIfInBounds_toArray, List.set_cons_zero, List.set_cons_succ]
      refine wpAnyH_take (i := 23) (oi := { dst := some 98, op := Op.move (Operand.tmp 97), type := 4, pos := "law.go:39", after := #[{ on := 22, ground := Ground.data }, { on := 16, ground := Ground.chain }], guard := none }) (v := .bool false) rfl (by kernel_rfl) (by kernel_rfl) (by kernel_rfl) (fun _ _ _ h => h) (Or.inl ⟨by kernel_rfl, fun w' hSw => by (try dsimp only at hSw); go_simp⟩) (by assumption) ?_
      try simp only [Act.put, List.setIfInBounds_toArray, List.set_cons_zero, List.set_cons_succ]
      refine wpAnyH_take (i := 24) (oi := { dst := some 99, op := Op.move (Operand.tmp 10), type := 4, pos := "law.go:39", after := #[{ on := 23, ground := Ground.guard }], guard := some (23, false) }) (v := .bool true) rfl (by kernel_rfl) (by kernel_rfl) (by kernel_rfl) (fun _ _ _ h => h) (Or.inl ⟨by kernel_rfl, fun w' hSw => by (try dsimp only at hSw); go_simp⟩) (by assumption) ?_
      try simp only [Act.put, List.setIfInBounds_toArray, List.set_cons_zero, List.set_cons_succ]
      refine wpAnyH_take (i := 25) (oi := { dst := some 100, op := Op.move (Operand.tmp 5), type := 4, pos := "law.go:39", after := #[{ on := 23, ground := Ground.guard }], guard := some (23, false) }) (v := .bool true) rfl (by kernel_rfl) (by kernel_rfl) (by kernel_rfl) (fun _ _ _ h => h) (Or.inl ⟨by kernel_rfl, fun w' hSw => by (try dsimp only at hSw); go_simp⟩) (by assumption) ?_
      try simp only [Act.put, List.setIfInBounds_toArray, List.set_cons_zero, List.set_cons_succ]
      refine wpAnyH_take (i := 26) (oi := { dst := some 101, op := Op.binOp BinOp.neq 4 (Operand.tmp 99) (Operand.tmp 100) 4, type := 4, pos := "law.go:39", after := #[{ on := 24, ground := Ground.data }, { on := 25, ground := Ground.data }, { on := 23, ground := Ground.guard }], guard := some (23, false) }) (v := .bool false) rfl (by kernel_rfl) (by kernel_rfl) (by kernel_rfl) (fun _ _ _ h => h) (Or.inl ⟨by kernel_rfl, fun w' hSw => by (try dsimp only at hSw); go_simp⟩) (by assumption) ?_
      try simp only [Act.put, List.setIfInBounds_toArray, List.set_cons_zero, List.set_cons_succ]
      refine wpAnyH_take (i := 27) (oi := { dst := some 102, op := Op.pick (Operand.tmp 98) (Operand.const (Value.bool true)) (Operand.tmp 101), type := 4, pos := "law.go:39", after := #[{ on := 23, ground := Ground.data }, { on := 26, ground := Ground.data }], guard := none }) (v := .bool false) rfl (by kernel_rfl) (by kernel_rfl) (by kernel_rfl) (fun _ _ _ h => h) (Or.inl ⟨by kernel_rfl, fun w' hSw => by (try dsimp only at hSw); go_simp⟩) (by assumption) ?_
      try simp only [Act.put, List.setIfInBounds_toArray, List.set_cons_zero, List.set_cons_succ]
      refine wpAnyH_take (i := 28) (oi := { dst := some 103, op := Op.move (Operand.tmp 102), type := 4, pos := "law.go:39", after := #[{ on := 27, ground := Ground.data }, { on := 23, ground := Ground.chain }], guard := none }) (v := .bool false) rfl (by kernel_rfl) (by kernel_rfl) (by kernel_rfl) (fun _ _ _ h => h) (Or.inl ⟨by kernel_rfl, fun w' hSw => by (try dsimp only at hSw); go_simp⟩) (by assumption) ?_
      try simp only [Act.put, List.setIfInBounds_toArray, List.set_cons_zero, List.set_cons_succ]
      refine wpAnyH_take (i := 29) (oi := { dst := some 104, op := Op.load 24 (Operand.tmp 3), type := 24, pos := "law.go:39", after := #[{ on := 28, ground := Ground.guard }], guard := some (28, false) }) (v := .agg #[.int .i64 g.z, .slice g.A g.n g.c]) rfl (by kernel_rfl) (by kernel_rfl) (by kernel_rfl) (fun _ _ _ h => h) (Or.inl ⟨by kernel_rfl, fun w' hSw => by (try dsimp only at hSw); go_simp⟩) (by assumption) ?_
      try simp only [Act.put, List.setIfInBounds_toArray, List.set_cons_zero, List.set_cons_succ]
      refine wpAnyH_take (i := 30) (oi := { dst := some 105, op := Op.load 24 (Operand.tmp 1), type := 24, pos := "law.go:39", after := #[{ on := 28, ground := Ground.guard }], guard := some (28, false) }) (v := .agg #[.int .i64 gx.z, .slice gx.A gx.n gx.c]) rfl (by kernel_rfl) (by kernel_rfl) (by kernel_rfl) (fun _ _ _ h => h) (Or.inl ⟨by kernel_rfl, fun w' hSw => by (try dsimp only at hSw); go_simp⟩) (by assumption) ?_
      try simp only [Act.put, List.setIfInBounds_toArray, List.set_cons_zero, List.set_cons_succ]
      refine wpAnyH_ready (rs := [31]) (by kernel_rfl) (by simp) ?_
      refine AllReadyH.cons (o := { dst := some 106, op := Op.call { callee := Callee.value (Operand.func 9), args := #[Operand.tmp 105], argTypes := #[24] }, type := 24, pos := "law.go:39", after := #[{ on := 30, ground := Ground.data }, { on := 28, ground := Ground.chain }, { on := 28, ground := Ground.guard }], guard := some (28, false) }) rfl (fun K hK => ?_) AllReadyH.nil
      go_simp
      refine (fair7_any gx.z gx.A gx.n gx.c gx.es (K1.out.ok (.tail _ (.head _))).2.2.2 (K1.out.ok (.tail _ (.head _))).2.1 (K1.out.ok (.tail _ (.head _))).2.2.1 _ (K1.out.ok (.tail _ (.head _))).1).mono ?_
      rintro e u2 hx
      obtain ⟨f, rfl, hz, he, okf, b⟩ := gis_gv hx
      have K2 := Lib.hid (K1.out.on b)
      have RO' := Lib.hid ((RO.out.below b).more b.size)
      clear RO
      have RO := RO'
      clear RO'
      have RL' := Lib.hid ((RL.out.below b).more b.size)
      clear RL
      have RL := RL'
      clear RL'
      have RD' := Lib.hid ((RD.out.below b).more b.size)
      clear RD
      have RD := RD'
      clear RD'
      have R4' := Lib.hid ((R4.out.below b).more b.size)
      clear R4
      have R4 := R4'
      clear R4'
      have R5' := Lib.hid ((R5.out.below b).more b.size)
      clear R5
      have R5 := R5'
      clear R5'
      have HF := Lib.hid okf
      have HFE : Hid (f.z = g.z ∧ f.es = g.es) := ⟨hz.trans HGE.out.1.symm, he.trans HGE.out.2.symm⟩
      have HFN : Hid (f.n ≤ 60) := by
        show _ ≤ _
        have h1 := okf.len
        rw [he, List.length_take] at h1
        omega
      clear hx hz he okf b K1 hHeld
      refine hK.out _ _ ⟨K2.out.c0 (.head _), K2.out.c1 (.head _), K2.out.c0 (.tail _ (.head _)), K2.out.c1 (.tail _ (.head _))⟩ (fun hHeld => ?_)
      clear hK K
      try simp only [Act.put, List.setIfInBounds_toArray, List.set_cons_zero, List.set_cons_succ]
      refine wpAnyH_ready (rs := [32]) (by kernel_rfl) (by simp) ?_
      refine AllReadyH.cons (o := { dst := some 107, op := Op.call { callee := Callee.value (Operand.func 16), args := #[Operand.tmp 104, Operand.tmp 106], argTypes := #[24, 24] }, type := 4, pos := "law.go:39", after := #[{ on := 29, ground := Ground.data }, { on := 31, ground := Ground.data }, { on := 31, ground := Ground.chain }, { on := 28, ground := Ground.guard }], guard := some (28, false) }) rfl (fun K hK => ?_) AllReadyH.nil
      go_simp
      have hs := rsame_any g.z f.z g.A f.A g.n g.c f.n f.c g.es f.es (by have := HN.out; omega) _ (K2.out.ok (.head _)).1 HF.out.1
      rw [decide_eq_true ⟨HFE.out.1.symm, HFE.out.2.symm⟩] at hs
      refine hs.mono ?_
      clear hs
      rintro e u3 ⟨rfl, b⟩
      have K3 := Lib.hid (K2.out.on b)
      have RO' := Lib.hid ((RO.out.below b).more b.size)
      clear RO
      have RO := RO'
      clear RO'
      have RL' := Lib.hid ((RL.out.below b).more b.size)
      clear RL
      have RL := RL'
      clear RL'
      have RD' := Lib.hid ((RD.out.below b).more b.size)
      clear RD
      have RD := RD'
      clear RD'
      have R4' := Lib.hid ((R4.out.below b).more b.size)
      clear R4
      have R4 := R4'
      clear R4'
      have R5' := Lib.hid ((R5.out.below b).more b.size)
      clear R5
      have R5 := R5'
      clear R5'
      clear b K2 HF HFE HFN hHeld
      refine hK.out _ _ ⟨K3.out.c0 (.head _), K3.out.c1 (.head _), K3.out.c0 (.tail _ (.head _)), K3.out.c1 (.tail _ (.head _))⟩ (fun hHeld => ?_)
      clear hK K
      try simp only [Act.put, List.setIfInBounds_toArray, List.set_cons_zero, List.set_cons_succ]
      refine wpAnyH_take (i := 33) (oi := { dst := some 108, op := Op.unOp UnOp.not 4 (Operand.tmp 107), type := 4, pos := "law.go:39", after := #[{ on := 32, ground := Ground.data }, { on := 28, ground := Ground.guard }], guard := some (28, false) }) (v := .bool false) rfl (by kernel_rfl) (by kernel_rfl) (by kernel_rfl) (fun _ _ _ h => h) (Or.inl ⟨by kernel_rfl, fun w' hSw => by (try dsimp only at hSw); go_simp⟩) (by assumption) ?_
      try simp only [Act.put, List.setIfInBounds_toArray, List.set_cons_zero, List.set_cons_succ]
      refine wpAnyH_take (i := 34) (oi := { dst := some 109, op := Op.pick (Operand.tmp 103) (Operand.const (Value.bool true)) (Operand.tmp 108), type := 4, pos := "law.go:39", after := #[{ on := 28, ground := Ground.data }, { on := 33, ground := Ground.data }], guard := none }) (v := .bool false) rfl (by kernel_rfl) (by kernel_rfl) (by kernel_rfl) (fun _ _ _ h => h) (Or.inl ⟨by kernel_rfl, fun w' hSw => by (try dsimp only at hSw); go_simp⟩) (by assumption) ?_
      try simp only [Act.put, List.setIfInBounds_toArray, List.set_cons_zero, List.set_cons_succ]
      refine wpAnyH_done (by kernel_rfl) ?_ _
      refine NoPanic.normal ?_
      clear hq
      have HLL : Hid (l.length ≤ 300) := by
        show _ ≤ _
        have h1 := HLM.out
        have h2 := (GV.nat HRT.out).2.1
        omega
      have HDL : Hid (D.length ≤ 300) := by
        show _ ≤ _
        have h1 := HD.out.len
        have h2 := (GV.nat HRT.out).2.1
        omega
      go_wp2_with fail
      refine (eqi_any Ao A4 l.length l.length co c4 l l (by have := HLL.out; omega) (by have := HLL.out; omega) _ RO.out R4.out).mono ?_
      rintro e u4 ⟨rfl, b⟩
      rw [decide_eq_true (rfl : l = l)]
      have K4 := Lib.hid (K3.out.on b)
      have RO' := Lib.hid ((RO.out.below b).more b.size)
      clear RO
      have RO := RO'
      clear RO'
      have RL' := Lib.hid ((RL.out.below b).more b.size)
      clear RL
      have RL := RL'
      clear RL'
      have RD' := Lib.hid ((RD.out.below b).more b.size)
      clear RD
      have RD := RD'
      clear RD'
      have R4' := Lib.hid ((R4.out.below b).more b.size)
      clear R4
      have R4 := R4'
      clear R4'
      have R5' := Lib.hid ((R5.out.below b).more b.size)
      clear R5
      have R5 := R5'
      clear R5'
      clear b K3
      have x0 := K4.out.c0 (.tail _ (.head _))
      have x1 := K4.out.c1 (.tail _ (.head _))
      go_wp2_with fail
      refine (fair7_any gx.z gx.A gx.n gx.c gx.es (K4.out.ok (.tail _ (.head _))).2.2.2 (K4.out.ok (.tail _ (.head _))).2.1 (K4.out.ok (.tail _ (.head _))).2.2.1 _ (K4.out.ok (.tail _ (.head _))).1).mono ?_
      rintro e u5 hx
      obtain ⟨f, rfl, hz, he, okf, b⟩ := gis_gv hx
      have K5 := Lib.hid (K4.out.on b)
      have RO' := Lib.hid ((RO.out.below b).more b.size)
      clear RO
      have RO := RO'
      clear RO'
      have RL' := Lib.hid ((RL.out.below b).more b.size)
      clear RL
      have RL := RL'
      clear RL'
      have RD' := Lib.hid ((RD.out.below b).more b.size)
      clear RD
      have RD := RD'
      clear RD'
      have R4' := Lib.hid ((R4.out.below b).more b.size)
      clear R4
      have R4 := R4'
      clear R4'
      have R5' := Lib.hid ((R5.out.below b).more b.size)
      clear R5
      have R5 := R5'
      clear R5'
      have HF := Lib.hid okf
      have HFE : Hid (f.z = g.z ∧ f.es = g.es) := ⟨hz.trans HGE.out.1.symm, he.trans HGE.out.2.symm⟩
      have HFN : Hid (f.n ≤ 60) := by
        show _ ≤ _
        have h1 := okf.len
        rw [he, List.length_take] at h1
        omega
      clear hx hz he okf b K4 x0 x1
      go_wp2_with fail
      refine (rdepth7_of HFE.out.1 HFE.out.2 _ (by have := HFN.out; omega) HRT.out HF.out D l HD.out (HK.out.right HLM.out)).mono ?_
      rintro e u6 ⟨A6, c6, rfl, r6, b⟩
      have K6 := Lib.hid (K5.out.on b)
      have RO' := Lib.hid ((RO.out.below b).more b.size)
      clear RO
      have RO := RO'
      clear RO'
      have RL' := Lib.hid ((RL.out.below b).more b.size)
      clear RL
      have RL := RL'
      clear RL'
      have RD' := Lib.hid ((RD.out.below b).more b.size)
      clear RD
      have RD := RD'
      clear RD'
      have R4' := Lib.hid ((R4.out.below b).more b.size)
      clear R4
      have R4 := R4'
      clear R4'
      have R5' := Lib.hid ((R5.out.below b).more b.size)
      clear R5
      have R5 := R5'
      clear R5'
      have R6 := Lib.hid r6
      clear b r6 K5 HF HFE HFN
      go_wp2_with fail
      refine (eqi_any Ad A6 D.length D.length cd c6 D D (by have := HDL.out; omega) (by have := HDL.out; omega) _ RD.out R6.out).mono ?_
      rintro e u7 ⟨rfl, b⟩
      rw [decide_eq_true (rfl : D = D)]
      have K7 := Lib.hid (K6.out.on b)
      clear b K6
      go_wp2_with fail
      go_ret
      exact ⟨rfl, K7.out.below⟩
end Go.Proofs.Ytaigpdpcliecpaa
