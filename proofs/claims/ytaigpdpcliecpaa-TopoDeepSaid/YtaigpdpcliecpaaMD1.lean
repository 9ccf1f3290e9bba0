/- TopoDeep: the walk. -/
import Derived.Test.YtaigpdpcliecpaaM18
import Derived.Test.YtaigpdpcliecpaaM8
-- holds: YtaigpdpcliecpaaTdb
namespace Go.Proofs.Ytaigpdpcliecpaa
open Go.RowKit Go.Shelf
open Go.Maps (Keyed IsMap int_keyed keyOf_int_mk)

set_option maxRecDepth 100000 in
set_option maxHeartbeats 2400000 in
theorem tdeep_core (nodes : Int) (A : Option Addr) (n c : Nat) (zs : List Ed) (hc : A = none → c = 0) (hnc : n ≤ c) (hcm : c ≤ 9223372036854775807) (w : World) (hR : Reads w w.heap.size 3 A n (cellsE zs)) :
    Calls Try.prog 7 #[.agg #[.int .i64 nodes, .slice A n c]] w fun e w' => e = .returned (.bool true) ∧ Below w.heap.size w w' := by
  have E0 := Lib.hid ((Env.start w).add (g := ⟨nodes, A, n, c, zs⟩) ⟨hR, hnc, hcm, hc⟩)
  obtain ⟨gx, hgx⟩ : ∃ gx : GV, (⟨nodes, A, n, c, zs⟩ : GV) = gx := ⟨_, rfl⟩
  have hz : nodes = gx.z := by rw [← hgx]
  have hA : A = gx.A := by rw [← hgx]
  have hn : n = gx.n := by rw [← hgx]
  have hcc : c = gx.c := by rw [← hgx]
  rw [hgx] at E0
  subst hz; subst hA; subst hn; subst hcc
  clear hR hc hnc hcm hgx
  go_enter Try.func7, Try.ntmps7
  go_wp2_with fail
  generalize w.alloc (.cells #[.int .i64 gx.z, .slice gx.A gx.n gx.c] 24) = W0 at *
  refine (wakes7_any _).mono ?_
  rintro e w1 ⟨rfl, b⟩
  have E1 := Lib.hid (E0.out.on b)
  clear b E0
  have z0 := E1.out.c0 (.head _)
  have z1 := E1.out.c1 (.head _)
  go_wp2_with fail
  have ok1 := E1.out.ok (.head _)
  refine (fair7_any gx.z gx.A gx.n gx.c gx.es ok1.2.2.2 ok1.2.1 ok1.2.2.1 w1 ok1.1).mono ?_
  clear ok1
  rintro e w2 hx
  obtain ⟨g, rfl, hz, he, okg, b⟩ := gis_gv hx
  have E3 := Lib.hid ((E1.out.on b).add okg)
  have HN : Hid (g.n ≤ 1000) := by
    show _ ≤ _
    have h1 := okg.len
    rw [he, List.length_take] at h1
    omega
  have HL : Hid (g.es.length = g.n) := okg.len
  clear hx hz he okg b E1 z0 z1
  have z0 := E3.out.c0 (.head _)
  have z1 := E3.out.c1 (.head _)
  have x0 := E3.out.c0 (.tail _ (.head _))
  have x1 := E3.out.c1 (.tail _ (.head _))
  go_wp2_with fail
  generalize w2.alloc (.cells #[.int .i64 g.z, .slice g.A g.n g.c] 24) = w3 at *
  generalize w2.heap.size = b3 at *
  cases hr : rightG g.z g.es
  · skip
    clear HL
    have HRF := Lib.hid hr
    clear hr
    refine (depth7_no g.z g.A g.n g.c g.es HRF.out HN.out _ (E3.out.ok (.head _)).1).mono ?_
    rintro e w4 ⟨rfl, b⟩
    have E5 := Lib.hid ((E3.out.on b).alloc (.cells #[.slice none 0 0] 27))
    clear b E3 z0 z1 x0 x1
    go_wp2_with fail
    go_ret
    exact ⟨rfl, E5.out.below⟩
  · skip
    have HRT := Lib.hid hr
    clear hr
    refine (depth7_at g _ HN.out HRT.out (E3.out.ok (.head _))).mono ?_
    rintro e w4 ⟨l, hk, b, hor⟩
    have E4 := Lib.hid (E3.out.on b)
    have HK := Lib.hid hk
    clear hk b E3 z0 z1 x0 x1
    rcases hor with ⟨hlt, rfl⟩ | ⟨heq, D, Ad, cd, hD, rfl, hod, _, _⟩
    · skip
      have E5 := Lib.hid (E4.out.alloc (.cells #[.slice none 0 0] 27))
      clear hlt E4
      go_wp2_with fail
      go_ret
      exact ⟨rfl, E5.out.below⟩
    · skip
      have HM := Lib.hid heq
      have HD := Lib.hid hD
      have hlen := hD.len
      obtain ⟨m, hm⟩ : ∃ m, g.z.toNat = m := ⟨_, rfl⟩
      have hz := GV.nat HRT.out
      rw [hm] at hz hlen
      have HDI : Hid (DepthIs g.es m D) := by rw [← hm]; exact hD
      have HKI : Hid (KahnAll g.es m l) := by rw [← hm]; exact HK.out
      have HLM : Hid (l.length = m) := by rw [← hm]; exact heq
      have HMZ : Hid ((m : Int) = g.z ∧ m ≤ 300 ∧ IsG (m : Int) g.es) := hz
      have HMT := Lib.hid hm
      rw [hlen] at hod ⊢
      have HLD := Lib.hid hlen
      have RD := Lib.hid (Reads.of_own hod)
      have bb : Below w4.heap.size w4 (w4.alloc (.cells #[.slice Ad m cd] 27)) := (Below.refl _ _).alloc (Nat.le_refl _) _
      have E5 := Lib.hid (E4.out.on bb)
      have RD5 := Lib.hid ((RD.out.below bb).more bb.size)
      have KD5 := Lib.hid (Blk.new w4 27 #[.slice Ad m cd])
      clear heq hD hlen hz hod bb RD E4 hm
      go_upto_region 5 with fail
      generalize w4.alloc (.cells #[.slice Ad m cd] 27) = w5 at *
      generalize w4.heap.size = bd at *
      have z0 := E5.out.c0 (.head _)
      have z1 := E5.out.c1 (.head _)
      have x0 := E5.out.c0 (.tail _ (.head _))
      have x1 := E5.out.c1 (.tail _ (.head _))
      go_wp2_with fail
      clear z0 z1 x0 x1
      go_loopg [41] g.n (fun gg s41 wr => ∃ i : Nat, s41 = .int .i64 i ∧ i + gg = g.n ∧ Hid (Below w5.heap.size w5 wr))
      case atStart => exact ⟨0, rfl, by omega, Below.refl _ _⟩
      case round =>
        obtain ⟨i, rfl, hig, J⟩ := hrel
        rename World => wr
        cases gk with
        | succ g2 =>
          have hlt : (i : Int) < (g.n : Int) := by omega
          have hi3 : i ≤ 1000 := by have := HN.out; omega
          obtain ⟨p, hp⟩ : ∃ p, g.es[i]? = some p := ⟨g.es[i]'(by have := HL.out; omega), List.getElem?_eq_getElem _⟩
          have hpm := List.mem_of_getElem? hp
          have hpr := of_decide_eq_true (HMZ.out.2.2.all p hpm)
          have hpd := HDI.out.up p hpm
          obtain ⟨eb, eo, hgA, heb, g0, g1, g3⟩ := ed_at (E5.out.on J.out |>.ok (.head _)).1 hp
          obtain ⟨p1, p2, p3⟩ := p
          simp only at hpr hpd g0 g1 g3
          obtain ⟨a, rfl⟩ : ∃ a : Nat, p1 = (a : Int) := ⟨p1.toNat, by omega⟩
          obtain ⟨b, rfl⟩ : ∃ b : Nat, p2 = (b : Int) := ⟨p2.toNat, by omega⟩
          have ham : (a : Int) < (m : Int) := hpr.1.2
          have hbm : (b : Int) < (m : Int) := hpr.2.1.2
          have bb : Below wr.heap.size wr (wr.alloc (.cells #[.int .i64 (a : Int), .int .i64 (b : Int), .int .i64 p3] 50)) := (Below.refl _ _).alloc (Nat.le_refl _) _
          have J8 : Hid (Below w5.heap.size w5 (wr.alloc (.cells #[.int .i64 (a : Int), .int .i64 (b : Int), .int .i64 p3] 50))) := J.out.trans (bb.mono J.out.size)
          obtain ⟨gD, oD, hAD, hgD, hcD⟩ := reads_plain (RD5.out.below J8.out) (by omega)
          subst hAD
          have hat : ∀ j, j < m → (wr.alloc (.cells #[.int .i64 (a : Int), .int .i64 (b : Int), .int .i64 p3] 50)).cell? ⟨gD, oD + j, none⟩ = some (.int .i64 (dE D (j : Int))) := fun j hj => hcD j _ (show (ints D)[j]? = some (.int .i64 (dE D (j : Int))) by unfold ints; rw [List.getElem?_map, dE_get (by have := HLD.out; omega)]; rfl)
          have c0 := hat a (by omega)
          have c1 := hat b (by omega)
          have k0 := (KD5.out.below J8.out KD5.out.lt).cell 0
          have HY := Lib.hid (Blk.new wr 50 #[.int .i64 (a : Int), .int .i64 (b : Int), .int .i64 p3])
          have hdd : ¬ dE D (a : Int) ≥ dE D (b : Int) := by omega
          generalize dE D (a : Int) = da at *
          generalize dE D (b : Int) = db at *
          have HI : Hid (i + 1 + g2 = g.n) := by show _ = _; omega
          clear hig hp hpm hpr hpd bb hcD hat J
          rw [hgA]
          go_upto_region 10 with fail
          have y0 := HY.out.cell 0
          have y1 := HY.out.cell 1
          generalize wr.alloc (.cells #[.int .i64 (a : Int), .int .i64 (b : Int), .int .i64 p3] 50) = w8 at *
          go_quiet (fail)
          have J9 : Hid (Below w5.heap.size w5 (w8.drewN nq)) := below_drewN J8.out _
          clear y0 y1 c0 c1 k0 g0 g1 g3 HY J8 hgD
          generalize w8.drewN nq = w9 at *
          go_wp2_with fail
          rw [← hgA]
          go_roundg g2
          case measure => omega
          case rel => exact ⟨i + 1, by go_num, by have := HI.out; omega, J9⟩
        | zero =>
          have hge : ¬ (i : Int) < (g.n : Int) := by omega
          have Em := Lib.hid (E5.out.on J.out)
          have RDm := Lib.hid ((RD5.out.below J.out).more J.out.size)
          have KDm := Lib.hid (KD5.out.below J.out KD5.out.lt)
          clear hig J E5 RD5 KD5
          have z0 := Em.out.c0 (.head _)
          have z1 := Em.out.c1 (.head _)
          have x0 := Em.out.c0 (.tail _ (.head _))
          have x1 := Em.out.c1 (.tail _ (.head _))
          go_wp2_with fail
          rename World => wm
          clear z0 z1 x0 x1
          go_loopg [59] m (fun gg s59 wr => ∃ i : Nat, s59 = .int .i64 i ∧ i + gg = m ∧ Hid (Below wm.heap.size wm wr))
          case atStart => exact ⟨0, rfl, by omega, Below.refl _ _⟩
          case round =>
            obtain ⟨i, rfl, hig, J⟩ := hrel
            rename World => wr
            cases gk with
            | succ g2 =>
              have hlt : (i : Int) < g.z := by have := HMZ.out.1; omega
              have hi3 : i ≤ 300 := by have := HMZ.out.2.1; omega
              have him : i < m := by omega
              have hil : (i : Int) < (m : Int) := by omega
              obtain ⟨gD, oD, hAD, hgD, hcD⟩ := reads_plain RDm.out (by omega)
              subst hAD
              have bb : Below wr.heap.size wr (wr.alloc (.cells #[.int .i64 (i : Int)] 3)) := (Below.refl _ _).alloc (Nat.le_refl _) _
              have J8 : Hid (Below wm.heap.size wm (wr.alloc (.cells #[.int .i64 (i : Int)] 3))) := J.out.trans (bb.mono J.out.size)
              have KV8 := Lib.hid (Blk.new wr 3 #[.int .i64 (i : Int)])
              have HCI : Hid (wm.cell? ⟨gD, oD + i, none⟩ = some (.int .i64 (dE D (i : Int)))) := hcD i _ (show (ints D)[i]? = some (.int .i64 (dE D (i : Int))) by unfold ints; rw [List.getElem?_map, dE_get (by have := HLD.out; omega)]; rfl)
              have hd0 := HDI.out.lo (i : Int)
              have hdm := HDI.out.less (HKI.out.right HLM.out) (show 0 ≤ (i : Int) by omega) hil
              have hany := deep_any HDI.out (show 0 ≤ (i : Int) by omega) hil
              have HFS : Hid (∀ (bv : Nat) (W : World), Below wm.heap.size wm W → Blk W bv 3 #[.int .i64 (i : Int)] → W.cell? ⟨bd, 0, none⟩ = some (.slice (some ⟨gD, oD, none⟩) m cd) ∧ W.cell? ⟨bv, 0, none⟩ = some (.int .i64 (i : Int)) ∧ W.cell? ⟨gD, oD + i, none⟩ = some (.int .i64 (dE D (i : Int))) ∧ W.cell? ⟨b3, 1, none⟩ = some (.slice g.A g.n g.c)) := fun bv W h k => ⟨(KDm.out.below h KDm.out.lt).cell 0, k.cell 0, (h.cell (p := ⟨gD, oD + i, none⟩) hgD).trans HCI.out, (Em.out.on h).c1 (.head _)⟩
              obtain ⟨cb, hcb⟩ : ∃ cb, decide (0 < dE D (i : Int)) = cb := ⟨_, rfl⟩
              rw [hcb] at hany
              have HCF : Hid (∀ (bv : Nat) (W : World), Below wm.heap.size wm W → Blk W bv 3 #[.int .i64 (i : Int)] → Calls Try.prog 24 #[.slice g.A g.n g.c, .func (.func 27) #[] #[.pointer (some ⟨bv, 0, none⟩), .pointer (some ⟨bd, 0, none⟩)]] W fun e w' => e = .returned (.bool cb) ∧ Below W.heap.size W w') := fun bv W hW hk => by
                have := contains7d_any bv bd (deepQ D (i : Int)) g.A g.n g.c g.es (by have := HN.out; omega) W ((Em.out.on hW).ok (.head _)).1 (fun p hp W2 hW2 => by
                  have hb2 := hW.trans (hW2.mono hW.size)
                  exact deep1_any p D m i bv bd (some ⟨gD, oD, none⟩) cd W2 HLD.out HMZ.out.2.1 him (HMZ.out.2.2.all p hp) ⟨hd0, by have := HMZ.out.2.1; omega⟩ (hk.below hW2 hk.lt) (KDm.out.below hb2 KDm.out.lt) ((RDm.out.below hb2).more hb2.size))
                rwa [hany] at this
              have hn0 : ¬ dE D (i : Int) < 0 := by omega
              have hcc : (cb != cb) = false := by simp
              generalize dE D (i : Int) = dv at *
              have HI : Hid (i + 1 + g2 = m) := by show _ = _; omega
              clear hig hany hdm bb hcD hgD HCI J hd0 him
              go_upto_region 17 with fail
              generalize wr.alloc (.cells #[.int .i64 (i : Int)] 3) = w7 at *
              generalize wr.heap.size = bv at *
              have J8' : Hid (Below wm.heap.size wm w7.drew) := J8.out.drew
              have KV8' := Lib.hid (KV8.out.below (Below.refl w7.heap.size w7).drew KV8.out.lt)
              clear J8 KV8
              have J8 := J8'
              have KV8 := KV8'
              clear J8' KV8'
              refine wp_region_noPanic ?_
              refine wp_region_held_drew (S := fun w' => w'.cell? ⟨bd, 0, none⟩ = some (.slice (some ⟨gD, oD, none⟩) m cd) ∧ w'.cell? ⟨bv, 0, none⟩ = some (.int .i64 (i : Int)) ∧ w'.cell? ⟨gD, oD + i, none⟩ = some (.int .i64 dv) ∧ w'.cell? ⟨b3, 1, none⟩ = some (.slice g.A g.n g.c)) (by kernel_rfl) (HFS.out bv _ J8.out KV8.out) (fun hHeld => ?_)
              refine wpAnyH_take (i := 0) (oi := { dst := some 63, op := Op.load 27 (Operand.tmp 4), type := 27, pos := "outright.go:71", after := #[], guard := none }) (v := .slice (some ⟨gD, oD, none⟩) m cd) rfl (by kernel_rfl) (by kernel_rfl) (by kernel_rfl) (fun _ _ _ h => h) (Or.inl ⟨by kernel_rfl, fun w' hSw => by (try dsimp only at hSw); go_simp⟩) (by assumption) ?_
              try simp only [Act.put, List.setIfInBounds_toArray, List.set_cons_zero, List.set_cons_succ]
              refine wpAnyH_take (i := 1) (oi := { dst := some 64, op := Op.load 3 (Operand.tmp 9), type := 3, pos := "outright.go:71", after := #[], guard := none }) (v := .int .i64 (i : Int)) rfl (by kernel_rfl) (by kernel_rfl) (by kernel_rfl) (fun _ _ _ h => h) (Or.inl ⟨by kernel_rfl, fun w' hSw => by (try dsimp only at hSw); go_simp⟩) (by assumption) ?_
              try simp only [Act.put, List.setIfInBounds_toArray, List.set_cons_zero, List.set_cons_succ]
              refine wpAnyH_take (i := 2) (oi := { dst := some 65, op := Op.indexAddr 27 (Operand.tmp 63) (Operand.tmp 64), type := 0, pos := "outright.go:71", after := #[{ on := 0, ground := Ground.data }, { on := 1, ground := Ground.data }], guard := none }) (v := .pointer (some ⟨gD, oD + i, none⟩)) rfl (by kernel_rfl) (by kernel_rfl) (by kernel_rfl) (fun _ _ _ h => h) (Or.inl ⟨by kernel_rfl, fun w' hSw => by (try dsimp only at hSw); go_simp⟩) (by assumption) ?_
              try simp only [Act.put, List.setIfInBounds_toArray, List.set_cons_zero, List.set_cons_succ]
              refine wpAnyH_take (i := 3) (oi := { dst := some 66, op := Op.load 3 (Operand.tmp 65), type := 3, pos := "outright.go:71", after := #[{ on := 2, ground := Ground.data }], guard := none }) (v := .int .i64 dv) rfl (by kernel_rfl) (by kernel_rfl) (by kernel_rfl) (fun _ _ _ h => h) (Or.inl ⟨by kernel_rfl, fun w' hSw => by (try dsimp only at hSw); go_simp⟩) (by assumption) ?_
              try simp only [Act.put, List.setIfInBounds_toArray, List.set_cons_zero, List.set_cons_succ]
              refine wpAnyH_take (i := 4) (oi := { dst := some 67, op := Op.binOp BinOp.lss 3 (Operand.tmp 66) (Operand.const (Value.int IntKind.i64 0)) 3, type := 4, pos := "outright.go:71", after := #[{ on := 3, ground := Ground.data }], guard := none }) (v := .bool false) rfl (by kernel_rfl) (by kernel_rfl) (by kernel_rfl) (fun _ _ _ h => h) (Or.inl ⟨by kernel_rfl, fun w' hSw => by (try dsimp only at hSw); go_simp⟩) (by assumption) ?_
              try simp only [Act.put, List.setIfInBounds_toArray, List.set_cons_zero, List.set_cons_succ]
              refine wpAnyH_take (i := 5) (oi := { dst := some 68, op := Op.move (Operand.tmp 67), type := 4, pos := "outright.go:71", after := #[{ on := 4, ground := Ground.data }], guard := none }) (v := .bool false) rfl (by kernel_rfl) (by kernel_rfl) (by kernel_rfl) (fun _ _ _ h => h) (Or.inl ⟨by kernel_rfl, fun w' hSw => by (try dsimp only at hSw); go_simp⟩) (by assumption) ?_
              try simp only [Act.put, List.setIfInBounds_toArray, List.set_cons_zero, List.set_cons_succ]
              refine wpAnyH_take (i := 6) (oi := { dst := some 69, op := Op.load 27 (Operand.tmp 4), type := 27, pos := "outright.go:71", after := #[{ on := 5, ground := Ground.guard }], guard := some (5, false) }) (v := .slice (some ⟨gD, oD, none⟩) m cd) rfl (by kernel_rfl) (by kernel_rfl) (by kernel_rfl) (fun _ _ _ h => h) (Or.inl ⟨by kernel_rfl, fun w' hSw => by (try dsimp only at hSw); go_simp⟩) (by assumption) ?_
              try simp only [Act.put, List.setIfInBounds_toArray, List.set_cons_zero, List.set_cons_succ]
              refine wpAnyH_take (i := 7) (oi := { dst := some 70, op := Op.load 3 (Operand.tmp 9), type := 3, pos := "outright.go:71", after := #[{ on := 5, ground := Ground.guard }], guard := some (5, false) }) (v := .int .i64 (i : Int)) rfl (by kernel_rfl) (by kernel_rfl) (by kernel_rfl) (fun _ _ _ h => h) (Or.inl ⟨by kernel_rfl, fun w' hSw => by (try dsimp only at hSw); go_simp⟩) (by assumption) ?_
              try simp only [Act.put, List.setIfInBounds_toArray, List.set_cons_zero, List.set_cons_succ]
              refine wpAnyH_take (i := 8) (oi := { dst := some 71, op := Op.indexAddr 27 (Operand.tmp 69) (Operand.tmp 70), type := 0, pos := "outright.go:71", after := #[{ on := 6, ground := Ground.data }, { on := 7, ground := Ground.data }, { on := 5, ground := Ground.guard }], guard := some (5, false) }) (v := .pointer (some ⟨gD, oD + i, none⟩)) rfl (by kernel_rfl) (by kernel_rfl) (by kernel_rfl) (fun _ _ _ h => h) (Or.inl ⟨by kernel_rfl, fun w' hSw => by (try dsimp only at hSw); go_simp⟩) (by assumption) ?_
              try simp only [Act.put, List.setIfInBounds_toArray, List.set_cons_zero, List.set_cons_succ]
              refine wpAnyH_take (i := 9) (oi := { dst := some 72, op := Op.load 3 (Operand.tmp 71), type := 3, pos := "outright.go:71", after := #[{ on := 8, ground := Ground.data }, { on := 5, ground := Ground.guard }], guard := some (5, false) }) (v := .int .i64 dv) rfl (by kernel_rfl) (by kernel_rfl) (by kernel_rfl) (fun _ _ _ h => h) (Or.inl ⟨by kernel_rfl, fun w' hSw => by (try dsimp only at hSw); go_simp⟩) (by assumption) ?_
              try simp only [Act.put, List.setIfInBounds_toArray, List.set_cons_zero, List.set_cons_succ]
              refine wpAnyH_take (i := 10) (oi := { dst := some 73, op := Op.binOp BinOp.gtr 3 (Operand.tmp 72) (Operand.const (Value.int IntKind.i64 0)) 3, type := 4, pos := "outright.go:71", after := #[{ on := 9, ground := Ground.data }, { on := 5, ground := Ground.guard }], guard := some (5, false) }) (v := .bool cb) rfl (by kernel_rfl) (by kernel_rfl) (by kernel_rfl) (fun _ _ _ h => h) (Or.inl ⟨by kernel_rfl, fun w' hSw => by (try dsimp only at hSw); go_simp⟩) (by assumption) ?_
              try simp only [Act.put, List.setIfInBounds_toArray, List.set_cons_zero, List.set_cons_succ]
              refine wpAnyH_take (i := 11) (oi := { dst := some 74, op := Op.fieldAddr 24 (Operand.tmp 3) 1, type := 0, pos := "outright.go:71", after := #[{ on := 5, ground := Ground.guard }], guard := some (5, false) }) (v := .pointer (some ⟨b3, 1, none⟩)) rfl (by kernel_rfl) (by kernel_rfl) (by kernel_rfl) (fun _ _ _ h => h) (Or.inl ⟨by kernel_rfl, fun w' hSw => by (try dsimp only at hSw); go_simp⟩) (by assumption) ?_
              try simp only [Act.put, List.setIfInBounds_toArray, List.set_cons_zero, List.set_cons_succ]
              refine wpAnyH_take (i := 12) (oi := { dst := some 75, op := Op.load 22 (Operand.tmp 74), type := 22, pos := "outright.go:71", after := #[{ on := 11, ground := Ground.data }, { on := 5, ground := Ground.guard }], guard := some (5, false) }) (v := .slice g.A g.n g.c) rfl (by kernel_rfl) (by kernel_rfl) (by kernel_rfl) (fun _ _ _ h => h) (Or.inl ⟨by kernel_rfl, fun w' hSw => by (try dsimp only at hSw); go_simp⟩) (by assumption) ?_
              try simp only [Act.put, List.setIfInBounds_toArray, List.set_cons_zero, List.set_cons_succ]
              refine wpAnyH_take (i := 13) (oi := { dst := some 76, op := Op.move (Operand.tmp 10), type := 51, pos := "outright.go:71", after := #[{ on := 5, ground := Ground.guard }], guard := some (5, false) }) (v := .func (.func 27) #[] #[.pointer (some ⟨bv, 0, none⟩), .pointer (some ⟨bd, 0, none⟩)]) rfl (by kernel_rfl) (by kernel_rfl) (by kernel_rfl) (fun _ _ _ h => h) (Or.inl ⟨by kernel_rfl, fun w' hSw => by (try dsimp only at hSw); go_simp⟩) (by assumption) ?_
              try simp only [Act.put, List.setIfInBounds_toArray, List.set_cons_zero, List.set_cons_succ]
              refine wpAnyH_ready (rs := [14]) (by kernel_rfl) (by simp) ?_
              refine AllReadyH.cons (o := { dst := some 77, op := Op.call { callee := Callee.value (Operand.func 24), args := #[Operand.tmp 75, Operand.tmp 76], argTypes := #[22, 51] }, type := 4, pos := "outright.go:71", after := #[{ on := 12, ground := Ground.data }, { on := 13, ground := Ground.data }, { on := 5, ground := Ground.chain }, { on := 5, ground := Ground.guard }], guard := some (5, false) }) rfl (fun K hK => ?_) AllReadyH.nil
              go_simp
              refine (HCF.out bv _ J8.out KV8.out).mono ?_
              rintro e w9 ⟨rfl, b⟩
              have J9 : Hid (Below wm.heap.size wm w9) := J8.out.trans (b.mono J8.out.size)
              have KV9 := Lib.hid (KV8.out.below b KV8.out.lt)
              clear b J8 KV8 hHeld
              refine hK.out _ _ (HFS.out bv _ J9.out KV9.out) (fun hHeld => ?_)
              clear hK K
              try simp only [Act.put, List.setIfInBounds_toArray, List.set_cons_zero, List.set_cons_succ]
              refine wpAnyH_take (i := 15) (oi := { dst := some 78, op := Op.binOp BinOp.neq 4 (Operand.tmp 73) (Operand.tmp 77) 4, type := 4, pos := "outright.go:71", after := #[{ on := 10, ground := Ground.data }, { on := 14, ground := Ground.data }, { on := 5, ground := Ground.guard }], guard := some (5, false) }) (v := .bool false) rfl (by kernel_rfl) (by kernel_rfl) (by kernel_rfl) (fun _ _ _ h => h) (Or.inl ⟨by kernel_rfl, fun w' hSw => by (try dsimp only at hSw); go_simp⟩) (by assumption) ?_
              try simp only [Act.put, List.setIfInBounds_toArray, List.set_cons_zero, List.set_cons_succ]
              refine wpAnyH_take (i := 16) (oi := { dst := some 79, op := Op.pick (Operand.tmp 68) (Operand.const (Value.bool true)) (Operand.tmp 78), type := 4, pos := "outright.go:71", after := #[{ on := 5, ground := Ground.data }, { on := 15, ground := Ground.data }], guard := none }) (v := .bool false) rfl (by kernel_rfl) (by kernel_rfl) (by kernel_rfl) (fun _ _ _ h => h) (Or.inl ⟨by kernel_rfl, fun w' hSw => by (try dsimp only at hSw); go_simp⟩) (by assumption) ?_
              try simp only [Act.put, List.setIfInBounds_toArray, List.set_cons_zero, List.set_cons_succ]
              refine wpAnyH_done (by kernel_rfl) ?_ _
              refine NoPanic.normal ?_
              clear hcc hn0 hcb hil HFS HCF KV9
              go_wp2_with fail
              go_roundg g2
              case measure => omega
              case rel => exact ⟨i + 1, by go_num, by have := HI.out; omega, J9⟩
            | zero =>
              have hge : ¬ (i : Int) < g.z := by have := HMZ.out.1; omega
              have E6 := Lib.hid (Em.out.on J.out)
              clear hig J Em RDm KDm
              have z0 := E6.out.c0 (.head _)
              have z1 := E6.out.c1 (.head _)
              have x0 := E6.out.c0 (.tail _ (.head _))
              have x1 := E6.out.c1 (.tail _ (.head _))
              go_wp2_with fail
              rename World => w6
              refine (order7_at g _ HN.out HRT.out (E6.out.ok (.head _))).mono ?_
              rintro e w7 ⟨l2, hk2, b, hor⟩
              have hll : l2 = l := hk2.unique HK.out
              subst l2
              obtain ⟨heq, Ao, co, rfl, ho, _, _⟩ := hor.resolve_left fun h => by have h1 := h.1; have h2 := HM.out; omega
              have HB7 := Lib.hid b
              have HO7 := Lib.hid ho
              clear hk2 hor b heq ho z0 z1 x0 x1
              go_wp2_with fail
              refine (reverse7_any w6.heap.size Ao l.length co l (by have h1 := HLM.out; have h2 := HMZ.out.2.1; omega) _ HO7.out).mono ?_
              rintro e w8 ⟨rfl, hrv, b⟩
              have E8 := Lib.hid (E6.out.on (HB7.out.trans b))
              have RV := Lib.hid hrv
              clear hrv b HB7 HO7 E6
              have z0 := E8.out.c0 (.head _)
              have z1 := E8.out.c1 (.head _)
              have x0 := E8.out.c0 (.tail _ (.head _))
              have x1 := E8.out.c1 (.tail _ (.head _))
              go_wp2_with fail
              refine (rev_ok g.z g.A g.n g.c g.es (rightG_iff.1 HRT.out) HN.out _ (E8.out.ok (.head _)).1).mono ?_
              rintro e w9 hx
              obtain ⟨T, rfl, hz, he, okT, b⟩ := gerr_gv hx
              have E9 := Lib.hid ((E8.out.on b).add okT)
              have bb : Below w9.heap.size w9 (w9.alloc (.cells #[.int .i64 T.z, .slice T.A T.n T.c] 24)) := (Below.refl _ _).alloc (Nat.le_refl _) _
              have RV' := Lib.hid ((RV.out.below b).more b.size)
              clear RV
              have RV := RV'
              clear RV'
              have RV' := Lib.hid ((RV.out.below bb).more bb.size)
              clear RV
              have RV := RV'
              clear RV'
              have HTN : Hid (T.n ≤ 1000) := by
                have h1 := okT.len
                have h2 := back_len (rightG_iff.1 HRT.out)
                have h3 := HL.out
                have h4 := HN.out
                rw [he] at h1
                show _ ≤ _
                omega
              have HTR : Hid (rightG T.z T.es = true) := by
                show _ = _
                rw [hz, he]
                exact rightG_iff.2 (rightG_iff.1 HRT.out).back
              have HTO : Hid (RightO T.es T.z.toNat l.reverse) := by
                rw [hz, he, HMT.out]
                exact (HKI.out.right HLM.out).back HMZ.out.2.2
              clear hx hz he okT b bb E8 z0 z1 x0 x1
              obtain ⟨lr, hlr⟩ : ∃ lr, l.reverse = lr := ⟨_, rfl⟩
              rw [hlr] at RV HTO
              clear hlr
              have z0 := E9.out.c0 (.head _)
              have z1 := E9.out.c1 (.head _)
              go_wp2_with fail
              refine (right7_at T _ HTN.out HTR.out (E9.out.ok (.head _)) Ao l.length co lr RV.out).mono ?_
              rintro e w10 ⟨b1, rfl, hb1, b⟩
              have hb : b1 = true := hb1.2 HTO.out
              subst hb
              have E10 := Lib.hid (E9.out.on b)
              clear hb1 b E9 z0 z1
              go_wp2_with fail
              go_ret
              exact ⟨rfl, E10.out.below⟩
end Go.Proofs.Ytaigpdpcliecpaa
