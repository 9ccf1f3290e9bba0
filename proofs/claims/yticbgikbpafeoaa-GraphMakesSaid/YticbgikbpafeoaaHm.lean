/- GraphMakes: the walk. -/
import Derived.Test.YticbgikbpafeoaaHl
namespace Go.Proofs.Yticbgikbpafeoaa
open Go.RowKit

set_option maxRecDepth 100000 in
set_option maxHeartbeats 4000000 in
theorem makes_core (pa pb : GV) (nodes : Int) (A : Option Addr) (n c : Nat) (xs : List Ed) (hc : A = none → c = 0) (hnc : n ≤ c) (hcm : c ≤ 9223372036854775807) (w : World) (hR : Reads w w.heap.size 3 A n (cellsE xs)) (ha : pa.ok w) (hb : pb.ok w) :
    Calls Try.prog 3 #[.agg #[.int .i64 pa.z, .slice pa.A pa.n pa.c, .int .i64 pb.z, .slice pb.A pb.n pb.c], .int .i64 nodes, .slice A n c] w fun e w' => e = .returned (.bool true) ∧ Below w.heap.size w w' := by
  have E0 : Hid (MEnv w [] w.heap.size pa pb A n xs (w.alloc (.cells #[.int .i64 pa.z, .slice pa.A pa.n pa.c, .int .i64 pb.z, .slice pb.A pb.n pb.c] 25))) := by
    have h1 : Below w.heap.size w (w.alloc (.cells #[.int .i64 pa.z, .slice pa.A pa.n pa.c, .int .i64 pb.z, .slice pb.A pb.n pb.c] 25)) := (Below.refl _ _).alloc (Nat.le_refl _) _
    exact ⟨(Env.start w).on h1, Blk.new _ _ _, ha.on h1, hb.on h1, hR.on h1⟩
  have HFEW := Lib.hid fun W h => few_any A n c xs hc hnc hcm W h
  have hm80 : min n 80 ≤ 80 := by omega
  have hmn : (xs.take 80).length = min n 80 := by have := reads_len hR; rw [List.length_take]; omega
  generalize xs.take 80 = ys at *
  generalize min n 80 = m at *
  obtain ⟨gz, ges, k, hof1, hof2, hof3⟩ := of_both nodes ys m hm80
  have HOF := Lib.hid hof1
  have HY := Lib.hid hof2
  have HNO := Lib.hid hof3
  clear hR ha hb hc hnc hcm hof1 hof2 hof3
  go_enter Try.func3, Try.ntmps3
  go_wp2_with fail
  generalize w.alloc (.cells #[.int .i64 pa.z, .slice pa.A pa.n pa.c, .int .i64 pb.z, .slice pb.A pb.n pb.c] 25) = W0 at *
  refine (wakes_any _).mono ?_
  rintro e w1 ⟨rfl, b⟩
  have E1 := Lib.hid (E0.out.on b)
  clear b E0
  go_upto_region 3 with fail
  go_cut [7, 8] (fun s7 s8 wx => ∃ (ga gb : GV) (x7 x8 : Nat), s7 = .pointer (some ⟨x7, 0, none⟩) ∧ s8 = .pointer (some ⟨x8, 0, none⟩) ∧ Hid (ga.z = pa.z ∧ ga.es = pa.es.take 80) ∧ Hid (gb.z = pb.z ∧ gb.es = pb.es.take 80) ∧ Hid (MEnv w [(x8, gb), (x7, ga)] w.heap.size pa pb A n xs wx))
  case first =>
    clear HFEW HOF HY HNO
    have J0 := Lib.hid E1.out.drew
    clear E1
    refine wp_region_noPanic ?_
    refine wp_region_held_drew (S := fun w' => w'.cell? ⟨w.heap.size, 0, none⟩ = some (.int .i64 pa.z) ∧ w'.cell? ⟨w.heap.size, 1, none⟩ = some (.slice pa.A pa.n pa.c) ∧ w'.cell? ⟨w.heap.size, 2, none⟩ = some (.int .i64 pb.z) ∧ w'.cell? ⟨w.heap.size, 3, none⟩ = some (.slice pb.A pb.n pb.c)) (by kernel_rfl) ⟨J0.out.blk.cell 0, J0.out.blk.cell 1, J0.out.blk.cell 2, J0.out.blk.cell 3⟩ (fun hHeld => ?_)
    generalize w1.drew = wd at *
    refine wpAnyH_take (i := 0) (oi := { dst := some 22, op := Op.indexAddr 25 (Operand.tmp 3) (Operand.const (Value.int IntKind.i64 0)), type := 0, pos := "law.go:36", after := #[], guard := none }) (v := .pointer (some ⟨w.heap.size, 0, none⟩)) rfl (by kernel_rfl) (by kernel_rfl) (by kernel_rfl) (fun _ _ _ h => h) (Or.inl ⟨by kernel_rfl, fun w' hSw => by (try dsimp only at hSw); go_simp⟩) (by assumption) ?_
    try simp only [Act.put, List.setIfInBounds_toArray, List.set_cons_zero, List.set_cons_succ]
    refine wpAnyH_take (i := 1) (oi := { dst := some 23, op := Op.load 24 (Operand.tmp 22), type := 24, pos := "law.go:36", after := #[{ on := 0, ground := Ground.data }], guard := none }) (v := .agg #[.int .i64 pa.z, .slice pa.A pa.n pa.c]) rfl (by kernel_rfl) (by kernel_rfl) (by kernel_rfl) (fun _ _ _ h => h) (Or.inl ⟨by kernel_rfl, fun w' hSw => by (try dsimp only at hSw); go_simp⟩) (by assumption) ?_
    try simp only [Act.put, List.setIfInBounds_toArray, List.set_cons_zero, List.set_cons_succ]
    refine wpAnyH_take (i := 3) (oi := { dst := some 25, op := Op.indexAddr 25 (Operand.tmp 3) (Operand.const (Value.int IntKind.i64 1)), type := 0, pos := "law.go:36", after := #[], guard := none }) (v := .pointer (some ⟨w.heap.size, 2, none⟩)) rfl (by kernel_rfl) (by kernel_rfl) (by kernel_rfl) (fun _ _ _ h => h) (Or.inl ⟨by kernel_rfl, fun w' hSw => by (try dsimp only at hSw); go_simp⟩) (by assumption) ?_
    try simp only [Act.put, List.setIfInBounds_toArray, List.set_cons_zero, List.set_cons_succ]
    refine wpAnyH_take (i := 4) (oi := { dst := some 26, op := Op.load 24 (Operand.tmp 25), type := 24, pos := "law.go:36", after := #[{ on := 3, ground := Ground.data }], guard := none }) (v := .agg #[.int .i64 pb.z, .slice pb.A pb.n pb.c]) rfl (by kernel_rfl) (by kernel_rfl) (by kernel_rfl) (fun _ _ _ h => h) (Or.inl ⟨by kernel_rfl, fun w' hSw => by (try dsimp only at hSw); go_simp⟩) (by assumption) ?_
    try simp only [Act.put, List.setIfInBounds_toArray, List.set_cons_zero, List.set_cons_succ]
    refine wpAnyH_ready (rs := [2, 6, 7]) (by kernel_rfl) (by simp) ?_
    refine AllReadyH.cons (o := { dst := some 24, op := Op.call { callee := Callee.value (Operand.func 10), args := #[Operand.tmp 23], argTypes := #[24] }, type := 24, pos := "law.go:36", after := #[{ on := 1, ground := Ground.data }], guard := none }) rfl (fun K hK => ?_) ?_
    · skip
      go_simp
      refine (fair_any pa.z pa.A pa.n pa.c pa.es J0.out.p.2.2.2 J0.out.p.2.1 J0.out.p.2.2.1 _ J0.out.p.1).mono ?_
      rintro e u1 hx
      obtain ⟨ga, rfl, hz, he, okg, hb⟩ := gis_gv hx
      have J1 := Lib.hid (J0.out.on hb)
      have F1 := Lib.hid okg
      have HFA := Lib.hid (And.intro hz he)
      clear hHeld hx hz he okg hb J0
      refine hK.out _ _ ⟨J1.out.blk.cell 0, J1.out.blk.cell 1, J1.out.blk.cell 2, J1.out.blk.cell 3⟩ (fun hHeld => ?_)
      clear hK K
      try simp only [Act.put, List.setIfInBounds_toArray, List.set_cons_zero, List.set_cons_succ]
      refine wpAnyH_ready (rs := [5, 6, 7]) (by kernel_rfl) (by simp) ?_
      refine AllReadyH.cons (o := { dst := some 27, op := Op.call { callee := Callee.value (Operand.func 10), args := #[Operand.tmp 26], argTypes := #[24] }, type := 24, pos := "law.go:36", after := #[{ on := 4, ground := Ground.data }, { on := 2, ground := Ground.chain }], guard := none }) rfl (fun K hK => ?_) ?_
      · skip
        go_simp
        refine (fair_any pb.z pb.A pb.n pb.c pb.es J1.out.q.2.2.2 J1.out.q.2.1 J1.out.q.2.2.1 _ J1.out.q.1).mono ?_
        rintro e u2 hx
        obtain ⟨gb, rfl, hz, he, okg, hb⟩ := gis_gv hx
        have J2 := Lib.hid (J1.out.on hb)
        have F2 := Lib.hid (F1.out.on hb)
        have G2 := Lib.hid okg
        have HFB := Lib.hid (And.intro hz he)
        clear hHeld hx hz he okg hb J1 F1
        refine hK.out _ _ ⟨J2.out.blk.cell 0, J2.out.blk.cell 1, J2.out.blk.cell 2, J2.out.blk.cell 3⟩ (fun hHeld => ?_)
        clear hK K
        try simp only [Act.put, List.setIfInBounds_toArray, List.set_cons_zero, List.set_cons_succ]
        refine wpAnyH_ready (rs := [6, 7]) (by kernel_rfl) (by simp) ?_
        refine AllReadyH.cons (o := { dst := some 7, op := Op.alloc 24, type := 0, pos := "law.go:36", after := #[], guard := none }) rfl (fun K hK => ?_) ?_
        · skip
          go_simp
          have hb : Below u2.heap.size u2 (u2.alloc (.cells #[.int .i64 0, .slice none 0 0] 24)) := (Below.refl _ _).alloc (Nat.le_refl _) _
          have J3 := Lib.hid (J2.out.on hb)
          have F3 := Lib.hid (F2.out.on hb)
          have G3 := Lib.hid (G2.out.on hb)
          have P3 := Lib.hid (MZer.new J2.out)
          clear hHeld hb J2 F2 G2
          refine hK.out _ _ ⟨J3.out.blk.cell 0, J3.out.blk.cell 1, J3.out.blk.cell 2, J3.out.blk.cell 3⟩ (fun hHeld => ?_)
          clear hK K
          try simp only [Act.put, List.setIfInBounds_toArray, List.set_cons_zero, List.set_cons_succ]
          generalize u2.alloc (.cells #[.int .i64 0, .slice none 0 0] 24) = u3 at *
          generalize u2.heap.size = x7 at *
          refine wpAnyH_ready (rs := [7]) (by kernel_rfl) (by simp) ?_
          refine AllReadyH.cons (o := { dst := some 8, op := Op.alloc 24, type := 0, pos := "law.go:36", after := #[], guard := none }) rfl (fun K hK => ?_) ?_
          · skip
            go_simp
            have hb : Below u3.heap.size u3 (u3.alloc (.cells #[.int .i64 0, .slice none 0 0] 24)) := (Below.refl _ _).alloc (Nat.le_refl _) _
            have J4 := Lib.hid (J3.out.on hb)
            have P4 := Lib.hid (P3.out.on hb)
            have F4 := Lib.hid (F3.out.on hb)
            have G4 := Lib.hid (G3.out.on hb)
            have Q4 := Lib.hid (MZer.new J3.out)
            have HD : Hid (x7 ≠ u3.heap.size) := Nat.ne_of_lt P3.out.1.1.lt
            clear hHeld hb J3 P3 F3 G3
            refine hK.out _ _ ⟨J4.out.blk.cell 0, J4.out.blk.cell 1, J4.out.blk.cell 2, J4.out.blk.cell 3⟩ (fun hHeld => ?_)
            clear hK K
            try simp only [Act.put, List.setIfInBounds_toArray, List.set_cons_zero, List.set_cons_succ]
            generalize u3.alloc (.cells #[.int .i64 0, .slice none 0 0] 24) = u4 at *
            generalize u3.heap.size = x8 at *
            refine wpAnyH_ready (rs := [8]) (by kernel_rfl) (by simp) ?_
            refine AllReadyH.cons (o := { dst := none, op := Op.store 24 (Operand.tmp 7) (Operand.tmp 24), type := 0, pos := "law.go:36", after := #[{ on := 6, ground := Ground.data }, { on := 2, ground := Ground.data }, { on := 5, ground := Ground.chain }, { on := 0, ground := Ground.phase }, { on := 1, ground := Ground.phase }, { on := 2, ground := Ground.phase }, { on := 3, ground := Ground.textOnly Departure.lateStores }, { on := 4, ground := Ground.textOnly Departure.lateStores }, { on := 5, ground := Ground.textOnly Departure.lateStoresUnsure }, { on := 6, ground := Ground.phase }, { on := 7, ground := Ground.phase }], guard := none }) rfl (fun K hK => ?_) ?_
            · skip
              have y0 := P4.out.1.1.cell 0
              have y1 := P4.out.1.1.cell 1
              have f0 := P4.out.1.1.frozen 0
              have f1 := P4.out.1.1.frozen 1
              go_simp
              have J5 := Lib.hid (J4.out.put P4.out F4.out)
              have Q5 := Lib.hid (Q4.out.put HD.out (.int .i64 ga.z) (.slice ga.A ga.n ga.c) ga)
              have G5 := Lib.hid (G4.out.put P4.out.1.1 (.int .i64 ga.z) (.slice ga.A ga.n ga.c))
              clear hHeld y0 y1 f0 f1 J4 P4 F4 Q4 G4
              refine hK.out _ _ ⟨J5.out.blk.cell 0, J5.out.blk.cell 1, J5.out.blk.cell 2, J5.out.blk.cell 3⟩ (fun hHeld => ?_)
              clear hK K
              try simp only [Act.put, List.setIfInBounds_toArray, List.set_cons_zero, List.set_cons_succ]
              generalize (u4.setCell ⟨x7, 0, none⟩ (.int .i64 ga.z)).setCell ⟨x7, 1, none⟩ (.slice ga.A ga.n ga.c) = u5 at *
              refine wpAnyH_ready (rs := [9]) (by kernel_rfl) (by simp) ?_
              refine AllReadyH.cons (o := { dst := none, op := Op.store 24 (Operand.tmp 8) (Operand.tmp 27), type := 0, pos := "law.go:36", after := #[{ on := 7, ground := Ground.data }, { on := 5, ground := Ground.data }, { on := 8, ground := Ground.chain }, { on := 0, ground := Ground.phase }, { on := 1, ground := Ground.phase }, { on := 2, ground := Ground.phase }, { on := 3, ground := Ground.phase }, { on := 4, ground := Ground.phase }, { on := 5, ground := Ground.phase }, { on := 6, ground := Ground.phase }, { on := 7, ground := Ground.phase }, { on := 8, ground := Ground.phase }], guard := none }) rfl (fun K hK => ?_) ?_
              · skip
                have y0 := Q5.out.1.1.cell 0
                have y1 := Q5.out.1.1.cell 1
                have f0 := Q5.out.1.1.frozen 0
                have f1 := Q5.out.1.1.frozen 1
                go_simp
                have J6 := Lib.hid (J5.out.put Q5.out G5.out)
                clear hHeld y0 y1 f0 f1 J5 Q5 G5
                refine hK.out _ _ ⟨J6.out.blk.cell 0, J6.out.blk.cell 1, J6.out.blk.cell 2, J6.out.blk.cell 3⟩ (fun hHeld => ?_)
                clear hK K
                try simp only [Act.put, List.setIfInBounds_toArray, List.set_cons_zero, List.set_cons_succ]
                generalize (u5.setCell ⟨x8, 0, none⟩ (.int .i64 gb.z)).setCell ⟨x8, 1, none⟩ (.slice gb.A gb.n gb.c) = u6 at *
                refine wpAnyH_done (by kernel_rfl) ?_ _
                refine NoPanic.normal ?_
                clear hHeld
                go_wp2_with fail
                go_meet
                exact ⟨ga, gb, x7, x8, rfl, rfl, HFA, HFB, J6⟩
              exact AllReadyH.nil
            exact AllReadyH.nil
          exact AllReadyH.nil
        refine AllReadyH.cons (o := { dst := some 8, op := Op.alloc 24, type := 0, pos := "law.go:36", after := #[], guard := none }) rfl (fun K hK => ?_) ?_
        · skip
          go_simp
          have hb : Below u2.heap.size u2 (u2.alloc (.cells #[.int .i64 0, .slice none 0 0] 24)) := (Below.refl _ _).alloc (Nat.le_refl _) _
          have J3 := Lib.hid (J2.out.on hb)
          have F3 := Lib.hid (F2.out.on hb)
          have G3 := Lib.hid (G2.out.on hb)
          have Q3 := Lib.hid (MZer.new J2.out)
          clear hHeld hb J2 F2 G2
          refine hK.out _ _ ⟨J3.out.blk.cell 0, J3.out.blk.cell 1, J3.out.blk.cell 2, J3.out.blk.cell 3⟩ (fun hHeld => ?_)
          clear hK K
          try simp only [Act.put, List.setIfInBounds_toArray, List.set_cons_zero, List.set_cons_succ]
          generalize u2.alloc (.cells #[.int .i64 0, .slice none 0 0] 24) = u3 at *
          generalize u2.heap.size = x8 at *
          refine wpAnyH_ready (rs := [6]) (by kernel_rfl) (by simp) ?_
          refine AllReadyH.cons (o := { dst := some 7, op := Op.alloc 24, type := 0, pos := "law.go:36", after := #[], guard := none }) rfl (fun K hK => ?_) ?_
          · skip
            go_simp
            have hb : Below u3.heap.size u3 (u3.alloc (.cells #[.int .i64 0, .slice none 0 0] 24)) := (Below.refl _ _).alloc (Nat.le_refl _) _
            have J4 := Lib.hid (J3.out.on hb)
            have Q4 := Lib.hid (Q3.out.on hb)
            have F4 := Lib.hid (F3.out.on hb)
            have G4 := Lib.hid (G3.out.on hb)
            have P4 := Lib.hid (MZer.new J3.out)
            have HD : Hid (x8 ≠ u3.heap.size) := Nat.ne_of_lt Q3.out.1.1.lt
            clear hHeld hb J3 Q3 F3 G3
            refine hK.out _ _ ⟨J4.out.blk.cell 0, J4.out.blk.cell 1, J4.out.blk.cell 2, J4.out.blk.cell 3⟩ (fun hHeld => ?_)
            clear hK K
            try simp only [Act.put, List.setIfInBounds_toArray, List.set_cons_zero, List.set_cons_succ]
            generalize u3.alloc (.cells #[.int .i64 0, .slice none 0 0] 24) = u4 at *
            generalize u3.heap.size = x7 at *
            refine wpAnyH_ready (rs := [8]) (by kernel_rfl) (by simp) ?_
            refine AllReadyH.cons (o := { dst := none, op := Op.store 24 (Operand.tmp 7) (Operand.tmp 24), type := 0, pos := "law.go:36", after := #[{ on := 6, ground := Ground.data }, { on := 2, ground := Ground.data }, { on := 5, ground := Ground.chain }, { on := 0, ground := Ground.phase }, { on := 1, ground := Ground.phase }, { on := 2, ground := Ground.phase }, { on := 3, ground := Ground.textOnly Departure.lateStores }, { on := 4, ground := Ground.textOnly Departure.lateStores }, { on := 5, ground := Ground.textOnly Departure.lateStoresUnsure }, { on := 6, ground := Ground.phase }, { on := 7, ground := Ground.phase }], guard := none }) rfl (fun K hK => ?_) ?_
            · skip
              have y0 := P4.out.1.1.cell 0
              have y1 := P4.out.1.1.cell 1
              have f0 := P4.out.1.1.frozen 0
              have f1 := P4.out.1.1.frozen 1
              go_simp
              have J5 := Lib.hid (J4.out.put P4.out F4.out)
              have Q5 := Lib.hid (Q4.out.put HD.out.symm (.int .i64 ga.z) (.slice ga.A ga.n ga.c) ga)
              have G5 := Lib.hid (G4.out.put P4.out.1.1 (.int .i64 ga.z) (.slice ga.A ga.n ga.c))
              clear hHeld y0 y1 f0 f1 J4 P4 F4 Q4 G4
              refine hK.out _ _ ⟨J5.out.blk.cell 0, J5.out.blk.cell 1, J5.out.blk.cell 2, J5.out.blk.cell 3⟩ (fun hHeld => ?_)
              clear hK K
              try simp only [Act.put, List.setIfInBounds_toArray, List.set_cons_zero, List.set_cons_succ]
              generalize (u4.setCell ⟨x7, 0, none⟩ (.int .i64 ga.z)).setCell ⟨x7, 1, none⟩ (.slice ga.A ga.n ga.c) = u5 at *
              refine wpAnyH_ready (rs := [9]) (by kernel_rfl) (by simp) ?_
              refine AllReadyH.cons (o := { dst := none, op := Op.store 24 (Operand.tmp 8) (Operand.tmp 27), type := 0, pos := "law.go:36", after := #[{ on := 7, ground := Ground.data }, { on := 5, ground := Ground.data }, { on := 8, ground := Ground.chain }, { on := 0, ground := Ground.phase }, { on := 1, ground := Ground.phase }, { on := 2, ground := Ground.phase }, { on := 3, ground := Ground.phase }, { on := 4, ground := Ground.phase }, { on := 5, ground := Ground.phase }, { on := 6, ground := Ground.phase }, { on := 7, ground := Ground.phase }, { on := 8, ground := Ground.phase }], guard := none }) rfl (fun K hK => ?_) ?_
              · skip
                have y0 := Q5.out.1.1.cell 0
                have y1 := Q5.out.1.1.cell 1
                have f0 := Q5.out.1.1.frozen 0
                have f1 := Q5.out.1.1.frozen 1
                go_simp
                have J6 := Lib.hid (J5.out.put Q5.out G5.out)
                clear hHeld y0 y1 f0 f1 J5 Q5 G5
                refine hK.out _ _ ⟨J6.out.blk.cell 0, J6.out.blk.cell 1, J6.out.blk.cell 2, J6.out.blk.cell 3⟩ (fun hHeld => ?_)
                clear hK K
                try simp only [Act.put, List.setIfInBounds_toArray, List.set_cons_zero, List.set_cons_succ]
                generalize (u5.setCell ⟨x8, 0, none⟩ (.int .i64 gb.z)).setCell ⟨x8, 1, none⟩ (.slice gb.A gb.n gb.c) = u6 at *
                refine wpAnyH_done (by kernel_rfl) ?_ _
                refine NoPanic.normal ?_
                clear hHeld
                go_wp2_with fail
                go_meet
                exact ⟨ga, gb, x7, x8, rfl, rfl, HFA, HFB, J6⟩
              exact AllReadyH.nil
            exact AllReadyH.nil
          exact AllReadyH.nil
        exact AllReadyH.nil
      refine AllReadyH.cons (o := { dst := some 7, op := Op.alloc 24, type := 0, pos := "law.go:36", after := #[], guard := none }) rfl (fun K hK => ?_) ?_
      · skip
        go_simp
        have hb : Below u1.heap.size u1 (u1.alloc (.cells #[.int .i64 0, .slice none 0 0] 24)) := (Below.refl _ _).alloc (Nat.le_refl _) _
        have J2 := Lib.hid (J1.out.on hb)
        have F2 := Lib.hid (F1.out.on hb)
        have P2 := Lib.hid (MZer.new J1.out)
        clear hHeld hb J1 F1
        refine hK.out _ _ ⟨J2.out.blk.cell 0, J2.out.blk.cell 1, J2.out.blk.cell 2, J2.out.blk.cell 3⟩ (fun hHeld => ?_)
        clear hK K
        try simp only [Act.put, List.setIfInBounds_toArray, List.set_cons_zero, List.set_cons_succ]
        generalize u1.alloc (.cells #[.int .i64 0, .slice none 0 0] 24) = u2 at *
        generalize u1.heap.size = x7 at *
        refine wpAnyH_ready (rs := [5, 7]) (by kernel_rfl) (by simp) ?_
        refine AllReadyH.cons (o := { dst := some 27, op := Op.call { callee := Callee.value (Operand.func 10), args := #[Operand.tmp 26], argTypes := #[24] }, type := 24, pos := "law.go:36", after := #[{ on := 4, ground := Ground.data }, { on := 2, ground := Ground.chain }], guard := none }) rfl (fun K hK => ?_) ?_
        · skip
          go_simp
          refine (fair_any pb.z pb.A pb.n pb.c pb.es J2.out.q.2.2.2 J2.out.q.2.1 J2.out.q.2.2.1 _ J2.out.q.1).mono ?_
          rintro e u3 hx
          obtain ⟨gb, rfl, hz, he, okg, hb⟩ := gis_gv hx
          have J3 := Lib.hid (J2.out.on hb)
          have P3 := Lib.hid (P2.out.on hb)
          have F3 := Lib.hid (F2.out.on hb)
          have G3 := Lib.hid okg
          have HFB := Lib.hid (And.intro hz he)
          clear hHeld hx hz he okg hb J2 P2 F2
          refine hK.out _ _ ⟨J3.out.blk.cell 0, J3.out.blk.cell 1, J3.out.blk.cell 2, J3.out.blk.cell 3⟩ (fun hHeld => ?_)
          clear hK K
          try simp only [Act.put, List.setIfInBounds_toArray, List.set_cons_zero, List.set_cons_succ]
          refine wpAnyH_ready (rs := [7]) (by kernel_rfl) (by simp) ?_
          refine AllReadyH.cons (o := { dst := some 8, op := Op.alloc 24, type := 0, pos := "law.go:36", after := #[], guard := none }) rfl (fun K hK => ?_) ?_
          · skip
            go_simp
            have hb : Below u3.heap.size u3 (u3.alloc (.cells #[.int .i64 0, .slice none 0 0] 24)) := (Below.refl _ _).alloc (Nat.le_refl _) _
            have J4 := Lib.hid (J3.out.on hb)
            have P4 := Lib.hid (P3.out.on hb)
            have F4 := Lib.hid (F3.out.on hb)
            have G4 := Lib.hid (G3.out.on hb)
            have Q4 := Lib.hid (MZer.new J3.out)
            have HD : Hid (x7 ≠ u3.heap.size) := Nat.ne_of_lt P3.out.1.1.lt
            clear hHeld hb J3 P3 F3 G3
            refine hK.out _ _ ⟨J4.out.blk.cell 0, J4.out.blk.cell 1, J4.out.blk.cell 2, J4.out.blk.cell 3⟩ (fun hHeld => ?_)
            clear hK K
            try simp only [Act.put, List.setIfInBounds_toArray, List.set_cons_zero, List.set_cons_succ]
            generalize u3.alloc (.cells #[.int .i64 0, .slice none 0 0] 24) = u4 at *
            generalize u3.heap.size = x8 at *
            refine wpAnyH_ready (rs := [8]) (by kernel_rfl) (by simp) ?_
            refine AllReadyH.cons (o := { dst := none, op := Op.store 24 (Operand.tmp 7) (Operand.tmp 24), type := 0, pos := "law.go:36", after := #[{ on := 6, ground := Ground.data }, { on := 2, ground := Ground.data }, { on := 5, ground := Ground.chain }, { on := 0, ground := Ground.phase }, { on := 1, ground := Ground.phase }, { on := 2, ground := Ground.phase }, { on := 3, ground := Ground.textOnly Departure.lateStores }, { on := 4, ground := Ground.textOnly Departure.lateStores }, { on := 5, ground := Ground.textOnly Departure.lateStoresUnsure }, { on := 6, ground := Ground.phase }, { on := 7, ground := Ground.phase }], guard := none }) rfl (fun K hK => ?_) ?_
            · skip
              have y0 := P4.out.1.1.cell 0
              have y1 := P4.out.1.1.cell 1
              have f0 := P4.out.1.1.frozen 0
              have f1 := P4.out.1.1.frozen 1
              go_simp
              have J5 := Lib.hid (J4.out.put P4.out F4.out)
              have Q5 := Lib.hid (Q4.out.put HD.out (.int .i64 ga.z) (.slice ga.A ga.n ga.c) ga)
              have G5 := Lib.hid (G4.out.put P4.out.1.1 (.int .i64 ga.z) (.slice ga.A ga.n ga.c))
              clear hHeld y0 y1 f0 f1 J4 P4 F4 Q4 G4
              refine hK.out _ _ ⟨J5.out.blk.cell 0, J5.out.blk.cell 1, J5.out.blk.cell 2, J5.out.blk.cell 3⟩ (fun hHeld => ?_)
              clear hK K
              try simp only [Act.put, List.setIfInBounds_toArray, List.set_cons_zero, List.set_cons_succ]
              generalize (u4.setCell ⟨x7, 0, none⟩ (.int .i64 ga.z)).setCell ⟨x7, 1, none⟩ (.slice ga.A ga.n ga.c) = u5 at *
              refine wpAnyH_ready (rs := [9]) (by kernel_rfl) (by simp) ?_
              refine AllReadyH.cons (o := { dst := none, op := Op.store 24 (Operand.tmp 8) (Operand.tmp 27), type := 0, pos := "law.go:36", after := #[{ on := 7, ground := Ground.data }, { on := 5, ground := Ground.data }, { on := 8, ground := Ground.chain }, { on := 0, ground := Ground.phase }, { on := 1, ground := Ground.phase }, { on := 2, ground := Ground.phase }, { on := 3, ground := Ground.phase }, { on := 4, ground := Ground.phase }, { on := 5, ground := Ground.phase }, { on := 6, ground := Ground.phase }, { on := 7, ground := Ground.phase }, { on := 8, ground := Ground.phase }], guard := none }) rfl (fun K hK => ?_) ?_
              · skip
                have y0 := Q5.out.1.1.cell 0
                have y1 := Q5.out.1.1.cell 1
                have f0 := Q5.out.1.1.frozen 0
                have f1 := Q5.out.1.1.frozen 1
                go_simp
                have J6 := Lib.hid (J5.out.put Q5.out G5.out)
                clear hHeld y0 y1 f0 f1 J5 Q5 G5
                refine hK.out _ _ ⟨J6.out.blk.cell 0, J6.out.blk.cell 1, J6.out.blk.cell 2, J6.out.blk.cell 3⟩ (fun hHeld => ?_)
                clear hK K
                try simp only [Act.put, List.setIfInBounds_toArray, List.set_cons_zero, List.set_cons_succ]
                generalize (u5.setCell ⟨x8, 0, none⟩ (.int .i64 gb.z)).setCell ⟨x8, 1, none⟩ (.slice gb.A gb.n gb.c) = u6 at *
                refine wpAnyH_done (by kernel_rfl) ?_ _
                refine NoPanic.normal ?_
                clear hHeld
                go_wp2_with fail
                go_meet
                exact ⟨ga, gb, x7, x8, rfl, rfl, HFA, HFB, J6⟩
              exact AllReadyH.nil
            exact AllReadyH.nil
          exact AllReadyH.nil
        refine AllReadyH.cons (o := { dst := some 8, op := Op.alloc 24, type := 0, pos := "law.go:36", after := #[], guard := none }) rfl (fun K hK => ?_) ?_
        · skip
          go_simp
          have hb : Below u2.heap.size u2 (u2.alloc (.cells #[.int .i64 0, .slice none 0 0] 24)) := (Below.refl _ _).alloc (Nat.le_refl _) _
          have J3 := Lib.hid (J2.out.on hb)
          have P3 := Lib.hid (P2.out.on hb)
          have F3 := Lib.hid (F2.out.on hb)
          have Q3 := Lib.hid (MZer.new J2.out)
          have HD : Hid (x7 ≠ u2.heap.size) := Nat.ne_of_lt P2.out.1.1.lt
          clear hHeld hb J2 P2 F2
          refine hK.out _ _ ⟨J3.out.blk.cell 0, J3.out.blk.cell 1, J3.out.blk.cell 2, J3.out.blk.cell 3⟩ (fun hHeld => ?_)
          clear hK K
          try simp only [Act.put, List.setIfInBounds_toArray, List.set_cons_zero, List.set_cons_succ]
          generalize u2.alloc (.cells #[.int .i64 0, .slice none 0 0] 24) = u3 at *
          generalize u2.heap.size = x8 at *
          refine wpAnyH_ready (rs := [5]) (by kernel_rfl) (by simp) ?_
          refine AllReadyH.cons (o := { dst := some 27, op := Op.call { callee := Callee.value (Operand.func 10), args := #[Operand.tmp 26], argTypes := #[24] }, type := 24, pos := "law.go:36", after := #[{ on := 4, ground := Ground.data }, { on := 2, ground := Ground.chain }], guard := none }) rfl (fun K hK => ?_) ?_
          · skip
            go_simp
            refine (fair_any pb.z pb.A pb.n pb.c pb.es J3.out.q.2.2.2 J3.out.q.2.1 J3.out.q.2.2.1 _ J3.out.q.1).mono ?_
            rintro e u4 hx
            obtain ⟨gb, rfl, hz, he, okg, hb⟩ := gis_gv hx
            have J4 := Lib.hid (J3.out.on hb)
            have P4 := Lib.hid (P3.out.on hb)
            have Q4 := Lib.hid (Q3.out.on hb)
            have F4 := Lib.hid (F3.out.on hb)
            have G4 := Lib.hid okg
            have HFB := Lib.hid (And.intro hz he)
            clear hHeld hx hz he okg hb J3 P3 Q3 F3
            refine hK.out _ _ ⟨J4.out.blk.cell 0, J4.out.blk.cell 1, J4.out.blk.cell 2, J4.out.blk.cell 3⟩ (fun hHeld => ?_)
            clear hK K
            try simp only [Act.put, List.setIfInBounds_toArray, List.set_cons_zero, List.set_cons_succ]
            refine wpAnyH_ready (rs := [8]) (by kernel_rfl) (by simp) ?_
            refine AllReadyH.cons (o := { dst := none, op := Op.store 24 (Operand.tmp 7) (Operand.tmp 24), type := 0, pos := "law.go:36", after := #[{ on := 6, ground := Ground.data }, { on := 2, ground := Ground.data }, { on := 5, ground := Ground.chain }, { on := 0, ground := Ground.phase }, { on := 1, ground := Ground.phase }, { on := 2, ground := Ground.phase }, { on := 3, ground := Ground.textOnly Departure.lateStores }, { on := 4, ground := Ground.textOnly Departure.lateStores }, { on := 5, ground := Ground.textOnly Departure.lateStoresUnsure }, { on := 6, ground := Ground.phase }, { on := 7, ground := Ground.phase }], guard := none }) rfl (fun K hK => ?_) ?_
            · skip
              have y0 := P4.out.1.1.cell 0
              have y1 := P4.out.1.1.cell 1
              have f0 := P4.out.1.1.frozen 0
              have f1 := P4.out.1.1.frozen 1
              go_simp
              have J5 := Lib.hid (J4.out.put P4.out F4.out)
              have Q5 := Lib.hid (Q4.out.put HD.out (.int .i64 ga.z) (.slice ga.A ga.n ga.c) ga)
              have G5 := Lib.hid (G4.out.put P4.out.1.1 (.int .i64 ga.z) (.slice ga.A ga.n ga.c))
              clear hHeld y0 y1 f0 f1 J4 P4 F4 Q4 G4
              refine hK.out _ _ ⟨J5.out.blk.cell 0, J5.out.blk.cell 1, J5.out.blk.cell 2, J5.out.blk.cell 3⟩ (fun hHeld => ?_)
              clear hK K
              try simp only [Act.put, List.setIfInBounds_toArray, List.set_cons_zero, List.set_cons_succ]
              generalize (u4.setCell ⟨x7, 0, none⟩ (.int .i64 ga.z)).setCell ⟨x7, 1, none⟩ (.slice ga.A ga.n ga.c) = u5 at *
              refine wpAnyH_ready (rs := [9]) (by kernel_rfl) (by simp) ?_
              refine AllReadyH.cons (o := { dst := none, op := Op.store 24 (Operand.tmp 8) (Operand.tmp 27), type := 0, pos := "law.go:36", after := #[{ on := 7, ground := Ground.data }, { on := 5, ground := Ground.data }, { on := 8, ground := Ground.chain }, { on := 0, ground := Ground.phase }, { on := 1, ground := Ground.phase }, { on := 2, ground := Ground.phase }, { on := 3, ground := Ground.phase }, { on := 4, ground := Ground.phase }, { on := 5, ground := Ground.phase }, { on := 6, ground := Ground.phase }, { on := 7, ground := Ground.phase }, { on := 8, ground := Ground.phase }], guard := none }) rfl (fun K hK => ?_) ?_
              · skip
                have y0 := Q5.out.1.1.cell 0
                have y1 := Q5.out.1.1.cell 1
                have f0 := Q5.out.1.1.frozen 0
                have f1 := Q5.out.1.1.frozen 1
                go_simp
                have J6 := Lib.hid (J5.out.put Q5.out G5.out)
                clear hHeld y0 y1 f0 f1 J5 Q5 G5
                refine hK.out _ _ ⟨J6.out.blk.cell 0, J6.out.blk.cell 1, J6.out.blk.cell 2, J6.out.blk.cell 3⟩ (fun hHeld => ?_)
                clear hK K
                try simp only [Act.put, List.setIfInBounds_toArray, List.set_cons_zero, List.set_cons_succ]
                generalize (u5.setCell ⟨x8, 0, none⟩ (.int .i64 gb.z)).setCell ⟨x8, 1, none⟩ (.slice gb.A gb.n gb.c) = u6 at *
                refine wpAnyH_done (by kernel_rfl) ?_ _
                refine NoPanic.normal ?_
                clear hHeld
                go_wp2_with fail
                go_meet
                exact ⟨ga, gb, x7, x8, rfl, rfl, HFA, HFB, J6⟩
              exact AllReadyH.nil
            exact AllReadyH.nil
          exact AllReadyH.nil
        exact AllReadyH.nil
      refine AllReadyH.cons (o := { dst := some 8, op := Op.alloc 24, type := 0, pos := "law.go:36", after := #[], guard := none }) rfl (fun K hK => ?_) ?_
      · skip
        go_simp
        have hb : Below u1.heap.size u1 (u1.alloc (.cells #[.int .i64 0, .slice none 0 0] 24)) := (Below.refl _ _).alloc (Nat.le_refl _) _
        have J2 := Lib.hid (J1.out.on hb)
        have F2 := Lib.hid (F1.out.on hb)
        have Q2 := Lib.hid (MZer.new J1.out)
        clear hHeld hb J1 F1
        refine hK.out _ _ ⟨J2.out.blk.cell 0, J2.out.blk.cell 1, J2.out.blk.cell 2, J2.out.blk.cell 3⟩ (fun hHeld => ?_)
        clear hK K
        try simp only [Act.put, List.setIfInBounds_toArray, List.set_cons_zero, List.set_cons_succ]
        generalize u1.alloc (.cells #[.int .i64 0, .slice none 0 0] 24) = u2 at *
        generalize u1.heap.size = x8 at *
        refine wpAnyH_ready (rs := [5, 6]) (by kernel_rfl) (by simp) ?_
        refine AllReadyH.cons (o := { dst := some 27, op := Op.call { callee := Callee.value (Operand.func 10), args := #[Operand.tmp 26], argTypes := #[24] }, type := 24, pos := "law.go:36", after := #[{ on := 4, ground := Ground.data }, { on := 2, ground := Ground.chain }], guard := none }) rfl (fun K hK => ?_) ?_
        · skip
          go_simp
          refine (fair_any pb.z pb.A pb.n pb.c pb.es J2.out.q.2.2.2 J2.out.q.2.1 J2.out.q.2.2.1 _ J2.out.q.1).mono ?_
          rintro e u3 hx
          obtain ⟨gb, rfl, hz, he, okg, hb⟩ := gis_gv hx
          have J3 := Lib.hid (J2.out.on hb)
          have Q3 := Lib.hid (Q2.out.on hb)
          have F3 := Lib.hid (F2.out.on hb)
          have G3 := Lib.hid okg
          have HFB := Lib.hid (And.intro hz he)
          clear hHeld hx hz he okg hb J2 Q2 F2
          refine hK.out _ _ ⟨J3.out.blk.cell 0, J3.out.blk.cell 1, J3.out.blk.cell 2, J3.out.blk.cell 3⟩ (fun hHeld => ?_)
          clear hK K
          try simp only [Act.put, List.setIfInBounds_toArray, List.set_cons_zero, List.set_cons_succ]
          refine wpAnyH_ready (rs := [6]) (by kernel_rfl) (by simp) ?_
          refine AllReadyH.cons (o := { dst := some 7, op := Op.alloc 24, type := 0, pos := "law.go:36", after := #[], guard := none }) rfl (fun K hK => ?_) ?_
          · skip
            go_simp
            have hb : Below u3.heap.size u3 (u3.alloc (.cells #[.int .i64 0, .slice none 0 0] 24)) := (Below.refl _ _).alloc (Nat.le_refl _) _
            have J4 := Lib.hid (J3.out.on hb)
            have Q4 := Lib.hid (Q3.out.on hb)
            have F4 := Lib.hid (F3.out.on hb)
            have G4 := Lib.hid (G3.out.on hb)
            have P4 := Lib.hid (MZer.new J3.out)
            have HD : Hid (x8 ≠ u3.heap.size) := Nat.ne_of_lt Q3.out.1.1.lt
            clear hHeld hb J3 Q3 F3 G3
            refine hK.out _ _ ⟨J4.out.blk.cell 0, J4.out.blk.cell 1, J4.out.blk.cell 2, J4.out.blk.cell 3⟩ (fun hHeld => ?_)
            clear hK K
            try simp only [Act.put, List.setIfInBounds_toArray, List.set_cons_zero, List.set_cons_succ]
            generalize u3.alloc (.cells #[.int .i64 0, .slice none 0 0] 24) = u4 at *
            generalize u3.heap.size = x7 at *
            refine wpAnyH_ready (rs := [8]) (by kernel_rfl) (by simp) ?_
            refine AllReadyH.cons (o := { dst := none, op := Op.store 24 (Operand.tmp 7) (Operand.tmp 24), type := 0, pos := "law.go:36", after := #[{ on := 6, ground := Ground.data }, { on := 2, ground := Ground.data }, { on := 5, ground := Ground.chain }, { on := 0, ground := Ground.phase }, { on := 1, ground := Ground.phase }, { on := 2, ground := Ground.phase }, { on := 3, ground := Ground.textOnly Departure.lateStores }, { on := 4, ground := Ground.textOnly Departure.lateStores }, { on := 5, ground := Ground.textOnly Departure.lateStoresUnsure }, { on := 6, ground := Ground.phase }, { on := 7, ground := Ground.phase }], guard := none }) rfl (fun K hK => ?_) ?_
            · skip
              have y0 := P4.out.1.1.cell 0
              have y1 := P4.out.1.1.cell 1
              have f0 := P4.out.1.1.frozen 0
              have f1 := P4.out.1.1.frozen 1
              go_simp
              have J5 := Lib.hid (J4.out.put P4.out F4.out)
              have Q5 := Lib.hid (Q4.out.put HD.out.symm (.int .i64 ga.z) (.slice ga.A ga.n ga.c) ga)
              have G5 := Lib.hid (G4.out.put P4.out.1.1 (.int .i64 ga.z) (.slice ga.A ga.n ga.c))
              clear hHeld y0 y1 f0 f1 J4 P4 F4 Q4 G4
              refine hK.out _ _ ⟨J5.out.blk.cell 0, J5.out.blk.cell 1, J5.out.blk.cell 2, J5.out.blk.cell 3⟩ (fun hHeld => ?_)
              clear hK K
              try simp only [Act.put, List.setIfInBounds_toArray, List.set_cons_zero, List.set_cons_succ]
              generalize (u4.setCell ⟨x7, 0, none⟩ (.int .i64 ga.z)).setCell ⟨x7, 1, none⟩ (.slice ga.A ga.n ga.c) = u5 at *
              refine wpAnyH_ready (rs := [9]) (by kernel_rfl) (by simp) ?_
              refine AllReadyH.cons (o := { dst := none, op := Op.store 24 (Operand.tmp 8) (Operand.tmp 27), type := 0, pos := "law.go:36", after := #[{ on := 7, ground := Ground.data }, { on := 5, ground := Ground.data }, { on := 8, ground := Ground.chain }, { on := 0, ground := Ground.phase }, { on := 1, ground := Ground.phase }, { on := 2, ground := Ground.phase }, { on := 3, ground := Ground.phase }, { on := 4, ground := Ground.phase }, { on := 5, ground := Ground.phase }, { on := 6, ground := Ground.phase }, { on := 7, ground := Ground.phase }, { on := 8, ground := Ground.phase }], guard := none }) rfl (fun K hK => ?_) ?_
              · skip
                have y0 := Q5.out.1.1.cell 0
                have y1 := Q5.out.1.1.cell 1
                have f0 := Q5.out.1.1.frozen 0
                have f1 := Q5.out.1.1.frozen 1
                go_simp
                have J6 := Lib.hid (J5.out.put Q5.out G5.out)
                clear hHeld y0 y1 f0 f1 J5 Q5 G5
                refine hK.out _ _ ⟨J6.out.blk.cell 0, J6.out.blk.cell 1, J6.out.blk.cell 2, J6.out.blk.cell 3⟩ (fun hHeld => ?_)
                clear hK K
                try simp only [Act.put, List.setIfInBounds_toArray, List.set_cons_zero, List.set_cons_succ]
                generalize (u5.setCell ⟨x8, 0, none⟩ (.int .i64 gb.z)).setCell ⟨x8, 1, none⟩ (.slice gb.A gb.n gb.c) = u6 at *
                refine wpAnyH_done (by kernel_rfl) ?_ _
                refine NoPanic.normal ?_
                clear hHeld
                go_wp2_with fail
                go_meet
                exact ⟨ga, gb, x7, x8, rfl, rfl, HFA, HFB, J6⟩
              exact AllReadyH.nil
            exact AllReadyH.nil
          exact AllReadyH.nil
        refine AllReadyH.cons (o := { dst := some 7, op := Op.alloc 24, type := 0, pos := "law.go:36", after := #[], guard := none }) rfl (fun K hK => ?_) ?_
        · skip
          go_simp
          have hb : Below u2.heap.size u2 (u2.alloc (.cells #[.int .i64 0, .slice none 0 0] 24)) := (Below.refl _ _).alloc (Nat.le_refl _) _
          have J3 := Lib.hid (J2.out.on hb)
          have Q3 := Lib.hid (Q2.out.on hb)
          have F3 := Lib.hid (F2.out.on hb)
          have P3 := Lib.hid (MZer.new J2.out)
          have HD : Hid (x8 ≠ u2.heap.size) := Nat.ne_of_lt Q2.out.1.1.lt
          clear hHeld hb J2 Q2 F2
          refine hK.out _ _ ⟨J3.out.blk.cell 0, J3.out.blk.cell 1, J3.out.blk.cell 2, J3.out.blk.cell 3⟩ (fun hHeld => ?_)
          clear hK K
          try simp only [Act.put, List.setIfInBounds_toArray, List.set_cons_zero, List.set_cons_succ]
          generalize u2.alloc (.cells #[.int .i64 0, .slice none 0 0] 24) = u3 at *
          generalize u2.heap.size = x7 at *
          refine wpAnyH_ready (rs := [5]) (by kernel_rfl) (by simp) ?_
          refine AllReadyH.cons (o := { dst := some 27, op := Op.call { callee := Callee.value (Operand.func 10), args := #[Operand.tmp 26], argTypes := #[24] }, type := 24, pos := "law.go:36", after := #[{ on := 4, ground := Ground.data }, { on := 2, ground := Ground.chain }], guard := none }) rfl (fun K hK => ?_) ?_
          · skip
            go_simp
            refine (fair_any pb.z pb.A pb.n pb.c pb.es J3.out.q.2.2.2 J3.out.q.2.1 J3.out.q.2.2.1 _ J3.out.q.1).mono ?_
            rintro e u4 hx
            obtain ⟨gb, rfl, hz, he, okg, hb⟩ := gis_gv hx
            have J4 := Lib.hid (J3.out.on hb)
            have P4 := Lib.hid (P3.out.on hb)
            have Q4 := Lib.hid (Q3.out.on hb)
            have F4 := Lib.hid (F3.out.on hb)
            have G4 := Lib.hid okg
            have HFB := Lib.hid (And.intro hz he)
            clear hHeld hx hz he okg hb J3 P3 Q3 F3
            refine hK.out _ _ ⟨J4.out.blk.cell 0, J4.out.blk.cell 1, J4.out.blk.cell 2, J4.out.blk.cell 3⟩ (fun hHeld => ?_)
            clear hK K
            try simp only [Act.put, List.setIfInBounds_toArray, List.set_cons_zero, List.set_cons_succ]
            refine wpAnyH_ready (rs := [8]) (by kernel_rfl) (by simp) ?_
            refine AllReadyH.cons (o := { dst := none, op := Op.store 24 (Operand.tmp 7) (Operand.tmp 24), type := 0, pos := "law.go:36", after := #[{ on := 6, ground := Ground.data }, { on := 2, ground := Ground.data }, { on := 5, ground := Ground.chain }, { on := 0, ground := Ground.phase }, { on := 1, ground := Ground.phase }, { on := 2, ground := Ground.phase }, { on := 3, ground := Ground.textOnly Departure.lateStores }, { on := 4, ground := Ground.textOnly Departure.lateStores }, { on := 5, ground := Ground.textOnly Departure.lateStoresUnsure }, { on := 6, ground := Ground.phase }, { on := 7, ground := Ground.phase }], guard := none }) rfl (fun K hK => ?_) ?_
            · skip
              have y0 := P4.out.1.1.cell 0
              have y1 := P4.out.1.1.cell 1
              have f0 := P4.out.1.1.frozen 0
              have f1 := P4.out.1.1.frozen 1
              go_simp
              have J5 := Lib.hid (J4.out.put P4.out F4.out)
              have Q5 := Lib.hid (Q4.out.put HD.out.symm (.int .i64 ga.z) (.slice ga.A ga.n ga.c) ga)
              have G5 := Lib.hid (G4.out.put P4.out.1.1 (.int .i64 ga.z) (.slice ga.A ga.n ga.c))
              clear hHeld y0 y1 f0 f1 J4 P4 F4 Q4 G4
              refine hK.out _ _ ⟨J5.out.blk.cell 0, J5.out.blk.cell 1, J5.out.blk.cell 2, J5.out.blk.cell 3⟩ (fun hHeld => ?_)
              clear hK K
              try simp only [Act.put, List.setIfInBounds_toArray, List.set_cons_zero, List.set_cons_succ]
              generalize (u4.setCell ⟨x7, 0, none⟩ (.int .i64 ga.z)).setCell ⟨x7, 1, none⟩ (.slice ga.A ga.n ga.c) = u5 at *
              refine wpAnyH_ready (rs := [9]) (by kernel_rfl) (by simp) ?_
              refine AllReadyH.cons (o := { dst := none, op := Op.store 24 (Operand.tmp 8) (Operand.tmp 27), type := 0, pos := "law.go:36", after := #[{ on := 7, ground := Ground.data }, { on := 5, ground := Ground.data }, { on := 8, ground := Ground.chain }, { on := 0, ground := Ground.phase }, { on := 1, ground := Ground.phase }, { on := 2, ground := Ground.phase }, { on := 3, ground := Ground.phase }, { on := 4, ground := Ground.phase }, { on := 5, ground := Ground.phase }, { on := 6, ground := Ground.phase }, { on := 7, ground := Ground.phase }, { on := 8, ground := Ground.phase }], guard := none }) rfl (fun K hK => ?_) ?_
              · skip
                have y0 := Q5.out.1.1.cell 0
                have y1 := Q5.out.1.1.cell 1
                have f0 := Q5.out.1.1.frozen 0
                have f1 := Q5.out.1.1.frozen 1
                go_simp
                have J6 := Lib.hid (J5.out.put Q5.out G5.out)
                clear hHeld y0 y1 f0 f1 J5 Q5 G5
                refine hK.out _ _ ⟨J6.out.blk.cell 0, J6.out.blk.cell 1, J6.out.blk.cell 2, J6.out.blk.cell 3⟩ (fun hHeld => ?_)
                clear hK K
                try simp only [Act.put, List.setIfInBounds_toArray, List.set_cons_zero, List.set_cons_succ]
                generalize (u5.setCell ⟨x8, 0, none⟩ (.int .i64 gb.z)).setCell ⟨x8, 1, none⟩ (.slice gb.A gb.n gb.c) = u6 at *
                refine wpAnyH_done (by kernel_rfl) ?_ _
                refine NoPanic.normal ?_
                clear hHeld
                go_wp2_with fail
                go_meet
                exact ⟨ga, gb, x7, x8, rfl, rfl, HFA, HFB, J6⟩
              exact AllReadyH.nil
            exact AllReadyH.nil
          exact AllReadyH.nil
        exact AllReadyH.nil
      exact AllReadyH.nil
    refine AllReadyH.cons (o := { dst := some 7, op := Op.alloc 24, type := 0, pos := "law.go:36", after := #[], guard := none }) rfl (fun K hK => ?_) ?_
    · skip
      go_simp
      have hb : Below wd.heap.size wd (wd.alloc (.cells #[.int .i64 0, .slice none 0 0] 24)) := (Below.refl _ _).alloc (Nat.le_refl _) _
      have J1 := Lib.hid (J0.out.on hb)
      have P1 := Lib.hid (MZer.new J0.out)
      clear hHeld hb J0
      refine hK.out _ _ ⟨J1.out.blk.cell 0, J1.out.blk.cell 1, J1.out.blk.cell 2, J1.out.blk.cell 3⟩ (fun hHeld => ?_)
      clear hK K
      try simp only [Act.put, List.setIfInBounds_toArray, List.set_cons_zero, List.set_cons_succ]
      generalize wd.alloc (.cells #[.int .i64 0, .slice none 0 0] 24) = u1 at *
      generalize wd.heap.size = x7 at *
      refine wpAnyH_ready (rs := [2, 7]) (by kernel_rfl) (by simp) ?_
      refine AllReadyH.cons (o := { dst := some 24, op := Op.call { callee := Callee.value (Operand.func 10), args := #[Operand.tmp 23], argTypes := #[24] }, type := 24, pos := "law.go:36", after := #[{ on := 1, ground := Ground.data }], guard := none }) rfl (fun K hK => ?_) ?_
      · skip
        go_simp
        refine (fair_any pa.z pa.A pa.n pa.c pa.es J1.out.p.2.2.2 J1.out.p.2.1 J1.out.p.2.2.1 _ J1.out.p.1).mono ?_
        rintro e u2 hx
        obtain ⟨ga, rfl, hz, he, okg, hb⟩ := gis_gv hx
        have J2 := Lib.hid (J1.out.on hb)
        have P2 := Lib.hid (P1.out.on hb)
        have F2 := Lib.hid okg
        have HFA := Lib.hid (And.intro hz he)
        clear hHeld hx hz he okg hb J1 P1
        refine hK.out _ _ ⟨J2.out.blk.cell 0, J2.out.blk.cell 1, J2.out.blk.cell 2, J2.out.blk.cell 3⟩ (fun hHeld => ?_)
        clear hK K
        try simp only [Act.put, List.setIfInBounds_toArray, List.set_cons_zero, List.set_cons_succ]
        refine wpAnyH_ready (rs := [5, 7]) (by kernel_rfl) (by simp) ?_
        refine AllReadyH.cons (o := { dst := some 27, op := Op.call { callee := Callee.value (Operand.func 10), args := #[Operand.tmp 26], argTypes := #[24] }, type := 24, pos := "law.go:36", after := #[{ on := 4, ground := Ground.data }, { on := 2, ground := Ground.chain }], guard := none }) rfl (fun K hK => ?_) ?_
        · skip
          go_simp
          refine (fair_any pb.z pb.A pb.n pb.c pb.es J2.out.q.2.2.2 J2.out.q.2.1 J2.out.q.2.2.1 _ J2.out.q.1).mono ?_
          rintro e u3 hx
          obtain ⟨gb, rfl, hz, he, okg, hb⟩ := gis_gv hx
          have J3 := Lib.hid (J2.out.on hb)
          have P3 := Lib.hid (P2.out.on hb)
          have F3 := Lib.hid (F2.out.on hb)
          have G3 := Lib.hid okg
          have HFB := Lib.hid (And.intro hz he)
          clear hHeld hx hz he okg hb J2 P2 F2
          refine hK.out _ _ ⟨J3.out.blk.cell 0, J3.out.blk.cell 1, J3.out.blk.cell 2, J3.out.blk.cell 3⟩ (fun hHeld => ?_)
          clear hK K
          try simp only [Act.put, List.setIfInBounds_toArray, List.set_cons_zero, List.set_cons_succ]
          refine wpAnyH_ready (rs := [7]) (by kernel_rfl) (by simp) ?_
          refine AllReadyH.cons (o := { dst := some 8, op := Op.alloc 24, type := 0, pos := "law.go:36", after := #[], guard := none }) rfl (fun K hK => ?_) ?_
          · skip
            go_simp
            have hb : Below u3.heap.size u3 (u3.alloc (.cells #[.int .i64 0, .slice none 0 0] 24)) := (Below.refl _ _).alloc (Nat.le_refl _) _
            have J4 := Lib.hid (J3.out.on hb)
            have P4 := Lib.hid (P3.out.on hb)
            have F4 := Lib.hid (F3.out.on hb)
            have G4 := Lib.hid (G3.out.on hb)
            have Q4 := Lib.hid (MZer.new J3.out)
            have HD : Hid (x7 ≠ u3.heap.size) := Nat.ne_of_lt P3.out.1.1.lt
            clear hHeld hb J3 P3 F3 G3
            refine hK.out _ _ ⟨J4.out.blk.cell 0, J4.out.blk.cell 1, J4.out.blk.cell 2, J4.out.blk.cell 3⟩ (fun hHeld => ?_)
            clear hK K
            try simp only [Act.put, List.setIfInBounds_toArray, List.set_cons_zero, List.set_cons_succ]
            generalize u3.alloc (.cells #[.int .i64 0, .slice none 0 0] 24) = u4 at *
            generalize u3.heap.size = x8 at *
            refine wpAnyH_ready (rs := [8]) (by kernel_rfl) (by simp) ?_
            refine AllReadyH.cons (o := { dst := none, op := Op.store 24 (Operand.tmp 7) (Operand.tmp 24), type := 0, pos := "law.go:36", after := #[{ on := 6, ground := Ground.data }, { on := 2, ground := Ground.data }, { on := 5, ground := Ground.chain }, { on := 0, ground := Ground.phase }, { on := 1, ground := Ground.phase }, { on := 2, ground := Ground.phase }, { on := 3, ground := Ground.textOnly Departure.lateStores }, { on := 4, ground := Ground.textOnly Departure.lateStores }, { on := 5, ground := Ground.textOnly Departure.lateStoresUnsure }, { on := 6, ground := Ground.phase }, { on := 7, ground := Ground.phase }], guard := none }) rfl (fun K hK => ?_) ?_
            · skip
              have y0 := P4.out.1.1.cell 0
              have y1 := P4.out.1.1.cell 1
              have f0 := P4.out.1.1.frozen 0
              have f1 := P4.out.1.1.frozen 1
              go_simp
              have J5 := Lib.hid (J4.out.put P4.out F4.out)
              have Q5 := Lib.hid (Q4.out.put HD.out (.int .i64 ga.z) (.slice ga.A ga.n ga.c) ga)
              have G5 := Lib.hid (G4.out.put P4.out.1.1 (.int .i64 ga.z) (.slice ga.A ga.n ga.c))
              clear hHeld y0 y1 f0 f1 J4 P4 F4 Q4 G4
              refine hK.out _ _ ⟨J5.out.blk.cell 0, J5.out.blk.cell 1, J5.out.blk.cell 2, J5.out.blk.cell 3⟩ (fun hHeld => ?_)
              clear hK K
              try simp only [Act.put, List.setIfInBounds_toArray, List.set_cons_zero, List.set_cons_succ]
              generalize (u4.setCell ⟨x7, 0, none⟩ (.int .i64 ga.z)).setCell ⟨x7, 1, none⟩ (.slice ga.A ga.n ga.c) = u5 at *
              refine wpAnyH_ready (rs := [9]) (by kernel_rfl) (by simp) ?_
              refine AllReadyH.cons (o := { dst := none, op := Op.store 24 (Operand.tmp 8) (Operand.tmp 27), type := 0, pos := "law.go:36", after := #[{ on := 7, ground := Ground.data }, { on := 5, ground := Ground.data }, { on := 8, ground := Ground.chain }, { on := 0, ground := Ground.phase }, { on := 1, ground := Ground.phase }, { on := 2, ground := Ground.phase }, { on := 3, ground := Ground.phase }, { on := 4, ground := Ground.phase }, { on := 5, ground := Ground.phase }, { on := 6, ground := Ground.phase }, { on := 7, ground := Ground.phase }, { on := 8, ground := Ground.phase }], guard := none }) rfl (fun K hK => ?_) ?_
              · skip
                have y0 := Q5.out.1.1.cell 0
                have y1 := Q5.out.1.1.cell 1
                have f0 := Q5.out.1.1.frozen 0
                have f1 := Q5.out.1.1.frozen 1
                go_simp
                have J6 := Lib.hid (J5.out.put Q5.out G5.out)
                clear hHeld y0 y1 f0 f1 J5 Q5 G5
                refine hK.out _ _ ⟨J6.out.blk.cell 0, J6.out.blk.cell 1, J6.out.blk.cell 2, J6.out.blk.cell 3⟩ (fun hHeld => ?_)
                clear hK K
                try simp only [Act.put, List.setIfInBounds_toArray, List.set_cons_zero, List.set_cons_succ]
                generalize (u5.setCell ⟨x8, 0, none⟩ (.int .i64 gb.z)).setCell ⟨x8, 1, none⟩ (.slice gb.A gb.n gb.c) = u6 at *
                refine wpAnyH_done (by kernel_rfl) ?_ _
                refine NoPanic.normal ?_
                clear hHeld
                go_wp2_with fail
                go_meet
                exact ⟨ga, gb, x7, x8, rfl, rfl, HFA, HFB, J6⟩
              exact AllReadyH.nil
            exact AllReadyH.nil
          exact AllReadyH.nil
        refine AllReadyH.cons (o := { dst := some 8, op := Op.alloc 24, type := 0, pos := "law.go:36", after := #[], guard := none }) rfl (fun K hK => ?_) ?_
        · skip
          go_simp
          have hb : Below u2.heap.size u2 (u2.alloc (.cells #[.int .i64 0, .slice none 0 0] 24)) := (Below.refl _ _).alloc (Nat.le_refl _) _
          have J3 := Lib.hid (J2.out.on hb)
          have P3 := Lib.hid (P2.out.on hb)
          have F3 := Lib.hid (F2.out.on hb)
          have Q3 := Lib.hid (MZer.new J2.out)
          have HD : Hid (x7 ≠ u2.heap.size) := Nat.ne_of_lt P2.out.1.1.lt
          clear hHeld hb J2 P2 F2
          refine hK.out _ _ ⟨J3.out.blk.cell 0, J3.out.blk.cell 1, J3.out.blk.cell 2, J3.out.blk.cell 3⟩ (fun hHeld => ?_)
          clear hK K
          try simp only [Act.put, List.setIfInBounds_toArray, List.set_cons_zero, List.set_cons_succ]
          generalize u2.alloc (.cells #[.int .i64 0, .slice none 0 0] 24) = u3 at *
          generalize u2.heap.size = x8 at *
          refine wpAnyH_ready (rs := [5]) (by kernel_rfl) (by simp) ?_
          refine AllReadyH.cons (o := { dst := some 27, op := Op.call { callee := Callee.value (Operand.func 10), args := #[Operand.tmp 26], argTypes := #[24] }, type := 24, pos := "law.go:36", after := #[{ on := 4, ground := Ground.data }, { on := 2, ground := Ground.chain }], guard := none }) rfl (fun K hK => ?_) ?_
          · skip
            go_simp
            refine (fair_any pb.z pb.A pb.n pb.c pb.es J3.out.q.2.2.2 J3.out.q.2.1 J3.out.q.2.2.1 _ J3.out.q.1).mono ?_
            rintro e u4 hx
            obtain ⟨gb, rfl, hz, he, okg, hb⟩ := gis_gv hx
            have J4 := Lib.hid (J3.out.on hb)
            have P4 := Lib.hid (P3.out.on hb)
            have Q4 := Lib.hid (Q3.out.on hb)
            have F4 := Lib.hid (F3.out.on hb)
            have G4 := Lib.hid okg
            have HFB := Lib.hid (And.intro hz he)
            clear hHeld hx hz he okg hb J3 P3 Q3 F3
            refine hK.out _ _ ⟨J4.out.blk.cell 0, J4.out.blk.cell 1, J4.out.blk.cell 2, J4.out.blk.cell 3⟩ (fun hHeld => ?_)
            clear hK K
            try simp only [Act.put, List.setIfInBounds_toArray, List.set_cons_zero, List.set_cons_succ]
            refine wpAnyH_ready (rs := [8]) (by kernel_rfl) (by simp) ?_
            refine AllReadyH.cons (o := { dst := none, op := Op.store 24 (Operand.tmp 7) (Operand.tmp 24), type := 0, pos := "law.go:36", after := #[{ on := 6, ground := Ground.data }, { on := 2, ground := Ground.data }, { on := 5, ground := Ground.chain }, { on := 0, ground := Ground.phase }, { on := 1, ground := Ground.phase }, { on := 2, ground := Ground.phase }, { on := 3, ground := Ground.textOnly Departure.lateStores }, { on := 4, ground := Ground.textOnly Departure.lateStores }, { on := 5, ground := Ground.textOnly Departure.lateStoresUnsure }, { on := 6, ground := Ground.phase }, { on := 7, ground := Ground.phase }], guard := none }) rfl (fun K hK => ?_) ?_
            · skip
              have y0 := P4.out.1.1.cell 0
              have y1 := P4.out.1.1.cell 1
              have f0 := P4.out.1.1.frozen 0
              have f1 := P4.out.1.1.frozen 1
              go_simp
              have J5 := Lib.hid (J4.out.put P4.out F4.out)
              have Q5 := Lib.hid (Q4.out.put HD.out (.int .i64 ga.z) (.slice ga.A ga.n ga.c) ga)
              have G5 := Lib.hid (G4.out.put P4.out.1.1 (.int .i64 ga.z) (.slice ga.A ga.n ga.c))
              clear hHeld y0 y1 f0 f1 J4 P4 F4 Q4 G4
              refine hK.out _ _ ⟨J5.out.blk.cell 0, J5.out.blk.cell 1, J5.out.blk.cell 2, J5.out.blk.cell 3⟩ (fun hHeld => ?_)
              clear hK K
              try simp only [Act.put, List.setIfInBounds_toArray, List.set_cons_zero, List.set_cons_succ]
              generalize (u4.setCell ⟨x7, 0, none⟩ (.int .i64 ga.z)).setCell ⟨x7, 1, none⟩ (.slice ga.A ga.n ga.c) = u5 at *
              refine wpAnyH_ready (rs := [9]) (by kernel_rfl) (by simp) ?_
              refine AllReadyH.cons (o := { dst := none, op := Op.store 24 (Operand.tmp 8) (Operand.tmp 27), type := 0, pos := "law.go:36", after := #[{ on := 7, ground := Ground.data }, { on := 5, ground := Ground.data }, { on := 8, ground := Ground.chain }, { on := 0, ground := Ground.phase }, { on := 1, ground := Ground.phase }, { on := 2, ground := Ground.phase }, { on := 3, ground := Ground.phase }, { on := 4, ground := Ground.phase }, { on := 5, ground := Ground.phase }, { on := 6, ground := Ground.phase }, { on := 7, ground := Ground.phase }, { on := 8, ground := Ground.phase }], guard := none }) rfl (fun K hK => ?_) ?_
              · skip
                have y0 := Q5.out.1.1.cell 0
                have y1 := Q5.out.1.1.cell 1
                have f0 := Q5.out.1.1.frozen 0
                have f1 := Q5.out.1.1.frozen 1
                go_simp
                have J6 := Lib.hid (J5.out.put Q5.out G5.out)
                clear hHeld y0 y1 f0 f1 J5 Q5 G5
                refine hK.out _ _ ⟨J6.out.blk.cell 0, J6.out.blk.cell 1, J6.out.blk.cell 2, J6.out.blk.cell 3⟩ (fun hHeld => ?_)
                clear hK K
                try simp only [Act.put, List.setIfInBounds_toArray, List.set_cons_zero, List.set_cons_succ]
                generalize (u5.setCell ⟨x8, 0, none⟩ (.int .i64 gb.z)).setCell ⟨x8, 1, none⟩ (.slice gb.A gb.n gb.c) = u6 at *
                refine wpAnyH_done (by kernel_rfl) ?_ _
                refine NoPanic.normal ?_
                clear hHeld
                go_wp2_with fail
                go_meet
                exact ⟨ga, gb, x7, x8, rfl, rfl, HFA, HFB, J6⟩
              exact AllReadyH.nil
            exact AllReadyH.nil
          exact AllReadyH.nil
        exact AllReadyH.nil
      refine AllReadyH.cons (o := { dst := some 8, op := Op.alloc 24, type := 0, pos := "law.go:36", after := #[], guard := none }) rfl (fun K hK => ?_) ?_
      · skip
        go_simp
        have hb : Below u1.heap.size u1 (u1.alloc (.cells #[.int .i64 0, .slice none 0 0] 24)) := (Below.refl _ _).alloc (Nat.le_refl _) _
        have J2 := Lib.hid (J1.out.on hb)
        have P2 := Lib.hid (P1.out.on hb)
        have Q2 := Lib.hid (MZer.new J1.out)
        have HD : Hid (x7 ≠ u1.heap.size) := Nat.ne_of_lt P1.out.1.1.lt
        clear hHeld hb J1 P1
        refine hK.out _ _ ⟨J2.out.blk.cell 0, J2.out.blk.cell 1, J2.out.blk.cell 2, J2.out.blk.cell 3⟩ (fun hHeld => ?_)
        clear hK K
        try simp only [Act.put, List.setIfInBounds_toArray, List.set_cons_zero, List.set_cons_succ]
        generalize u1.alloc (.cells #[.int .i64 0, .slice none 0 0] 24) = u2 at *
        generalize u1.heap.size = x8 at *
        refine wpAnyH_ready (rs := [2]) (by kernel_rfl) (by simp) ?_
        refine AllReadyH.cons (o := { dst := some 24, op := Op.call { callee := Callee.value (Operand.func 10), args := #[Operand.tmp 23], argTypes := #[24] }, type := 24, pos := "law.go:36", after := #[{ on := 1, ground := Ground.data }], guard := none }) rfl (fun K hK => ?_) ?_
        · skip
          go_simp
          refine (fair_any pa.z pa.A pa.n pa.c pa.es J2.out.p.2.2.2 J2.out.p.2.1 J2.out.p.2.2.1 _ J2.out.p.1).mono ?_
          rintro e u3 hx
          obtain ⟨ga, rfl, hz, he, okg, hb⟩ := gis_gv hx
          have J3 := Lib.hid (J2.out.on hb)
          have P3 := Lib.hid (P2.out.on hb)
          have Q3 := Lib.hid (Q2.out.on hb)
          have F3 := Lib.hid okg
          have HFA := Lib.hid (And.intro hz he)
          clear hHeld hx hz he okg hb J2 P2 Q2
          refine hK.out _ _ ⟨J3.out.blk.cell 0, J3.out.blk.cell 1, J3.out.blk.cell 2, J3.out.blk.cell 3⟩ (fun hHeld => ?_)
          clear hK K
          try simp only [Act.put, List.setIfInBounds_toArray, List.set_cons_zero, List.set_cons_succ]
          refine wpAnyH_ready (rs := [5]) (by kernel_rfl) (by simp) ?_
          refine AllReadyH.cons (o := { dst := some 27, op := Op.call { callee := Callee.value (Operand.func 10), args := #[Operand.tmp 26], argTypes := #[24] }, type := 24, pos := "law.go:36", after := #[{ on := 4, ground := Ground.data }, { on := 2, ground := Ground.chain }], guard := none }) rfl (fun K hK => ?_) ?_
          · skip
            go_simp
            refine (fair_any pb.z pb.A pb.n pb.c pb.es J3.out.q.2.2.2 J3.out.q.2.1 J3.out.q.2.2.1 _ J3.out.q.1).mono ?_
            rintro e u4 hx
            obtain ⟨gb, rfl, hz, he, okg, hb⟩ := gis_gv hx
            have J4 := Lib.hid (J3.out.on hb)
            have P4 := Lib.hid (P3.out.on hb)
            have Q4 := Lib.hid (Q3.out.on hb)
            have F4 := Lib.hid (F3.out.on hb)
            have G4 := Lib.hid okg
            have HFB := Lib.hid (And.intro hz he)
            clear hHeld hx hz he okg hb J3 P3 Q3 F3
            refine hK.out _ _ ⟨J4.out.blk.cell 0, J4.out.blk.cell 1, J4.out.blk.cell 2, J4.out.blk.cell 3⟩ (fun hHeld => ?_)
            clear hK K
            try simp only [Act.put, List.setIfInBounds_toArray, List.set_cons_zero, List.set_cons_succ]
            refine wpAnyH_ready (rs := [8]) (by kernel_rfl) (by simp) ?_
            refine AllReadyH.cons (o := { dst := none, op := Op.store 24 (Operand.tmp 7) (Operand.tmp 24), type := 0, pos := "law.go:36", after := #[{ on := 6, ground := Ground.data }, { on := 2, ground := Ground.data }, { on := 5, ground := Ground.chain }, { on := 0, ground := Ground.phase }, { on := 1, ground := Ground.phase }, { on := 2, ground := Ground.phase }, { on := 3, ground := Ground.textOnly Departure.lateStores }, { on := 4, ground := Ground.textOnly Departure.lateStores }, { on := 5, ground := Ground.textOnly Departure.lateStoresUnsure }, { on := 6, ground := Ground.phase }, { on := 7, ground := Ground.phase }], guard := none }) rfl (fun K hK => ?_) ?_
            · skip
              have y0 := P4.out.1.1.cell 0
              have y1 := P4.out.1.1.cell 1
              have f0 := P4.out.1.1.frozen 0
              have f1 := P4.out.1.1.frozen 1
              go_simp
              have J5 := Lib.hid (J4.out.put P4.out F4.out)
              have Q5 := Lib.hid (Q4.out.put HD.out (.int .i64 ga.z) (.slice ga.A ga.n ga.c) ga)
              have G5 := Lib.hid (G4.out.put P4.out.1.1 (.int .i64 ga.z) (.slice ga.A ga.n ga.c))
              clear hHeld y0 y1 f0 f1 J4 P4 F4 Q4 G4
              refine hK.out _ _ ⟨J5.out.blk.cell 0, J5.out.blk.cell 1, J5.out.blk.cell 2, J5.out.blk.cell 3⟩ (fun hHeld => ?_)
              clear hK K
              try simp only [Act.put, List.setIfInBounds_toArray, List.set_cons_zero, List.set_cons_succ]
              generalize (u4.setCell ⟨x7, 0, none⟩ (.int .i64 ga.z)).setCell ⟨x7, 1, none⟩ (.slice ga.A ga.n ga.c) = u5 at *
              refine wpAnyH_ready (rs := [9]) (by kernel_rfl) (by simp) ?_
              refine AllReadyH.cons (o := { dst := none, op := Op.store 24 (Operand.tmp 8) (Operand.tmp 27), type := 0, pos := "law.go:36", after := #[{ on := 7, ground := Ground.data }, { on := 5, ground := Ground.data }, { on := 8, ground := Ground.chain }, { on := 0, ground := Ground.phase }, { on := 1, ground := Ground.phase }, { on := 2, ground := Ground.phase }, { on := 3, ground := Ground.phase }, { on := 4, ground := Ground.phase }, { on := 5, ground := Ground.phase }, { on := 6, ground := Ground.phase }, { on := 7, ground := Ground.phase }, { on := 8, ground := Ground.phase }], guard := none }) rfl (fun K hK => ?_) ?_
              · skip
                have y0 := Q5.out.1.1.cell 0
                have y1 := Q5.out.1.1.cell 1
                have f0 := Q5.out.1.1.frozen 0
                have f1 := Q5.out.1.1.frozen 1
                go_simp
                have J6 := Lib.hid (J5.out.put Q5.out G5.out)
                clear hHeld y0 y1 f0 f1 J5 Q5 G5
                refine hK.out _ _ ⟨J6.out.blk.cell 0, J6.out.blk.cell 1, J6.out.blk.cell 2, J6.out.blk.cell 3⟩ (fun hHeld => ?_)
                clear hK K
                try simp only [Act.put, List.setIfInBounds_toArray, List.set_cons_zero, List.set_cons_succ]
                generalize (u5.setCell ⟨x8, 0, none⟩ (.int .i64 gb.z)).setCell ⟨x8, 1, none⟩ (.slice gb.A gb.n gb.c) = u6 at *
                refine wpAnyH_done (by kernel_rfl) ?_ _
                refine NoPanic.normal ?_
                clear hHeld
                go_wp2_with fail
                go_meet
                exact ⟨ga, gb, x7, x8, rfl, rfl, HFA, HFB, J6⟩
              exact AllReadyH.nil
            exact AllReadyH.nil
          exact AllReadyH.nil
        exact AllReadyH.nil
      exact AllReadyH.nil
    refine AllReadyH.cons (o := { dst := some 8, op := Op.alloc 24, type := 0, pos := "law.go:36", after := #[], guard := none }) rfl (fun K hK => ?_) ?_
    · skip
      go_simp
      have hb : Below wd.heap.size wd (wd.alloc (.cells #[.int .i64 0, .slice none 0 0] 24)) := (Below.refl _ _).alloc (Nat.le_refl _) _
      have J1 := Lib.hid (J0.out.on hb)
      have Q1 := Lib.hid (MZer.new J0.out)
      clear hHeld hb J0
      refine hK.out _ _ ⟨J1.out.blk.cell 0, J1.out.blk.cell 1, J1.out.blk.cell 2, J1.out.blk.cell 3⟩ (fun hHeld => ?_)
      clear hK K
      try simp only [Act.put, List.setIfInBounds_toArray, List.set_cons_zero, List.set_cons_succ]
      generalize wd.alloc (.cells #[.int .i64 0, .slice none 0 0] 24) = u1 at *
      generalize wd.heap.size = x8 at *
      refine wpAnyH_ready (rs := [2, 6]) (by kernel_rfl) (by simp) ?_
      refine AllReadyH.cons (o := { dst := some 24, op := Op.call { callee := Callee.value (Operand.func 10), args := #[Operand.tmp 23], argTypes := #[24] }, type := 24, pos := "law.go:36", after := #[{ on := 1, ground := Ground.data }], guard := none }) rfl (fun K hK => ?_) ?_
      · skip
        go_simp
        refine (fair_any pa.z pa.A pa.n pa.c pa.es J1.out.p.2.2.2 J1.out.p.2.1 J1.out.p.2.2.1 _ J1.out.p.1).mono ?_
        rintro e u2 hx
        obtain ⟨ga, rfl, hz, he, okg, hb⟩ := gis_gv hx
        have J2 := Lib.hid (J1.out.on hb)
        have Q2 := Lib.hid (Q1.out.on hb)
        have F2 := Lib.hid okg
        have HFA := Lib.hid (And.intro hz he)
        clear hHeld hx hz he okg hb J1 Q1
        refine hK.out _ _ ⟨J2.out.blk.cell 0, J2.out.blk.cell 1, J2.out.blk.cell 2, J2.out.blk.cell 3⟩ (fun hHeld => ?_)
        clear hK K
        try simp only [Act.put, List.setIfInBounds_toArray, List.set_cons_zero, List.set_cons_succ]
        refine wpAnyH_ready (rs := [5, 6]) (by kernel_rfl) (by simp) ?_
        refine AllReadyH.cons (o := { dst := some 27, op := Op.call { callee := Callee.value (Operand.func 10), args := #[Operand.tmp 26], argTypes := #[24] }, type := 24, pos := "law.go:36", after := #[{ on := 4, ground := Ground.data }, { on := 2, ground := Ground.chain }], guard := none }) rfl (fun K hK => ?_) ?_
        · skip
          go_simp
          refine (fair_any pb.z pb.A pb.n pb.c pb.es J2.out.q.2.2.2 J2.out.q.2.1 J2.out.q.2.2.1 _ J2.out.q.1).mono ?_
          rintro e u3 hx
          obtain ⟨gb, rfl, hz, he, okg, hb⟩ := gis_gv hx
          have J3 := Lib.hid (J2.out.on hb)
          have Q3 := Lib.hid (Q2.out.on hb)
          have F3 := Lib.hid (F2.out.on hb)
          have G3 := Lib.hid okg
          have HFB := Lib.hid (And.intro hz he)
          clear hHeld hx hz he okg hb J2 Q2 F2
          refine hK.out _ _ ⟨J3.out.blk.cell 0, J3.out.blk.cell 1, J3.out.blk.cell 2, J3.out.blk.cell 3⟩ (fun hHeld => ?_)
          clear hK K
          try simp only [Act.put, List.setIfInBounds_toArray, List.set_cons_zero, List.set_cons_succ]
          refine wpAnyH_ready (rs := [6]) (by kernel_rfl) (by simp) ?_
          refine AllReadyH.cons (o := { dst := some 7, op := Op.alloc 24, type := 0, pos := "law.go:36", after := #[], guard := none }) rfl (fun K hK => ?_) ?_
          · skip
            go_simp
            have hb : Below u3.heap.size u3 (u3.alloc (.cells #[.int .i64 0, .slice none 0 0] 24)) := (Below.refl _ _).alloc (Nat.le_refl _) _
            have J4 := Lib.hid (J3.out.on hb)
            have Q4 := Lib.hid (Q3.out.on hb)
            have F4 := Lib.hid (F3.out.on hb)
            have G4 := Lib.hid (G3.out.on hb)
            have P4 := Lib.hid (MZer.new J3.out)
            have HD : Hid (x8 ≠ u3.heap.size) := Nat.ne_of_lt Q3.out.1.1.lt
            clear hHeld hb J3 Q3 F3 G3
            refine hK.out _ _ ⟨J4.out.blk.cell 0, J4.out.blk.cell 1, J4.out.blk.cell 2, J4.out.blk.cell 3⟩ (fun hHeld => ?_)
            clear hK K
            try simp only [Act.put, List.setIfInBounds_toArray, List.set_cons_zero, List.set_cons_succ]
            generalize u3.alloc (.cells #[.int .i64 0, .slice none 0 0] 24) = u4 at *
            generalize u3.heap.size = x7 at *
            refine wpAnyH_ready (rs := [8]) (by kernel_rfl) (by simp) ?_
            refine AllReadyH.cons (o := { dst := none, op := Op.store 24 (Operand.tmp 7) (Operand.tmp 24), type := 0, pos := "law.go:36", after := #[{ on := 6, ground := Ground.data }, { on := 2, ground := Ground.data }, { on := 5, ground := Ground.chain }, { on := 0, ground := Ground.phase }, { on := 1, ground := Ground.phase }, { on := 2, ground := Ground.phase }, { on := 3, ground := Ground.textOnly Departure.lateStores }, { on := 4, ground := Ground.textOnly Departure.lateStores }, { on := 5, ground := Ground.textOnly Departure.lateStoresUnsure }, { on := 6, ground := Ground.phase }, { on := 7, ground := Ground.phase }], guard := none }) rfl (fun K hK => ?_) ?_
            · skip
              have y0 := P4.out.1.1.cell 0
              have y1 := P4.out.1.1.cell 1
              have f0 := P4.out.1.1.frozen 0
              have f1 := P4.out.1.1.frozen 1
              go_simp
              have J5 := Lib.hid (J4.out.put P4.out F4.out)
              have Q5 := Lib.hid (Q4.out.put HD.out.symm (.int .i64 ga.z) (.slice ga.A ga.n ga.c) ga)
              have G5 := Lib.hid (G4.out.put P4.out.1.1 (.int .i64 ga.z) (.slice ga.A ga.n ga.c))
              clear hHeld y0 y1 f0 f1 J4 P4 F4 Q4 G4
              refine hK.out _ _ ⟨J5.out.blk.cell 0, J5.out.blk.cell 1, J5.out.blk.cell 2, J5.out.blk.cell 3⟩ (fun hHeld => ?_)
              clear hK K
              try simp only [Act.put, List.setIfInBounds_toArray, List.set_cons_zero, List.set_cons_succ]
              generalize (u4.setCell ⟨x7, 0, none⟩ (.int .i64 ga.z)).setCell ⟨x7, 1, none⟩ (.slice ga.A ga.n ga.c) = u5 at *
              refine wpAnyH_ready (rs := [9]) (by kernel_rfl) (by simp) ?_
              refine AllReadyH.cons (o := { dst := none, op := Op.store 24 (Operand.tmp 8) (Operand.tmp 27), type := 0, pos := "law.go:36", after := #[{ on := 7, ground := Ground.data }, { on := 5, ground := Ground.data }, { on := 8, ground := Ground.chain }, { on := 0, ground := Ground.phase }, { on := 1, ground := Ground.phase }, { on := 2, ground := Ground.phase }, { on := 3, ground := Ground.phase }, { on := 4, ground := Ground.phase }, { on := 5, ground := Ground.phase }, { on := 6, ground := Ground.phase }, { on := 7, ground := Ground.phase }, { on := 8, ground := Ground.phase }], guard := none }) rfl (fun K hK => ?_) ?_
              · skip
                have y0 := Q5.out.1.1.cell 0
                have y1 := Q5.out.1.1.cell 1
                have f0 := Q5.out.1.1.frozen 0
                have f1 := Q5.out.1.1.frozen 1
                go_simp
                have J6 := Lib.hid (J5.out.put Q5.out G5.out)
                clear hHeld y0 y1 f0 f1 J5 Q5 G5
                refine hK.out _ _ ⟨J6.out.blk.cell 0, J6.out.blk.cell 1, J6.out.blk.cell 2, J6.out.blk.cell 3⟩ (fun hHeld => ?_)
                clear hK K
                try simp only [Act.put, List.setIfInBounds_toArray, List.set_cons_zero, List.set_cons_succ]
                generalize (u5.setCell ⟨x8, 0, none⟩ (.int .i64 gb.z)).setCell ⟨x8, 1, none⟩ (.slice gb.A gb.n gb.c) = u6 at *
                refine wpAnyH_done (by kernel_rfl) ?_ _
                refine NoPanic.normal ?_
                clear hHeld
                go_wp2_with fail
                go_meet
                exact ⟨ga, gb, x7, x8, rfl, rfl, HFA, HFB, J6⟩
              exact AllReadyH.nil
            exact AllReadyH.nil
          exact AllReadyH.nil
        refine AllReadyH.cons (o := { dst := some 7, op := Op.alloc 24, type := 0, pos := "law.go:36", after := #[], guard := none }) rfl (fun K hK => ?_) ?_
        · skip
          go_simp
          have hb : Below u2.heap.size u2 (u2.alloc (.cells #[.int .i64 0, .slice none 0 0] 24)) := (Below.refl _ _).alloc (Nat.le_refl _) _
          have J3 := Lib.hid (J2.out.on hb)
          have Q3 := Lib.hid (Q2.out.on hb)
          have F3 := Lib.hid (F2.out.on hb)
          have P3 := Lib.hid (MZer.new J2.out)
          have HD : Hid (x8 ≠ u2.heap.size) := Nat.ne_of_lt Q2.out.1.1.lt
          clear hHeld hb J2 Q2 F2
          refine hK.out _ _ ⟨J3.out.blk.cell 0, J3.out.blk.cell 1, J3.out.blk.cell 2, J3.out.blk.cell 3⟩ (fun hHeld => ?_)
          clear hK K
          try simp only [Act.put, List.setIfInBounds_toArray, List.set_cons_zero, List.set_cons_succ]
          generalize u2.alloc (.cells #[.int .i64 0, .slice none 0 0] 24) = u3 at *
          generalize u2.heap.size = x7 at *
          refine wpAnyH_ready (rs := [5]) (by kernel_rfl) (by simp) ?_
          refine AllReadyH.cons (o := { dst := some 27, op := Op.call { callee := Callee.value (Operand.func 10), args := #[Operand.tmp 26], argTypes := #[24] }, type := 24, pos := "law.go:36", after := #[{ on := 4, ground := Ground.data }, { on := 2, ground := Ground.chain }], guard := none }) rfl (fun K hK => ?_) ?_
          · skip
            go_simp
            refine (fair_any pb.z pb.A pb.n pb.c pb.es J3.out.q.2.2.2 J3.out.q.2.1 J3.out.q.2.2.1 _ J3.out.q.1).mono ?_
            rintro e u4 hx
            obtain ⟨gb, rfl, hz, he, okg, hb⟩ := gis_gv hx
            have J4 := Lib.hid (J3.out.on hb)
            have P4 := Lib.hid (P3.out.on hb)
            have Q4 := Lib.hid (Q3.out.on hb)
            have F4 := Lib.hid (F3.out.on hb)
            have G4 := Lib.hid okg
            have HFB := Lib.hid (And.intro hz he)
            clear hHeld hx hz he okg hb J3 P3 Q3 F3
            refine hK.out _ _ ⟨J4.out.blk.cell 0, J4.out.blk.cell 1, J4.out.blk.cell 2, J4.out.blk.cell 3⟩ (fun hHeld => ?_)
            clear hK K
            try simp only [Act.put, List.setIfInBounds_toArray, List.set_cons_zero, List.set_cons_succ]
            refine wpAnyH_ready (rs := [8]) (by kernel_rfl) (by simp) ?_
            refine AllReadyH.cons (o := { dst := none, op := Op.store 24 (Operand.tmp 7) (Operand.tmp 24), type := 0, pos := "law.go:36", after := #[{ on := 6, ground := Ground.data }, { on := 2, ground := Ground.data }, { on := 5, ground := Ground.chain }, { on := 0, ground := Ground.phase }, { on := 1, ground := Ground.phase }, { on := 2, ground := Ground.phase }, { on := 3, ground := Ground.textOnly Departure.lateStores }, { on := 4, ground := Ground.textOnly Departure.lateStores }, { on := 5, ground := Ground.textOnly Departure.lateStoresUnsure }, { on := 6, ground := Ground.phase }, { on := 7, ground := Ground.phase }], guard := none }) rfl (fun K hK => ?_) ?_
            · skip
              have y0 := P4.out.1.1.cell 0
              have y1 := P4.out.1.1.cell 1
              have f0 := P4.out.1.1.frozen 0
              have f1 := P4.out.1.1.frozen 1
              go_simp
              have J5 := Lib.hid (J4.out.put P4.out F4.out)
              have Q5 := Lib.hid (Q4.out.put HD.out.symm (.int .i64 ga.z) (.slice ga.A ga.n ga.c) ga)
              have G5 := Lib.hid (G4.out.put P4.out.1.1 (.int .i64 ga.z) (.slice ga.A ga.n ga.c))
              clear hHeld y0 y1 f0 f1 J4 P4 F4 Q4 G4
              refine hK.out _ _ ⟨J5.out.blk.cell 0, J5.out.blk.cell 1, J5.out.blk.cell 2, J5.out.blk.cell 3⟩ (fun hHeld => ?_)
              clear hK K
              try simp only [Act.put, List.setIfInBounds_toArray, List.set_cons_zero, List.set_cons_succ]
              generalize (u4.setCell ⟨x7, 0, none⟩ (.int .i64 ga.z)).setCell ⟨x7, 1, none⟩ (.slice ga.A ga.n ga.c) = u5 at *
              refine wpAnyH_ready (rs := [9]) (by kernel_rfl) (by simp) ?_
              refine AllReadyH.cons (o := { dst := none, op := Op.store 24 (Operand.tmp 8) (Operand.tmp 27), type := 0, pos := "law.go:36", after := #[{ on := 7, ground := Ground.data }, { on := 5, ground := Ground.data }, { on := 8, ground := Ground.chain }, { on := 0, ground := Ground.phase }, { on := 1, ground := Ground.phase }, { on := 2, ground := Ground.phase }, { on := 3, ground := Ground.phase }, { on := 4, ground := Ground.phase }, { on := 5, ground := Ground.phase }, { on := 6, ground := Ground.phase }, { on := 7, ground := Ground.phase }, { on := 8, ground := Ground.phase }], guard := none }) rfl (fun K hK => ?_) ?_
              · skip
                have y0 := Q5.out.1.1.cell 0
                have y1 := Q5.out.1.1.cell 1
                have f0 := Q5.out.1.1.frozen 0
                have f1 := Q5.out.1.1.frozen 1
                go_simp
                have J6 := Lib.hid (J5.out.put Q5.out G5.out)
                clear hHeld y0 y1 f0 f1 J5 Q5 G5
                refine hK.out _ _ ⟨J6.out.blk.cell 0, J6.out.blk.cell 1, J6.out.blk.cell 2, J6.out.blk.cell 3⟩ (fun hHeld => ?_)
                clear hK K
                try simp only [Act.put, List.setIfInBounds_toArray, List.set_cons_zero, List.set_cons_succ]
                generalize (u5.setCell ⟨x8, 0, none⟩ (.int .i64 gb.z)).setCell ⟨x8, 1, none⟩ (.slice gb.A gb.n gb.c) = u6 at *
                refine wpAnyH_done (by kernel_rfl) ?_ _
                refine NoPanic.normal ?_
                clear hHeld
                go_wp2_with fail
                go_meet
                exact ⟨ga, gb, x7, x8, rfl, rfl, HFA, HFB, J6⟩
              exact AllReadyH.nil
            exact AllReadyH.nil
          exact AllReadyH.nil
        exact AllReadyH.nil
      refine AllReadyH.cons (o := { dst := some 7, op := Op.alloc 24, type := 0, pos := "law.go:36", after := #[], guard := none }) rfl (fun K hK => ?_) ?_
      · skip
        go_simp
        have hb : Below u1.heap.size u1 (u1.alloc (.cells #[.int .i64 0, .slice none 0 0] 24)) := (Below.refl _ _).alloc (Nat.le_refl _) _
        have J2 := Lib.hid (J1.out.on hb)
        have Q2 := Lib.hid (Q1.out.on hb)
        have P2 := Lib.hid (MZer.new J1.out)
        have HD : Hid (x8 ≠ u1.heap.size) := Nat.ne_of_lt Q1.out.1.1.lt
        clear hHeld hb J1 Q1
        refine hK.out _ _ ⟨J2.out.blk.cell 0, J2.out.blk.cell 1, J2.out.blk.cell 2, J2.out.blk.cell 3⟩ (fun hHeld => ?_)
        clear hK K
        try simp only [Act.put, List.setIfInBounds_toArray, List.set_cons_zero, List.set_cons_succ]
        generalize u1.alloc (.cells #[.int .i64 0, .slice none 0 0] 24) = u2 at *
        generalize u1.heap.size = x7 at *
        refine wpAnyH_ready (rs := [2]) (by kernel_rfl) (by simp) ?_
        refine AllReadyH.cons (o := { dst := some 24, op := Op.call { callee := Callee.value (Operand.func 10), args := #[Operand.tmp 23], argTypes := #[24] }, type := 24, pos := "law.go:36", after := #[{ on := 1, ground := Ground.data }], guard := none }) rfl (fun K hK => ?_) ?_
        · skip
          go_simp
          refine (fair_any pa.z pa.A pa.n pa.c pa.es J2.out.p.2.2.2 J2.out.p.2.1 J2.out.p.2.2.1 _ J2.out.p.1).mono ?_
          rintro e u3 hx
          obtain ⟨ga, rfl, hz, he, okg, hb⟩ := gis_gv hx
          have J3 := Lib.hid (J2.out.on hb)
          have P3 := Lib.hid (P2.out.on hb)
          have Q3 := Lib.hid (Q2.out.on hb)
          have F3 := Lib.hid okg
          have HFA := Lib.hid (And.intro hz he)
          clear hHeld hx hz he okg hb J2 P2 Q2
          refine hK.out _ _ ⟨J3.out.blk.cell 0, J3.out.blk.cell 1, J3.out.blk.cell 2, J3.out.blk.cell 3⟩ (fun hHeld => ?_)
          clear hK K
          try simp only [Act.put, List.setIfInBounds_toArray, List.set_cons_zero, List.set_cons_succ]
          refine wpAnyH_ready (rs := [5]) (by kernel_rfl) (by simp) ?_
          refine AllReadyH.cons (o := { dst := some 27, op := Op.call { callee := Callee.value (Operand.func 10), args := #[Operand.tmp 26], argTypes := #[24] }, type := 24, pos := "law.go:36", after := #[{ on := 4, ground := Ground.data }, { on := 2, ground := Ground.chain }], guard := none }) rfl (fun K hK => ?_) ?_
          · skip
            go_simp
            refine (fair_any pb.z pb.A pb.n pb.c pb.es J3.out.q.2.2.2 J3.out.q.2.1 J3.out.q.2.2.1 _ J3.out.q.1).mono ?_
            rintro e u4 hx
            obtain ⟨gb, rfl, hz, he, okg, hb⟩ := gis_gv hx
            have J4 := Lib.hid (J3.out.on hb)
            have P4 := Lib.hid (P3.out.on hb)
            have Q4 := Lib.hid (Q3.out.on hb)
            have F4 := Lib.hid (F3.out.on hb)
            have G4 := Lib.hid okg
            have HFB := Lib.hid (And.intro hz he)
            clear hHeld hx hz he okg hb J3 P3 Q3 F3
            refine hK.out _ _ ⟨J4.out.blk.cell 0, J4.out.blk.cell 1, J4.out.blk.cell 2, J4.out.blk.cell 3⟩ (fun hHeld => ?_)
            clear hK K
            try simp only [Act.put, List.setIfInBounds_toArray, List.set_cons_zero, List.set_cons_succ]
            refine wpAnyH_ready (rs := [8]) (by kernel_rfl) (by simp) ?_
            refine AllReadyH.cons (o := { dst := none, op := Op.store 24 (Operand.tmp 7) (Operand.tmp 24), type := 0, pos := "law.go:36", after := #[{ on := 6, ground := Ground.data }, { on := 2, ground := Ground.data }, { on := 5, ground := Ground.chain }, { on := 0, ground := Ground.phase }, { on := 1, ground := Ground.phase }, { on := 2, ground := Ground.phase }, { on := 3, ground := Ground.textOnly Departure.lateStores }, { on := 4, ground := Ground.textOnly Departure.lateStores }, { on := 5, ground := Ground.textOnly Departure.lateStoresUnsure }, { on := 6, ground := Ground.phase }, { on := 7, ground := Ground.phase }], guard := none }) rfl (fun K hK => ?_) ?_
            · skip
              have y0 := P4.out.1.1.cell 0
              have y1 := P4.out.1.1.cell 1
              have f0 := P4.out.1.1.frozen 0
              have f1 := P4.out.1.1.frozen 1
              go_simp
              have J5 := Lib.hid (J4.out.put P4.out F4.out)
              have Q5 := Lib.hid (Q4.out.put HD.out.symm (.int .i64 ga.z) (.slice ga.A ga.n ga.c) ga)
              have G5 := Lib.hid (G4.out.put P4.out.1.1 (.int .i64 ga.z) (.slice ga.A ga.n ga.c))
              clear hHeld y0 y1 f0 f1 J4 P4 F4 Q4 G4
              refine hK.out _ _ ⟨J5.out.blk.cell 0, J5.out.blk.cell 1, J5.out.blk.cell 2, J5.out.blk.cell 3⟩ (fun hHeld => ?_)
              clear hK K
              try simp only [Act.put, List.setIfInBounds_toArray, List.set_cons_zero, List.set_cons_succ]
              generalize (u4.setCell ⟨x7, 0, none⟩ (.int .i64 ga.z)).setCell ⟨x7, 1, none⟩ (.slice ga.A ga.n ga.c) = u5 at *
              refine wpAnyH_ready (rs := [9]) (by kernel_rfl) (by simp) ?_
              refine AllReadyH.cons (o := { dst := none, op := Op.store 24 (Operand.tmp 8) (Operand.tmp 27), type := 0, pos := "law.go:36", after := #[{ on := 7, ground := Ground.data }, { on := 5, ground := Ground.data }, { on := 8, ground := Ground.chain }, { on := 0, ground := Ground.phase }, { on := 1, ground := Ground.phase }, { on := 2, ground := Ground.phase }, { on := 3, ground := Ground.phase }, { on := 4, ground := Ground.phase }, { on := 5, ground := Ground.phase }, { on := 6, ground := Ground.phase }, { on := 7, ground := Ground.phase }, { on := 8, ground := Ground.phase }], guard := none }) rfl (fun K hK => ?_) ?_
              · skip
                have y0 := Q5.out.1.1.cell 0
                have y1 := Q5.out.1.1.cell 1
                have f0 := Q5.out.1.1.frozen 0
                have f1 := Q5.out.1.1.frozen 1
                go_simp
                have J6 := Lib.hid (J5.out.put Q5.out G5.out)
                clear hHeld y0 y1 f0 f1 J5 Q5 G5
                refine hK.out _ _ ⟨J6.out.blk.cell 0, J6.out.blk.cell 1, J6.out.blk.cell 2, J6.out.blk.cell 3⟩ (fun hHeld => ?_)
                clear hK K
                try simp only [Act.put, List.setIfInBounds_toArray, List.set_cons_zero, List.set_cons_succ]
                generalize (u5.setCell ⟨x8, 0, none⟩ (.int .i64 gb.z)).setCell ⟨x8, 1, none⟩ (.slice gb.A gb.n gb.c) = u6 at *
                refine wpAnyH_done (by kernel_rfl) ?_ _
                refine NoPanic.normal ?_
                clear hHeld
                go_wp2_with fail
                go_meet
                exact ⟨ga, gb, x7, x8, rfl, rfl, HFA, HFB, J6⟩
              exact AllReadyH.nil
            exact AllReadyH.nil
          exact AllReadyH.nil
        exact AllReadyH.nil
      exact AllReadyH.nil
    exact AllReadyH.nil
  case rest =>
    clear E1
    rename World => w3
    obtain ⟨ga, gb, x7, x8, rfl, rfl, HGA, HGB, E3⟩ := hcut
    have z0 := E3.out.env.c0 (.head _)
    have z1 := E3.out.env.c1 (.head _)
    have z2 := E3.out.env.c0 (.tail _ (.head _))
    have z3 := E3.out.env.c1 (.tail _ (.head _))
    have hna : ga.n ≤ 80 := by
      have h1 := (E3.out.env.ok (.tail _ (.head _))).len
      have h2 := take_len pa.es
      rw [← HGA.out.2] at h2; omega
    have hnb : gb.n ≤ 80 := by
      have h1 := (E3.out.env.ok (.head _)).len
      have h2 := take_len pb.es
      rw [← HGB.out.2] at h2; omega
    go_wp2_with fail
    clear z0 z1 z2 z3
    go_loopg [31] 2 (fun gg s31 wr => ∃ z : Int, 0 ≤ z ∧ z + gg = 2 ∧ s31 = .int .i64 z ∧ Hid (MEnv w [(x8, gb), (x7, ga)] w.heap.size pa pb A n xs wr))
    case atStart => exact ⟨0, by decide, by decide, rfl, E3⟩
    case round =>
      clear E3
      obtain ⟨z, hz0, hzg, rfl, E3⟩ := hrel
      cases gk with
      | succ g2 =>
        clear HFEW HOF HY HNO
        obtain ⟨gi, hgi, hni, hix, hmem⟩ : ∃ gi : GV, (gi = ga ∨ gi = gb) ∧ gi.n ≤ 80 ∧ (∀ W, (Instr.index 25 (.agg #[.int .i64 ga.z, .slice ga.A ga.n ga.c, .int .i64 gb.z, .slice gb.A gb.n gb.c]) (.int .i64 z)).run Try.prog W = .ok (.agg #[.int .i64 gi.z, .slice gi.A gi.n gi.c]) W) ∧ gi.ok wr := by
          rcases (show z = 0 ∨ z = 1 by omega) with rfl | rfl
          · exact ⟨ga, .inl rfl, hna, g2_at0 _ _ _ _ _ _ _ _, E3.out.env.ok (.tail _ (.head _))⟩
          · exact ⟨gb, .inr rfl, hnb, g2_at1 _ _ _ _ _ _ _ _, E3.out.env.ok (.head _)⟩
        have hlt : z < 2 := by omega
        have hw1 : IntKind.i64.wrap (z + 1) = z + 1 := by rw [IntKind.wrap_i64]; omega
        have hge : 0 ≤ z + 1 := by omega
        have hgg : z + 1 + (g2 : Int) = 2 := by omega
        have HZ := Lib.hid (And.intro hge hgg)
        have HC := Lib.hid fun W h => check_any gi.z gi.A gi.n gi.c gi.es (by omega) W h
        have HRT := Lib.hid fun W h => right_any gi.z gi.A gi.n gi.c gi.es (by omega) W h
        have E4 := Lib.hid (E3.out.add hmem)
        have HIX := Lib.hid hix
        clear hzg hgi hni hmem hge hgg hna hnb
        go_upto_region 7 with fail
        clear hix HIX
        generalize wr.alloc (.cells #[.int .i64 gi.z, .slice gi.A gi.n gi.c] 24) = wx at *
        generalize wr.heap.size = xg at *
        clear E3
        have z0 := E4.out.env.c0 (.head _)
        have z1 := E4.out.env.c1 (.head _)
        go_wp2_with fail
        refine (HC.out _ (E4.out.env.ok (.head _)).1).mono ?_
        rintro e w4 ⟨rfl, b⟩
        have E5 := Lib.hid (E4.out.on b)
        clear b E4 z0 z1 HC
        cases hr : rightG gi.z gi.es
        · rw [check_no hr]
          rw [hr] at HRT
          clear hr
          have z0 := E5.out.env.c0 (.head _)
          have z1 := E5.out.env.c1 (.head _)
          go_wp2_with fail
          refine (HRT.out _ (E5.out.env.ok (.head _)).1).mono ?_
          rintro e w5 ⟨rfl, b⟩
          have J1 := Lib.hid (E5.out.on b)
          clear b E5 z0 z1
          go_wp2_with fail
          go_roundg g2
          case measure => omega
          case rel => exact ⟨z + 1, HZ.out.1, HZ.out.2, rfl, Lib.hid (J1.out.sub fun p hp => .tail _ hp)⟩
        · rw [check_yes hr]
          rw [hr] at HRT
          clear hr
          have z0 := E5.out.env.c0 (.head _)
          have z1 := E5.out.env.c1 (.head _)
          go_wp2_with fail
          refine (HRT.out _ (E5.out.env.ok (.head _)).1).mono ?_
          rintro e w5 ⟨rfl, b⟩
          have J1 := Lib.hid (E5.out.on b)
          clear b E5 z0 z1
          go_wp2_with fail
          go_roundg g2
          case measure => omega
          case rel => exact ⟨z + 1, HZ.out.1, HZ.out.2, rfl, Lib.hid (J1.out.sub fun p hp => .tail _ hp)⟩
      | zero =>
        obtain rfl : z = 2 := by omega
        clear hz0 hzg
        go_wp2_with fail
        refine (HFEW.out _ E3.out.row).mono ?_
        rintro e w5 ⟨Al, cl, rfl, ho, h1, h2, b⟩
        have E5 := Lib.hid (E3.out.on b)
        have RL := Lib.hid (reads_own ho)
        clear ho h1 h2 b E3
        go_wp2_with fail
        refine (HOF.out _ _ _ RL.out).mono ?_
        rintro e w6 hx
        obtain ⟨gw, rfl, hzw, hew, okw, b⟩ := gerr_gv hx
        have E6 := Lib.hid ((E5.out.on b).add okw)
        have RL6 := Lib.hid ((RL.out.on b).on ((Below.refl _ _).alloc (Nat.le_refl _) (.cells #[.int .i64 gw.z, .slice gw.A gw.n gw.c] 24)))
        have HW := Lib.hid (And.intro hzw hew)
        clear hx hzw hew okw b E5 RL HOF
        go_upto_region 13 with fail
        generalize w6.alloc (.cells #[.int .i64 gw.z, .slice gw.A gw.n gw.c] 24) = w7 at *
        generalize w6.heap.size = x13 at *
        have hk02 : k = 0 ∨ k = 2 := by
          rcases Bool.eq_false_or_eq_true (mayN nodes && ys.all (rightE nodes)) with h | h
          · exact .inl (HY.out h).2.2
          · exact .inr (HNO.out h).2.2
        have HK := Lib.hid hk02
        clear hk02
        go_cut [15] (fun s15 wx => s15 = .bool (mayN nodes) ∧ Hid (MEnv w [(x13, gw), (x8, gb), (x7, ga)] w.heap.size pa pb A n xs wx) ∧ Hid (Reads wx wx.heap.size 3 Al m (cellsE ys)))
        case first =>
          clear HFEW HY HNO HK
          by_cases h0 : 0 ≤ nodes
          · by_cases h1 : nodes ≤ 300
            · have hm : mayN nodes = true := decide_eq_true ⟨h0, h1⟩
              have h00 : decide (nodes ≥ 0) = true := decide_eq_true h0
              have h11 : decide (nodes ≤ 300) = true := decide_eq_true h1
              go_wp2_with fail
              go_meet
              exact ⟨by rw [hm], E6, RL6⟩
            · have hm : mayN nodes = false := decide_eq_false fun h => h1 h.2
              have h00 : decide (nodes ≥ 0) = true := decide_eq_true h0
              have h11 : decide (nodes ≤ 300) = false := decide_eq_false h1
              go_wp2_with fail
              go_meet
              exact ⟨by rw [hm], E6, RL6⟩
          · have hm : mayN nodes = false := decide_eq_false fun h => h0 h.1
            have h00 : decide (nodes ≥ 0) = false := decide_eq_false h0
            go_wp2_with fail
            go_meet
            exact ⟨by rw [hm], E6, RL6⟩
        case rest =>
          clear E6 RL6
          rename World => w8
          obtain ⟨rfl, E8, RL8⟩ := hcut
          go_wp2_with fail
          go_loopg [15, 66] m (fun gg s15 s66 wr => ∃ i : Nat, i + gg = m ∧ s66 = .int .i64 i ∧ s15 = .bool (mayN nodes && (ys.take i).all (rightE nodes)) ∧ Hid (MEnv w [(x13, gw), (x8, gb), (x7, ga)] w.heap.size pa pb A n xs wr) ∧ Hid (Reads wr wr.heap.size 3 Al m (cellsE ys)))
          case atStart => exact ⟨0, by omega, rfl, by simp, E8, RL8⟩
          case round =>
            clear E8 RL8
            obtain ⟨i, hig, rfl, rfl, E8, RL8⟩ := hrel
            cases gk with
            | succ g2 =>
              have hlt : (i : Int) < (m : Int) := by omega
              have hil : i < m := by omega
              obtain ⟨p, hp⟩ : ∃ p, ys[i]? = some p := ⟨ys[i]'(by omega), List.getElem?_eq_getElem _⟩
              obtain ⟨bl, ol, rfl, hbl, g0, g1, gk2⟩ := ed_at RL8.out hp
              have HNX : Hid ((mayN nodes && (ys.take (i + 1)).all (rightE nodes)) = ((mayN nodes && (ys.take i).all (rightE nodes)) && rightE nodes p)) := by show _ = _; rw [all_snoc (rightE nodes) hp, Bool.and_assoc]
              have HIG := Lib.hid hig
              have hb9 : Below wr.heap.size wr (wr.alloc (.cells #[.int .i64 p.1, .int .i64 p.2.1, .int .i64 p.2.2] 35)) := (Below.refl _ _).alloc (Nat.le_refl _) _
              have E9 := Lib.hid (E8.out.on hb9)
              have RL9 := Lib.hid (RL8.out.on hb9)
              have HX := Lib.hid (Blk.new wr 35 #[.int .i64 p.1, .int .i64 p.2.1, .int .i64 p.2.2])
              clear hig hp hb9 HFEW HY HNO HK
              generalize (mayN nodes && (ys.take i).all (rightE nodes)) = rb at *
              go_upto_region 17 with fail
              clear g0 g1 gk2 E8 RL8
              generalize wr.alloc (.cells #[.int .i64 p.1, .int .i64 p.2.1, .int .i64 p.2.2] 35) = wx at *
              generalize wr.heap.size = X at *
              have z0 : wx.cell? ⟨X, 0, none⟩ = some (.int .i64 p.1) := HX.out.cell 0
              have z1 : wx.cell? ⟨X, 1, none⟩ = some (.int .i64 p.2.1) := HX.out.cell 1
              have z2 : wx.cell? ⟨X, 2, none⟩ = some (.int .i64 p.2.2) := HX.out.cell 2
              cases rb
              · go_wp2_with fail
                go_roundg g2
                case measure => omega
                case rel => exact ⟨i + 1, by have := HIG.out; omega, by go_num, by rw [HNX.out]; simp, E9, RL9⟩
              · go_wp2_with fail
                refine (redge_any nodes p _).mono ?_
                rintro e u1 ⟨rfl, b⟩
                have E10 := Lib.hid (E9.out.on b)
                have RL10 := Lib.hid (RL9.out.on b)
                clear b E9 RL9 z0 z1 z2
                go_wp2_with fail
                go_roundg g2
                case measure => omega
                case rel => exact ⟨i + 1, by have := HIG.out; omega, by go_num, by rw [HNX.out]; simp, E10, RL10⟩
            | zero =>
              obtain rfl : i = m := by omega
              have hall : (ys.take i).all (rightE nodes) = ys.all (rightE nodes) := by rw [List.take_of_length_le (by omega)]
              rw [hall]
              have HROF := Lib.hid fun A c W h => rof_any nodes A i c ys (by omega) W h
              have HOK : Hid ((mayN nodes && ys.all (rightE nodes)) = true → ofE ys = sorE ys) := by
                intro h
                rw [Bool.and_eq_true, List.all_eq_true] at h
                exact ofE_eq fun p hp => rightE_ok h.1 (h.2 p hp)
              have HLEN := Lib.hid hmn
              have HM80 : Hid (i ≤ 80) := hm80
              have HNAB := Lib.hid (And.intro hna hnb)
              have HLG : Hid (ges.length ≤ 80) := by
                show _ ≤ _
                rcases Bool.eq_false_or_eq_true (mayN nodes && ys.all (rightE nodes)) with h | h
                · rw [(HY.out h).2.1]; have := sorE_len ys; omega
                · rw [(HNO.out h).2.1]; decide
              clear hig hall hm80 hmn hna hnb
              generalize (mayN nodes && ys.all (rightE nodes)) = rb at *
              have hlt : ¬ (i : Int) < (i : Int) := by omega
              have Z9 := Lib.hid (MZer.new E8.out)
              have E9 := Lib.hid (E8.out.alloc (.cells #[.int .i64 0, .slice none 0 0] 24))
              have RL9 := Lib.hid (RL8.out.on ((Below.refl _ _).alloc (Nat.le_refl _) (.cells #[.int .i64 0, .slice none 0 0] 24)))
              clear E8 RL8
              go_upto_if 78 with fail
              generalize wr.alloc (.cells #[.int .i64 0, .slice none 0 0] 24) = w9 at *
              generalize wr.heap.size = x18 at *
              go_cut [19] (fun s19 wx => s19 = .int .i64 k ∧ ∃ gt : GV, Hid (gt.z = gz ∧ gt.es = ges) ∧ Hid (MEnv w [(x18, gt), (x13, gw), (x8, gb), (x7, ga)] w.heap.size pa pb A n xs wx) ∧ Hid (Reads wx wx.heap.size 3 Al i (cellsE ys)))
              case first =>
                cases rb
                · have hno := Lib.hid (HNO.out rfl)
                  clear HFEW HY HNO HROF HOK
                  go_wp2_with fail
                  go_meet
                  exact ⟨by rw [hno.out.2.2], ⟨0, none, 0, 0, []⟩, Lib.hid ⟨hno.out.1.symm, hno.out.2.1.symm⟩, Lib.hid (Z9.out.laid E9.out), RL9⟩
                · have hye := Lib.hid (HY.out rfl)
                  have hok := Lib.hid (HOK.out rfl)
                  clear HY HNO HOK
                  go_wp2_with fail
                  refine (HFEW.out _ E9.out.row).mono ?_
                  rintro e u1 ⟨A7, c7, rfl, ho, h1, h2, b⟩
                  have E10 := Lib.hid (E9.out.on b)
                  have RL10 := Lib.hid (RL9.out.on b)
                  have Z10 := Lib.hid (Z9.out.on b)
                  have R7 := Lib.hid (reads_own ho)
                  clear ho h1 h2 b E9 RL9 Z9 HFEW
                  go_wp2_with fail
                  refine (HROF.out _ _ _ R7.out).mono ?_
                  rintro e u2 hx
                  obtain ⟨gt, rfl, hzt, het, okt, b⟩ := gis_gv hx
                  have E11 := Lib.hid (E10.out.on b)
                  have RL11 := Lib.hid (RL10.out.on b)
                  have Z11 := Lib.hid (Z10.out.on b)
                  have GT := Lib.hid okt
                  have HT := Lib.hid (And.intro hzt het)
                  clear hx hzt het okt b E10 RL10 Z10 R7 HROF
                  have z0 := Z11.out.1.1.cell 0
                  have z1 := Z11.out.1.1.cell 1
                  have f0 := Z11.out.1.1.frozen 0
                  have f1 := Z11.out.1.1.frozen 1
                  have E12 := Lib.hid (E11.out.put Z11.out GT.out)
                  have RL12 := Lib.hid (row_put (u' := .int .i64 gt.z) (v' := .slice gt.A gt.n gt.c) RL11.out Z11.out.1.1)
                  go_wp2_with fail
                  go_meet
                  exact ⟨by rw [hye.out.2.2], gt, Lib.hid ⟨by rw [HT.out.1, hye.out.1], by rw [HT.out.2, hok.out, hye.out.2.1]⟩, E12, RL12⟩
              case rest =>
                clear E9 RL9 Z9 HROF HOK HY HNO
                rename World => w10
                obtain ⟨rfl, gt, HT, E10, RL10⟩ := hcut
                have hkk : ((k : Int) != k) = false := by simp
                have HSM : Hid (∀ W, gw.ok W → gt.ok W → Calls Try.prog 17 #[.agg #[.int .i64 gw.z, .slice gw.A gw.n gw.c], .agg #[.int .i64 gt.z, .slice gt.A gt.n gt.c]] W fun e w' => e = .returned (.bool true) ∧ Below W.heap.size W w') := by
                  intro W h3 h4
                  have := rsame_any gw.z gt.z gw.A gt.A gw.n gw.c gt.n gt.c gw.es gt.es (by have h5 := h3.len; rw [HW.out.2] at h5; have := HLG.out; omega) W h3.1 h4.1
                  rwa [decide_eq_true ⟨HW.out.1.trans HT.out.1.symm, HW.out.2.trans HT.out.2.symm⟩] at this
                have HEQ : Hid (∀ A' c' W, Reads W W.heap.size 3 Al i (cellsE ys) → Reads W W.heap.size 3 A' i (cellsE ys) → Calls Try.prog 18 #[.slice Al i cl, .slice A' i c'] W fun e w' => e = .returned (.bool true) ∧ Below W.heap.size W w') := by
                  intro A' c' W h1 h2
                  have := equal_any Al A' i i cl c' ys ys (by have := reads_len h1; have := HM80.out; omega) W h1 h2
                  rwa [decide_eq_true rfl] at this
                have HSG : Hid (∀ W, ga.ok W → gb.ok W → Calls Try.prog 19 #[.agg #[.int .i64 ga.z, .slice ga.A ga.n ga.c], .agg #[.int .i64 gb.z, .slice gb.A gb.n gb.c]] W fun e w' => e = .returned (.bool (decide (ga.z = gb.z ∧ ga.es = gb.es))) ∧ Below W.heap.size W w') := fun W h1 h2 => same_any ga.z gb.z ga.A gb.A ga.n ga.c gb.n gb.c ga.es gb.es (by have := HNAB.out; omega) W h1.1 h2.1
                have HRG : Hid (∀ W, ga.ok W → gb.ok W → Calls Try.prog 17 #[.agg #[.int .i64 ga.z, .slice ga.A ga.n ga.c], .agg #[.int .i64 gb.z, .slice gb.A gb.n gb.c]] W fun e w' => e = .returned (.bool (decide (ga.z = gb.z ∧ ga.es = gb.es))) ∧ Below W.heap.size W w') := fun W h1 h2 => rsame_any ga.z gb.z ga.A gb.A ga.n ga.c gb.n gb.c ga.es gb.es (by have := HNAB.out; omega) W h1.1 h2.1
                have HSF : Hid (∀ (g : GV) W, g.z = pa.z → g.es = pa.es.take 80 → ga.ok W → g.ok W → Calls Try.prog 19 #[.agg #[.int .i64 ga.z, .slice ga.A ga.n ga.c], .agg #[.int .i64 g.z, .slice g.A g.n g.c]] W fun e w' => e = .returned (.bool true) ∧ Below W.heap.size W w') := by
                  intro g W h1 h2 h3 h4
                  have := same_any ga.z g.z ga.A g.A ga.n ga.c g.n g.c ga.es g.es (by have := HNAB.out; omega) W h3.1 h4.1
                  rwa [decide_eq_true ⟨HGA.out.1.trans h1.symm, HGA.out.2.trans h2.symm⟩] at this
                generalize decide (ga.z = gb.z ∧ ga.es = gb.es) = sb at *
                have hsb : (sb == sb) = true := by simp
                clear HW HT HK HGA HGB HNAB HLG HM80
                have z0 := E10.out.env.c0 (.tail _ (.head _))
                have z1 := E10.out.env.c1 (.tail _ (.head _))
                have z2 := E10.out.env.c0 (.head _)
                have z3 := E10.out.env.c1 (.head _)
                go_wp2_with fail
                refine (HSM.out _ (E10.out.env.ok (.tail _ (.head _))) (E10.out.env.ok (.head _))).mono ?_
                rintro e u1 ⟨rfl, b⟩
                have J1 := Lib.hid (E10.out.on b)
                have R1 := Lib.hid (RL10.out.on b)
                clear b E10 RL10 z0 z1 z2 z3
                go_wp2_with fail
                refine (HFEW.out _ J1.out.row).mono ?_
                rintro e u2 ⟨A7, c7, rfl, ho, h1, h2, b⟩
                have J2 := Lib.hid (J1.out.on b)
                have R2 := Lib.hid (R1.out.on b)
                have Q2 := Lib.hid (reads_own ho)
                clear b ho h1 h2 J1 R1
                go_wp2_with fail
                refine (HEQ.out _ _ _ R2.out Q2.out).mono ?_
                rintro e u3 ⟨rfl, b⟩
                have K0 := Lib.hid (J2.out.on b)
                clear b J2 R2 Q2
                clear HFEW HSM HEQ
                go_wp2_with fail
                have K00 := Lib.hid K0.out.drew
                clear K0
                have K0 := K00
                clear K00
                refine wp_region_noPanic ?_
                refine wp_region_held_drew (S := fun w' => w'.cell? ⟨x7, 0, none⟩ = some (.int .i64 ga.z) ∧ w'.cell? ⟨x7, 1, none⟩ = some (.slice ga.A ga.n ga.c) ∧ w'.cell? ⟨x8, 0, none⟩ = some (.int .i64 gb.z) ∧ w'.cell? ⟨x8, 1, none⟩ = some (.slice gb.A gb.n gb.c) ∧ w'.cell? ⟨w.heap.size, 0, none⟩ = some (.int .i64 pa.z) ∧ w'.cell? ⟨w.heap.size, 1, none⟩ = some (.slice pa.A pa.n pa.c)) (by kernel_rfl) ⟨K0.out.env.c0 (.tail _ (.tail _ (.tail _ (.head _)))), K0.out.env.c1 (.tail _ (.tail _ (.tail _ (.head _)))), K0.out.env.c0 (.tail _ (.tail _ (.head _))), K0.out.env.c1 (.tail _ (.tail _ (.head _))), K0.out.blk.cell 0, K0.out.blk.cell 1⟩ (fun hHeld => ?_)
                refine wpAnyH_take (i := 0) (oi := { dst := some 99, op := Op.load 24 (Operand.tmp 7), type := 24, pos := "law.go:55", after := #[], guard := none }) (v := .agg #[.int .i64 ga.z, .slice ga.A ga.n ga.c]) rfl (by kernel_rfl) (by kernel_rfl) (by kernel_rfl) (fun _ _ _ h => h) (Or.inl ⟨by kernel_rfl, fun w' hSw => by (try dsimp only at hSw); go_simp⟩) (by assumption) ?_
                try simp only [Act.put, List.setIfInBounds_toArray, List.set_cons_zero, List.set_cons_succ]
                refine wpAnyH_take (i := 1) (oi := { dst := some 100, op := Op.load 24 (Operand.tmp 8), type := 24, pos := "law.go:55", after := #[], guard := none }) (v := .agg #[.int .i64 gb.z, .slice gb.A gb.n gb.c]) rfl (by kernel_rfl) (by kernel_rfl) (by kernel_rfl) (fun _ _ _ h => h) (Or.inl ⟨by kernel_rfl, fun w' hSw => by (try dsimp only at hSw); go_simp⟩) (by assumption) ?_
                try simp only [Act.put, List.setIfInBounds_toArray, List.set_cons_zero, List.set_cons_succ]
                refine wpAnyH_take (i := 3) (oi := { dst := some 102, op := Op.load 24 (Operand.tmp 7), type := 24, pos := "law.go:55", after := #[], guard := none }) (v := .agg #[.int .i64 ga.z, .slice ga.A ga.n ga.c]) rfl (by kernel_rfl) (by kernel_rfl) (by kernel_rfl) (fun _ _ _ h => h) (Or.inl ⟨by kernel_rfl, fun w' hSw => by (try dsimp only at hSw); go_simp⟩) (by assumption) ?_
                try simp only [Act.put, List.setIfInBounds_toArray, List.set_cons_zero, List.set_cons_succ]
                refine wpAnyH_take (i := 4) (oi := { dst := some 103, op := Op.load 24 (Operand.tmp 8), type := 24, pos := "law.go:55", after := #[], guard := none }) (v := .agg #[.int .i64 gb.z, .slice gb.A gb.n gb.c]) rfl (by kernel_rfl) (by kernel_rfl) (by kernel_rfl) (fun _ _ _ h => h) (Or.inl ⟨by kernel_rfl, fun w' hSw => by (try dsimp only at hSw); go_simp⟩) (by assumption) ?_
                try simp only [Act.put, List.setIfInBounds_toArray, List.set_cons_zero, List.set_cons_succ]
                refine wpAnyH_ready (rs := [2]) (by kernel_rfl) (by simp) ?_
                refine AllReadyH.cons (o := { dst := some 101, op := Op.call { callee := Callee.value (Operand.func 19), args := #[Operand.tmp 99, Operand.tmp 100], argTypes := #[24, 24] }, type := 4, pos := "law.go:55", after := #[{ on := 0, ground := Ground.data }, { on := 1, ground := Ground.data }], guard := none }) rfl (fun K hK => ?_) AllReadyH.nil
                go_simp
                refine (HSG.out _ (K0.out.env.ok (.tail _ (.tail _ (.tail _ (.head _))))) (K0.out.env.ok (.tail _ (.tail _ (.head _))))).mono ?_
                rintro e v1 ⟨rfl, b⟩
                have K1 := Lib.hid (K0.out.on b)
                clear b K0 hHeld
                refine hK.out _ _ ⟨K1.out.env.c0 (.tail _ (.tail _ (.tail _ (.head _)))), K1.out.env.c1 (.tail _ (.tail _ (.tail _ (.head _)))), K1.out.env.c0 (.tail _ (.tail _ (.head _))), K1.out.env.c1 (.tail _ (.tail _ (.head _))), K1.out.blk.cell 0, K1.out.blk.cell 1⟩ (fun hHeld => ?_)
                clear hK K
                try simp only [Act.put, List.setIfInBounds_toArray, List.set_cons_zero, List.set_cons_succ]
                refine wpAnyH_ready (rs := [5]) (by kernel_rfl) (by simp) ?_
                refine AllReadyH.cons (o := { dst := some 104, op := Op.call { callee := Callee.value (Operand.func 17), args := #[Operand.tmp 102, Operand.tmp 103], argTypes := #[24, 24] }, type := 4, pos := "law.go:55", after := #[{ on := 3, ground := Ground.data }, { on := 4, ground := Ground.data }, { on := 2, ground := Ground.chain }], guard := none }) rfl (fun K hK => ?_) AllReadyH.nil
                go_simp
                refine (HRG.out _ (K1.out.env.ok (.tail _ (.tail _ (.tail _ (.head _))))) (K1.out.env.ok (.tail _ (.tail _ (.head _))))).mono ?_
                rintro e v2 ⟨rfl, b⟩
                have K2 := Lib.hid (K1.out.on b)
                clear b K1 hHeld
                refine hK.out _ _ ⟨K2.out.env.c0 (.tail _ (.tail _ (.tail _ (.head _)))), K2.out.env.c1 (.tail _ (.tail _ (.tail _ (.head _)))), K2.out.env.c0 (.tail _ (.tail _ (.head _))), K2.out.env.c1 (.tail _ (.tail _ (.head _))), K2.out.blk.cell 0, K2.out.blk.cell 1⟩ (fun hHeld => ?_)
                clear hK K
                try simp only [Act.put, List.setIfInBounds_toArray, List.set_cons_zero, List.set_cons_succ]
                refine wpAnyH_take (i := 6) (oi := { dst := some 105, op := Op.binOp BinOp.eql 4 (Operand.tmp 101) (Operand.tmp 104) 4, type := 4, pos := "law.go:55", after := #[{ on := 2, ground := Ground.data }, { on := 5, ground := Ground.data }], guard := none }) (v := .bool true) rfl (by kernel_rfl) (by kernel_rfl) (by kernel_rfl) (fun _ _ _ h => h) (Or.inl ⟨by kernel_rfl, fun w' hSw => by (try dsimp only at hSw); go_simp⟩) (by assumption) ?_
                try simp only [Act.put, List.setIfInBounds_toArray, List.set_cons_zero, List.set_cons_succ]
                refine wpAnyH_take (i := 7) (oi := { dst := some 106, op := Op.move (Operand.tmp 105), type := 4, pos := "law.go:55", after := #[{ on := 6, ground := Ground.data }, { on := 5, ground := Ground.chain }], guard := none }) (v := .bool true) rfl (by kernel_rfl) (by kernel_rfl) (by kernel_rfl) (fun _ _ _ h => h) (Or.inl ⟨by kernel_rfl, fun w' hSw => by (try dsimp only at hSw); go_simp⟩) (by assumption) ?_
                try simp only [Act.put, List.setIfInBounds_toArray, List.set_cons_zero, List.set_cons_succ]
                refine wpAnyH_take (i := 8) (oi := { dst := some 107, op := Op.load 24 (Operand.tmp 7), type := 24, pos := "law.go:55", after := #[{ on := 7, ground := Ground.guard }], guard := some (7, true) }) (v := .agg #[.int .i64 ga.z, .slice ga.A ga.n ga.c]) rfl (by kernel_rfl) (by kernel_rfl) (by kernel_rfl) (fun _ _ _ h => h) (Or.inl ⟨by kernel_rfl, fun w' hSw => by (try dsimp only at hSw); go_simp⟩) (by assumption) ?_
                try simp only [Act.put, List.setIfInBounds_toArray, List.set_cons_zero, List.set_cons_succ]
                refine wpAnyH_take (i := 9) (oi := { dst := some 108, op := Op.indexAddr 25 (Operand.tmp 3) (Operand.const (Value.int IntKind.i64 0)), type := 0, pos := "law.go:55", after := #[{ on := 7, ground := Ground.guard }], guard := some (7, true) }) (v := .pointer (some ⟨w.heap.size, 0, none⟩)) rfl (by kernel_rfl) (by kernel_rfl) (by kernel_rfl) (fun _ _ _ h => h) (Or.inl ⟨by kernel_rfl, fun w' hSw => by (try dsimp only at hSw); go_simp⟩) (by assumption) ?_
                try simp only [Act.put, List.setIfInBounds_toArray, List.set_cons_zero, List.set_cons_succ]
                refine wpAnyH_take (i := 10) (oi := { dst := some 109, op := Op.load 24 (Operand.tmp 108), type := 24, pos := "law.go:55", after := #[{ on := 9, ground := Ground.data }, { on := 7, ground := Ground.guard }], guard := some (7, true) }) (v := .agg #[.int .i64 pa.z, .slice pa.A pa.n pa.c]) rfl (by kernel_rfl) (by kernel_rfl) (by kernel_rfl) (fun _ _ _ h => h) (Or.inl ⟨by kernel_rfl, fun w' hSw => by (try dsimp only at hSw); go_simp⟩) (by assumption) ?_
                try simp only [Act.put, List.setIfInBounds_toArray, List.set_cons_zero, List.set_cons_succ]
                refine wpAnyH_ready (rs := [11]) (by kernel_rfl) (by simp) ?_
                refine AllReadyH.cons (o := { dst := some 110, op := Op.call { callee := Callee.value (Operand.func 10), args := #[Operand.tmp 109], argTypes := #[24] }, type := 24, pos := "law.go:55", after := #[{ on := 10, ground := Ground.data }, { on := 7, ground := Ground.chain }, { on := 7, ground := Ground.guard }], guard := some (7, true) }) rfl (fun K hK => ?_) AllReadyH.nil
                go_simp
                refine (fair_any pa.z pa.A pa.n pa.c pa.es K2.out.p.2.2.2 K2.out.p.2.1 K2.out.p.2.2.1 _ K2.out.p.1).mono ?_
                rintro e v3 hx
                obtain ⟨gf, rfl, hz, he, okf, b⟩ := gis_gv hx
                have K3 := Lib.hid (K2.out.on b)
                have KF := Lib.hid okf
                have HF := Lib.hid (And.intro hz he)
                clear b hx hz he okf K2 hHeld
                refine hK.out _ _ ⟨K3.out.env.c0 (.tail _ (.tail _ (.tail _ (.head _)))), K3.out.env.c1 (.tail _ (.tail _ (.tail _ (.head _)))), K3.out.env.c0 (.tail _ (.tail _ (.head _))), K3.out.env.c1 (.tail _ (.tail _ (.head _))), K3.out.blk.cell 0, K3.out.blk.cell 1⟩ (fun hHeld => ?_)
                clear hK K
                try simp only [Act.put, List.setIfInBounds_toArray, List.set_cons_zero, List.set_cons_succ]
                refine wpAnyH_ready (rs := [12]) (by kernel_rfl) (by simp) ?_
                refine AllReadyH.cons (o := { dst := some 111, op := Op.call { callee := Callee.value (Operand.func 19), args := #[Operand.tmp 107, Operand.tmp 110], argTypes := #[24, 24] }, type := 4, pos := "law.go:55", after := #[{ on := 8, ground := Ground.data }, { on := 11, ground := Ground.data }, { on := 11, ground := Ground.chain }, { on := 7, ground := Ground.guard }], guard := some (7, true) }) rfl (fun K hK => ?_) AllReadyH.nil
                go_simp
                refine (HSF.out gf _ HF.out.1 HF.out.2 (K3.out.env.ok (.tail _ (.tail _ (.tail _ (.head _))))) KF.out).mono ?_
                rintro e v4 ⟨rfl, b⟩
                have K4 := Lib.hid (K3.out.on b)
                clear b K3 KF hHeld
                refine hK.out _ _ ⟨K4.out.env.c0 (.tail _ (.tail _ (.tail _ (.head _)))), K4.out.env.c1 (.tail _ (.tail _ (.tail _ (.head _)))), K4.out.env.c0 (.tail _ (.tail _ (.head _))), K4.out.env.c1 (.tail _ (.tail _ (.head _))), K4.out.blk.cell 0, K4.out.blk.cell 1⟩ (fun hHeld => ?_)
                clear hK K
                try simp only [Act.put, List.setIfInBounds_toArray, List.set_cons_zero, List.set_cons_succ]
                refine wpAnyH_take (i := 13) (oi := { dst := some 112, op := Op.pick (Operand.tmp 106) (Operand.tmp 111) (Operand.const (Value.bool false)), type := 4, pos := "law.go:55", after := #[{ on := 7, ground := Ground.data }, { on := 12, ground := Ground.data }], guard := none }) (v := .bool true) rfl (by kernel_rfl) (by kernel_rfl) (by kernel_rfl) (fun _ _ _ h => h) (Or.inl ⟨by kernel_rfl, fun w' hSw => by (try dsimp only at hSw); go_simp⟩) (by assumption) ?_
                try simp only [Act.put, List.setIfInBounds_toArray, List.set_cons_zero, List.set_cons_succ]
                refine wpAnyH_take (i := 14) (oi := { dst := some 6, op := Op.assign (Operand.tmp 112), type := 4, pos := "law.go:55", after := #[{ on := 13, ground := Ground.data }, { on := 12, ground := Ground.chain }, { on := 0, ground := Ground.phase }, { on := 1, ground := Ground.phase }, { on := 2, ground := Ground.phase }, { on := 3, ground := Ground.phase }, { on := 4, ground := Ground.phase }, { on := 5, ground := Ground.phase }, { on := 6, ground := Ground.phase }, { on := 7, ground := Ground.phase }, { on := 8, ground := Ground.phase }, { on := 9, ground := Ground.phase }, { on := 10, ground := Ground.phase }, { on := 11, ground := Ground.phase }, { on := 12, ground := Ground.phase }, { on := 13, ground := Ground.phase }], guard := none }) (v := .bool true) rfl (by kernel_rfl) (by kernel_rfl) (by kernel_rfl) (fun _ _ _ h => h) (Or.inl ⟨by kernel_rfl, fun w' hSw => by (try dsimp only at hSw); go_simp⟩) (by assumption) ?_
                try simp only [Act.put, List.setIfInBounds_toArray, List.set_cons_zero, List.set_cons_succ]
                refine wpAnyH_done (by kernel_rfl) ?_ _
                refine NoPanic.normal ?_
                clear hHeld
                go_wp2_with fail
                go_ret
                exact ⟨rfl, K4.out.env.below⟩
end Go.Proofs.Yticbgikbpafeoaa
