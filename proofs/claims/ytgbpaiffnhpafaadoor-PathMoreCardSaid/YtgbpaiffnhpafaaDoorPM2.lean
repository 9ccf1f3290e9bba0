/- PathMore: the walk. -/
import Derived.Test.YtgbpaiffnhpafaaDoorN1
import Derived.Test.YtgbpaiffnhpafaaDoorM13
import Derived.Test.YtgbpaiffnhpafaaDoorM12
-- holds: YtgbpaiffnhpafaaDoorRb
namespace Go.Proofs.YtgbpaiffnhpafaaDoor
open Go.RowKit Go.Shelf

/-- A row taken when the world was Wc. -/
structure Taken (Wc W : World) (v : Value) (n : Nat) (es : List Ed) : Prop where
  own : W.ownsRow Wc.heap.size 53 3 v n (cellsE es)
  below : Below Wc.heap.size Wc W
theorem Taken.on {Wc W W' : World} {v : Value} {n : Nat} {es : List Ed} (h : Taken Wc W v n es) (hb : Below W.heap.size W W') : Taken Wc W' v n es := ⟨own_below2 h.own hb (Nat.le_refl _), h.below.trans (hb.mono h.below.size)⟩
theorem slice_new (w : World) (p : Ed) : Reads (w.alloc (.cells #[.int .i64 p.1, .int .i64 p.2.1, .int .i64 p.2.2] 53)) (w.alloc (.cells #[.int .i64 p.1, .int .i64 p.2.1, .int .i64 p.2.2] 53)).heap.size 3 (some ⟨w.heap.size, 0, none⟩) 1 (cellsE [p]) := (pair_one w p).more (by simp)

set_option maxRecDepth 100000 in
set_option maxHeartbeats 16000000 in
theorem pmore_core (nodes : Int) (A : Option Addr) (n c : Nat) (zs : List Ed) (f s ex ey ek : Int) (hc : A = none → c = 0) (hnc : n ≤ c) (hcm : c ≤ 9223372036854775807) (w : World) (hT : Bit.Tab w) (hR : Reads w w.heap.size 3 A n (cellsE zs)) :
    Calls Tryd.prog 8 #[.agg #[.int .i64 nodes, .slice A n c], .agg #[.int .i64 f, .int .i64 s], .agg #[.int .i64 ex, .int .i64 ey, .int .i64 ek]] w fun e w' => e = .returned (.bool true) ∧ Below w.heap.size w w' := by
  have E0 := Lib.hid ((Env.start w).add (g := ⟨nodes, A, n, c, zs⟩) ⟨hR, hnc, hcm, hc⟩)
  obtain ⟨gx, hgx⟩ : ∃ gx : GV, (⟨nodes, A, n, c, zs⟩ : GV) = gx := ⟨_, rfl⟩
  have hz : nodes = gx.z := by rw [← hgx]
  have hA : A = gx.A := by rw [← hgx]
  have hn : n = gx.n := by rw [← hgx]
  have hcc : c = gx.c := by rw [← hgx]
  rw [hgx] at E0
  subst hz; subst hA; subst hn; subst hcc
  have HT := Lib.hid hT
  have P0 := Lib.hid (Blk.new (w.alloc (.cells #[.int .i64 gx.z, .slice gx.A gx.n gx.c] 24)) 29 #[.int .i64 f, .int .i64 s])
  have Q0 := Lib.hid (Blk.new ((w.alloc (.cells #[.int .i64 gx.z, .slice gx.A gx.n gx.c] 24)).alloc (.cells #[.int .i64 f, .int .i64 s] 29)) 53 #[.int .i64 ex, .int .i64 ey, .int .i64 ek])
  have P00 := Lib.hid (P0.out.alloc (.cells #[.int .i64 ex, .int .i64 ey, .int .i64 ek] 53))
  have E00 := Lib.hid ((E0.out.alloc (.cells #[.int .i64 f, .int .i64 s] 29)).alloc (.cells #[.int .i64 ex, .int .i64 ey, .int .i64 ek] 53))
  rw [show (w.alloc (.cells #[.int .i64 gx.z, .slice gx.A gx.n gx.c] 24)).heap.size = w.heap.size + 1 by simp] at P00
  rw [show ((w.alloc (.cells #[.int .i64 gx.z, .slice gx.A gx.n gx.c] 24)).alloc (.cells #[.int .i64 f, .int .i64 s] 29)).heap.size = w.heap.size + 2 by simp] at Q0
  clear P0 E0
  clear hR hc hnc hcm hgx hT
  go_enter Tryd.func8, Tryd.ntmps8
  go_wp2_with fail
  generalize ((w.alloc (.cells #[.int .i64 gx.z, .slice gx.A gx.n gx.c] 24)).alloc (.cells #[.int .i64 f, .int .i64 s] 29)).alloc (.cells #[.int .i64 ex, .int .i64 ey, .int .i64 ek] 53) = W0 at *
  refine (wakes8_any _ (HT.out.on E00.out.below)).mono ?_
  rintro e w1 ⟨rfl, b⟩
  have E1 := Lib.hid (E00.out.on b)
  have P1 := Lib.hid (P00.out.below b P00.out.lt)
  have Q1 := Lib.hid (Q0.out.below b Q0.out.lt)
  clear b E00 P00 Q0
  have z0 := E1.out.c0 (.head _)
  have z1 := E1.out.c1 (.head _)
  go_wp2_with fail
  have ok1 := E1.out.ok (.head _)
  refine (own8_any gx.z gx.A gx.n gx.c gx.es ok1.2.2.2 ok1.2.1 ok1.2.2.1 w1 ok1.1).mono ?_
  clear ok1
  rintro e w2 hx
  obtain ⟨g, rfl, hz, he, okg, b⟩ := gis_gv hx
  have E3 := Lib.hid ((E1.out.on b).add okg)
  have P3 := Lib.hid ((P1.out.below b P1.out.lt).alloc (.cells #[.int .i64 g.z, .slice g.A g.n g.c] 24))
  have Q3 := Lib.hid ((Q1.out.below b Q1.out.lt).alloc (.cells #[.int .i64 g.z, .slice g.A g.n g.c] 24))
  have HN : Hid (g.n ≤ 300) := by
    show _ ≤ _
    have h1 := okg.len
    rw [he, List.length_take] at h1
    omega
  have HL : Hid (g.es.length = g.n) := okg.len
  clear hx hz he okg b E1 P1 Q1 z0 z1
  go_upto_region 4 with fail
  generalize w2.alloc (.cells #[.int .i64 g.z, .slice g.A g.n g.c] 24) = w3 at *
  generalize w2.heap.size = b3 at *
  obtain ⟨tz, tes, tk, hof, htk⟩ : ∃ (tz : Int) (tes : List Ed) (tk : Int), (∀ A5 c5 W, Reads W W.heap.size 3 A5 (g.n + 1) (cellsE (g.es ++ [(ex, ey, ek)])) → Calls Tryd.prog 32 #[.int .i64 g.z, .slice A5 (g.n + 1) c5] W (GErr tz tes tk W)) ∧
      (tk = 2 ∨ (tk = 0 ∧ tz = g.z ∧ tes = sorE (g.es ++ [(ex, ey, ek)]) ∧ mayN g.z = true ∧ ∀ p ∈ g.es ++ [(ex, ey, ek)], rightE g.z p = true)) := by
    have hn := HN.out
    cases h : (mayN g.z && (g.es ++ [(ex, ey, ek)]).all (rightE g.z))
    · exact ⟨0, [], 2, fun A5 c5 W hR => of_no g.z A5 (g.n + 1) c5 _ h (by omega) W hR, .inl rfl⟩
    · rw [Bool.and_eq_true, List.all_eq_true] at h
      exact ⟨g.z, _, 0, fun A5 c5 W hR => of_ok g.z A5 (g.n + 1) c5 _ h.1 h.2 (by omega) W hR, .inr ⟨rfl, rfl, rfl, h.1, h.2⟩⟩
  have HOF := Lib.hid hof
  have HTK := Lib.hid htk
  clear hof htk
  go_cut [8, 9] (fun s8 s9 wx => ∃ (T : GV) (X : Nat), s8 = .pointer (some ⟨X, 0, none⟩) ∧ s9 = .int .i64 tk ∧ Hid (T.z = tz ∧ T.es = tes) ∧ Hid (Env w3 [(X, T)] wx))
  case first =>
    have HE : Hid (∀ W, Below w3.heap.size w3 W → Env w [(b3, g), (w.heap.size, gx)] W ∧ Blk W (w.heap.size + 2) 53 #[.int .i64 ex, .int .i64 ey, .int .i64 ek]) := fun W h => ⟨E3.out.on h, Q3.out.below h Q3.out.lt⟩
    have E0 := Lib.hid (Env.start w3).drew
    have hgn := HN.out
    clear HL E3 P3 Q3 HTK HT
    refine wp_region_noPanic ?_
    refine wp_region_held_drew (S := fun w' => w'.cell? ⟨b3, 0, none⟩ = some (.int .i64 g.z) ∧ w'.cell? ⟨b3, 1, none⟩ = some (.slice g.A g.n g.c) ∧ w'.cell? ⟨w.heap.size + 2, 0, none⟩ = some (.int .i64 ex) ∧ w'.cell? ⟨w.heap.size + 2, 1, none⟩ = some (.int .i64 ey) ∧ w'.cell? ⟨w.heap.size + 2, 2, none⟩ = some (.int .i64 ek)) (by kernel_rfl) (by have h := HE.out _ E0.out.below; exact ⟨h.1.c0 (.head _), h.1.c1 (.head _), h.2.cell 0, h.2.cell 1, h.2.cell 2⟩) (fun hHeld => ?_)
    generalize w3.drew = wd at *
    refine wpAnyH_take (i := 0) (oi := { dst := some 23, op := Op.fieldAddr 24 (Operand.tmp 7) 0, type := 0, pos := "outright.go:88", after := #[], guard := none }) (v := .pointer (some ⟨b3, 0, none⟩)) rfl (by kernel_rfl) (by kernel_rfl) (by kernel_rfl) (fun _ _ _ h => h) (Or.inl ⟨by kernel_rfl, fun w' hSw => by (try dsimp only at hSw); go_simp⟩) (by assumption) ?_
    try simp only [Act.put, List.setIfInBounds_toArray, List.set_cons_zero, List.set_cons_succ]
    refine wpAnyH_take (i := 1) (oi := { dst := some 24, op := Op.load 3 (Operand.tmp 23), type := 3, pos := "outright.go:88", after := #[{ on := 0, ground := Ground.data }], guard := none }) (v := .int .i64 g.z) rfl (by kernel_rfl) (by kernel_rfl) (by kernel_rfl) (fun _ _ _ h => h) (Or.inl ⟨by kernel_rfl, fun w' hSw => by (try dsimp only at hSw); go_simp⟩) (by assumption) ?_
    try simp only [Act.put, List.setIfInBounds_toArray, List.set_cons_zero, List.set_cons_succ]
    refine wpAnyH_take (i := 2) (oi := { dst := some 25, op := Op.fieldAddr 24 (Operand.tmp 7) 1, type := 0, pos := "outright.go:88", after := #[], guard := none }) (v := .pointer (some ⟨b3, 1, none⟩)) rfl (by kernel_rfl) (by kernel_rfl) (by kernel_rfl) (fun _ _ _ h => h) (Or.inl ⟨by kernel_rfl, fun w' hSw => by (try dsimp only at hSw); go_simp⟩) (by assumption) ?_
    try simp only [Act.put, List.setIfInBounds_toArray, List.set_cons_zero, List.set_cons_succ]
    refine wpAnyH_take (i := 3) (oi := { dst := some 26, op := Op.load 22 (Operand.tmp 25), type := 22, pos := "outright.go:88", after := #[{ on := 2, ground := Ground.data }], guard := none }) (v := .slice g.A g.n g.c) rfl (by kernel_rfl) (by kernel_rfl) (by kernel_rfl) (fun _ _ _ h => h) (Or.inl ⟨by kernel_rfl, fun w' hSw => by (try dsimp only at hSw); go_simp⟩) (by assumption) ?_
    try simp only [Act.put, List.setIfInBounds_toArray, List.set_cons_zero, List.set_cons_succ]
    refine wpAnyH_take (i := 5) (oi := { dst := some 28, op := Op.load 53 (Operand.tmp 5), type := 53, pos := "outright.go:88", after := #[], guard := none }) (v := .agg #[.int .i64 ex, .int .i64 ey, .int .i64 ek]) rfl (by kernel_rfl) (by kernel_rfl) (by kernel_rfl) (fun _ _ _ h => h) (Or.inl ⟨by kernel_rfl, fun w' hSw => by (try dsimp only at hSw); go_simp⟩) (by assumption) ?_
    try simp only [Act.put, List.setIfInBounds_toArray, List.set_cons_zero, List.set_cons_succ]
    refine wpAnyH_ready (rs := [4, 6, 12]) (by kernel_rfl) (by simp) ?_
    refine AllReadyH.cons (o := { dst := some 27, op := Op.call { callee := Callee.value (Operand.func 33), args := #[Operand.tmp 26], argTypes := #[22] }, type := 22, pos := "outright.go:88", after := #[{ on := 3, ground := Ground.data }], guard := none }) rfl (fun K hK => ?_) ?_
    · skip
      go_simp
      have okc := (HE.out _ E0.out.below).1.ok (.head _)
      refine (clone_any g.A g.n g.c g.es (by omega) okc.2.2.2 okc.2.1 _ okc.1).mono ?_
      rintro e u1 ⟨A4, c4, rfl, ho, h1, h2, bb⟩
      have TK1 := Lib.hid (Taken.mk ho bb)
      have EC := E0
      clear hHeld okc ho h1 h2 bb E0 
      refine hK.out _ _ (by have h := HE.out _ (EC.out.below.trans (TK1.out.below.mono EC.out.below.size)); exact ⟨h.1.c0 (.head _), h.1.c1 (.head _), h.2.cell 0, h.2.cell 1, h.2.cell 2⟩) (fun hHeld => ?_)
      clear hK K
      try simp only [Act.put, List.setIfInBounds_toArray, List.set_cons_zero, List.set_cons_succ]
      refine wpAnyH_ready (rs := [6, 12]) (by kernel_rfl) (by simp) ?_
      refine AllReadyH.cons (o := { dst := some 29, op := Op.buildSlice 22 1 #[(0, Operand.tmp 28)], type := 22, pos := "outright.go:88", after := #[{ on := 5, ground := Ground.data }], guard := none }) rfl (fun K hK => ?_) ?_
      · skip
        go_simp
        have bb : Below u1.heap.size u1 (u1.alloc (.cells #[.int .i64 ex, .int .i64 ey, .int .i64 ek] 53)) := (Below.refl _ _).alloc (Nat.le_refl _) _
        have TK2 := Lib.hid (TK1.out.on bb)
        have SL2 : Hid (Reads (u1.alloc (.cells #[.int .i64 ex, .int .i64 ey, .int .i64 ek] 53)) _ 3 (some ⟨u1.heap.size, 0, none⟩) 1 (cellsE [(ex, ey, ek)])) := slice_new u1 (ex, ey, ek)
        clear hHeld bb TK1
        refine hK.out _ _ (by have h := HE.out _ (EC.out.below.trans (TK2.out.below.mono EC.out.below.size)); exact ⟨h.1.c0 (.head _), h.1.c1 (.head _), h.2.cell 0, h.2.cell 1, h.2.cell 2⟩) (fun hHeld => ?_)
        clear hK K
        try simp only [Act.put, List.setIfInBounds_toArray, List.set_cons_zero, List.set_cons_succ]
        generalize u1.alloc (.cells #[.int .i64 ex, .int .i64 ey, .int .i64 ek] 53) = u2 at *
        generalize u1.heap.size = XS at *
        refine wpAnyH_ready (rs := [7, 12]) (by kernel_rfl) (by simp) ?_
        refine AllReadyH.cons (o := { dst := some 30, op := Op.call { callee := Callee.builtin Builtin.append, args := #[Operand.tmp 27, Operand.tmp 29], argTypes := #[22, 22] }, type := 22, pos := "outright.go:88", after := #[{ on := 4, ground := Ground.data }, { on := 6, ground := Ground.data }, { on := 4, ground := Ground.chain }], guard := none }) rfl (fun K hK => ?_) ?_
        · skip
          obtain ⟨i0, hi0, hz0, hz1, hz2⟩ := info_parts pair_info
          refine step_append_any _ rfl (.tmp 27) (.tmp 29) 22 rfl wd.heap.size 53 i0 _ 3 24 Tryd.underlying22 hi0 hz0 hz1 hz2 rfl (by decide) (.slice A4 g.n c4) g.n _ rfl TK2.out.own _ (some ⟨XS, 0, none⟩) 1 _ (cellsE [(ex, ey, ek)]) rfl SL2.out (cellsE_one _) (by unfold maxLen; omega) (by omega) TK2.out.below.size ?_
          intro v5 u3 hown5 hgrow5 _
          obtain ⟨A5, c5, rfl, h51, h52⟩ := own_form2 hown5
          rw [← cellsE_append] at hown5
          have bC : Below wd.heap.size wd u3 := TK2.out.below.grown hgrow5 TK2.out.below.size (fun kk hk => (TK2.out.own.lt kk hk).1)
          have E3 := Lib.hid (EC.out.on bC)
          have R3 := Lib.hid (reads_own hown5)
          clear hown5 hgrow5 bC h51 h52 hHeld TK2 SL2 EC hi0 hz0 hz1 hz2 
          refine hK.out _ _ (by have h := HE.out _ E3.out.below; exact ⟨h.1.c0 (.head _), h.1.c1 (.head _), h.2.cell 0, h.2.cell 1, h.2.cell 2⟩) (fun hHeld => ?_)
          clear hK K
          try simp only [Act.put, List.setIfInBounds_toArray, List.set_cons_zero, List.set_cons_succ]
          refine wpAnyH_ready (rs := [8, 12]) (by kernel_rfl) (by simp) ?_
          refine AllReadyH.cons (o := { dst := some 31, op := Op.call { callee := Callee.value (Operand.func 32), args := #[Operand.tmp 24, Operand.tmp 30], argTypes := #[3, 22] }, type := 61, pos := "outright.go:88", after := #[{ on := 1, ground := Ground.data }, { on := 7, ground := Ground.data }, { on := 7, ground := Ground.chain }], guard := none }) rfl (fun K hK => ?_) ?_
          · skip
            go_simp
            refine (HOF.out A5 c5 _ R3.out).mono ?_
            rintro e u4 hx
            obtain ⟨T, rfl, hz, he, okT, bb⟩ := gerr_gv hx
            have E4 := Lib.hid (E3.out.on bb)
            have O4 := Lib.hid okT
            have HT := Lib.hid (And.intro hz he)
            clear hx hz he okT bb hHeld R3 E3
            refine hK.out _ _ (by have h := HE.out _ E4.out.below; exact ⟨h.1.c0 (.head _), h.1.c1 (.head _), h.2.cell 0, h.2.cell 1, h.2.cell 2⟩) (fun hHeld => ?_)
            clear hK K
            try simp only [Act.put, List.setIfInBounds_toArray, List.set_cons_zero, List.set_cons_succ]
            refine wpAnyH_take (i := 9) (oi := { dst := some 22, op := Op.move (Operand.tmp 31), type := 61, pos := "outright.go:88", after := #[{ on := 8, ground := Ground.data }], guard := none }) (v := .tuple #[.agg #[.int .i64 T.z, .slice T.A T.n T.c], .int .i64 tk]) rfl (by kernel_rfl) (by kernel_rfl) (by kernel_rfl) (fun _ _ _ h => h) (Or.inl ⟨by kernel_rfl, fun w' hSw => by (try dsimp only at hSw); go_simp⟩) (by assumption) ?_
            try simp only [Act.put, List.setIfInBounds_toArray, List.set_cons_zero, List.set_cons_succ]
            refine wpAnyH_take (i := 10) (oi := { dst := some 32, op := Op.extract (Operand.tmp 22) 0, type := 24, pos := "outright.go:88", after := #[{ on := 9, ground := Ground.data }], guard := none }) (v := .agg #[.int .i64 T.z, .slice T.A T.n T.c]) rfl (by kernel_rfl) (by kernel_rfl) (by kernel_rfl) (fun _ _ _ h => h) (Or.inl ⟨by kernel_rfl, fun w' hSw => by (try dsimp only at hSw); go_simp⟩) (by assumption) ?_
            try simp only [Act.put, List.setIfInBounds_toArray, List.set_cons_zero, List.set_cons_succ]
            refine wpAnyH_take (i := 11) (oi := { dst := some 33, op := Op.extract (Operand.tmp 22) 1, type := 31, pos := "outright.go:88", after := #[{ on := 9, ground := Ground.data }, { on := 13, ground := Ground.gcOnly Departure.lateStores }], guard := none }) (v := .int .i64 tk) rfl (by kernel_rfl) (by kernel_rfl) (by kernel_rfl) (fun _ _ _ h => h) (Or.inl ⟨by kernel_rfl, fun w' hSw => by (try dsimp only at hSw); go_simp⟩) (by assumption) ?_
            try simp only [Act.put, List.setIfInBounds_toArray, List.set_cons_zero, List.set_cons_succ]
            refine wpAnyH_ready (rs := [12]) (by kernel_rfl) (by simp) ?_
            refine AllReadyH.cons (o := { dst := some 8, op := Op.alloc 24, type := 0, pos := "outright.go:88", after := #[], guard := none }) rfl (fun K hK => ?_) ?_
            · skip
              go_simp
              have bb : Below u4.heap.size u4 (u4.alloc (.cells #[.int .i64 0, .slice none 0 0] 24)) := (Below.refl _ _).alloc (Nat.le_refl _) _
              have E5 := Lib.hid (E4.out.on bb)
              have O5 := Lib.hid (O4.out.on bb)
              have Z5 := Lib.hid (Zer.new E4.out)
              clear hHeld bb E4 O4
              refine hK.out _ _ (by have h := HE.out _ E5.out.below; exact ⟨h.1.c0 (.head _), h.1.c1 (.head _), h.2.cell 0, h.2.cell 1, h.2.cell 2⟩) (fun hHeld => ?_)
              clear hK K
              try simp only [Act.put, List.setIfInBounds_toArray, List.set_cons_zero, List.set_cons_succ]
              generalize u4.alloc (.cells #[.int .i64 0, .slice none 0 0] 24) = u5 at *
              generalize u4.heap.size = XB at *
              refine wpAnyH_ready (rs := [13]) (by kernel_rfl) (by simp) ?_
              refine AllReadyH.cons (o := { dst := none, op := Op.store 24 (Operand.tmp 8) (Operand.tmp 32), type := 0, pos := "outright.go:88", after := #[{ on := 12, ground := Ground.data }, { on := 10, ground := Ground.data }, { on := 8, ground := Ground.chain }, { on := 0, ground := Ground.phase }, { on := 1, ground := Ground.phase }, { on := 2, ground := Ground.phase }, { on := 3, ground := Ground.phase }, { on := 4, ground := Ground.phase }, { on := 5, ground := Ground.phase }, { on := 6, ground := Ground.phase }, { on := 7, ground := Ground.phase }, { on := 8, ground := Ground.phase }, { on := 9, ground := Ground.phase }, { on := 10, ground := Ground.phase }, { on := 11, ground := Ground.textOnly Departure.lateStores }, { on := 12, ground := Ground.phase }], guard := none }) rfl (fun K hK => ?_) ?_
              · skip
                have y0 := Z5.out.1.cell 0
                have y1 := Z5.out.1.cell 1
                have f0 := Z5.out.1.frozen 0
                have f1 := Z5.out.1.frozen 1
                go_simp
                have E6 := Lib.hid (E5.out.put Z5.out O5.out)
                clear hHeld y0 y1 f0 f1 E5 Z5 O5
                refine hK.out _ _ (by have h := HE.out _ E6.out.below; exact ⟨h.1.c0 (.head _), h.1.c1 (.head _), h.2.cell 0, h.2.cell 1, h.2.cell 2⟩) (fun hHeld => ?_)
                clear hK K
                try simp only [Act.put, List.setIfInBounds_toArray, List.set_cons_zero, List.set_cons_succ]
                generalize (u5.setCell ⟨XB, 0, none⟩ (.int .i64 T.z)).setCell ⟨XB, 1, none⟩ (.slice T.A T.n T.c) = u6 at *
                refine wpAnyH_take (i := 14) (oi := { dst := some 9, op := Op.assign (Operand.tmp 33), type := 31, pos := "outright.go:88", after := #[{ on := 11, ground := Ground.data }, { on := 13, ground := Ground.chain }, { on := 0, ground := Ground.phase }, { on := 1, ground := Ground.phase }, { on := 2, ground := Ground.phase }, { on := 3, ground := Ground.phase }, { on := 4, ground := Ground.phase }, { on := 5, ground := Ground.phase }, { on := 6, ground := Ground.phase }, { on := 7, ground := Ground.phase }, { on := 8, ground := Ground.phase }, { on := 9, ground := Ground.phase }, { on := 10, ground := Ground.phase }, { on := 11, ground := Ground.phase }, { on := 12, ground := Ground.phase }, { on := 13, ground := Ground.phase }], guard := none }) (v := .int .i64 tk) rfl (by kernel_rfl) (by kernel_rfl) (by kernel_rfl) (fun _ _ _ h => h) (Or.inl ⟨by kernel_rfl, fun w' hSw => by (try dsimp only at hSw); go_simp⟩) (by assumption) ?_
                try simp only [Act.put, List.setIfInBounds_toArray, List.set_cons_zero, List.set_cons_succ]
                refine wpAnyH_done (by kernel_rfl) ?_ _
                refine NoPanic.normal ?_
                clear hHeld
                go_wp2_with fail
                go_meet
                exact ⟨T, XB, rfl, rfl, HT, E6⟩
              exact AllReadyH.nil
            exact AllReadyH.nil
          refine AllReadyH.cons (o := { dst := some 8, op := Op.alloc 24, type := 0, pos := "outright.go:88", after := #[], guard := none }) rfl (fun K hK => ?_) ?_
          · skip
            go_simp
            have bb : Below u3.heap.size u3 (u3.alloc (.cells #[.int .i64 0, .slice none 0 0] 24)) := (Below.refl _ _).alloc (Nat.le_refl _) _
            have E4 := Lib.hid (E3.out.on bb)
            have R4 := Lib.hid (R3.out.on bb)
            have Z4 := Lib.hid (Zer.new E3.out)
            clear hHeld bb E3 R3
            refine hK.out _ _ (by have h := HE.out _ E4.out.below; exact ⟨h.1.c0 (.head _), h.1.c1 (.head _), h.2.cell 0, h.2.cell 1, h.2.cell 2⟩) (fun hHeld => ?_)
            clear hK K
            try simp only [Act.put, List.setIfInBounds_toArray, List.set_cons_zero, List.set_cons_succ]
            generalize u3.alloc (.cells #[.int .i64 0, .slice none 0 0] 24) = u4 at *
            generalize u3.heap.size = XB at *
            refine wpAnyH_ready (rs := [8]) (by kernel_rfl) (by simp) ?_
            refine AllReadyH.cons (o := { dst := some 31, op := Op.call { callee := Callee.value (Operand.func 32), args := #[Operand.tmp 24, Operand.tmp 30], argTypes := #[3, 22] }, type := 61, pos := "outright.go:88", after := #[{ on := 1, ground := Ground.data }, { on := 7, ground := Ground.data }, { on := 7, ground := Ground.chain }], guard := none }) rfl (fun K hK => ?_) ?_
            · skip
              go_simp
              refine (HOF.out A5 c5 _ R4.out).mono ?_
              rintro e u5 hx
              obtain ⟨T, rfl, hz, he, okT, bb⟩ := gerr_gv hx
              have E5 := Lib.hid (E4.out.on bb)
              have Z5 := Lib.hid (Z4.out.on bb)
              have O5 := Lib.hid okT
              have HT := Lib.hid (And.intro hz he)
              clear hx hz he okT bb hHeld R4 E4 Z4
              refine hK.out _ _ (by have h := HE.out _ E5.out.below; exact ⟨h.1.c0 (.head _), h.1.c1 (.head _), h.2.cell 0, h.2.cell 1, h.2.cell 2⟩) (fun hHeld => ?_)
              clear hK K
              try simp only [Act.put, List.setIfInBounds_toArray, List.set_cons_zero, List.set_cons_succ]
              refine wpAnyH_take (i := 9) (oi := { dst := some 22, op := Op.move (Operand.tmp 31), type := 61, pos := "outright.go:88", after := #[{ on := 8, ground := Ground.data }], guard := none }) (v := .tuple #[.agg #[.int .i64 T.z, .slice T.A T.n T.c], .int .i64 tk]) rfl (by kernel_rfl) (by kernel_rfl) (by kernel_rfl) (fun _ _ _ h => h) (Or.inl ⟨by kernel_rfl, fun w' hSw => by (try dsimp only at hSw); go_simp⟩) (by assumption) ?_
              try simp only [Act.put, List.setIfInBounds_toArray, List.set_cons_zero, List.set_cons_succ]
              refine wpAnyH_take (i := 10) (oi := { dst := some 32, op := Op.extract (Operand.tmp 22) 0, type := 24, pos := "outright.go:88", after := #[{ on := 9, ground := Ground.data }], guard := none }) (v := .agg #[.int .i64 T.z, .slice T.A T.n T.c]) rfl (by kernel_rfl) (by kernel_rfl) (by kernel_rfl) (fun _ _ _ h => h) (Or.inl ⟨by kernel_rfl, fun w' hSw => by (try dsimp only at hSw); go_simp⟩) (by assumption) ?_
              try simp only [Act.put, List.setIfInBounds_toArray, List.set_cons_zero, List.set_cons_succ]
              refine wpAnyH_take (i := 11) (oi := { dst := some 33, op := Op.extract (Operand.tmp 22) 1, type := 31, pos := "outright.go:88", after := #[{ on := 9, ground := Ground.data }, { on := 13, ground := Ground.gcOnly Departure.lateStores }], guard := none }) (v := .int .i64 tk) rfl (by kernel_rfl) (by kernel_rfl) (by kernel_rfl) (fun _ _ _ h => h) (Or.inl ⟨by kernel_rfl, fun w' hSw => by (try dsimp only at hSw); go_simp⟩) (by assumption) ?_
              try simp only [Act.put, List.setIfInBounds_toArray, List.set_cons_zero, List.set_cons_succ]
              refine wpAnyH_ready (rs := [13]) (by kernel_rfl) (by simp) ?_
              refine AllReadyH.cons (o := { dst := none, op := Op.store 24 (Operand.tmp 8) (Operand.tmp 32), type := 0, pos := "outright.go:88", after := #[{ on := 12, ground := Ground.data }, { on := 10, ground := Ground.data }, { on := 8, ground := Ground.chain }, { on := 0, ground := Ground.phase }, { on := 1, ground := Ground.phase }, { on := 2, ground := Ground.phase }, { on := 3, ground := Ground.phase }, { on := 4, ground := Ground.phase }, { on := 5, ground := Ground.phase }, { on := 6, ground := Ground.phase }, { on := 7, ground := Ground.phase }, { on := 8, ground := Ground.phase }, { on := 9, ground := Ground.phase }, { on := 10, ground := Ground.phase }, { on := 11, ground := Ground.textOnly Departure.lateStores }, { on := 12, ground := Ground.phase }], guard := none }) rfl (fun K hK => ?_) ?_
              · skip
                have y0 := Z5.out.1.cell 0
                have y1 := Z5.out.1.cell 1
                have f0 := Z5.out.1.frozen 0
                have f1 := Z5.out.1.frozen 1
                go_simp
                have E6 := Lib.hid (E5.out.put Z5.out O5.out)
                clear hHeld y0 y1 f0 f1 E5 Z5 O5
                refine hK.out _ _ (by have h := HE.out _ E6.out.below; exact ⟨h.1.c0 (.head _), h.1.c1 (.head _), h.2.cell 0, h.2.cell 1, h.2.cell 2⟩) (fun hHeld => ?_)
                clear hK K
                try simp only [Act.put, List.setIfInBounds_toArray, List.set_cons_zero, List.set_cons_succ]
                generalize (u5.setCell ⟨XB, 0, none⟩ (.int .i64 T.z)).setCell ⟨XB, 1, none⟩ (.slice T.A T.n T.c) = u6 at *
                refine wpAnyH_take (i := 14) (oi := { dst := some 9, op := Op.assign (Operand.tmp 33), type := 31, pos := "outright.go:88", after := #[{ on := 11, ground := Ground.data }, { on := 13, ground := Ground.chain }, { on := 0, ground := Ground.phase }, { on := 1, ground := Ground.phase }, { on := 2, ground := Ground.phase }, { on := 3, ground := Ground.phase }, { on := 4, ground := Ground.phase }, { on := 5, ground := Ground.phase }, { on := 6, ground := Ground.phase }, { on := 7, ground := Ground.phase }, { on := 8, ground := Ground.phase }, { on := 9, ground := Ground.phase }, { on := 10, ground := Ground.phase }, { on := 11, ground := Ground.phase }, { on := 12, ground := Ground.phase }, { on := 13, ground := Ground.phase }], guard := none }) (v := .int .i64 tk) rfl (by kernel_rfl) (by kernel_rfl) (by kernel_rfl) (fun _ _ _ h => h) (Or.inl ⟨by kernel_rfl, fun w' hSw => by (try dsimp only at hSw); go_simp⟩) (by assumption) ?_
                try simp only [Act.put, List.setIfInBounds_toArray, List.set_cons_zero, List.set_cons_succ]
                refine wpAnyH_done (by kernel_rfl) ?_ _
                refine NoPanic.normal ?_
                clear hHeld
                go_wp2_with fail
                go_meet
                exact ⟨T, XB, rfl, rfl, HT, E6⟩
              exact AllReadyH.nil
            exact AllReadyH.nil
          exact AllReadyH.nil
        refine AllReadyH.cons (o := { dst := some 8, op := Op.alloc 24, type := 0, pos := "outright.go:88", after := #[], guard := none }) rfl (fun K hK => ?_) ?_
        · skip
          go_simp
          have bb : Below u2.heap.size u2 (u2.alloc (.cells #[.int .i64 0, .slice none 0 0] 24)) := (Below.refl _ _).alloc (Nat.le_refl _) _
          have TK3 := Lib.hid (TK2.out.on bb)
          have SL3 := Lib.hid (SL2.out.on bb)
          have Z3 := Lib.hid (Zer.new (EC.out.on TK2.out.below))
          have HD : Hid (∀ kk, (Value.slice A4 g.n c4).ownBlock = some kk → kk ≠ u2.heap.size) := fun kk hk => Nat.ne_of_lt (TK2.out.own.lt kk hk).2
          clear hHeld bb TK2 SL2
          refine hK.out _ _ (by have h := HE.out _ (EC.out.below.trans (TK3.out.below.mono EC.out.below.size)); exact ⟨h.1.c0 (.head _), h.1.c1 (.head _), h.2.cell 0, h.2.cell 1, h.2.cell 2⟩) (fun hHeld => ?_)
          clear hK K
          try simp only [Act.put, List.setIfInBounds_toArray, List.set_cons_zero, List.set_cons_succ]
          generalize u2.alloc (.cells #[.int .i64 0, .slice none 0 0] 24) = u3 at *
          generalize u2.heap.size = XB at *
          refine wpAnyH_ready (rs := [7]) (by kernel_rfl) (by simp) ?_
          refine AllReadyH.cons (o := { dst := some 30, op := Op.call { callee := Callee.builtin Builtin.append, args := #[Operand.tmp 27, Operand.tmp 29], argTypes := #[22, 22] }, type := 22, pos := "outright.go:88", after := #[{ on := 4, ground := Ground.data }, { on := 6, ground := Ground.data }, { on := 4, ground := Ground.chain }], guard := none }) rfl (fun K hK => ?_) ?_
          · skip
            obtain ⟨i0, hi0, hz0, hz1, hz2⟩ := info_parts pair_info
            refine step_append_any _ rfl (.tmp 27) (.tmp 29) 22 rfl wd.heap.size 53 i0 _ 3 24 Tryd.underlying22 hi0 hz0 hz1 hz2 rfl (by decide) (.slice A4 g.n c4) g.n _ rfl TK3.out.own _ (some ⟨XS, 0, none⟩) 1 _ (cellsE [(ex, ey, ek)]) rfl SL3.out (cellsE_one _) (by unfold maxLen; omega) (by omega) TK3.out.below.size ?_
            intro v5 u4 hown5 hgrow5 _
            obtain ⟨A5, c5, rfl, h51, h52⟩ := own_form2 hown5
            rw [← cellsE_append] at hown5
            have bC : Below wd.heap.size wd u4 := TK3.out.below.grown hgrow5 TK3.out.below.size (fun kk hk => (TK3.out.own.lt kk hk).1)
            have E4 := Lib.hid (EC.out.on bC)
            have R4 := Lib.hid (reads_own hown5)
            have Z4 : Hid (Zer w3 [] XB u4) := ⟨Z3.out.1.grown hgrow5 (fun e => HD.out _ (by first | exact e | exact e.symm) rfl), Z3.out.2⟩
            clear hown5 hgrow5 bC h51 h52 hHeld TK3 SL3 EC hi0 hz0 hz1 hz2 Z3 HD
            refine hK.out _ _ (by have h := HE.out _ E4.out.below; exact ⟨h.1.c0 (.head _), h.1.c1 (.head _), h.2.cell 0, h.2.cell 1, h.2.cell 2⟩) (fun hHeld => ?_)
            clear hK K
            try simp only [Act.put, List.setIfInBounds_toArray, List.set_cons_zero, List.set_cons_succ]
            refine wpAnyH_ready (rs := [8]) (by kernel_rfl) (by simp) ?_
            refine AllReadyH.cons (o := { dst := some 31, op := Op.call { callee := Callee.value (Operand.func 32), args := #[Operand.tmp 24, Operand.tmp 30], argTypes := #[3, 22] }, type := 61, pos := "outright.go:88", after := #[{ on := 1, ground := Ground.data }, { on := 7, ground := Ground.data }, { on := 7, ground := Ground.chain }], guard := none }) rfl (fun K hK => ?_) ?_
            · skip
              go_simp
              refine (HOF.out A5 c5 _ R4.out).mono ?_
              rintro e u5 hx
              obtain ⟨T, rfl, hz, he, okT, bb⟩ := gerr_gv hx
              have E5 := Lib.hid (E4.out.on bb)
              have Z5 := Lib.hid (Z4.out.on bb)
              have O5 := Lib.hid okT
              have HT := Lib.hid (And.intro hz he)
              clear hx hz he okT bb hHeld R4 E4 Z4
              refine hK.out _ _ (by have h := HE.out _ E5.out.below; exact ⟨h.1.c0 (.head _), h.1.c1 (.head _), h.2.cell 0, h.2.cell 1, h.2.cell 2⟩) (fun hHeld => ?_)
              clear hK K
              try simp only [Act.put, List.setIfInBounds_toArray, List.set_cons_zero, List.set_cons_succ]
              refine wpAnyH_take (i := 9) (oi := { dst := some 22, op := Op.move (Operand.tmp 31), type := 61, pos := "outright.go:88", after := #[{ on := 8, ground := Ground.data }], guard := none }) (v := .tuple #[.agg #[.int .i64 T.z, .slice T.A T.n T.c], .int .i64 tk]) rfl (by kernel_rfl) (by kernel_rfl) (by kernel_rfl) (fun _ _ _ h => h) (Or.inl ⟨by kernel_rfl, fun w' hSw => by (try dsimp only at hSw); go_simp⟩) (by assumption) ?_
              try simp only [Act.put, List.setIfInBounds_toArray, List.set_cons_zero, List.set_cons_succ]
              refine wpAnyH_take (i := 10) (oi := { dst := some 32, op := Op.extract (Operand.tmp 22) 0, type := 24, pos := "outright.go:88", after := #[{ on := 9, ground := Ground.data }], guard := none }) (v := .agg #[.int .i64 T.z, .slice T.A T.n T.c]) rfl (by kernel_rfl) (by kernel_rfl) (by kernel_rfl) (fun _ _ _ h => h) (Or.inl ⟨by kernel_rfl, fun w' hSw => by (try dsimp only at hSw); go_simp⟩) (by assumption) ?_
              try simp only [Act.put, List.setIfInBounds_toArray, List.set_cons_zero, List.set_cons_succ]
              refine wpAnyH_take (i := 11) (oi := { dst := some 33, op := Op.extract (Operand.tmp 22) 1, type := 31, pos := "outright.go:88", after := #[{ on := 9, ground := Ground.data }, { on := 13, ground := Ground.gcOnly Departure.lateStores }], guard := none }) (v := .int .i64 tk) rfl (by kernel_rfl) (by kernel_rfl) (by kernel_rfl) (fun _ _ _ h => h) (Or.inl ⟨by kernel_rfl, fun w' hSw => by (try dsimp only at hSw); go_simp⟩) (by assumption) ?_
              try simp only [Act.put, List.setIfInBounds_toArray, List.set_cons_zero, List.set_cons_succ]
              refine wpAnyH_ready (rs := [13]) (by kernel_rfl) (by simp) ?_
              refine AllReadyH.cons (o := { dst := none, op := Op.store 24 (Operand.tmp 8) (Operand.tmp 32), type := 0, pos := "outright.go:88", after := #[{ on := 12, ground := Ground.data }, { on := 10, ground := Ground.data }, { on := 8, ground := Ground.chain }, { on := 0, ground := Ground.phase }, { on := 1, ground := Ground.phase }, { on := 2, ground := Ground.phase }, { on := 3, ground := Ground.phase }, { on := 4, ground := Ground.phase }, { on := 5, ground := Ground.phase }, { on := 6, ground := Ground.phase }, { on := 7, ground := Ground.phase }, { on := 8, ground := Ground.phase }, { on := 9, ground := Ground.phase }, { on := 10, ground := Ground.phase }, { on := 11, ground := Ground.textOnly Departure.lateStores }, { on := 12, ground := Ground.phase }], guard := none }) rfl (fun K hK => ?_) ?_
              · skip
                have y0 := Z5.out.1.cell 0
                have y1 := Z5.out.1.cell 1
                have f0 := Z5.out.1.frozen 0
                have f1 := Z5.out.1.frozen 1
                go_simp
                have E6 := Lib.hid (E5.out.put Z5.out O5.out)
                clear hHeld y0 y1 f0 f1 E5 Z5 O5
                refine hK.out _ _ (by have h := HE.out _ E6.out.below; exact ⟨h.1.c0 (.head _), h.1.c1 (.head _), h.2.cell 0, h.2.cell 1, h.2.cell 2⟩) (fun hHeld => ?_)
                clear hK K
                try simp only [Act.put, List.setIfInBounds_toArray, List.set_cons_zero, List.set_cons_succ]
                generalize (u5.setCell ⟨XB, 0, none⟩ (.int .i64 T.z)).setCell ⟨XB, 1, none⟩ (.slice T.A T.n T.c) = u6 at *
                refine wpAnyH_take (i := 14) (oi := { dst := some 9, op := Op.assign (Operand.tmp 33), type := 31, pos := "outright.go:88", after := #[{ on := 11, ground := Ground.data }, { on := 13, ground := Ground.chain }, { on := 0, ground := Ground.phase }, { on := 1, ground := Ground.phase }, { on := 2, ground := Ground.phase }, { on := 3, ground := Ground.phase }, { on := 4, ground := Ground.phase }, { on := 5, ground := Ground.phase }, { on := 6, ground := Ground.phase }, { on := 7, ground := Ground.phase }, { on := 8, ground := Ground.phase }, { on := 9, ground := Ground.phase }, { on := 10, ground := Ground.phase }, { on := 11, ground := Ground.phase }, { on := 12, ground := Ground.phase }, { on := 13, ground := Ground.phase }], guard := none }) (v := .int .i64 tk) rfl (by kernel_rfl) (by kernel_rfl) (by kernel_rfl) (fun _ _ _ h => h) (Or.inl ⟨by kernel_rfl, fun w' hSw => by (try dsimp only at hSw); go_simp⟩) (by assumption) ?_
                try simp only [Act.put, List.setIfInBounds_toArray, List.set_cons_zero, List.set_cons_succ]
                refine wpAnyH_done (by kernel_rfl) ?_ _
                refine NoPanic.normal ?_
                clear hHeld
                go_wp2_with fail
                go_meet
                exact ⟨T, XB, rfl, rfl, HT, E6⟩
              exact AllReadyH.nil
            exact AllReadyH.nil
          exact AllReadyH.nil
        exact AllReadyH.nil
      refine AllReadyH.cons (o := { dst := some 8, op := Op.alloc 24, type := 0, pos := "outright.go:88", after := #[], guard := none }) rfl (fun K hK => ?_) ?_
      · skip
        go_simp
        have bb : Below u1.heap.size u1 (u1.alloc (.cells #[.int .i64 0, .slice none 0 0] 24)) := (Below.refl _ _).alloc (Nat.le_refl _) _
        have TK2 := Lib.hid (TK1.out.on bb)
        have Z2 := Lib.hid (Zer.new (EC.out.on TK1.out.below))
        have HD : Hid (∀ kk, (Value.slice A4 g.n c4).ownBlock = some kk → kk ≠ u1.heap.size) := fun kk hk => Nat.ne_of_lt (TK1.out.own.lt kk hk).2
        clear hHeld bb TK1
        refine hK.out _ _ (by have h := HE.out _ (EC.out.below.trans (TK2.out.below.mono EC.out.below.size)); exact ⟨h.1.c0 (.head _), h.1.c1 (.head _), h.2.cell 0, h.2.cell 1, h.2.cell 2⟩) (fun hHeld => ?_)
        clear hK K
        try simp only [Act.put, List.setIfInBounds_toArray, List.set_cons_zero, List.set_cons_succ]
        generalize u1.alloc (.cells #[.int .i64 0, .slice none 0 0] 24) = u2 at *
        generalize u1.heap.size = XB at *
        refine wpAnyH_ready (rs := [6]) (by kernel_rfl) (by simp) ?_
        refine AllReadyH.cons (o := { dst := some 29, op := Op.buildSlice 22 1 #[(0, Operand.tmp 28)], type := 22, pos := "outright.go:88", after := #[{ on := 5, ground := Ground.data }], guard := none }) rfl (fun K hK => ?_) ?_
        · skip
          go_simp
          have bb : Below u2.heap.size u2 (u2.alloc (.cells #[.int .i64 ex, .int .i64 ey, .int .i64 ek] 53)) := (Below.refl _ _).alloc (Nat.le_refl _) _
          have TK3 := Lib.hid (TK2.out.on bb)
          have Z3 := Lib.hid (Z2.out.on bb)
          have SL3 : Hid (Reads (u2.alloc (.cells #[.int .i64 ex, .int .i64 ey, .int .i64 ek] 53)) _ 3 (some ⟨u2.heap.size, 0, none⟩) 1 (cellsE [(ex, ey, ek)])) := slice_new u2 (ex, ey, ek)
          clear hHeld bb TK2 Z2
          refine hK.out _ _ (by have h := HE.out _ (EC.out.below.trans (TK3.out.below.mono EC.out.below.size)); exact ⟨h.1.c0 (.head _), h.1.c1 (.head _), h.2.cell 0, h.2.cell 1, h.2.cell 2⟩) (fun hHeld => ?_)
          clear hK K
          try simp only [Act.put, List.setIfInBounds_toArray, List.set_cons_zero, List.set_cons_succ]
          generalize u2.alloc (.cells #[.int .i64 ex, .int .i64 ey, .int .i64 ek] 53) = u3 at *
          generalize u2.heap.size = XS at *
          refine wpAnyH_ready (rs := [7]) (by kernel_rfl) (by simp) ?_
          refine AllReadyH.cons (o := { dst := some 30, op := Op.call { callee := Callee.builtin Builtin.append, args := #[Operand.tmp 27, Operand.tmp 29], argTypes := #[22, 22] }, type := 22, pos := "outright.go:88", after := #[{ on := 4, ground := Ground.data }, { on := 6, ground := Ground.data }, { on := 4, ground := Ground.chain }], guard := none }) rfl (fun K hK => ?_) ?_
          · skip
            obtain ⟨i0, hi0, hz0, hz1, hz2⟩ := info_parts pair_info
            refine step_append_any _ rfl (.tmp 27) (.tmp 29) 22 rfl wd.heap.size 53 i0 _ 3 24 Tryd.underlying22 hi0 hz0 hz1 hz2 rfl (by decide) (.slice A4 g.n c4) g.n _ rfl TK3.out.own _ (some ⟨XS, 0, none⟩) 1 _ (cellsE [(ex, ey, ek)]) rfl SL3.out (cellsE_one _) (by unfold maxLen; omega) (by omega) TK3.out.below.size ?_
            intro v5 u4 hown5 hgrow5 _
            obtain ⟨A5, c5, rfl, h51, h52⟩ := own_form2 hown5
            rw [← cellsE_append] at hown5
            have bC : Below wd.heap.size wd u4 := TK3.out.below.grown hgrow5 TK3.out.below.size (fun kk hk => (TK3.out.own.lt kk hk).1)
            have E4 := Lib.hid (EC.out.on bC)
            have R4 := Lib.hid (reads_own hown5)
            have Z4 : Hid (Zer w3 [] XB u4) := ⟨Z3.out.1.grown hgrow5 (fun e => HD.out _ (by first | exact e | exact e.symm) rfl), Z3.out.2⟩
            clear hown5 hgrow5 bC h51 h52 hHeld TK3 SL3 EC hi0 hz0 hz1 hz2 Z3 HD
            refine hK.out _ _ (by have h := HE.out _ E4.out.below; exact ⟨h.1.c0 (.head _), h.1.c1 (.head _), h.2.cell 0, h.2.cell 1, h.2.cell 2⟩) (fun hHeld => ?_)
            clear hK K
            try simp only [Act.put, List.setIfInBounds_toArray, List.set_cons_zero, List.set_cons_succ]
            refine wpAnyH_ready (rs := [8]) (by kernel_rfl) (by simp) ?_
            refine AllReadyH.cons (o := { dst := some 31, op := Op.call { callee := Callee.value (Operand.func 32), args := #[Operand.tmp 24, Operand.tmp 30], argTypes := #[3, 22] }, type := 61, pos := "outright.go:88", after := #[{ on := 1, ground := Ground.data }, { on := 7, ground := Ground.data }, { on := 7, ground := Ground.chain }], guard := none }) rfl (fun K hK => ?_) ?_
            · skip
              go_simp
              refine (HOF.out A5 c5 _ R4.out).mono ?_
              rintro e u5 hx
              obtain ⟨T, rfl, hz, he, okT, bb⟩ := gerr_gv hx
              have E5 := Lib.hid (E4.out.on bb)
              have Z5 := Lib.hid (Z4.out.on bb)
              have O5 := Lib.hid okT
              have HT := Lib.hid (And.intro hz he)
              clear hx hz he okT bb hHeld R4 E4 Z4
              refine hK.out _ _ (by have h := HE.out _ E5.out.below; exact ⟨h.1.c0 (.head _), h.1.c1 (.head _), h.2.cell 0, h.2.cell 1, h.2.cell 2⟩) (fun hHeld => ?_)
              clear hK K
              try simp only [Act.put, List.setIfInBounds_toArray, List.set_cons_zero, List.set_cons_succ]
              refine wpAnyH_take (i := 9) (oi := { dst := some 22, op := Op.move (Operand.tmp 31), type := 61, pos := "outright.go:88", after := #[{ on := 8, ground := Ground.data }], guard := none }) (v := .tuple #[.agg #[.int .i64 T.z, .slice T.A T.n T.c], .int .i64 tk]) rfl (by kernel_rfl) (by kernel_rfl) (by kernel_rfl) (fun _ _ _ h => h) (Or.inl ⟨by kernel_rfl, fun w' hSw => by (try dsimp only at hSw); go_simp⟩) (by assumption) ?_
              try simp only [Act.put, List.setIfInBounds_toArray, List.set_cons_zero, List.set_cons_succ]
              refine wpAnyH_take (i := 10) (oi := { dst := some 32, op := Op.extract (Operand.tmp 22) 0, type := 24, pos := "outright.go:88", after := #[{ on := 9, ground := Ground.data }], guard := none }) (v := .agg #[.int .i64 T.z, .slice T.A T.n T.c]) rfl (by kernel_rfl) (by kernel_rfl) (by kernel_rfl) (fun _ _ _ h => h) (Or.inl ⟨by kernel_rfl, fun w' hSw => by (try dsimp only at hSw); go_simp⟩) (by assumption) ?_
              try simp only [Act.put, List.setIfInBounds_toArray, List.set_cons_zero, List.set_cons_succ]
              refine wpAnyH_take (i := 11) (oi := { dst := some 33, op := Op.extract (Operand.tmp 22) 1, type := 31, pos := "outright.go:88", after := #[{ on := 9, ground := Ground.data }, { on := 13, ground := Ground.gcOnly Departure.lateStores }], guard := none }) (v := .int .i64 tk) rfl (by kernel_rfl) (by kernel_rfl) (by kernel_rfl) (fun _ _ _ h => h) (Or.inl ⟨by kernel_rfl, fun w' hSw => by (try dsimp only at hSw); go_simp⟩) (by assumption) ?_
              try simp only [Act.put, List.setIfInBounds_toArray, List.set_cons_zero, List.set_cons_succ]
              refine wpAnyH_ready (rs := [13]) (by kernel_rfl) (by simp) ?_
              refine AllReadyH.cons (o := { dst := none, op := Op.store 24 (Operand.tmp 8) (Operand.tmp 32), type := 0, pos := "outright.go:88", after := #[{ on := 12, ground := Ground.data }, { on := 10, ground := Ground.data }, { on := 8, ground := Ground.chain }, { on := 0, ground := Ground.phase }, { on := 1, ground := Ground.phase }, { on := 2, ground := Ground.phase }, { on := 3, ground := Ground.phase }, { on := 4, ground := Ground.phase }, { on := 5, ground := Ground.phase }, { on := 6, ground := Ground.phase }, { on := 7, ground := Ground.phase }, { on := 8, ground := Ground.phase }, { on := 9, ground := Ground.phase }, { on := 10, ground := Ground.phase }, { on := 11, ground := Ground.textOnly Departure.lateStores }, { on := 12, ground := Ground.phase }], guard := none }) rfl (fun K hK => ?_) ?_
              · skip
                have y0 := Z5.out.1.cell 0
                have y1 := Z5.out.1.cell 1
                have f0 := Z5.out.1.frozen 0
                have f1 := Z5.out.1.frozen 1
                go_simp
                have E6 := Lib.hid (E5.out.put Z5.out O5.out)
                clear hHeld y0 y1 f0 f1 E5 Z5 O5
                refine hK.out _ _ (by have h := HE.out _ E6.out.below; exact ⟨h.1.c0 (.head _), h.1.c1 (.head _), h.2.cell 0, h.2.cell 1, h.2.cell 2⟩) (fun hHeld => ?_)
                clear hK K
                try simp only [Act.put, List.setIfInBounds_toArray, List.set_cons_zero, List.set_cons_succ]
                generalize (u5.setCell ⟨XB, 0, none⟩ (.int .i64 T.z)).setCell ⟨XB, 1, none⟩ (.slice T.A T.n T.c) = u6 at *
                refine wpAnyH_take (i := 14) (oi := { dst := some 9, op := Op.assign (Operand.tmp 33), type := 31, pos := "outright.go:88", after := #[{ on := 11, ground := Ground.data }, { on := 13, ground := Ground.chain }, { on := 0, ground := Ground.phase }, { on := 1, ground := Ground.phase }, { on := 2, ground := Ground.phase }, { on := 3, ground := Ground.phase }, { on := 4, ground := Ground.phase }, { on := 5, ground := Ground.phase }, { on := 6, ground := Ground.phase }, { on := 7, ground := Ground.phase }, { on := 8, ground := Ground.phase }, { on := 9, ground := Ground.phase }, { on := 10, ground := Ground.phase }, { on := 11, ground := Ground.phase }, { on := 12, ground := Ground.phase }, { on := 13, ground := Ground.phase }], guard := none }) (v := .int .i64 tk) rfl (by kernel_rfl) (by kernel_rfl) (by kernel_rfl) (fun _ _ _ h => h) (Or.inl ⟨by kernel_rfl, fun w' hSw => by (try dsimp only at hSw); go_simp⟩) (by assumption) ?_
                try simp only [Act.put, List.setIfInBounds_toArray, List.set_cons_zero, List.set_cons_succ]
                refine wpAnyH_done (by kernel_rfl) ?_ _
                refine NoPanic.normal ?_
                clear hHeld
                go_wp2_with fail
                go_meet
                exact ⟨T, XB, rfl, rfl, HT, E6⟩
              exact AllReadyH.nil
            exact AllReadyH.nil
          exact AllReadyH.nil
        exact AllReadyH.nil
      exact AllReadyH.nil
    refine AllReadyH.cons (o := { dst := some 29, op := Op.buildSlice 22 1 #[(0, Operand.tmp 28)], type := 22, pos := "outright.go:88", after := #[{ on := 5, ground := Ground.data }], guard := none }) rfl (fun K hK => ?_) ?_
    · skip
      go_simp
      have bb : Below wd.heap.size wd (wd.alloc (.cells #[.int .i64 ex, .int .i64 ey, .int .i64 ek] 53)) := (Below.refl _ _).alloc (Nat.le_refl _) _
      have E1 := Lib.hid (E0.out.on bb)
      have SL1 : Hid (Reads (wd.alloc (.cells #[.int .i64 ex, .int .i64 ey, .int .i64 ek] 53)) _ 3 (some ⟨wd.heap.size, 0, none⟩) 1 (cellsE [(ex, ey, ek)])) := slice_new wd (ex, ey, ek)
      clear hHeld bb E0
      refine hK.out _ _ (by have h := HE.out _ E1.out.below; exact ⟨h.1.c0 (.head _), h.1.c1 (.head _), h.2.cell 0, h.2.cell 1, h.2.cell 2⟩) (fun hHeld => ?_)
      clear hK K
      try simp only [Act.put, List.setIfInBounds_toArray, List.set_cons_zero, List.set_cons_succ]
      generalize wd.alloc (.cells #[.int .i64 ex, .int .i64 ey, .int .i64 ek] 53) = u1 at *
      generalize wd.heap.size = XS at *
      refine wpAnyH_ready (rs := [4, 12]) (by kernel_rfl) (by simp) ?_
      refine AllReadyH.cons (o := { dst := some 27, op := Op.call { callee := Callee.value (Operand.func 33), args := #[Operand.tmp 26], argTypes := #[22] }, type := 22, pos := "outright.go:88", after := #[{ on := 3, ground := Ground.data }], guard := none }) rfl (fun K hK => ?_) ?_
      · skip
        go_simp
        have okc := (HE.out _ E1.out.below).1.ok (.head _)
        refine (clone_any g.A g.n g.c g.es (by omega) okc.2.2.2 okc.2.1 _ okc.1).mono ?_
        rintro e u2 ⟨A4, c4, rfl, ho, h1, h2, bb⟩
        have SL2 := Lib.hid (SL1.out.on bb)
        have TK2 := Lib.hid (Taken.mk ho bb)
        have EC := E1
        clear hHeld okc ho h1 h2 bb E1 SL1
        refine hK.out _ _ (by have h := HE.out _ (EC.out.below.trans (TK2.out.below.mono EC.out.below.size)); exact ⟨h.1.c0 (.head _), h.1.c1 (.head _), h.2.cell 0, h.2.cell 1, h.2.cell 2⟩) (fun hHeld => ?_)
        clear hK K
        try simp only [Act.put, List.setIfInBounds_toArray, List.set_cons_zero, List.set_cons_succ]
        refine wpAnyH_ready (rs := [7, 12]) (by kernel_rfl) (by simp) ?_
        refine AllReadyH.cons (o := { dst := some 30, op := Op.call { callee := Callee.builtin Builtin.append, args := #[Operand.tmp 27, Operand.tmp 29], argTypes := #[22, 22] }, type := 22, pos := "outright.go:88", after := #[{ on := 4, ground := Ground.data }, { on := 6, ground := Ground.data }, { on := 4, ground := Ground.chain }], guard := none }) rfl (fun K hK => ?_) ?_
        · skip
          obtain ⟨i0, hi0, hz0, hz1, hz2⟩ := info_parts pair_info
          refine step_append_any _ rfl (.tmp 27) (.tmp 29) 22 rfl u1.heap.size 53 i0 _ 3 24 Tryd.underlying22 hi0 hz0 hz1 hz2 rfl (by decide) (.slice A4 g.n c4) g.n _ rfl TK2.out.own _ (some ⟨XS, 0, none⟩) 1 _ (cellsE [(ex, ey, ek)]) rfl SL2.out (cellsE_one _) (by unfold maxLen; omega) (by omega) TK2.out.below.size ?_
          intro v5 u3 hown5 hgrow5 _
          obtain ⟨A5, c5, rfl, h51, h52⟩ := own_form2 hown5
          rw [← cellsE_append] at hown5
          have bC : Below u1.heap.size u1 u3 := TK2.out.below.grown hgrow5 TK2.out.below.size (fun kk hk => (TK2.out.own.lt kk hk).1)
          have E3 := Lib.hid (EC.out.on bC)
          have R3 := Lib.hid (reads_own hown5)
          clear hown5 hgrow5 bC h51 h52 hHeld TK2 SL2 EC hi0 hz0 hz1 hz2 
          refine hK.out _ _ (by have h := HE.out _ E3.out.below; exact ⟨h.1.c0 (.head _), h.1.c1 (.head _), h.2.cell 0, h.2.cell 1, h.2.cell 2⟩) (fun hHeld => ?_)
          clear hK K
          try simp only [Act.put, List.setIfInBounds_toArray, List.set_cons_zero, List.set_cons_succ]
          refine wpAnyH_ready (rs := [8, 12]) (by kernel_rfl) (by simp) ?_
          refine AllReadyH.cons (o := { dst := some 31, op := Op.call { callee := Callee.value (Operand.func 32), args := #[Operand.tmp 24, Operand.tmp 30], argTypes := #[3, 22] }, type := 61, pos := "outright.go:88", after := #[{ on := 1, ground := Ground.data }, { on := 7, ground := Ground.data }, { on := 7, ground := Ground.chain }], guard := none }) rfl (fun K hK => ?_) ?_
          · skip
            go_simp
            refine (HOF.out A5 c5 _ R3.out).mono ?_
            rintro e u4 hx
            obtain ⟨T, rfl, hz, he, okT, bb⟩ := gerr_gv hx
            have E4 := Lib.hid (E3.out.on bb)
            have O4 := Lib.hid okT
            have HT := Lib.hid (And.intro hz he)
            clear hx hz he okT bb hHeld R3 E3
            refine hK.out _ _ (by have h := HE.out _ E4.out.below; exact ⟨h.1.c0 (.head _), h.1.c1 (.head _), h.2.cell 0, h.2.cell 1, h.2.cell 2⟩) (fun hHeld => ?_)
            clear hK K
            try simp only [Act.put, List.setIfInBounds_toArray, List.set_cons_zero, List.set_cons_succ]
            refine wpAnyH_take (i := 9) (oi := { dst := some 22, op := Op.move (Operand.tmp 31), type := 61, pos := "outright.go:88", after := #[{ on := 8, ground := Ground.data }], guard := none }) (v := .tuple #[.agg #[.int .i64 T.z, .slice T.A T.n T.c], .int .i64 tk]) rfl (by kernel_rfl) (by kernel_rfl) (by kernel_rfl) (fun _ _ _ h => h) (Or.inl ⟨by kernel_rfl, fun w' hSw => by (try dsimp only at hSw); go_simp⟩) (by assumption) ?_
            try simp only [Act.put, List.setIfInBounds_toArray, List.set_cons_zero, List.set_cons_succ]
            refine wpAnyH_take (i := 10) (oi := { dst := some 32, op := Op.extract (Operand.tmp 22) 0, type := 24, pos := "outright.go:88", after := #[{ on := 9, ground := Ground.data }], guard := none }) (v := .agg #[.int .i64 T.z, .slice T.A T.n T.c]) rfl (by kernel_rfl) (by kernel_rfl) (by kernel_rfl) (fun _ _ _ h => h) (Or.inl ⟨by kernel_rfl, fun w' hSw => by (try dsimp only at hSw); go_simp⟩) (by assumption) ?_
            try simp only [Act.put, List.setIfInBounds_toArray, List.set_cons_zero, List.set_cons_succ]
            refine wpAnyH_take (i := 11) (oi := { dst := some 33, op := Op.extract (Operand.tmp 22) 1, type := 31, pos := "outright.go:88", after := #[{ on := 9, ground := Ground.data }, { on := 13, ground := Ground.gcOnly Departure.lateStores }], guard := none }) (v := .int .i64 tk) rfl (by kernel_rfl) (by kernel_rfl) (by kernel_rfl) (fun _ _ _ h => h) (Or.inl ⟨by kernel_rfl, fun w' hSw => by (try dsimp only at hSw); go_simp⟩) (by assumption) ?_
            try simp only [Act.put, List.setIfInBounds_toArray, List.set_cons_zero, List.set_cons_succ]
            refine wpAnyH_ready (rs := [12]) (by kernel_rfl) (by simp) ?_
            refine AllReadyH.cons (o := { dst := some 8, op := Op.alloc 24, type := 0, pos := "outright.go:88", after := #[], guard := none }) rfl (fun K hK => ?_) ?_
            · skip
              go_simp
              have bb : Below u4.heap.size u4 (u4.alloc (.cells #[.int .i64 0, .slice none 0 0] 24)) := (Below.refl _ _).alloc (Nat.le_refl _) _
              have E5 := Lib.hid (E4.out.on bb)
              have O5 := Lib.hid (O4.out.on bb)
              have Z5 := Lib.hid (Zer.new E4.out)
              clear hHeld bb E4 O4
              refine hK.out _ _ (by have h := HE.out _ E5.out.below; exact ⟨h.1.c0 (.head _), h.1.c1 (.head _), h.2.cell 0, h.2.cell 1, h.2.cell 2⟩) (fun hHeld => ?_)
              clear hK K
              try simp only [Act.put, List.setIfInBounds_toArray, List.set_cons_zero, List.set_cons_succ]
              generalize u4.alloc (.cells #[.int .i64 0, .slice none 0 0] 24) = u5 at *
              generalize u4.heap.size = XB at *
              refine wpAnyH_ready (rs := [13]) (by kernel_rfl) (by simp) ?_
              refine AllReadyH.cons (o := { dst := none, op := Op.store 24 (Operand.tmp 8) (Operand.tmp 32), type := 0, pos := "outright.go:88", after := #[{ on := 12, ground := Ground.data }, { on := 10, ground := Ground.data }, { on := 8, ground := Ground.chain }, { on := 0, ground := Ground.phase }, { on := 1, ground := Ground.phase }, { on := 2, ground := Ground.phase }, { on := 3, ground := Ground.phase }, { on := 4, ground := Ground.phase }, { on := 5, ground := Ground.phase }, { on := 6, ground := Ground.phase }, { on := 7, ground := Ground.phase }, { on := 8, ground := Ground.phase }, { on := 9, ground := Ground.phase }, { on := 10, ground := Ground.phase }, { on := 11, ground := Ground.textOnly Departure.lateStores }, { on := 12, ground := Ground.phase }], guard := none }) rfl (fun K hK => ?_) ?_
              · skip
                have y0 := Z5.out.1.cell 0
                have y1 := Z5.out.1.cell 1
                have f0 := Z5.out.1.frozen 0
                have f1 := Z5.out.1.frozen 1
                go_simp
                have E6 := Lib.hid (E5.out.put Z5.out O5.out)
                clear hHeld y0 y1 f0 f1 E5 Z5 O5
                refine hK.out _ _ (by have h := HE.out _ E6.out.below; exact ⟨h.1.c0 (.head _), h.1.c1 (.head _), h.2.cell 0, h.2.cell 1, h.2.cell 2⟩) (fun hHeld => ?_)
                clear hK K
                try simp only [Act.put, List.setIfInBounds_toArray, List.set_cons_zero, List.set_cons_succ]
                generalize (u5.setCell ⟨XB, 0, none⟩ (.int .i64 T.z)).setCell ⟨XB, 1, none⟩ (.slice T.A T.n T.c) = u6 at *
                refine wpAnyH_take (i := 14) (oi := { dst := some 9, op := Op.assign (Operand.tmp 33), type := 31, pos := "outright.go:88", after := #[{ on := 11, ground := Ground.data }, { on := 13, ground := Ground.chain }, { on := 0, ground := Ground.phase }, { on := 1, ground := Ground.phase }, { on := 2, ground := Ground.phase }, { on := 3, ground := Ground.phase }, { on := 4, ground := Ground.phase }, { on := 5, ground := Ground.phase }, { on := 6, ground := Ground.phase }, { on := 7, ground := Ground.phase }, { on := 8, ground := Ground.phase }, { on := 9, ground := Ground.phase }, { on := 10, ground := Ground.phase }, { on := 11, ground := Ground.phase }, { on := 12, ground := Ground.phase }, { on := 13, ground := Ground.phase }], guard := none }) (v := .int .i64 tk) rfl (by kernel_rfl) (by kernel_rfl) (by kernel_rfl) (fun _ _ _ h => h) (Or.inl ⟨by kernel_rfl, fun w' hSw => by (try dsimp only at hSw); go_simp⟩) (by assumption) ?_
                try simp only [Act.put, List.setIfInBounds_toArray, List.set_cons_zero, List.set_cons_succ]
                refine wpAnyH_done (by kernel_rfl) ?_ _
                refine NoPanic.normal ?_
                clear hHeld
                go_wp2_with fail
                go_meet
                exact ⟨T, XB, rfl, rfl, HT, E6⟩
              exact AllReadyH.nil
            exact AllReadyH.nil
          refine AllReadyH.cons (o := { dst := some 8, op := Op.alloc 24, type := 0, pos := "outright.go:88", after := #[], guard := none }) rfl (fun K hK => ?_) ?_
          · skip
            go_simp
            have bb : Below u3.heap.size u3 (u3.alloc (.cells #[.int .i64 0, .slice none 0 0] 24)) := (Below.refl _ _).alloc (Nat.le_refl _) _
            have E4 := Lib.hid (E3.out.on bb)
            have R4 := Lib.hid (R3.out.on bb)
            have Z4 := Lib.hid (Zer.new E3.out)
            clear hHeld bb E3 R3
            refine hK.out _ _ (by have h := HE.out _ E4.out.below; exact ⟨h.1.c0 (.head _), h.1.c1 (.head _), h.2.cell 0, h.2.cell 1, h.2.cell 2⟩) (fun hHeld => ?_)
            clear hK K
            try simp only [Act.put, List.setIfInBounds_toArray, List.set_cons_zero, List.set_cons_succ]
            generalize u3.alloc (.cells #[.int .i64 0, .slice none 0 0] 24) = u4 at *
            generalize u3.heap.size = XB at *
            refine wpAnyH_ready (rs := [8]) (by kernel_rfl) (by simp) ?_
            refine AllReadyH.cons (o := { dst := some 31, op := Op.call { callee := Callee.value (Operand.func 32), args := #[Operand.tmp 24, Operand.tmp 30], argTypes := #[3, 22] }, type := 61, pos := "outright.go:88", after := #[{ on := 1, ground := Ground.data }, { on := 7, ground := Ground.data }, { on := 7, ground := Ground.chain }], guard := none }) rfl (fun K hK => ?_) ?_
            · skip
              go_simp
              refine (HOF.out A5 c5 _ R4.out).mono ?_
              rintro e u5 hx
              obtain ⟨T, rfl, hz, he, okT, bb⟩ := gerr_gv hx
              have E5 := Lib.hid (E4.out.on bb)
              have Z5 := Lib.hid (Z4.out.on bb)
              have O5 := Lib.hid okT
              have HT := Lib.hid (And.intro hz he)
              clear hx hz he okT bb hHeld R4 E4 Z4
              refine hK.out _ _ (by have h := HE.out _ E5.out.below; exact ⟨h.1.c0 (.head _), h.1.c1 (.head _), h.2.cell 0, h.2.cell 1, h.2.cell 2⟩) (fun hHeld => ?_)
              clear hK K
              try simp only [Act.put, List.setIfInBounds_toArray, List.set_cons_zero, List.set_cons_succ]
              refine wpAnyH_take (i := 9) (oi := { dst := some 22, op := Op.move (Operand.tmp 31), type := 61, pos := "outright.go:88", after := #[{ on := 8, ground := Ground.data }], guard := none }) (v := .tuple #[.agg #[.int .i64 T.z, .slice T.A T.n T.c], .int .i64 tk]) rfl (by kernel_rfl) (by kernel_rfl) (by kernel_rfl) (fun _ _ _ h => h) (Or.inl ⟨by kernel_rfl, fun w' hSw => by (try dsimp only at hSw); go_simp⟩) (by assumption) ?_
              try simp only [Act.put, List.setIfInBounds_toArray, List.set_cons_zero, List.set_cons_succ]
              refine wpAnyH_take (i := 10) (oi := { dst := some 32, op := Op.extract (Operand.tmp 22) 0, type := 24, pos := "outright.go:88", after := #[{ on := 9, ground := Ground.data }], guard := none }) (v := .agg #[.int .i64 T.z, .slice T.A T.n T.c]) rfl (by kernel_rfl) (by kernel_rfl) (by kernel_rfl) (fun _ _ _ h => h) (Or.inl ⟨by kernel_rfl, fun w' hSw => by (try dsimp only at hSw); go_simp⟩) (by assumption) ?_
              try simp only [Act.put, List.setIfInBounds_toArray, List.set_cons_zero, List.set_cons_succ]
              refine wpAnyH_take (i := 11) (oi := { dst := some 33, op := Op.extract (Operand.tmp 22) 1, type := 31, pos := "outright.go:88", after := #[{ on := 9, ground := Ground.data }, { on := 13, ground := Ground.gcOnly Departure.lateStores }], guard := none }) (v := .int .i64 tk) rfl (by kernel_rfl) (by kernel_rfl) (by kernel_rfl) (fun _ _ _ h => h) (Or.inl ⟨by kernel_rfl, fun w' hSw => by (try dsimp only at hSw); go_simp⟩) (by assumption) ?_
              try simp only [Act.put, List.setIfInBounds_toArray, List.set_cons_zero, List.set_cons_succ]
              refine wpAnyH_ready (rs := [13]) (by kernel_rfl) (by simp) ?_
              refine AllReadyH.cons (o := { dst := none, op := Op.store 24 (Operand.tmp 8) (Operand.tmp 32), type := 0, pos := "outright.go:88", after := #[{ on := 12, ground := Ground.data }, { on := 10, ground := Ground.data }, { on := 8, ground := Ground.chain }, { on := 0, ground := Ground.phase }, { on := 1, ground := Ground.phase }, { on := 2, ground := Ground.phase }, { on := 3, ground := Ground.phase }, { on := 4, ground := Ground.phase }, { on := 5, ground := Ground.phase }, { on := 6, ground := Ground.phase }, { on := 7, ground := Ground.phase }, { on := 8, ground := Ground.phase }, { on := 9, ground := Ground.phase }, { on := 10, ground := Ground.phase }, { on := 11, ground := Ground.textOnly Departure.lateStores }, { on := 12, ground := Ground.phase }], guard := none }) rfl (fun K hK => ?_) ?_
              · skip
                have y0 := Z5.out.1.cell 0
                have y1 := Z5.out.1.cell 1
                have f0 := Z5.out.1.frozen 0
                have f1 := Z5.out.1.frozen 1
                go_simp
                have E6 := Lib.hid (E5.out.put Z5.out O5.out)
                clear hHeld y0 y1 f0 f1 E5 Z5 O5
                refine hK.out _ _ (by have h := HE.out _ E6.out.below; exact ⟨h.1.c0 (.head _), h.1.c1 (.head _), h.2.cell 0, h.2.cell 1, h.2.cell 2⟩) (fun hHeld => ?_)
                clear hK K
                try simp only [Act.put, List.setIfInBounds_toArray, List.set_cons_zero, List.set_cons_succ]
                generalize (u5.setCell ⟨XB, 0, none⟩ (.int .i64 T.z)).setCell ⟨XB, 1, none⟩ (.slice T.A T.n T.c) = u6 at *
                refine wpAnyH_take (i := 14) (oi := { dst := some 9, op := Op.assign (Operand.tmp 33), type := 31, pos := "outright.go:88", after := #[{ on := 11, ground := Ground.data }, { on := 13, ground := Ground.chain }, { on := 0, ground := Ground.phase }, { on := 1, ground := Ground.phase }, { on := 2, ground := Ground.phase }, { on := 3, ground := Ground.phase }, { on := 4, ground := Ground.phase }, { on := 5, ground := Ground.phase }, { on := 6, ground := Ground.phase }, { on := 7, ground := Ground.phase }, { on := 8, ground := Ground.phase }, { on := 9, ground := Ground.phase }, { on := 10, ground := Ground.phase }, { on := 11, ground := Ground.phase }, { on := 12, ground := Ground.phase }, { on := 13, ground := Ground.phase }], guard := none }) (v := .int .i64 tk) rfl (by kernel_rfl) (by kernel_rfl) (by kernel_rfl) (fun _ _ _ h => h) (Or.inl ⟨by kernel_rfl, fun w' hSw => by (try dsimp only at hSw); go_simp⟩) (by assumption) ?_
                try simp only [Act.put, List.setIfInBounds_toArray, List.set_cons_zero, List.set_cons_succ]
                refine wpAnyH_done (by kernel_rfl) ?_ _
                refine NoPanic.normal ?_
                clear hHeld
                go_wp2_with fail
                go_meet
                exact ⟨T, XB, rfl, rfl, HT, E6⟩
              exact AllReadyH.nil
            exact AllReadyH.nil
          exact AllReadyH.nil
        refine AllReadyH.cons (o := { dst := some 8, op := Op.alloc 24, type := 0, pos := "outright.go:88", after := #[], guard := none }) rfl (fun K hK => ?_) ?_
        · skip
          go_simp
          have bb : Below u2.heap.size u2 (u2.alloc (.cells #[.int .i64 0, .slice none 0 0] 24)) := (Below.refl _ _).alloc (Nat.le_refl _) _
          have TK3 := Lib.hid (TK2.out.on bb)
          have SL3 := Lib.hid (SL2.out.on bb)
          have Z3 := Lib.hid (Zer.new (EC.out.on TK2.out.below))
          have HD : Hid (∀ kk, (Value.slice A4 g.n c4).ownBlock = some kk → kk ≠ u2.heap.size) := fun kk hk => Nat.ne_of_lt (TK2.out.own.lt kk hk).2
          clear hHeld bb TK2 SL2
          refine hK.out _ _ (by have h := HE.out _ (EC.out.below.trans (TK3.out.below.mono EC.out.below.size)); exact ⟨h.1.c0 (.head _), h.1.c1 (.head _), h.2.cell 0, h.2.cell 1, h.2.cell 2⟩) (fun hHeld => ?_)
          clear hK K
          try simp only [Act.put, List.setIfInBounds_toArray, List.set_cons_zero, List.set_cons_succ]
          generalize u2.alloc (.cells #[.int .i64 0, .slice none 0 0] 24) = u3 at *
          generalize u2.heap.size = XB at *
          refine wpAnyH_ready (rs := [7]) (by kernel_rfl) (by simp) ?_
          refine AllReadyH.cons (o := { dst := some 30, op := Op.call { callee := Callee.builtin Builtin.append, args := #[Operand.tmp 27, Operand.tmp 29], argTypes := #[22, 22] }, type := 22, pos := "outright.go:88", after := #[{ on := 4, ground := Ground.data }, { on := 6, ground := Ground.data }, { on := 4, ground := Ground.chain }], guard := none }) rfl (fun K hK => ?_) ?_
          · skip
            obtain ⟨i0, hi0, hz0, hz1, hz2⟩ := info_parts pair_info
            refine step_append_any _ rfl (.tmp 27) (.tmp 29) 22 rfl u1.heap.size 53 i0 _ 3 24 Tryd.underlying22 hi0 hz0 hz1 hz2 rfl (by decide) (.slice A4 g.n c4) g.n _ rfl TK3.out.own _ (some ⟨XS, 0, none⟩) 1 _ (cellsE [(ex, ey, ek)]) rfl SL3.out (cellsE_one _) (by unfold maxLen; omega) (by omega) TK3.out.below.size ?_
            intro v5 u4 hown5 hgrow5 _
            obtain ⟨A5, c5, rfl, h51, h52⟩ := own_form2 hown5
            rw [← cellsE_append] at hown5
            have bC : Below u1.heap.size u1 u4 := TK3.out.below.grown hgrow5 TK3.out.below.size (fun kk hk => (TK3.out.own.lt kk hk).1)
            have E4 := Lib.hid (EC.out.on bC)
            have R4 := Lib.hid (reads_own hown5)
            have Z4 : Hid (Zer w3 [] XB u4) := ⟨Z3.out.1.grown hgrow5 (fun e => HD.out _ (by first | exact e | exact e.symm) rfl), Z3.out.2⟩
            clear hown5 hgrow5 bC h51 h52 hHeld TK3 SL3 EC hi0 hz0 hz1 hz2 Z3 HD
            refine hK.out _ _ (by have h := HE.out _ E4.out.below; exact ⟨h.1.c0 (.head _), h.1.c1 (.head _), h.2.cell 0, h.2.cell 1, h.2.cell 2⟩) (fun hHeld => ?_)
            clear hK K
            try simp only [Act.put, List.setIfInBounds_toArray, List.set_cons_zero, List.set_cons_succ]
            refine wpAnyH_ready (rs := [8]) (by kernel_rfl) (by simp) ?_
            refine AllReadyH.cons (o := { dst := some 31, op := Op.call { callee := Callee.value (Operand.func 32), args := #[Operand.tmp 24, Operand.tmp 30], argTypes := #[3, 22] }, type := 61, pos := "outright.go:88", after := #[{ on := 1, ground := Ground.data }, { on := 7, ground := Ground.data }, { on := 7, ground := Ground.chain }], guard := none }) rfl (fun K hK => ?_) ?_
            · skip
              go_simp
              refine (HOF.out A5 c5 _ R4.out).mono ?_
              rintro e u5 hx
              obtain ⟨T, rfl, hz, he, okT, bb⟩ := gerr_gv hx
              have E5 := Lib.hid (E4.out.on bb)
              have Z5 := Lib.hid (Z4.out.on bb)
              have O5 := Lib.hid okT
              have HT := Lib.hid (And.intro hz he)
              clear hx hz he okT bb hHeld R4 E4 Z4
              refine hK.out _ _ (by have h := HE.out _ E5.out.below; exact ⟨h.1.c0 (.head _), h.1.c1 (.head _), h.2.cell 0, h.2.cell 1, h.2.cell 2⟩) (fun hHeld => ?_)
              clear hK K
              try simp only [Act.put, List.setIfInBounds_toArray, List.set_cons_zero, List.set_cons_succ]
              refine wpAnyH_take (i := 9) (oi := { dst := some 22, op := Op.move (Operand.tmp 31), type := 61, pos := "outright.go:88", after := #[{ on := 8, ground := Ground.data }], guard := none }) (v := .tuple #[.agg #[.int .i64 T.z, .slice T.A T.n T.c], .int .i64 tk]) rfl (by kernel_rfl) (by kernel_rfl) (by kernel_rfl) (fun _ _ _ h => h) (Or.inl ⟨by kernel_rfl, fun w' hSw => by (try dsimp only at hSw); go_simp⟩) (by assumption) ?_
              try simp only [Act.put, List.setIfInBounds_toArray, List.set_cons_zero, List.set_cons_succ]
              refine wpAnyH_take (i := 10) (oi := { dst := some 32, op := Op.extract (Operand.tmp 22) 0, type := 24, pos := "outright.go:88", after := #[{ on := 9, ground := Ground.data }], guard := none }) (v := .agg #[.int .i64 T.z, .slice T.A T.n T.c]) rfl (by kernel_rfl) (by kernel_rfl) (by kernel_rfl) (fun _ _ _ h => h) (Or.inl ⟨by kernel_rfl, fun w' hSw => by (try dsimp only at hSw); go_simp⟩) (by assumption) ?_
              try simp only [Act.put, List.setIfInBounds_toArray, List.set_cons_zero, List.set_cons_succ]
              refine wpAnyH_take (i := 11) (oi := { dst := some 33, op := Op.extract (Operand.tmp 22) 1, type := 31, pos := "outright.go:88", after := #[{ on := 9, ground := Ground.data }, { on := 13, ground := Ground.gcOnly Departure.lateStores }], guard := none }) (v := .int .i64 tk) rfl (by kernel_rfl) (by kernel_rfl) (by kernel_rfl) (fun _ _ _ h => h) (Or.inl ⟨by kernel_rfl, fun w' hSw => by (try dsimp only at hSw); go_simp⟩) (by assumption) ?_
              try simp only [Act.put, List.setIfInBounds_toArray, List.set_cons_zero, List.set_cons_succ]
              refine wpAnyH_ready (rs := [13]) (by kernel_rfl) (by simp) ?_
              refine AllReadyH.cons (o := { dst := none, op := Op.store 24 (Operand.tmp 8) (Operand.tmp 32), type := 0, pos := "outright.go:88", after := #[{ on := 12, ground := Ground.data }, { on := 10, ground := Ground.data }, { on := 8, ground := Ground.chain }, { on := 0, ground := Ground.phase }, { on := 1, ground := Ground.phase }, { on := 2, ground := Ground.phase }, { on := 3, ground := Ground.phase }, { on := 4, ground := Ground.phase }, { on := 5, ground := Ground.phase }, { on := 6, ground := Ground.phase }, { on := 7, ground := Ground.phase }, { on := 8, ground := Ground.phase }, { on := 9, ground := Ground.phase }, { on := 10, ground := Ground.phase }, { on := 11, ground := Ground.textOnly Departure.lateStores }, { on := 12, ground := Ground.phase }], guard := none }) rfl (fun K hK => ?_) ?_
              · skip
                have y0 := Z5.out.1.cell 0
                have y1 := Z5.out.1.cell 1
                have f0 := Z5.out.1.frozen 0
                have f1 := Z5.out.1.frozen 1
                go_simp
                have E6 := Lib.hid (E5.out.put Z5.out O5.out)
                clear hHeld y0 y1 f0 f1 E5 Z5 O5
                refine hK.out _ _ (by have h := HE.out _ E6.out.below; exact ⟨h.1.c0 (.head _), h.1.c1 (.head _), h.2.cell 0, h.2.cell 1, h.2.cell 2⟩) (fun hHeld => ?_)
                clear hK K
                try simp only [Act.put, List.setIfInBounds_toArray, List.set_cons_zero, List.set_cons_succ]
                generalize (u5.setCell ⟨XB, 0, none⟩ (.int .i64 T.z)).setCell ⟨XB, 1, none⟩ (.slice T.A T.n T.c) = u6 at *
                refine wpAnyH_take (i := 14) (oi := { dst := some 9, op := Op.assign (Operand.tmp 33), type := 31, pos := "outright.go:88", after := #[{ on := 11, ground := Ground.data }, { on := 13, ground := Ground.chain }, { on := 0, ground := Ground.phase }, { on := 1, ground := Ground.phase }, { on := 2, ground := Ground.phase }, { on := 3, ground := Ground.phase }, { on := 4, ground := Ground.phase }, { on := 5, ground := Ground.phase }, { on := 6, ground := Ground.phase }, { on := 7, ground := Ground.phase }, { on := 8, ground := Ground.phase }, { on := 9, ground := Ground.phase }, { on := 10, ground := Ground.phase }, { on := 11, ground := Ground.phase }, { on := 12, ground := Ground.phase }, { on := 13, ground := Ground.phase }], guard := none }) (v := .int .i64 tk) rfl (by kernel_rfl) (by kernel_rfl) (by kernel_rfl) (fun _ _ _ h => h) (Or.inl ⟨by kernel_rfl, fun w' hSw => by (try dsimp only at hSw); go_simp⟩) (by assumption) ?_
                try simp only [Act.put, List.setIfInBounds_toArray, List.set_cons_zero, List.set_cons_succ]
                refine wpAnyH_done (by kernel_rfl) ?_ _
                refine NoPanic.normal ?_
                clear hHeld
                go_wp2_with fail
                go_meet
                exact ⟨T, XB, rfl, rfl, HT, E6⟩
              exact AllReadyH.nil
            exact AllReadyH.nil
          exact AllReadyH.nil
        exact AllReadyH.nil
      refine AllReadyH.cons (o := { dst := some 8, op := Op.alloc 24, type := 0, pos := "outright.go:88", after := #[], guard := none }) rfl (fun K hK => ?_) ?_
      · skip
        go_simp
        have bb : Below u1.heap.size u1 (u1.alloc (.cells #[.int .i64 0, .slice none 0 0] 24)) := (Below.refl _ _).alloc (Nat.le_refl _) _
        have E2 := Lib.hid (E1.out.on bb)
        have SL2 := Lib.hid (SL1.out.on bb)
        have Z2 := Lib.hid (Zer.new E1.out)
        clear hHeld bb E1 SL1
        refine hK.out _ _ (by have h := HE.out _ E2.out.below; exact ⟨h.1.c0 (.head _), h.1.c1 (.head _), h.2.cell 0, h.2.cell 1, h.2.cell 2⟩) (fun hHeld => ?_)
        clear hK K
        try simp only [Act.put, List.setIfInBounds_toArray, List.set_cons_zero, List.set_cons_succ]
        generalize u1.alloc (.cells #[.int .i64 0, .slice none 0 0] 24) = u2 at *
        generalize u1.heap.size = XB at *
        refine wpAnyH_ready (rs := [4]) (by kernel_rfl) (by simp) ?_
        refine AllReadyH.cons (o := { dst := some 27, op := Op.call { callee := Callee.value (Operand.func 33), args := #[Operand.tmp 26], argTypes := #[22] }, type := 22, pos := "outright.go:88", after := #[{ on := 3, ground := Ground.data }], guard := none }) rfl (fun K hK => ?_) ?_
        · skip
          go_simp
          have okc := (HE.out _ E2.out.below).1.ok (.head _)
          refine (clone_any g.A g.n g.c g.es (by omega) okc.2.2.2 okc.2.1 _ okc.1).mono ?_
          rintro e u3 ⟨A4, c4, rfl, ho, h1, h2, bb⟩
          have SL3 := Lib.hid (SL2.out.on bb)
          have Z3 := Lib.hid (Z2.out.on bb)
          have TK3 := Lib.hid (Taken.mk ho bb)
          have EC := E2
          have HD : Hid (∀ kk, (Value.slice A4 g.n c4).ownBlock = some kk → kk ≠ XB) := fun kk hk => Nat.ne_of_gt (Nat.lt_of_lt_of_le Z2.out.1.lt (ho.lt kk hk).1)
          clear hHeld okc ho h1 h2 bb E2 SL2 Z2
          refine hK.out _ _ (by have h := HE.out _ (EC.out.below.trans (TK3.out.below.mono EC.out.below.size)); exact ⟨h.1.c0 (.head _), h.1.c1 (.head _), h.2.cell 0, h.2.cell 1, h.2.cell 2⟩) (fun hHeld => ?_)
          clear hK K
          try simp only [Act.put, List.setIfInBounds_toArray, List.set_cons_zero, List.set_cons_succ]
          refine wpAnyH_ready (rs := [7]) (by kernel_rfl) (by simp) ?_
          refine AllReadyH.cons (o := { dst := some 30, op := Op.call { callee := Callee.builtin Builtin.append, args := #[Operand.tmp 27, Operand.tmp 29], argTypes := #[22, 22] }, type := 22, pos := "outright.go:88", after := #[{ on := 4, ground := Ground.data }, { on := 6, ground := Ground.data }, { on := 4, ground := Ground.chain }], guard := none }) rfl (fun K hK => ?_) ?_
          · skip
            obtain ⟨i0, hi0, hz0, hz1, hz2⟩ := info_parts pair_info
            refine step_append_any _ rfl (.tmp 27) (.tmp 29) 22 rfl u2.heap.size 53 i0 _ 3 24 Tryd.underlying22 hi0 hz0 hz1 hz2 rfl (by decide) (.slice A4 g.n c4) g.n _ rfl TK3.out.own _ (some ⟨XS, 0, none⟩) 1 _ (cellsE [(ex, ey, ek)]) rfl SL3.out (cellsE_one _) (by unfold maxLen; omega) (by omega) TK3.out.below.size ?_
            intro v5 u4 hown5 hgrow5 _
            obtain ⟨A5, c5, rfl, h51, h52⟩ := own_form2 hown5
            rw [← cellsE_append] at hown5
            have bC : Below u2.heap.size u2 u4 := TK3.out.below.grown hgrow5 TK3.out.below.size (fun kk hk => (TK3.out.own.lt kk hk).1)
            have E4 := Lib.hid (EC.out.on bC)
            have R4 := Lib.hid (reads_own hown5)
            have Z4 : Hid (Zer w3 [] XB u4) := ⟨Z3.out.1.grown hgrow5 (fun e => HD.out _ (by first | exact e | exact e.symm) rfl), Z3.out.2⟩
            clear hown5 hgrow5 bC h51 h52 hHeld TK3 SL3 EC hi0 hz0 hz1 hz2 Z3 HD
            refine hK.out _ _ (by have h := HE.out _ E4.out.below; exact ⟨h.1.c0 (.head _), h.1.c1 (.head _), h.2.cell 0, h.2.cell 1, h.2.cell 2⟩) (fun hHeld => ?_)
            clear hK K
            try simp only [Act.put, List.setIfInBounds_toArray, List.set_cons_zero, List.set_cons_succ]
            refine wpAnyH_ready (rs := [8]) (by kernel_rfl) (by simp) ?_
            refine AllReadyH.cons (o := { dst := some 31, op := Op.call { callee := Callee.value (Operand.func 32), args := #[Operand.tmp 24, Operand.tmp 30], argTypes := #[3, 22] }, type := 61, pos := "outright.go:88", after := #[{ on := 1, ground := Ground.data }, { on := 7, ground := Ground.data }, { on := 7, ground := Ground.chain }], guard := none }) rfl (fun K hK => ?_) ?_
            · skip
              go_simp
              refine (HOF.out A5 c5 _ R4.out).mono ?_
              rintro e u5 hx
              obtain ⟨T, rfl, hz, he, okT, bb⟩ := gerr_gv hx
              have E5 := Lib.hid (E4.out.on bb)
              have Z5 := Lib.hid (Z4.out.on bb)
              have O5 := Lib.hid okT
              have HT := Lib.hid (And.intro hz he)
              clear hx hz he okT bb hHeld R4 E4 Z4
              refine hK.out _ _ (by have h := HE.out _ E5.out.below; exact ⟨h.1.c0 (.head _), h.1.c1 (.head _), h.2.cell 0, h.2.cell 1, h.2.cell 2⟩) (fun hHeld => ?_)
              clear hK K
              try simp only [Act.put, List.setIfInBounds_toArray, List.set_cons_zero, List.set_cons_succ]
              refine wpAnyH_take (i := 9) (oi := { dst := some 22, op := Op.move (Operand.tmp 31), type := 61, pos := "outright.go:88", after := #[{ on := 8, ground := Ground.data }], guard := none }) (v := .tuple #[.agg #[.int .i64 T.z, .slice T.A T.n T.c], .int .i64 tk]) rfl (by kernel_rfl) (by kernel_rfl) (by kernel_rfl) (fun _ _ _ h => h) (Or.inl ⟨by kernel_rfl, fun w' hSw => by (try dsimp only at hSw); go_simp⟩) (by assumption) ?_
              try simp only [Act.put, List.setIfInBounds_toArray, List.set_cons_zero, List.set_cons_succ]
              refine wpAnyH_take (i := 10) (oi := { dst := some 32, op := Op.extract (Operand.tmp 22) 0, type := 24, pos := "outright.go:88", after := #[{ on := 9, ground := Ground.data }], guard := none }) (v := .agg #[.int .i64 T.z, .slice T.A T.n T.c]) rfl (by kernel_rfl) (by kernel_rfl) (by kernel_rfl) (fun _ _ _ h => h) (Or.inl ⟨by kernel_rfl, fun w' hSw => by (try dsimp only at hSw); go_simp⟩) (by assumption) ?_
              try simp only [Act.put, List.setIfInBounds_toArray, List.set_cons_zero, List.set_cons_succ]
              refine wpAnyH_take (i := 11) (oi := { dst := some 33, op := Op.extract (Operand.tmp 22) 1, type := 31, pos := "outright.go:88", after := #[{ on := 9, ground := Ground.data }, { on := 13, ground := Ground.gcOnly Departure.lateStores }], guard := none }) (v := .int .i64 tk) rfl (by kernel_rfl) (by kernel_rfl) (by kernel_rfl) (fun _ _ _ h => h) (Or.inl ⟨by kernel_rfl, fun w' hSw => by (try dsimp only at hSw); go_simp⟩) (by assumption) ?_
              try simp only [Act.put, List.setIfInBounds_toArray, List.set_cons_zero, List.set_cons_succ]
              refine wpAnyH_ready (rs := [13]) (by kernel_rfl) (by simp) ?_
              refine AllReadyH.cons (o := { dst := none, op := Op.store 24 (Operand.tmp 8) (Operand.tmp 32), type := 0, pos := "outright.go:88", after := #[{ on := 12, ground := Ground.data }, { on := 10, ground := Ground.data }, { on := 8, ground := Ground.chain }, { on := 0, ground := Ground.phase }, { on := 1, ground := Ground.phase }, { on := 2, ground := Ground.phase }, { on := 3, ground := Ground.phase }, { on := 4, ground := Ground.phase }, { on := 5, ground := Ground.phase }, { on := 6, ground := Ground.phase }, { on := 7, ground := Ground.phase }, { on := 8, ground := Ground.phase }, { on := 9, ground := Ground.phase }, { on := 10, ground := Ground.phase }, { on := 11, ground := Ground.textOnly Departure.lateStores }, { on := 12, ground := Ground.phase }], guard := none }) rfl (fun K hK => ?_) ?_
              · skip
                have y0 := Z5.out.1.cell 0
                have y1 := Z5.out.1.cell 1
                have f0 := Z5.out.1.frozen 0
                have f1 := Z5.out.1.frozen 1
                go_simp
                have E6 := Lib.hid (E5.out.put Z5.out O5.out)
                clear hHeld y0 y1 f0 f1 E5 Z5 O5
                refine hK.out _ _ (by have h := HE.out _ E6.out.below; exact ⟨h.1.c0 (.head _), h.1.c1 (.head _), h.2.cell 0, h.2.cell 1, h.2.cell 2⟩) (fun hHeld => ?_)
                clear hK K
                try simp only [Act.put, List.setIfInBounds_toArray, List.set_cons_zero, List.set_cons_succ]
                generalize (u5.setCell ⟨XB, 0, none⟩ (.int .i64 T.z)).setCell ⟨XB, 1, none⟩ (.slice T.A T.n T.c) = u6 at *
                refine wpAnyH_take (i := 14) (oi := { dst := some 9, op := Op.assign (Operand.tmp 33), type := 31, pos := "outright.go:88", after := #[{ on := 11, ground := Ground.data }, { on := 13, ground := Ground.chain }, { on := 0, ground := Ground.phase }, { on := 1, ground := Ground.phase }, { on := 2, ground := Ground.phase }, { on := 3, ground := Ground.phase }, { on := 4, ground := Ground.phase }, { on := 5, ground := Ground.phase }, { on := 6, ground := Ground.phase }, { on := 7, ground := Ground.phase }, { on := 8, ground := Ground.phase }, { on := 9, ground := Ground.phase }, { on := 10, ground := Ground.phase }, { on := 11, ground := Ground.phase }, { on := 12, ground := Ground.phase }, { on := 13, ground := Ground.phase }], guard := none }) (v := .int .i64 tk) rfl (by kernel_rfl) (by kernel_rfl) (by kernel_rfl) (fun _ _ _ h => h) (Or.inl ⟨by kernel_rfl, fun w' hSw => by (try dsimp only at hSw); go_simp⟩) (by assumption) ?_
                try simp only [Act.put, List.setIfInBounds_toArray, List.set_cons_zero, List.set_cons_succ]
                refine wpAnyH_done (by kernel_rfl) ?_ _
                refine NoPanic.normal ?_
                clear hHeld
                go_wp2_with fail
                go_meet
                exact ⟨T, XB, rfl, rfl, HT, E6⟩
              exact AllReadyH.nil
            exact AllReadyH.nil
          exact AllReadyH.nil
        exact AllReadyH.nil
      exact AllReadyH.nil
    refine AllReadyH.cons (o := { dst := some 8, op := Op.alloc 24, type := 0, pos := "outright.go:88", after := #[], guard := none }) rfl (fun K hK => ?_) ?_
    · skip
      go_simp
      have bb : Below wd.heap.size wd (wd.alloc (.cells #[.int .i64 0, .slice none 0 0] 24)) := (Below.refl _ _).alloc (Nat.le_refl _) _
      have E1 := Lib.hid (E0.out.on bb)
      have Z1 := Lib.hid (Zer.new E0.out)
      clear hHeld bb E0
      refine hK.out _ _ (by have h := HE.out _ E1.out.below; exact ⟨h.1.c0 (.head _), h.1.c1 (.head _), h.2.cell 0, h.2.cell 1, h.2.cell 2⟩) (fun hHeld => ?_)
      clear hK K
      try simp only [Act.put, List.setIfInBounds_toArray, List.set_cons_zero, List.set_cons_succ]
      generalize wd.alloc (.cells #[.int .i64 0, .slice none 0 0] 24) = u1 at *
      generalize wd.heap.size = XB at *
      refine wpAnyH_ready (rs := [4, 6]) (by kernel_rfl) (by simp) ?_
      refine AllReadyH.cons (o := { dst := some 27, op := Op.call { callee := Callee.value (Operand.func 33), args := #[Operand.tmp 26], argTypes := #[22] }, type := 22, pos := "outright.go:88", after := #[{ on := 3, ground := Ground.data }], guard := none }) rfl (fun K hK => ?_) ?_
      · skip
        go_simp
        have okc := (HE.out _ E1.out.below).1.ok (.head _)
        refine (clone_any g.A g.n g.c g.es (by omega) okc.2.2.2 okc.2.1 _ okc.1).mono ?_
        rintro e u2 ⟨A4, c4, rfl, ho, h1, h2, bb⟩
        have Z2 := Lib.hid (Z1.out.on bb)
        have TK2 := Lib.hid (Taken.mk ho bb)
        have EC := E1
        have HD : Hid (∀ kk, (Value.slice A4 g.n c4).ownBlock = some kk → kk ≠ XB) := fun kk hk => Nat.ne_of_gt (Nat.lt_of_lt_of_le Z1.out.1.lt (ho.lt kk hk).1)
        clear hHeld okc ho h1 h2 bb E1 Z1
        refine hK.out _ _ (by have h := HE.out _ (EC.out.below.trans (TK2.out.below.mono EC.out.below.size)); exact ⟨h.1.c0 (.head _), h.1.c1 (.head _), h.2.cell 0, h.2.cell 1, h.2.cell 2⟩) (fun hHeld => ?_)
        clear hK K
        try simp only [Act.put, List.setIfInBounds_toArray, List.set_cons_zero, List.set_cons_succ]
        refine wpAnyH_ready (rs := [6]) (by kernel_rfl) (by simp) ?_
        refine AllReadyH.cons (o := { dst := some 29, op := Op.buildSlice 22 1 #[(0, Operand.tmp 28)], type := 22, pos := "outright.go:88", after := #[{ on := 5, ground := Ground.data }], guard := none }) rfl (fun K hK => ?_) ?_
        · skip
          go_simp
          have bb : Below u2.heap.size u2 (u2.alloc (.cells #[.int .i64 ex, .int .i64 ey, .int .i64 ek] 53)) := (Below.refl _ _).alloc (Nat.le_refl _) _
          have TK3 := Lib.hid (TK2.out.on bb)
          have Z3 := Lib.hid (Z2.out.on bb)
          have SL3 : Hid (Reads (u2.alloc (.cells #[.int .i64 ex, .int .i64 ey, .int .i64 ek] 53)) _ 3 (some ⟨u2.heap.size, 0, none⟩) 1 (cellsE [(ex, ey, ek)])) := slice_new u2 (ex, ey, ek)
          clear hHeld bb TK2 Z2
          refine hK.out _ _ (by have h := HE.out _ (EC.out.below.trans (TK3.out.below.mono EC.out.below.size)); exact ⟨h.1.c0 (.head _), h.1.c1 (.head _), h.2.cell 0, h.2.cell 1, h.2.cell 2⟩) (fun hHeld => ?_)
          clear hK K
          try simp only [Act.put, List.setIfInBounds_toArray, List.set_cons_zero, List.set_cons_succ]
          generalize u2.alloc (.cells #[.int .i64 ex, .int .i64 ey, .int .i64 ek] 53) = u3 at *
          generalize u2.heap.size = XS at *
          refine wpAnyH_ready (rs := [7]) (by kernel_rfl) (by simp) ?_
          refine AllReadyH.cons (o := { dst := some 30, op := Op.call { callee := Callee.builtin Builtin.append, args := #[Operand.tmp 27, Operand.tmp 29], argTypes := #[22, 22] }, type := 22, pos := "outright.go:88", after := #[{ on := 4, ground := Ground.data }, { on := 6, ground := Ground.data }, { on := 4, ground := Ground.chain }], guard := none }) rfl (fun K hK => ?_) ?_
          · skip
            obtain ⟨i0, hi0, hz0, hz1, hz2⟩ := info_parts pair_info
            refine step_append_any _ rfl (.tmp 27) (.tmp 29) 22 rfl u1.heap.size 53 i0 _ 3 24 Tryd.underlying22 hi0 hz0 hz1 hz2 rfl (by decide) (.slice A4 g.n c4) g.n _ rfl TK3.out.own _ (some ⟨XS, 0, none⟩) 1 _ (cellsE [(ex, ey, ek)]) rfl SL3.out (cellsE_one _) (by unfold maxLen; omega) (by omega) TK3.out.below.size ?_
            intro v5 u4 hown5 hgrow5 _
            obtain ⟨A5, c5, rfl, h51, h52⟩ := own_form2 hown5
            rw [← cellsE_append] at hown5
            have bC : Below u1.heap.size u1 u4 := TK3.out.below.grown hgrow5 TK3.out.below.size (fun kk hk => (TK3.out.own.lt kk hk).1)
            have E4 := Lib.hid (EC.out.on bC)
            have R4 := Lib.hid (reads_own hown5)
            have Z4 : Hid (Zer w3 [] XB u4) := ⟨Z3.out.1.grown hgrow5 (fun e => HD.out _ (by first | exact e | exact e.symm) rfl), Z3.out.2⟩
            clear hown5 hgrow5 bC h51 h52 hHeld TK3 SL3 EC hi0 hz0 hz1 hz2 Z3 HD
            refine hK.out _ _ (by have h := HE.out _ E4.out.below; exact ⟨h.1.c0 (.head _), h.1.c1 (.head _), h.2.cell 0, h.2.cell 1, h.2.cell 2⟩) (fun hHeld => ?_)
            clear hK K
            try simp only [Act.put, List.setIfInBounds_toArray, List.set_cons_zero, List.set_cons_succ]
            refine wpAnyH_ready (rs := [8]) (by kernel_rfl) (by simp) ?_
            refine AllReadyH.cons (o := { dst := some 31, op := Op.call { callee := Callee.value (Operand.func 32), args := #[Operand.tmp 24, Operand.tmp 30], argTypes := #[3, 22] }, type := 61, pos := "outright.go:88", after := #[{ on := 1, ground := Ground.data }, { on := 7, ground := Ground.data }, { on := 7, ground := Ground.chain }], guard := none }) rfl (fun K hK => ?_) ?_
            · skip
              go_simp
              refine (HOF.out A5 c5 _ R4.out).mono ?_
              rintro e u5 hx
              obtain ⟨T, rfl, hz, he, okT, bb⟩ := gerr_gv hx
              have E5 := Lib.hid (E4.out.on bb)
              have Z5 := Lib.hid (Z4.out.on bb)
              have O5 := Lib.hid okT
              have HT := Lib.hid (And.intro hz he)
              clear hx hz he okT bb hHeld R4 E4 Z4
              refine hK.out _ _ (by have h := HE.out _ E5.out.below; exact ⟨h.1.c0 (.head _), h.1.c1 (.head _), h.2.cell 0, h.2.cell 1, h.2.cell 2⟩) (fun hHeld => ?_)
              clear hK K
              try simp only [Act.put, List.setIfInBounds_toArray, List.set_cons_zero, List.set_cons_succ]
              refine wpAnyH_take (i := 9) (oi := { dst := some 22, op := Op.move (Operand.tmp 31), type := 61, pos := "outright.go:88", after := #[{ on := 8, ground := Ground.data }], guard := none }) (v := .tuple #[.agg #[.int .i64 T.z, .slice T.A T.n T.c], .int .i64 tk]) rfl (by kernel_rfl) (by kernel_rfl) (by kernel_rfl) (fun _ _ _ h => h) (Or.inl ⟨by kernel_rfl, fun w' hSw => by (try dsimp only at hSw); go_simp⟩) (by assumption) ?_
              try simp only [Act.put, List.setIfInBounds_toArray, List.set_cons_zero, List.set_cons_succ]
              refine wpAnyH_take (i := 10) (oi := { dst := some 32, op := Op.extract (Operand.tmp 22) 0, type := 24, pos := "outright.go:88", after := #[{ on := 9, ground := Ground.data }], guard := none }) (v := .agg #[.int .i64 T.z, .slice T.A T.n T.c]) rfl (by kernel_rfl) (by kernel_rfl) (by kernel_rfl) (fun _ _ _ h => h) (Or.inl ⟨by kernel_rfl, fun w' hSw => by (try dsimp only at hSw); go_simp⟩) (by assumption) ?_
              try simp only [Act.put, List.setIfInBounds_toArray, List.set_cons_zero, List.set_cons_succ]
              refine wpAnyH_take (i := 11) (oi := { dst := some 33, op := Op.extract (Operand.tmp 22) 1, type := 31, pos := "outright.go:88", after := #[{ on := 9, ground := Ground.data }, { on := 13, ground := Ground.gcOnly Departure.lateStores }], guard := none }) (v := .int .i64 tk) rfl (by kernel_rfl) (by kernel_rfl) (by kernel_rfl) (fun _ _ _ h => h) (Or.inl ⟨by kernel_rfl, fun w' hSw => by (try dsimp only at hSw); go_simp⟩) (by assumption) ?_
              try simp only [Act.put, List.setIfInBounds_toArray, List.set_cons_zero, List.set_cons_succ]
              refine wpAnyH_ready (rs := [13]) (by kernel_rfl) (by simp) ?_
              refine AllReadyH.cons (o := { dst := none, op := Op.store 24 (Operand.tmp 8) (Operand.tmp 32), type := 0, pos := "outright.go:88", after := #[{ on := 12, ground := Ground.data }, { on := 10, ground := Ground.data }, { on := 8, ground := Ground.chain }, { on := 0, ground := Ground.phase }, { on := 1, ground := Ground.phase }, { on := 2, ground := Ground.phase }, { on := 3, ground := Ground.phase }, { on := 4, ground := Ground.phase }, { on := 5, ground := Ground.phase }, { on := 6, ground := Ground.phase }, { on := 7, ground := Ground.phase }, { on := 8, ground := Ground.phase }, { on := 9, ground := Ground.phase }, { on := 10, ground := Ground.phase }, { on := 11, ground := Ground.textOnly Departure.lateStores }, { on := 12, ground := Ground.phase }], guard := none }) rfl (fun K hK => ?_) ?_
              · skip
                have y0 := Z5.out.1.cell 0
                have y1 := Z5.out.1.cell 1
                have f0 := Z5.out.1.frozen 0
                have f1 := Z5.out.1.frozen 1
                go_simp
                have E6 := Lib.hid (E5.out.put Z5.out O5.out)
                clear hHeld y0 y1 f0 f1 E5 Z5 O5
                refine hK.out _ _ (by have h := HE.out _ E6.out.below; exact ⟨h.1.c0 (.head _), h.1.c1 (.head _), h.2.cell 0, h.2.cell 1, h.2.cell 2⟩) (fun hHeld => ?_)
                clear hK K
                try simp only [Act.put, List.setIfInBounds_toArray, List.set_cons_zero, List.set_cons_succ]
                generalize (u5.setCell ⟨XB, 0, none⟩ (.int .i64 T.z)).setCell ⟨XB, 1, none⟩ (.slice T.A T.n T.c) = u6 at *
                refine wpAnyH_take (i := 14) (oi := { dst := some 9, op := Op.assign (Operand.tmp 33), type := 31, pos := "outright.go:88", after := #[{ on := 11, ground := Ground.data }, { on := 13, ground := Ground.chain }, { on := 0, ground := Ground.phase }, { on := 1, ground := Ground.phase }, { on := 2, ground := Ground.phase }, { on := 3, ground := Ground.phase }, { on := 4, ground := Ground.phase }, { on := 5, ground := Ground.phase }, { on := 6, ground := Ground.phase }, { on := 7, ground := Ground.phase }, { on := 8, ground := Ground.phase }, { on := 9, ground := Ground.phase }, { on := 10, ground := Ground.phase }, { on := 11, ground := Ground.phase }, { on := 12, ground := Ground.phase }, { on := 13, ground := Ground.phase }], guard := none }) (v := .int .i64 tk) rfl (by kernel_rfl) (by kernel_rfl) (by kernel_rfl) (fun _ _ _ h => h) (Or.inl ⟨by kernel_rfl, fun w' hSw => by (try dsimp only at hSw); go_simp⟩) (by assumption) ?_
                try simp only [Act.put, List.setIfInBounds_toArray, List.set_cons_zero, List.set_cons_succ]
                refine wpAnyH_done (by kernel_rfl) ?_ _
                refine NoPanic.normal ?_
                clear hHeld
                go_wp2_with fail
                go_meet
                exact ⟨T, XB, rfl, rfl, HT, E6⟩
              exact AllReadyH.nil
            exact AllReadyH.nil
          exact AllReadyH.nil
        exact AllReadyH.nil
      refine AllReadyH.cons (o := { dst := some 29, op := Op.buildSlice 22 1 #[(0, Operand.tmp 28)], type := 22, pos := "outright.go:88", after := #[{ on := 5, ground := Ground.data }], guard := none }) rfl (fun K hK => ?_) ?_
      · skip
        go_simp
        have bb : Below u1.heap.size u1 (u1.alloc (.cells #[.int .i64 ex, .int .i64 ey, .int .i64 ek] 53)) := (Below.refl _ _).alloc (Nat.le_refl _) _
        have E2 := Lib.hid (E1.out.on bb)
        have Z2 := Lib.hid (Z1.out.on bb)
        have SL2 : Hid (Reads (u1.alloc (.cells #[.int .i64 ex, .int .i64 ey, .int .i64 ek] 53)) _ 3 (some ⟨u1.heap.size, 0, none⟩) 1 (cellsE [(ex, ey, ek)])) := slice_new u1 (ex, ey, ek)
        clear hHeld bb E1 Z1
        refine hK.out _ _ (by have h := HE.out _ E2.out.below; exact ⟨h.1.c0 (.head _), h.1.c1 (.head _), h.2.cell 0, h.2.cell 1, h.2.cell 2⟩) (fun hHeld => ?_)
        clear hK K
        try simp only [Act.put, List.setIfInBounds_toArray, List.set_cons_zero, List.set_cons_succ]
        generalize u1.alloc (.cells #[.int .i64 ex, .int .i64 ey, .int .i64 ek] 53) = u2 at *
        generalize u1.heap.size = XS at *
        refine wpAnyH_ready (rs := [4]) (by kernel_rfl) (by simp) ?_
        refine AllReadyH.cons (o := { dst := some 27, op := Op.call { callee := Callee.value (Operand.func 33), args := #[Operand.tmp 26], argTypes := #[22] }, type := 22, pos := "outright.go:88", after := #[{ on := 3, ground := Ground.data }], guard := none }) rfl (fun K hK => ?_) ?_
        · skip
          go_simp
          have okc := (HE.out _ E2.out.below).1.ok (.head _)
          refine (clone_any g.A g.n g.c g.es (by omega) okc.2.2.2 okc.2.1 _ okc.1).mono ?_
          rintro e u3 ⟨A4, c4, rfl, ho, h1, h2, bb⟩
          have SL3 := Lib.hid (SL2.out.on bb)
          have Z3 := Lib.hid (Z2.out.on bb)
          have TK3 := Lib.hid (Taken.mk ho bb)
          have EC := E2
          have HD : Hid (∀ kk, (Value.slice A4 g.n c4).ownBlock = some kk → kk ≠ XB) := fun kk hk => Nat.ne_of_gt (Nat.lt_of_lt_of_le Z2.out.1.lt (ho.lt kk hk).1)
          clear hHeld okc ho h1 h2 bb E2 SL2 Z2
          refine hK.out _ _ (by have h := HE.out _ (EC.out.below.trans (TK3.out.below.mono EC.out.below.size)); exact ⟨h.1.c0 (.head _), h.1.c1 (.head _), h.2.cell 0, h.2.cell 1, h.2.cell 2⟩) (fun hHeld => ?_)
          clear hK K
          try simp only [Act.put, List.setIfInBounds_toArray, List.set_cons_zero, List.set_cons_succ]
          refine wpAnyH_ready (rs := [7]) (by kernel_rfl) (by simp) ?_
          refine AllReadyH.cons (o := { dst := some 30, op := Op.call { callee := Callee.builtin Builtin.append, args := #[Operand.tmp 27, Operand.tmp 29], argTypes := #[22, 22] }, type := 22, pos := "outright.go:88", after := #[{ on := 4, ground := Ground.data }, { on := 6, ground := Ground.data }, { on := 4, ground := Ground.chain }], guard := none }) rfl (fun K hK => ?_) ?_
          · skip
            obtain ⟨i0, hi0, hz0, hz1, hz2⟩ := info_parts pair_info
            refine step_append_any _ rfl (.tmp 27) (.tmp 29) 22 rfl u2.heap.size 53 i0 _ 3 24 Tryd.underlying22 hi0 hz0 hz1 hz2 rfl (by decide) (.slice A4 g.n c4) g.n _ rfl TK3.out.own _ (some ⟨XS, 0, none⟩) 1 _ (cellsE [(ex, ey, ek)]) rfl SL3.out (cellsE_one _) (by unfold maxLen; omega) (by omega) TK3.out.below.size ?_
            intro v5 u4 hown5 hgrow5 _
            obtain ⟨A5, c5, rfl, h51, h52⟩ := own_form2 hown5
            rw [← cellsE_append] at hown5
            have bC : Below u2.heap.size u2 u4 := TK3.out.below.grown hgrow5 TK3.out.below.size (fun kk hk => (TK3.out.own.lt kk hk).1)
            have E4 := Lib.hid (EC.out.on bC)
            have R4 := Lib.hid (reads_own hown5)
            have Z4 : Hid (Zer w3 [] XB u4) := ⟨Z3.out.1.grown hgrow5 (fun e => HD.out _ (by first | exact e | exact e.symm) rfl), Z3.out.2⟩
            clear hown5 hgrow5 bC h51 h52 hHeld TK3 SL3 EC hi0 hz0 hz1 hz2 Z3 HD
            refine hK.out _ _ (by have h := HE.out _ E4.out.below; exact ⟨h.1.c0 (.head _), h.1.c1 (.head _), h.2.cell 0, h.2.cell 1, h.2.cell 2⟩) (fun hHeld => ?_)
            clear hK K
            try simp only [Act.put, List.setIfInBounds_toArray, List.set_cons_zero, List.set_cons_succ]
            refine wpAnyH_ready (rs := [8]) (by kernel_rfl) (by simp) ?_
            refine AllReadyH.cons (o := { dst := some 31, op := Op.call { callee := Callee.value (Operand.func 32), args := #[Operand.tmp 24, Operand.tmp 30], argTypes := #[3, 22] }, type := 61, pos := "outright.go:88", after := #[{ on := 1, ground := Ground.data }, { on := 7, ground := Ground.data }, { on := 7, ground := Ground.chain }], guard := none }) rfl (fun K hK => ?_) ?_
            · skip
              go_simp
              refine (HOF.out A5 c5 _ R4.out).mono ?_
              rintro e u5 hx
              obtain ⟨T, rfl, hz, he, okT, bb⟩ := gerr_gv hx
              have E5 := Lib.hid (E4.out.on bb)
              have Z5 := Lib.hid (Z4.out.on bb)
              have O5 := Lib.hid okT
              have HT := Lib.hid (And.intro hz he)
              clear hx hz he okT bb hHeld R4 E4 Z4
              refine hK.out _ _ (by have h := HE.out _ E5.out.below; exact ⟨h.1.c0 (.head _), h.1.c1 (.head _), h.2.cell 0, h.2.cell 1, h.2.cell 2⟩) (fun hHeld => ?_)
              clear hK K
              try simp only [Act.put, List.setIfInBounds_toArray, List.set_cons_zero, List.set_cons_succ]
              refine wpAnyH_take (i := 9) (oi := { dst := some 22, op := Op.move (Operand.tmp 31), type := 61, pos := "outright.go:88", after := #[{ on := 8, ground := Ground.data }], guard := none }) (v := .tuple #[.agg #[.int .i64 T.z, .slice T.A T.n T.c], .int .i64 tk]) rfl (by kernel_rfl) (by kernel_rfl) (by kernel_rfl) (fun _ _ _ h => h) (Or.inl ⟨by kernel_rfl, fun w' hSw => by (try dsimp only at hSw); go_simp⟩) (by assumption) ?_
              try simp only [Act.put, List.setIfInBounds_toArray, List.set_cons_zero, List.set_cons_succ]
              refine wpAnyH_take (i := 10) (oi := { dst := some 32, op := Op.extract (Operand.tmp 22) 0, type := 24, pos := "outright.go:88", after := #[{ on := 9, ground := Ground.data }], guard := none }) (v := .agg #[.int .i64 T.z, .slice T.A T.n T.c]) rfl (by kernel_rfl) (by kernel_rfl) (by kernel_rfl) (fun _ _ _ h => h) (Or.inl ⟨by kernel_rfl, fun w' hSw => by (try dsimp only at hSw); go_simp⟩) (by assumption) ?_
              try simp only [Act.put, List.setIfInBounds_toArray, List.set_cons_zero, List.set_cons_succ]
              refine wpAnyH_take (i := 11) (oi := { dst := some 33, op := Op.extract (Operand.tmp 22) 1, type := 31, pos := "outright.go:88", after := #[{ on := 9, ground := Ground.data }, { on := 13, ground := Ground.gcOnly Departure.lateStores }], guard := none }) (v := .int .i64 tk) rfl (by kernel_rfl) (by kernel_rfl) (by kernel_rfl) (fun _ _ _ h => h) (Or.inl ⟨by kernel_rfl, fun w' hSw => by (try dsimp only at hSw); go_simp⟩) (by assumption) ?_
              try simp only [Act.put, List.setIfInBounds_toArray, List.set_cons_zero, List.set_cons_succ]
              refine wpAnyH_ready (rs := [13]) (by kernel_rfl) (by simp) ?_
              refine AllReadyH.cons (o := { dst := none, op := Op.store 24 (Operand.tmp 8) (Operand.tmp 32), type := 0, pos := "outright.go:88", after := #[{ on := 12, ground := Ground.data }, { on := 10, ground := Ground.data }, { on := 8, ground := Ground.chain }, { on := 0, ground := Ground.phase }, { on := 1, ground := Ground.phase }, { on := 2, ground := Ground.phase }, { on := 3, ground := Ground.phase }, { on := 4, ground := Ground.phase }, { on := 5, ground := Ground.phase }, { on := 6, ground := Ground.phase }, { on := 7, ground := Ground.phase }, { on := 8, ground := Ground.phase }, { on := 9, ground := Ground.phase }, { on := 10, ground := Ground.phase }, { on := 11, ground := Ground.textOnly Departure.lateStores }, { on := 12, ground := Ground.phase }], guard := none }) rfl (fun K hK => ?_) ?_
              · skip
                have y0 := Z5.out.1.cell 0
                have y1 := Z5.out.1.cell 1
                have f0 := Z5.out.1.frozen 0
                have f1 := Z5.out.1.frozen 1
                go_simp
                have E6 := Lib.hid (E5.out.put Z5.out O5.out)
                clear hHeld y0 y1 f0 f1 E5 Z5 O5
                refine hK.out _ _ (by have h := HE.out _ E6.out.below; exact ⟨h.1.c0 (.head _), h.1.c1 (.head _), h.2.cell 0, h.2.cell 1, h.2.cell 2⟩) (fun hHeld => ?_)
                clear hK K
                try simp only [Act.put, List.setIfInBounds_toArray, List.set_cons_zero, List.set_cons_succ]
                generalize (u5.setCell ⟨XB, 0, none⟩ (.int .i64 T.z)).setCell ⟨XB, 1, none⟩ (.slice T.A T.n T.c) = u6 at *
                refine wpAnyH_take (i := 14) (oi := { dst := some 9, op := Op.assign (Operand.tmp 33), type := 31, pos := "outright.go:88", after := #[{ on := 11, ground := Ground.data }, { on := 13, ground := Ground.chain }, { on := 0, ground := Ground.phase }, { on := 1, ground := Ground.phase }, { on := 2, ground := Ground.phase }, { on := 3, ground := Ground.phase }, { on := 4, ground := Ground.phase }, { on := 5, ground := Ground.phase }, { on := 6, ground := Ground.phase }, { on := 7, ground := Ground.phase }, { on := 8, ground := Ground.phase }, { on := 9, ground := Ground.phase }, { on := 10, ground := Ground.phase }, { on := 11, ground := Ground.phase }, { on := 12, ground := Ground.phase }, { on := 13, ground := Ground.phase }], guard := none }) (v := .int .i64 tk) rfl (by kernel_rfl) (by kernel_rfl) (by kernel_rfl) (fun _ _ _ h => h) (Or.inl ⟨by kernel_rfl, fun w' hSw => by (try dsimp only at hSw); go_simp⟩) (by assumption) ?_
                try simp only [Act.put, List.setIfInBounds_toArray, List.set_cons_zero, List.set_cons_succ]
                refine wpAnyH_done (by kernel_rfl) ?_ _
                refine NoPanic.normal ?_
                clear hHeld
                go_wp2_with fail
                go_meet
                exact ⟨T, XB, rfl, rfl, HT, E6⟩
              exact AllReadyH.nil
            exact AllReadyH.nil
          exact AllReadyH.nil
        exact AllReadyH.nil
      exact AllReadyH.nil
    exact AllReadyH.nil
  case rest =>
    rename World => w4
    obtain ⟨Tn, X, rfl, rfl, HTZ, EX⟩ := hcut
    have E4 : Hid (Env w [(X, Tn), (b3, g), (w.heap.size, gx)] w4) := by
      have h1 := E3.out.on EX.out.below
      refine ⟨h1.below, fun p hp => ?_⟩
      rcases List.mem_cons.1 hp with rfl | hp
      · exact EX.out.all _ (.head _)
      · exact h1.all p hp
    have P4 := Lib.hid (P3.out.below EX.out.below P3.out.lt)
    clear E3 P3 Q3 EX HOF
    obtain rfl | ⟨rfl, hz, he, hmay, hall⟩ := HTK.out
    · go_wp2_with fail
      go_ret
      exact ⟨rfl, E4.out.below⟩
    · have HZ := Lib.hid (And.intro hz (And.intro he (And.intro hmay hall)))
      clear hz he hmay hall HTK
      cases hr : rightG g.z g.es
      · have hck : checkG g.z g.es = 150 := check_no hr
        have HC := Lib.hid (check_any g.z g.A g.n g.c g.es (by have := HN.out; omega) _ (E4.out.ok (.tail _ (.head _))).1)
        rw [hck] at HC
        clear hr hck
        have z0 := E4.out.c0 (.tail _ (.head _))
        have z1 := E4.out.c1 (.tail _ (.head _))
        go_wp2_with fail
        refine HC.out.mono ?_
        rintro e w5 ⟨rfl, b⟩
        have E5 := Lib.hid (E4.out.on b)
        clear b E4 HC z0 z1
        go_wp2_with fail
        go_ret
        exact ⟨rfl, E5.out.below⟩
      · have hck : checkG g.z g.es = 0 := check_yes hr
        have HC := Lib.hid (check_any g.z g.A g.n g.c g.es (by have := HN.out; omega) _ (E4.out.ok (.tail _ (.head _))).1)
        rw [hck] at HC
        obtain ⟨m, hm1, hm2, hm3, hG⟩ := right_nat hr
        have hTe : Tn.z = g.z ∧ Tn.es = sorE (g.es ++ [(ex, ey, ek)]) := ⟨HTZ.out.1.trans HZ.out.1, HTZ.out.2.trans HZ.out.2.1⟩
        have hGT : IsG (m : Int) Tn.es := by
          rw [hTe.2, ← hm1]
          exact IsG.sor HZ.out.2.2.1 HZ.out.2.2.2
        have hrT : rightG Tn.z Tn.es = true := by rw [hTe.1, hm1]; exact rightG_iff.2 hGT
        have hmore : ∀ x y, EdR g.es x y → EdR Tn.es x y := fun x y ⟨p, hp, h1, h2⟩ => by
          refine ⟨p, ?_, h1, h2⟩
          rw [hTe.2]
          exact (mem_sorE (fun q hq => rightE_ok HZ.out.2.2.1 (HZ.out.2.2.2 q hq)) p).2 (List.mem_append_left _ hp)
        have HTN : Hid (Tn.n ≤ 301) := by
          have h1 := (E4.out.ok (.head _)).len
          have h2 := sorE_len (g.es ++ [(ex, ey, ek)])
          rw [← hTe.2, h1, List.length_append] at h2
          have h3 := HL.out
          have h4 := HN.out
          show _ ≤ _
          simp at h2
          omega
        have HM := Lib.hid (And.intro hm1 (And.intro hm2 (And.intro hTe.1 (And.intro hrT hmore))))
        have HRT := Lib.hid hr
        clear hr hck hm1 hm2 hm3 hG hTe hGT hrT hmore HTZ HZ
        have z0 := E4.out.c0 (.tail _ (.head _))
        have z1 := E4.out.c1 (.tail _ (.head _))
        go_wp2_with fail
        refine HC.out.mono ?_
        rintro e w5 ⟨rfl, b⟩
        have E5 := Lib.hid (E4.out.on b)
        have P5 := Lib.hid (P4.out.below b P4.out.lt)
        clear b E4 P4 HC z0 z1
        have z0 := E5.out.c0 (.tail _ (.head _))
        have z1 := E5.out.c1 (.tail _ (.head _))
        have t0 := E5.out.c0 (.head _)
        have t1 := E5.out.c1 (.head _)
        have y0 := P5.out.cell 0
        have y1 := P5.out.cell 1
        go_wp2_with fail
        refine (shortest8_at g _ (by have := HN.out; omega) (E5.out.ok (.tail _ (.head _))) f s).mono ?_
        rintro e w6 ⟨l1, k1, ⟨A1, cA1, rfl, hr9, hx1, hx2, b⟩, h9⟩
        obtain ⟨Nl1, hN⟩ : ∃ N, l1.length = N := ⟨_, rfl⟩
        rw [hN]
        have HNl1 := Lib.hid hN
        have H1 := Lib.hid h9
        have E6 := Lib.hid (E5.out.on b)
        have P6 := Lib.hid (P5.out.below b P5.out.lt)
        clear hr9 hx1 hx2 hN h9 b E5 P5 z0 z1 t0 t1 y0 y1
        have z0 := E6.out.c0 (.tail _ (.head _))
        have z1 := E6.out.c1 (.tail _ (.head _))
        have t0 := E6.out.c0 (.head _)
        have t1 := E6.out.c1 (.head _)
        have y0 := P6.out.cell 0
        have y1 := P6.out.cell 1
        go_wp2_with fail
        refine (shortest8_at Tn _ (by have := HTN.out; omega) (E6.out.ok (.head _)) f s).mono ?_
        rintro e w7 ⟨l2, k2, ⟨A2, cA2, rfl, hr9, hx1, hx2, b⟩, h9⟩
        obtain ⟨Nl2, hN⟩ : ∃ N, l2.length = N := ⟨_, rfl⟩
        rw [hN]
        have HNl2 := Lib.hid hN
        have H2 := Lib.hid h9
        have E7 := Lib.hid (E6.out.on b)
        have P7 := Lib.hid (P6.out.below b P6.out.lt)
        clear hr9 hx1 hx2 hN h9 b E6 P6 z0 z1 t0 t1 y0 y1
        obtain ⟨rfl, rfl⟩ | rfl | ⟨rfl, rfl, hle⟩ : (k1 = 2 ∧ k2 = 2) ∨ k1 = 4 ∨ (k1 = 0 ∧ k2 = 0 ∧ Nl2 ≤ Nl1) := by
          obtain ⟨hm1, hm2, hTz, hrT, hmore⟩ := HM.out
          have h2 := H2.out
          rw [hTz, ← hTz, hrT] at h2
          rcases H1.out with ⟨h, _⟩ | ⟨_, h, h3, _⟩ | ⟨_, h, h3, ⟨_, h4⟩ | ⟨hne, h4⟩⟩
          · rw [HRT.out] at h; cases h
          · rcases h2 with ⟨h, _⟩ | ⟨_, _, h5, _⟩ | ⟨_, h5, _⟩
            · cases h
            · exact .inl ⟨h3, h5⟩
            · rw [hTz, h] at h5; cases h5
          · exact .inr (.inl h4)
          · rcases h2 with ⟨h5, _⟩ | ⟨_, h5, _⟩ | ⟨_, _, h5, h6⟩
            · cases h5
            · rw [hTz, h] at h5; cases h5
            · rcases h3 with ⟨_, hl1⟩ | ⟨h7, _⟩
              · have hne2 : l2 ≠ [] := by
                  rintro rfl
                  rcases h5 with ⟨h8, _⟩ | ⟨_, h8⟩
                  · exact h8 rfl
                  · exact h8 l1 (hl1.1.mono hmore)
                have hl2 : LW (EdR Tn.es) f l2 s := by
                  rcases h5 with ⟨_, h8⟩ | ⟨h8, _⟩
                  · exact h8
                  · exact absurd h8 hne2
                rcases h6 with ⟨h7, _⟩ | ⟨_, h7⟩
                · exact absurd h7 hne2
                · exact .inr (.inr ⟨h4, h7, by have := hl1.more_ hmore hl2; rw [HNl1.out, HNl2.out] at this; exact this⟩)
              · exact absurd h7 hne
        · skip
          clear H1 H2
          by_cases h40 : g.z > 40
          · skip
            have z0 := E7.out.c0 (.tail _ (.head _))
            have z1 := E7.out.c1 (.tail _ (.head _))
            have t0 := E7.out.c0 (.head _)
            have t1 := E7.out.c1 (.head _)
            clear P7 HNl1 HNl2
            go_wp2_with fail
            go_ret
            exact ⟨rfl, E7.out.below⟩
          · skip
            clear P7
            have z0 := E7.out.c0 (.tail _ (.head _))
            have z1 := E7.out.c1 (.tail _ (.head _))
            have t0 := E7.out.c0 (.head _)
            have t1 := E7.out.c1 (.head _)
            go_wp2_with fail
            refine (cycle8_at g _ (by have := HN.out; omega) (E7.out.ok (.tail _ (.head _)))).mono ?_
            rintro e w8 ⟨l3, k3, ⟨A3, cA3, rfl, hr9, hx1, hx2, b⟩, h9⟩
            obtain ⟨Nl3, hN⟩ : ∃ N, l3.length = N := ⟨_, rfl⟩
            rw [hN]
            have HNl3 := Lib.hid hN
            have H3 := Lib.hid h9
            have E8 := Lib.hid (E7.out.on b)
            clear hr9 hx1 hx2 hN h9 b E7 z0 z1 t0 t1
            have z0 := E8.out.c0 (.tail _ (.head _))
            have z1 := E8.out.c1 (.tail _ (.head _))
            have t0 := E8.out.c0 (.head _)
            have t1 := E8.out.c1 (.head _)
            go_wp2_with fail
            refine (cycle8_at Tn _ (by have := HTN.out; omega) (E8.out.ok (.head _))).mono ?_
            rintro e w9 ⟨l4, k4, ⟨A4, cA4, rfl, hr9, hx1, hx2, b⟩, h9⟩
            obtain ⟨Nl4, hN⟩ : ∃ N, l4.length = N := ⟨_, rfl⟩
            rw [hN]
            have HNl4 := Lib.hid hN
            have H4 := Lib.hid h9
            have E9 := Lib.hid (E8.out.on b)
            clear hr9 hx1 hx2 hN h9 b E8 z0 z1 t0 t1
            obtain rfl | ⟨rfl, rfl, hle4⟩ : k3 = 4 ∨ (k3 = 0 ∧ k4 = 0 ∧ Nl4 ≤ Nl3) := by
              obtain ⟨hm1, hm2, hTz, hrT, hmore⟩ := HM.out
              have h2 := H4.out
              rw [hrT] at h2
              rcases H3.out with ⟨h, _⟩ | ⟨_, h, _⟩ | ⟨_, _, h3, ⟨_, h4⟩ | ⟨hne, h4⟩⟩
              · rw [HRT.out] at h; cases h
              · cases h
              · exact .inl h4
              · rcases h2 with ⟨h5, _⟩ | ⟨_, h5, _⟩ | ⟨_, _, h5, h6⟩
                · cases h5
                · cases h5
                · rw [hTz] at h5
                  obtain ⟨h7, h8⟩ := h3.more_ hmore h5 hne
                  rcases h6 with ⟨h9, _⟩ | ⟨_, h9⟩
                  · exact absurd h9 h7
                  · exact .inr ⟨h4, h9, by rw [HNl3.out, HNl4.out] at h8; exact h8⟩
            · clear H3 H4
              go_wp2_with fail
              go_ret
              exact ⟨rfl, E9.out.below⟩
            · clear H3 H4
              have hle5 : (Nl4 : Int) ≤ (Nl3 : Int) := by omega
              go_wp2_with fail
              go_ret
              exact ⟨rfl, E9.out.below⟩
        · skip
          clear H1 H2
          by_cases h40 : g.z > 40
          · skip
            have z0 := E7.out.c0 (.tail _ (.head _))
            have z1 := E7.out.c1 (.tail _ (.head _))
            have t0 := E7.out.c0 (.head _)
            have t1 := E7.out.c1 (.head _)
            clear P7 HNl1 HNl2
            go_wp2_with fail
            go_ret
            exact ⟨rfl, E7.out.below⟩
          · skip
            clear P7
            have z0 := E7.out.c0 (.tail _ (.head _))
            have z1 := E7.out.c1 (.tail _ (.head _))
            have t0 := E7.out.c0 (.head _)
            have t1 := E7.out.c1 (.head _)
            go_wp2_with fail
            refine (cycle8_at g _ (by have := HN.out; omega) (E7.out.ok (.tail _ (.head _)))).mono ?_
            rintro e w8 ⟨l3, k3, ⟨A3, cA3, rfl, hr9, hx1, hx2, b⟩, h9⟩
            obtain ⟨Nl3, hN⟩ : ∃ N, l3.length = N := ⟨_, rfl⟩
            rw [hN]
            have HNl3 := Lib.hid hN
            have H3 := Lib.hid h9
            have E8 := Lib.hid (E7.out.on b)
            clear hr9 hx1 hx2 hN h9 b E7 z0 z1 t0 t1
            have z0 := E8.out.c0 (.tail _ (.head _))
            have z1 := E8.out.c1 (.tail _ (.head _))
            have t0 := E8.out.c0 (.head _)
            have t1 := E8.out.c1 (.head _)
            go_wp2_with fail
            refine (cycle8_at Tn _ (by have := HTN.out; omega) (E8.out.ok (.head _))).mono ?_
            rintro e w9 ⟨l4, k4, ⟨A4, cA4, rfl, hr9, hx1, hx2, b⟩, h9⟩
            obtain ⟨Nl4, hN⟩ : ∃ N, l4.length = N := ⟨_, rfl⟩
            rw [hN]
            have HNl4 := Lib.hid hN
            have H4 := Lib.hid h9
            have E9 := Lib.hid (E8.out.on b)
            clear hr9 hx1 hx2 hN h9 b E8 z0 z1 t0 t1
            obtain rfl | ⟨rfl, rfl, hle4⟩ : k3 = 4 ∨ (k3 = 0 ∧ k4 = 0 ∧ Nl4 ≤ Nl3) := by
              obtain ⟨hm1, hm2, hTz, hrT, hmore⟩ := HM.out
              have h2 := H4.out
              rw [hrT] at h2
              rcases H3.out with ⟨h, _⟩ | ⟨_, h, _⟩ | ⟨_, _, h3, ⟨_, h4⟩ | ⟨hne, h4⟩⟩
              · rw [HRT.out] at h; cases h
              · cases h
              · exact .inl h4
              · rcases h2 with ⟨h5, _⟩ | ⟨_, h5, _⟩ | ⟨_, _, h5, h6⟩
                · cases h5
                · cases h5
                · rw [hTz] at h5
                  obtain ⟨h7, h8⟩ := h3.more_ hmore h5 hne
                  rcases h6 with ⟨h9, _⟩ | ⟨_, h9⟩
                  · exact absurd h9 h7
                  · exact .inr ⟨h4, h9, by rw [HNl3.out, HNl4.out] at h8; exact h8⟩
            · clear H3 H4
              go_wp2_with fail
              go_ret
              exact ⟨rfl, E9.out.below⟩
            · clear H3 H4
              have hle5 : (Nl4 : Int) ≤ (Nl3 : Int) := by omega
              go_wp2_with fail
              go_ret
              exact ⟨rfl, E9.out.below⟩
        · skip
          have hle2 : ¬ Nl2 > Nl1 := by omega
          clear H1 H2
          by_cases h40 : g.z > 40
          · skip
            have z0 := E7.out.c0 (.tail _ (.head _))
            have z1 := E7.out.c1 (.tail _ (.head _))
            have t0 := E7.out.c0 (.head _)
            have t1 := E7.out.c1 (.head _)
            clear P7 HNl1 HNl2
            go_wp2_with fail
            go_ret
            exact ⟨rfl, E7.out.below⟩
          · skip
            clear P7
            have z0 := E7.out.c0 (.tail _ (.head _))
            have z1 := E7.out.c1 (.tail _ (.head _))
            have t0 := E7.out.c0 (.head _)
            have t1 := E7.out.c1 (.head _)
            go_wp2_with fail
            refine (cycle8_at g _ (by have := HN.out; omega) (E7.out.ok (.tail _ (.head _)))).mono ?_
            rintro e w8 ⟨l3, k3, ⟨A3, cA3, rfl, hr9, hx1, hx2, b⟩, h9⟩
            obtain ⟨Nl3, hN⟩ : ∃ N, l3.length = N := ⟨_, rfl⟩
            rw [hN]
            have HNl3 := Lib.hid hN
            have H3 := Lib.hid h9
            have E8 := Lib.hid (E7.out.on b)
            clear hr9 hx1 hx2 hN h9 b E7 z0 z1 t0 t1
            have z0 := E8.out.c0 (.tail _ (.head _))
            have z1 := E8.out.c1 (.tail _ (.head _))
            have t0 := E8.out.c0 (.head _)
            have t1 := E8.out.c1 (.head _)
            go_wp2_with fail
            refine (cycle8_at Tn _ (by have := HTN.out; omega) (E8.out.ok (.head _))).mono ?_
            rintro e w9 ⟨l4, k4, ⟨A4, cA4, rfl, hr9, hx1, hx2, b⟩, h9⟩
            obtain ⟨Nl4, hN⟩ : ∃ N, l4.length = N := ⟨_, rfl⟩
            rw [hN]
            have HNl4 := Lib.hid hN
            have H4 := Lib.hid h9
            have E9 := Lib.hid (E8.out.on b)
            clear hr9 hx1 hx2 hN h9 b E8 z0 z1 t0 t1
            obtain rfl | ⟨rfl, rfl, hle4⟩ : k3 = 4 ∨ (k3 = 0 ∧ k4 = 0 ∧ Nl4 ≤ Nl3) := by
              obtain ⟨hm1, hm2, hTz, hrT, hmore⟩ := HM.out
              have h2 := H4.out
              rw [hrT] at h2
              rcases H3.out with ⟨h, _⟩ | ⟨_, h, _⟩ | ⟨_, _, h3, ⟨_, h4⟩ | ⟨hne, h4⟩⟩
              · rw [HRT.out] at h; cases h
              · cases h
              · exact .inl h4
              · rcases h2 with ⟨h5, _⟩ | ⟨_, h5, _⟩ | ⟨_, _, h5, h6⟩
                · cases h5
                · cases h5
                · rw [hTz] at h5
                  obtain ⟨h7, h8⟩ := h3.more_ hmore h5 hne
                  rcases h6 with ⟨h9, _⟩ | ⟨_, h9⟩
                  · exact absurd h9 h7
                  · exact .inr ⟨h4, h9, by rw [HNl3.out, HNl4.out] at h8; exact h8⟩
            · clear H3 H4
              go_wp2_with fail
              go_ret
              exact ⟨rfl, E9.out.below⟩
            · clear H3 H4
              have hle5 : (Nl4 : Int) ≤ (Nl3 : Int) := by omega
              go_wp2_with fail
              go_ret
              exact ⟨rfl, E9.out.below⟩
end Go.Proofs.YtgbpaiffnhpafaaDoor
