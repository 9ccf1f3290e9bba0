/- SccSets: the walk. -/
import Derived.Test.YtpjbgbgahjggiaaGreatMS10
import Derived.Test.YtpjbgbgahjggiaaGreatMS15
import Derived.Test.YtpjbgbgahjggiaaGreatMS21
import Derived.Test.YtpjbgbgahjggiaaGreatMS11
import Derived.Test.YtpjbgbgahjggiaaGreatMS25
import Derived.Test.YtpjbgbgahjggiaaGreatMS27
-- holds: YtpjbgbgahjggiaaGreatCsb
namespace Go.Proofs.YtpjbgbgahjggiaaGreat
open Go.RowKit Go.Shelf

theorem mem_round6 {ms : List (List Bool)} {zs : List Ed} {m : Nat} (h : AllM zs m ms) (hz : ∀ p ∈ zs, rightE (m : Int) p = true) (v : Nat) : (v : Int) ∈ roundE ms m ↔ Leads zs (v : Int) (v : Int) := by
  unfold roundE
  rw [List.mem_map]
  constructor
  · rintro ⟨u, hu, e⟩
    obtain ⟨h1, h2⟩ := List.mem_filter.1 hu
    have h3 := List.mem_range.1 h1
    obtain rfl : u = v := by omega
    exact (h.cell h3 h3).1 h2
  · intro hl
    have h3 := (hl.ends hz).1
    exact ⟨v, List.mem_filter.2 ⟨List.mem_range.2 (by omega), (h.cell (by omega) (by omega)).2 hl⟩, rfl⟩
theorem round6_ends {ms : List (List Bool)} {m : Nat} : ∀ x ∈ roundE ms m, 0 ≤ x ∧ x < (m : Int) := by
  intro x hx
  unfold roundE at hx
  obtain ⟨u, hu, rfl⟩ := List.mem_map.1 hx
  have := List.mem_range.1 (List.mem_filter.1 hu).1
  omega
/-- What the law calls. -/
structure Sets6 : Prop where
  waked : Waked
  of : AtG 6 OfC
  sets : AtG 7 SetsC
  cyclic : AtG 8 CyclicC
theorem sets6 : Sets6 := ⟨⟨of6_any, cyclic6_any, fold6_any⟩, of6_any, sets6_any, cyclic6_any⟩
/-- What the law awaits. -/
structure Want6 (m0 : Int) (zs : List Ed) (k : Int) (os : List Int) (ls : List (List Int)) (b : Bool) (ws : List Nat) (want : List Int) (rows : List (List Int)) (on : List Int) (no : Int) : Prop where
  no_ : no = k
  os_ : os = want
  ls_ : ls = rows
  b_ : b = decide (0 < (on.length : Int))
  ws_ : ws = Bit.setW (Bit.ofF on)
  may : Bit.mayL on
  few : os.length ≤ 300 ∧ ls.length ≤ 300 ∧ on.length ≤ 300 ∧ ∀ l ∈ ls, l.length ≤ 300

set_option maxRecDepth 100000 in
set_option maxHeartbeats 4000000 in
theorem sets6_core (S : Sets6) (nodes : Int) (A : Option Addr) (n c : Nat) (zs : List Ed) (hc : A = none → c = 0) (hnc : n ≤ c) (hcm : c ≤ 9223372036854775807) (w : World) (hR : Reads w w.heap.size 3 A n (cellsE zs)) :
    Calls Tryz.prog 3 #[.agg #[.int .i64 nodes, .slice A n c]] w fun e w' => e = .returned (.bool true) ∧ Below w.heap.size w w' := by
  have E0 := Lib.hid ((Env.start w).add (g := ⟨nodes, A, n, c, zs⟩) ⟨hR, hnc, hcm, hc⟩)
  obtain ⟨gx, hgx⟩ : ∃ gx : GV, (⟨nodes, A, n, c, zs⟩ : GV) = gx := ⟨_, rfl⟩
  have hz : nodes = gx.z := by rw [← hgx]
  have hA : A = gx.A := by rw [← hgx]
  have hn : n = gx.n := by rw [← hgx]
  have hcc : c = gx.c := by rw [← hgx]
  rw [hgx] at E0
  subst hz; subst hA; subst hn; subst hcc
  have HS := Lib.hid S
  clear hR hc hnc hcm hgx S
  go_enter Tryz.func3, Tryz.ntmps3
  go_wp2_with fail
  generalize w.alloc (.cells #[.int .i64 gx.z, .slice gx.A gx.n gx.c] 24) = W0 at *
  refine (wakes6_by HS.out.waked _).mono ?_
  rintro e w1 ⟨rfl, b⟩
  have E1 := Lib.hid (E0.out.on b)
  clear b E0
  have z0 := E1.out.c0 (.head _)
  have z1 := E1.out.c1 (.head _)
  go_wp2_with fail
  have ok1 := E1.out.ok (.head _)
  refine (own6_any gx.z gx.A gx.n gx.c gx.es ok1.2.2.2 ok1.2.1 ok1.2.2.1 w1 ok1.1).mono ?_
  clear ok1
  rintro e w2 hx
  obtain ⟨g, rfl, hz, he, okg, b⟩ := gis_gv hx
  have E2 := Lib.hid ((E1.out.on b).add okg)
  have hgn : g.n ≤ 600 := by
    have := okg.len
    have h2 : (gx.es.take 600).length ≤ 600 := by rw [List.length_take]; omega
    rw [← he] at h2
    omega
  have HGE := Lib.hid (And.intro hz he)
  clear hx hz he okg b E1 z0 z1
  have z0 := E2.out.c0 (.head _)
  have z1 := E2.out.c1 (.head _)
  go_wp2_with fail
  generalize w2.alloc (.cells #[.int .i64 g.z, .slice g.A g.n g.c] 24) = w3 at *
  generalize w2.heap.size = b3 at *
  refine (HS.out.of g w3 (by omega) (E2.out.ok (.head _))).mono ?_
  rintro e w4 ⟨os, k1, hx, hr1, hw1⟩
  obtain ⟨AO, co, rfl, ro, ho1, ho2, b⟩ := hx
  have E4 := Lib.hid (E2.out.on b)
  have RO := Lib.hid ro
  have HR1 := Lib.hid hr1
  have HW1 := Lib.hid hw1
  clear hr1 hw1 b E2 z0 z1 ro ho1 ho2
  have z0 := E4.out.c0 (.head _)
  have z1 := E4.out.c1 (.head _)
  go_wp2_with fail
  refine (HS.out.sets g w4 (by omega) (E4.out.ok (.head _))).mono ?_
  rintro e w5 ⟨ls, k2, AS, cs, rfl, hir, b, hr2, hw2⟩
  have E5 := Lib.hid (E4.out.on b)
  have IR := Lib.hid hir
  have RO5 : Hid (Reads w5 w5.heap.size 1 AO os.length (ints os)) := (RO.out.below b).more b.size
  have HR2 := Lib.hid hr2
  have HW2 := Lib.hid hw2
  clear hr2 hw2 b E4 RO z0 z1 hir
  have z0 := E5.out.c0 (.head _)
  have z1 := E5.out.c1 (.head _)
  go_wp2_with fail
  refine (HS.out.cyclic g w5 (by omega) (E5.out.ok (.head _))).mono ?_
  rintro e w6 ⟨bc, k3, rfl, b, hr3, hw3⟩
  have E6 := Lib.hid (E5.out.on b)
  have IR6 := Lib.hid (IR.out.on b)
  have RO6 : Hid (Reads w6 w6.heap.size 1 AO os.length (ints os)) := (RO5.out.below b).more b.size
  have HR3 := Lib.hid hr3
  have HW3 := Lib.hid hw3
  clear hr3 hw3 b E5 RO5 IR z0 z1
  have z0 := E6.out.c0 (.head _)
  have z1 := E6.out.c1 (.head _)
  have HRC := Lib.hid (round6_any g w6 (by omega) (E6.out.ok (.head _)))
  go_wp2_with fail
  refine HRC.out.mono ?_
  rintro e w7 ⟨ws, k4, ⟨AB, nb, cb, rfl, hob, b⟩, hr4, hw4⟩
  have ba : Below w7.heap.size w7 (w7.alloc (.cells #[.slice AB nb cb] 38)) := (Below.refl _ _).alloc (Nat.le_refl _) _
  have E7 := Lib.hid ((E6.out.on b).on ba)
  have IR7 := Lib.hid ((IR6.out.on b).on ba)
  have RO7 : Hid (Reads (w7.alloc (.cells #[.slice AB nb cb] 38)) (w7.alloc (.cells #[.slice AB nb cb] 38)).heap.size 1 AO os.length (ints os)) := (((RO6.out.below b).more b.size).below ba).more ba.size
  have HOB := Lib.hid (Bit.OW.below hob ba)
  have HX := Lib.hid (Blk.new w7 38 #[.slice AB nb cb])
  have HNB : Hid (ws.length = nb) := hob.1
  have HR4 := Lib.hid hr4
  have HW4 := Lib.hid hw4
  clear hr4 hw4 b ba hob E6 RO6 IR6 HRC z0 z1
  go_upto_region 8 with fail
  generalize w7.alloc (.cells #[.slice AB nb cb] 38) = w8 at *
  generalize w7.heap.size = XB at *
  have HE : Hid (∀ W, Below w8.heap.size w8 W → Env w [(b3, g), (w.heap.size, gx)] W) := fun W h => E7.out.on h
  have HRO : Hid (∀ W, Below w8.heap.size w8 W → Reads W W.heap.size 1 AO os.length (ints os)) := fun W h => (RO7.out.below h).more h.size
  have HIR : Hid (∀ W, Below w8.heap.size w8 W → IRows W w4.heap.size AS ls.length cs ls) := fun W h => IR7.out.on h
  have HBX : Hid (∀ W, Below w8.heap.size w8 W → W.cell? ⟨XB, 0, none⟩ = some (.slice AB nb cb)) := fun W h => (HX.out.below h HX.out.lt).cell 0
  have HBW : Hid (∀ W, Below w8.heap.size w8 W → Bit.RW W W.heap.size AB nb ws) := fun W h => (HOB.out.below h).reads
  have J0 := Lib.hid (Below.refl w8.heap.size w8)
  have z0 := E7.out.c0 (.head _)
  have z1 := E7.out.c1 (.head _)
  have HRT := Lib.hid (right_any g.z g.A g.n g.c g.es (by omega) w8 (E7.out.ok (.head _)).1)
  clear E7 RO7 IR7 HX HOB
  go_wp2_with fail
  refine HRT.out.mono ?_
  rintro e w9 ⟨rfl, b⟩
  have J9 : Hid (Below w8.heap.size w8 w9) := J0.out.trans b
  clear b HRT z0 z1 J0
  go_upto_if 41 with fail
  go_cut [12, 13, 14, 15] from 41 (fun s12 s13 s14 s15 wy => ∃ (want : List Int) (rows : List (List Int)) (on : List Int) (no : Int) (Aw Ar Ao : Option Addr) (cw cr cn base : Nat),
    s12 = .slice Aw want.length cw ∧ s13 = .slice Ar rows.length cr ∧ s14 = .slice Ao on.length cn ∧ s15 = .int .i64 no ∧ k1 = no ∧ k2 = no ∧ k3 = no ∧ k4 = no ∧ Hid (Want6 g.z g.es no os ls bc ws want rows on no) ∧
    Hid (Reads wy wy.heap.size 1 Aw want.length (ints want)) ∧ Hid (IRows wy base Ar rows.length cr rows) ∧ Hid (Reads wy wy.heap.size 1 Ao on.length (ints on)) ∧ Hid (Below w8.heap.size w8 wy))
  case first =>
    cases hr : rightG g.z g.es
    · obtain ⟨hk1, ho1⟩ := HW1.out hr
      obtain ⟨hk2, ho2⟩ := HW2.out hr
      obtain ⟨hk3, ho3⟩ := HW3.out hr
      obtain ⟨hk4, ho4⟩ := HW4.out hr
      have HX := Lib.hid (And.intro hk1 (And.intro hk2 (And.intro hk3 hk4)))
      have HWT : Hid (Want6 g.z g.es 150 os ls bc ws [] [] [] 150) := ⟨rfl, ho1, ho2, by rw [ho3]; rfl, by rw [ho4, Bit.set_none (fun n _ => by unfold Bit.ofF; simp)], (fun x hx => by simp at hx), by rw [ho1, ho2]; simp⟩
      clear hk1 hk2 hk3 hk4 ho1 ho2 ho3 ho4 hr
      go_wp2_with fail
      go_meet
      case rel => exact ⟨[], [], [], 150, none, none, none, 0, 0, 0, 0, rfl, rfl, rfl, rfl, HX.out.1, HX.out.2.1, HX.out.2.2.1, HX.out.2.2.2, HWT, Reads.none_, IRows.nil _ _, Reads.none_, J9⟩
    · obtain ⟨hk1, ls1, hcs1⟩ := HR1.out hr
      obtain ⟨hk2, os2, hcs2⟩ := HR2.out hr
      obtain ⟨hk3, hb3⟩ := HR3.out hr
      obtain ⟨hk4, lr, hws, hre, hrl⟩ := HR4.out hr
      have hgg := rightG_iff.1 hr
      have hzz := hgg.nodes
      obtain ⟨m, hm⟩ : ∃ m : Nat, g.z = (m : Int) := ⟨g.z.toNat, by omega⟩
      have HK := Lib.hid (And.intro hk1 (And.intro hk2 (And.intro hk3 hk4)))
      have HC1 := Lib.hid hcs1
      have HC2 := Lib.hid hcs2
      have HB3 := Lib.hid hb3
      have HLR := Lib.hid (And.intro hws (And.intro hre hrl))
      have HM := Lib.hid hm
      have HM3 : Hid (m ≤ 300) := by show m ≤ 300; omega
      have HGG := Lib.hid hgg
      have HOF := Lib.hid fun W (h : g.ok W) => rof6_comps g.z g.A g.n g.c g.es hgg (by omega) W h.1
      have HSE := Lib.hid fun W (h : g.ok W) => rsets_comps g.z g.A g.n g.c g.es hgg (by omega) W h.1
      have HRO6 := Lib.hid fun W (h : g.ok W) => rround_any g.z g.A g.n g.c g.es hgg (by omega) W h.1
      clear hk1 hk2 hk3 hk4 hcs1 hcs2 hb3 hws hre hrl hgg hzz hm hr
      go_upto_region 13 with fail
      have K0 : Hid (Below w8.heap.size w8 w9.drew) := J9.out.drew
      have D0 := Lib.hid (Below.refl w9.drew.heap.size w9.drew)
      clear J9
      refine wp_region_noPanic ?_
      refine wp_region_held_drew (S := fun w' => w'.cell? ⟨b3, 0, none⟩ = some (.int .i64 g.z) ∧ w'.cell? ⟨b3, 1, none⟩ = some (.slice g.A g.n g.c)) (by kernel_rfl) ⟨(HE.out _ K0.out).c0 (.head _), (HE.out _ K0.out).c1 (.head _)⟩ (fun hHeld => ?_)
      refine wpAnyH_take (i := 0) (oi := { dst := some 42, op := Op.load 24 (Operand.tmp 3), type := 24, pos := "law.go:51", after := #[], guard := none }) (v := .agg #[.int .i64 g.z, .slice g.A g.n g.c]) rfl (by kernel_rfl) (by kernel_rfl) (by kernel_rfl) (fun _ _ _ h => h) (Or.inl ⟨by kernel_rfl, fun w' hSw => by (try dsimp only at hSw); go_simp⟩) (by assumption) ?_
      try simp only [Act.put, List.setIfInBounds_toArray, List.set_cons_zero, List.set_cons_succ]
      refine wpAnyH_take (i := 2) (oi := { dst := some 44, op := Op.load 24 (Operand.tmp 3), type := 24, pos := "law.go:51", after := #[], guard := none }) (v := .agg #[.int .i64 g.z, .slice g.A g.n g.c]) rfl (by kernel_rfl) (by kernel_rfl) (by kernel_rfl) (fun _ _ _ h => h) (Or.inl ⟨by kernel_rfl, fun w' hSw => by (try dsimp only at hSw); go_simp⟩) (by assumption) ?_
      try simp only [Act.put, List.setIfInBounds_toArray, List.set_cons_zero, List.set_cons_succ]
      refine wpAnyH_take (i := 4) (oi := { dst := some 46, op := Op.load 24 (Operand.tmp 3), type := 24, pos := "law.go:51", after := #[], guard := none }) (v := .agg #[.int .i64 g.z, .slice g.A g.n g.c]) rfl (by kernel_rfl) (by kernel_rfl) (by kernel_rfl) (fun _ _ _ h => h) (Or.inl ⟨by kernel_rfl, fun w' hSw => by (try dsimp only at hSw); go_simp⟩) (by assumption) ?_
      try simp only [Act.put, List.setIfInBounds_toArray, List.set_cons_zero, List.set_cons_succ]
      refine wpAnyH_ready (rs := [1]) (by kernel_rfl) (by simp) ?_
      refine AllReadyH.cons (o := { dst := some 43, op := Op.call { callee := Callee.value (Operand.func 11), args := #[Operand.tmp 42], argTypes := #[24] }, type := 27, pos := "law.go:51", after := #[{ on := 0, ground := Ground.data }], guard := none }) rfl (fun K hK => ?_) AllReadyH.nil
      go_simp
      refine (HOF.out _ ((HE.out _ K0.out).ok (.head _))).mono ?_
      rintro e v1 ⟨lsa, want, hca, Aw, cw, rfl, how, _, _, b⟩
      have K1 : Hid (Below w8.heap.size w8 v1) := K0.out.trans (b.mono K0.out.size)
      have HW : Hid (os = want) := (HC1.out.unique hca).2
      have RW1 : Hid (Reads v1 v1.heap.size 1 Aw want.length (ints want)) := Reads.of_own how
      clear hca how b hHeld K0
      refine hK.out _ _ ⟨(HE.out _ K1.out).c0 (.head _), (HE.out _ K1.out).c1 (.head _)⟩ (fun hHeld => ?_)
      clear hK K
      try simp only [Act.put, List.setIfInBounds_toArray, List.set_cons_zero, List.set_cons_succ]
      refine wpAnyH_ready (rs := [3]) (by kernel_rfl) (by simp) ?_
      refine AllReadyH.cons (o := { dst := some 45, op := Op.call { callee := Callee.value (Operand.func 12), args := #[Operand.tmp 44], argTypes := #[24] }, type := 31, pos := "law.go:51", after := #[{ on := 2, ground := Ground.data }, { on := 1, ground := Ground.chain }], guard := none }) rfl (fun K hK => ?_) AllReadyH.nil
      go_simp
      refine (HSE.out _ ((HE.out _ K1.out).ok (.head _))).mono ?_
      rintro e v2 ⟨rows, osa, hca, Ar, cr, rfl, hir, b⟩
      have K2 : Hid (Below w8.heap.size w8 v2) := K1.out.trans (b.mono K1.out.size)
      have HV : Hid (ls = rows) := (HC2.out.unique hca).1
      have IR2 := Lib.hid hir
      have RW2 : Hid (Reads v2 v2.heap.size 1 Aw want.length (ints want)) := (RW1.out.below b).more b.size
      clear hca hir b hHeld K1 RW1
      refine hK.out _ _ ⟨(HE.out _ K2.out).c0 (.head _), (HE.out _ K2.out).c1 (.head _)⟩ (fun hHeld => ?_)
      clear hK K
      try simp only [Act.put, List.setIfInBounds_toArray, List.set_cons_zero, List.set_cons_succ]
      refine wpAnyH_ready (rs := [5]) (by kernel_rfl) (by simp) ?_
      refine AllReadyH.cons (o := { dst := some 47, op := Op.call { callee := Callee.value (Operand.func 13), args := #[Operand.tmp 46], argTypes := #[24] }, type := 27, pos := "law.go:51", after := #[{ on := 4, ground := Ground.data }, { on := 3, ground := Ground.chain }], guard := none }) rfl (fun K hK => ?_) AllReadyH.nil
      go_simp
      refine (HRO6.out _ ((HE.out _ K2.out).ok (.head _))).mono ?_
      rintro e v3 ⟨ms, hms, Ao, cn, rfl, how, _, _, b⟩
      have K3 : Hid (Below w8.heap.size w8 v3) := K2.out.trans (b.mono K2.out.size)
      have HMS := Lib.hid hms
      have IR3 := Lib.hid (IR2.out.on b)
      have RW3 : Hid (Reads v3 v3.heap.size 1 Aw want.length (ints want)) := (RW2.out.below b).more b.size
      have RN3 : Hid (Reads v3 v3.heap.size 1 Ao (roundE ms g.z.toNat).length (ints (roundE ms g.z.toNat))) := Reads.of_own how
      clear hms how b hHeld K2 RW2 IR2
      refine hK.out _ _ ⟨(HE.out _ K3.out).c0 (.head _), (HE.out _ K3.out).c1 (.head _)⟩ (fun hHeld => ?_)
      clear hK K
      try simp only [Act.put, List.setIfInBounds_toArray, List.set_cons_zero, List.set_cons_succ]
      refine wpAnyH_take (i := 6) (oi := { dst := some 12, op := Op.assign (Operand.tmp 43), type := 27, pos := "law.go:51", after := #[{ on := 1, ground := Ground.data }, { on := 5, ground := Ground.chain }, { on := 0, ground := Ground.phase }, { on := 1, ground := Ground.phase }, { on := 2, ground := Ground.textOnly Departure.lateStores }, { on := 3, ground := Ground.textOnly Departure.lateStoresUnsure }, { on := 4, ground := Ground.textOnly Departure.lateStores }, { on := 5, ground := Ground.textOnly Departure.lateStoresUnsure }], guard := none }) (v := .slice Aw want.length cw) rfl (by kernel_rfl) (by kernel_rfl) (by kernel_rfl) (fun _ _ _ h => h) (Or.inl ⟨by kernel_rfl, fun w' hSw => by (try dsimp only at hSw); go_simp⟩) (by assumption) ?_
      try simp only [Act.put, List.setIfInBounds_toArray, List.set_cons_zero, List.set_cons_succ]
      refine wpAnyH_take (i := 7) (oi := { dst := some 13, op := Op.assign (Operand.tmp 45), type := 31, pos := "law.go:51", after := #[{ on := 3, ground := Ground.data }, { on := 6, ground := Ground.chain }, { on := 0, ground := Ground.phase }, { on := 1, ground := Ground.phase }, { on := 2, ground := Ground.phase }, { on := 3, ground := Ground.phase }, { on := 4, ground := Ground.textOnly Departure.lateStores }, { on := 5, ground := Ground.textOnly Departure.lateStoresUnsure }, { on := 6, ground := Ground.phase }], guard := none }) (v := .slice Ar rows.length cr) rfl (by kernel_rfl) (by kernel_rfl) (by kernel_rfl) (fun _ _ _ h => h) (Or.inl ⟨by kernel_rfl, fun w' hSw => by (try dsimp only at hSw); go_simp⟩) (by assumption) ?_
      try simp only [Act.put, List.setIfInBounds_toArray, List.set_cons_zero, List.set_cons_succ]
      refine wpAnyH_take (i := 8) (oi := { dst := some 14, op := Op.assign (Operand.tmp 47), type := 27, pos := "law.go:51", after := #[{ on := 5, ground := Ground.data }, { on := 7, ground := Ground.chain }, { on := 0, ground := Ground.phase }, { on := 1, ground := Ground.phase }, { on := 2, ground := Ground.phase }, { on := 3, ground := Ground.phase }, { on := 4, ground := Ground.phase }, { on := 5, ground := Ground.phase }, { on := 6, ground := Ground.phase }, { on := 7, ground := Ground.phase }], guard := none }) (v := .slice Ao (roundE ms g.z.toNat).length cn) rfl (by kernel_rfl) (by kernel_rfl) (by kernel_rfl) (fun _ _ _ h => h) (Or.inl ⟨by kernel_rfl, fun w' hSw => by (try dsimp only at hSw); go_simp⟩) (by assumption) ?_
      try simp only [Act.put, List.setIfInBounds_toArray, List.set_cons_zero, List.set_cons_succ]
      refine wpAnyH_take (i := 9) (oi := { dst := some 15, op := Op.assign (Operand.const (Value.int IntKind.i64 0)), type := 28, pos := "law.go:51", after := #[{ on := 8, ground := Ground.chain }, { on := 0, ground := Ground.phase }, { on := 1, ground := Ground.phase }, { on := 2, ground := Ground.phase }, { on := 3, ground := Ground.phase }, { on := 4, ground := Ground.phase }, { on := 5, ground := Ground.phase }, { on := 6, ground := Ground.phase }, { on := 7, ground := Ground.phase }, { on := 8, ground := Ground.phase }], guard := none }) (v := .int .i64 0) rfl (by kernel_rfl) (by kernel_rfl) (by kernel_rfl) (fun _ _ _ h => h) (Or.inl ⟨by kernel_rfl, fun w' hSw => by (try dsimp only at hSw); go_simp⟩) (by assumption) ?_
      try simp only [Act.put, List.setIfInBounds_toArray, List.set_cons_zero, List.set_cons_succ]
      refine wpAnyH_done (by kernel_rfl) ?_ _
      refine NoPanic.normal ?_
      go_wp2_with fail
      go_meet
      case rel =>
        have hms := HMS.out
        have hc1 := HC1.out
        have hc2 := HC2.out
        have hg := HGG.out
        have hlr := HLR.out
        have hb3 := HB3.out
        rw [HM.out, Int.toNat_natCast] at hms hc1 hc2
        rw [HM.out] at hg hlr
        have hu := (hc1.unique hc2).1
        have hwant : Want6 g.z g.es 0 os ls bc ws want rows (roundE ms m) 0 := by
          have hmem : ∀ n : Nat, (n : Int) ∈ roundE ms m ↔ Leads g.es (n : Int) (n : Int) := fun n => mem_round6 hms hg.all n
          refine ⟨rfl, HW.out, HV.out, ?_, ?_, fun x hx => ?_, ?_⟩
          · rw [Bool.eq_iff_iff, hb3, decide_eq_true_eq]
            constructor
            · rintro ⟨v, hv⟩
              have := (hmem v).2 hv
              have := List.length_pos_of_mem this
              omega
            · intro h
              obtain ⟨x, hx⟩ := List.exists_mem_of_length_pos (l := roundE ms m) (by omega)
              have h2 := round6_ends x hx
              obtain ⟨v, rfl⟩ : ∃ v : Nat, x = (v : Int) := ⟨x.toNat, by omega⟩
              exact ⟨v, (hmem v).1 hx⟩
          · rw [hlr.1]
            congr 1
            funext n
            unfold Bit.ofF
            rw [decide_eq_decide, hlr.2.2 n, hmem n]
          · have h1 := round6_ends x hx
            have h2 := HM3.out
            unfold Bit.mayB
            simp
            omega
          · have h1 := hc1.len
            have h2 := roundE_len ms m
            have h3 := HM3.out
            have h4 := hc2.len
            refine ⟨by omega, by omega, by omega, fun l hl => ?_⟩
            obtain ⟨i, hi⟩ := List.mem_iff_getElem?.1 hl
            have h5 := hc2.parts.toPartsIn.few (c := l) hl
            omega
        rw [HM.out, Int.toNat_natCast] at RN3
        refine ⟨want, rows, roundE ms m, 0, Aw, Ar, Ao, cw, cr, cn, _, rfl, rfl, ?_, rfl, HK.out.1, HK.out.2.1, HK.out.2.2.1, HK.out.2.2.2, hwant, RW3, IR3, RN3, K3⟩
        rw [HM.out, Int.toNat_natCast]
  case rest =>
    clear HR1 HW1 HR2 HW2 HR3 HW3 HR4 HW4 J9
    obtain ⟨want, rows, on, no, Aw, Ar, Ao, cw, cr, cn, base, rfl, rfl, rfl, rfl, h1, h2, h3, h4, HWT, RW, IRW, RN, J⟩ := hcut
    subst h1; subst h2; subst h3; subst h4
    have hq : (k4 != k4) = false := by simp
    have hos := HWT.out.os_
    have hls := HWT.out.ls_
    have hb := HWT.out.b_
    subst hos; subst hls; subst hb
    have HLN : Hid (Bit.W64 ws ∧ nb ≤ 1000) := ⟨by rw [HWT.out.ws_]; exact (Bit.can_set _).1, by have h1 := HNB.out; have h2 := Bit.set_len (Bit.ofF on); rw [← HWT.out.ws_] at h2; omega⟩
    have K0 : Hid (Below w8.heap.size w8 wc.drew) := J.out.drew
    have D0 := Lib.hid (Below.refl wc.drew.heap.size wc.drew)
    have HW1 : Hid (∀ W, Below wc.drew.heap.size wc.drew W → Reads W W.heap.size 1 Aw os.length (ints os) ∧ IRows W base Ar ls.length cr ls ∧ Reads W W.heap.size 1 Ao on.length (ints on)) := fun W h0 => have h : Below wc.heap.size wc W := ((Below.refl wc.heap.size wc).drew).trans h0; ⟨(RW.out.below h).more h.size, IRW.out.on h, (RN.out.below h).more h.size⟩
    clear RW IRW RN J
    go_upto_region 14 with fail
    refine wp_region_noPanic ?_
    refine wp_region_held_drew (S := fun w' => w'.cell? ⟨XB, 0, none⟩ = some (.slice AB nb cb)) (by kernel_rfl) (HBX.out _ K0.out) (fun hHeld => ?_)
    refine wpAnyH_take (i := 0) (oi := { dst := some 48, op := Op.move (Operand.tmp 5), type := 28, pos := "law.go:53", after := #[], guard := none }) (v := .int .i64 k4) rfl (by kernel_rfl) (by kernel_rfl) (by kernel_rfl) (fun _ _ _ h => h) (Or.inl ⟨by kernel_rfl, fun w' hSw => by (try dsimp only at hSw); go_simp⟩) (by assumption) ?_
    try simp only [Act.put, List.setIfInBounds_toArray, List.set_cons_zero, List.set_cons_succ]
    refine wpAnyH_take (i := 1) (oi := { dst := some 49, op := Op.move (Operand.tmp 15), type := 28, pos := "law.go:53", after := #[], guard := none }) (v := .int .i64 k4) rfl (by kernel_rfl) (by kernel_rfl) (by kernel_rfl) (fun _ _ _ h => h) (Or.inl ⟨by kernel_rfl, fun w' hSw => by (try dsimp only at hSw); go_simp⟩) (by assumption) ?_
    try simp only [Act.put, List.setIfInBounds_toArray, List.set_cons_zero, List.set_cons_succ]
    refine wpAnyH_take (i := 2) (oi := { dst := some 50, op := Op.binOp BinOp.neq 28 (Operand.tmp 48) (Operand.tmp 49) 28, type := 4, pos := "law.go:53", after := #[{ on := 0, ground := Ground.data }, { on := 1, ground := Ground.data }], guard := none }) (v := .bool false) rfl (by kernel_rfl) (by kernel_rfl) (by kernel_rfl) (fun _ _ _ h => h) (Or.inl ⟨by kernel_rfl, fun w' hSw => by (try dsimp only at hSw); go_simp⟩) (by assumption) ?_
    try simp only [Act.put, List.setIfInBounds_toArray, List.set_cons_zero, List.set_cons_succ]
    refine wpAnyH_take (i := 3) (oi := { dst := some 51, op := Op.move (Operand.tmp 50), type := 4, pos := "law.go:53", after := #[{ on := 2, ground := Ground.data }], guard := none }) (v := .bool false) rfl (by kernel_rfl) (by kernel_rfl) (by kernel_rfl) (fun _ _ _ h => h) (Or.inl ⟨by kernel_rfl, fun w' hSw => by (try dsimp only at hSw); go_simp⟩) (by assumption) ?_
    try simp only [Act.put, List.setIfInBounds_toArray, List.set_cons_zero, List.set_cons_succ]
    refine wpAnyH_take (i := 4) (oi := { dst := some 52, op := Op.move (Operand.tmp 7), type := 28, pos := "law.go:53", after := #[{ on := 3, ground := Ground.guard }], guard := some (3, false) }) (v := .int .i64 k4) rfl (by kernel_rfl) (by kernel_rfl) (by kernel_rfl) (fun _ _ _ h => h) (Or.inl ⟨by kernel_rfl, fun w' hSw => by (try dsimp only at hSw); go_simp⟩) (by assumption) ?_
    try simp only [Act.put, List.setIfInBounds_toArray, List.set_cons_zero, List.set_cons_succ]
    refine wpAnyH_take (i := 5) (oi := { dst := some 53, op := Op.move (Operand.tmp 15), type := 28, pos := "law.go:53", after := #[{ on := 3, ground := Ground.guard }], guard := some (3, false) }) (v := .int .i64 k4) rfl (by kernel_rfl) (by kernel_rfl) (by kernel_rfl) (fun _ _ _ h => h) (Or.inl ⟨by kernel_rfl, fun w' hSw => by (try dsimp only at hSw); go_simp⟩) (by assumption) ?_
    try simp only [Act.put, List.setIfInBounds_toArray, List.set_cons_zero, List.set_cons_succ]
    refine wpAnyH_take (i := 6) (oi := { dst := some 54, op := Op.binOp BinOp.neq 28 (Operand.tmp 52) (Operand.tmp 53) 28, type := 4, pos := "law.go:53", after := #[{ on := 4, ground := Ground.data }, { on := 5, ground := Ground.data }, { on := 3, ground := Ground.guard }], guard := some (3, false) }) (v := .bool false) rfl (by kernel_rfl) (by kernel_rfl) (by kernel_rfl) (fun _ _ _ h => h) (Or.inl ⟨by kernel_rfl, fun w' hSw => by (try dsimp only at hSw); go_simp⟩) (by assumption) ?_
    try simp only [Act.put, List.setIfInBounds_toArray, List.set_cons_zero, List.set_cons_succ]
    refine wpAnyH_take (i := 7) (oi := { dst := some 55, op := Op.pick (Operand.tmp 51) (Operand.const (Value.bool true)) (Operand.tmp 54), type := 4, pos := "law.go:53", after := #[{ on := 3, ground := Ground.data }, { on := 6, ground := Ground.data }], guard := none }) (v := .bool false) rfl (by kernel_rfl) (by kernel_rfl) (by kernel_rfl) (fun _ _ _ h => h) (Or.inl ⟨by kernel_rfl, fun w' hSw => by (try dsimp only at hSw); go_simp⟩) (by assumption) ?_
    try simp only [Act.put, List.setIfInBounds_toArray, List.set_cons_zero, List.set_cons_succ]
    refine wpAnyH_take (i := 8) (oi := { dst := some 56, op := Op.move (Operand.tmp 55), type := 4, pos := "law.go:53", after := #[{ on := 7, ground := Ground.data }, { on := 3, ground := Ground.chain }], guard := none }) (v := .bool false) rfl (by kernel_rfl) (by kernel_rfl) (by kernel_rfl) (fun _ _ _ h => h) (Or.inl ⟨by kernel_rfl, fun w' hSw => by (try dsimp only at hSw); go_simp⟩) (by assumption) ?_
    try simp only [Act.put, List.setIfInBounds_toArray, List.set_cons_zero, List.set_cons_succ]
    refine wpAnyH_take (i := 9) (oi := { dst := some 57, op := Op.move (Operand.tmp 9), type := 28, pos := "law.go:53", after := #[{ on := 8, ground := Ground.guard }], guard := some (8, false) }) (v := .int .i64 k4) rfl (by kernel_rfl) (by kernel_rfl) (by kernel_rfl) (fun _ _ _ h => h) (Or.inl ⟨by kernel_rfl, fun w' hSw => by (try dsimp only at hSw); go_simp⟩) (by assumption) ?_
    try simp only [Act.put, List.setIfInBounds_toArray, List.set_cons_zero, List.set_cons_succ]
    refine wpAnyH_take (i := 10) (oi := { dst := some 58, op := Op.move (Operand.tmp 15), type := 28, pos := "law.go:53", after := #[{ on := 8, ground := Ground.guard }], guard := some (8, false) }) (v := .int .i64 k4) rfl (by kernel_rfl) (by kernel_rfl) (by kernel_rfl) (fun _ _ _ h => h) (Or.inl ⟨by kernel_rfl, fun w' hSw => by (try dsimp only at hSw); go_simp⟩) (by assumption) ?_
    try simp only [Act.put, List.setIfInBounds_toArray, List.set_cons_zero, List.set_cons_succ]
    refine wpAnyH_take (i := 11) (oi := { dst := some 59, op := Op.binOp BinOp.neq 28 (Operand.tmp 57) (Operand.tmp 58) 28, type := 4, pos := "law.go:53", after := #[{ on := 9, ground := Ground.data }, { on := 10, ground := Ground.data }, { on := 8, ground := Ground.guard }], guard := some (8, false) }) (v := .bool false) rfl (by kernel_rfl) (by kernel_rfl) (by kernel_rfl) (fun _ _ _ h => h) (Or.inl ⟨by kernel_rfl, fun w' hSw => by (try dsimp only at hSw); go_simp⟩) (by assumption) ?_
    try simp only [Act.put, List.setIfInBounds_toArray, List.set_cons_zero, List.set_cons_succ]
    refine wpAnyH_take (i := 12) (oi := { dst := some 60, op := Op.pick (Operand.tmp 56) (Operand.const (Value.bool true)) (Operand.tmp 59), type := 4, pos := "law.go:53", after := #[{ on := 8, ground := Ground.data }, { on := 11, ground := Ground.data }], guard := none }) (v := .bool false) rfl (by kernel_rfl) (by kernel_rfl) (by kernel_rfl) (fun _ _ _ h => h) (Or.inl ⟨by kernel_rfl, fun w' hSw => by (try dsimp only at hSw); go_simp⟩) (by assumption) ?_
    try simp only [Act.put, List.setIfInBounds_toArray, List.set_cons_zero, List.set_cons_succ]
    refine wpAnyH_take (i := 13) (oi := { dst := some 61, op := Op.move (Operand.tmp 60), type := 4, pos := "law.go:53", after := #[{ on := 12, ground := Ground.data }, { on := 8, ground := Ground.chain }], guard := none }) (v := .bool false) rfl (by kernel_rfl) (by kernel_rfl) (by kernel_rfl) (fun _ _ _ h => h) (Or.inl ⟨by kernel_rfl, fun w' hSw => by (try dsimp only at hSw); go_simp⟩) (by assumption) ?_
    try simp only [Act.put, List.setIfInBounds_toArray, List.set_cons_zero, List.set_cons_succ]
    refine wpAnyH_take (i := 14) (oi := { dst := some 62, op := Op.move (Operand.tmp 11), type := 28, pos := "law.go:53", after := #[{ on := 13, ground := Ground.guard }], guard := some (13, false) }) (v := .int .i64 k4) rfl (by kernel_rfl) (by kernel_rfl) (by kernel_rfl) (fun _ _ _ h => h) (Or.inl ⟨by kernel_rfl, fun w' hSw => by (try dsimp only at hSw); go_simp⟩) (by assumption) ?_
    try simp only [Act.put, List.setIfInBounds_toArray, List.set_cons_zero, List.set_cons_succ]
    refine wpAnyH_take (i := 15) (oi := { dst := some 63, op := Op.move (Operand.tmp 15), type := 28, pos := "law.go:53", after := #[{ on := 13, ground := Ground.guard }], guard := some (13, false) }) (v := .int .i64 k4) rfl (by kernel_rfl) (by kernel_rfl) (by kernel_rfl) (fun _ _ _ h => h) (Or.inl ⟨by kernel_rfl, fun w' hSw => by (try dsimp only at hSw); go_simp⟩) (by assumption) ?_
    try simp only [Act.put, List.setIfInBounds_toArray, List.set_cons_zero, List.set_cons_succ]
    refine wpAnyH_take (i := 16) (oi := { dst := some 64, op := Op.binOp BinOp.neq 28 (Operand.tmp 62) (Operand.tmp 63) 28, type := 4, pos := "law.go:53", after := #[{ on := 14, ground := Ground.data }, { on := 15, ground := Ground.data }, { on := 13, ground := Ground.guard }], guard := some (13, false) }) (v := .bool false) rfl (by kernel_rfl) (by kernel_rfl) (by kernel_rfl) (fun _ _ _ h => h) (Or.inl ⟨by kernel_rfl, fun w' hSw => by (try dsimp only at hSw); go_simp⟩) (by assumption) ?_
    try simp only [Act.put, List.setIfInBounds_toArray, List.set_cons_zero, List.set_cons_succ]
    refine wpAnyH_take (i := 17) (oi := { dst := some 65, op := Op.pick (Operand.tmp 61) (Operand.const (Value.bool true)) (Operand.tmp 64), type := 4, pos := "law.go:53", after := #[{ on := 13, ground := Ground.data }, { on := 16, ground := Ground.data }], guard := none }) (v := .bool false) rfl (by kernel_rfl) (by kernel_rfl) (by kernel_rfl) (fun _ _ _ h => h) (Or.inl ⟨by kernel_rfl, fun w' hSw => by (try dsimp only at hSw); go_simp⟩) (by assumption) ?_
    try simp only [Act.put, List.setIfInBounds_toArray, List.set_cons_zero, List.set_cons_succ]
    refine wpAnyH_take (i := 18) (oi := { dst := some 66, op := Op.move (Operand.tmp 65), type := 4, pos := "law.go:53", after := #[{ on := 17, ground := Ground.data }, { on := 13, ground := Ground.chain }], guard := none }) (v := .bool false) rfl (by kernel_rfl) (by kernel_rfl) (by kernel_rfl) (fun _ _ _ h => h) (Or.inl ⟨by kernel_rfl, fun w' hSw => by (try dsimp only at hSw); go_simp⟩) (by assumption) ?_
    try simp only [Act.put, List.setIfInBounds_toArray, List.set_cons_zero, List.set_cons_succ]
    refine wpAnyH_take (i := 19) (oi := { dst := some 67, op := Op.move (Operand.tmp 4), type := 27, pos := "law.go:53", after := #[{ on := 18, ground := Ground.guard }], guard := some (18, false) }) (v := .slice AO os.length co) rfl (by kernel_rfl) (by kernel_rfl) (by kernel_rfl) (fun _ _ _ h => h) (Or.inl ⟨by kernel_rfl, fun w' hSw => by (try dsimp only at hSw); go_simp⟩) (by assumption) ?_
    try simp only [Act.put, List.setIfInBounds_toArray, List.set_cons_zero, List.set_cons_succ]
    refine wpAnyH_take (i := 20) (oi := { dst := some 68, op := Op.move (Operand.tmp 12), type := 27, pos := "law.go:53", after := #[{ on := 18, ground := Ground.guard }], guard := some (18, false) }) (v := .slice Aw os.length cw) rfl (by kernel_rfl) (by kernel_rfl) (by kernel_rfl) (fun _ _ _ h => h) (Or.inl ⟨by kernel_rfl, fun w' hSw => by (try dsimp only at hSw); go_simp⟩) (by assumption) ?_
    try simp only [Act.put, List.setIfInBounds_toArray, List.set_cons_zero, List.set_cons_succ]
    refine wpAnyH_ready (rs := [21]) (by kernel_rfl) (by simp) ?_
    refine AllReadyH.cons (o := { dst := some 69, op := Op.call { callee := Callee.value (Operand.func 14), args := #[Operand.tmp 67, Operand.tmp 68], argTypes := #[27, 27] }, type := 4, pos := "law.go:53", after := #[{ on := 19, ground := Ground.data }, { on := 20, ground := Ground.data }, { on := 18, ground := Ground.chain }, { on := 18, ground := Ground.guard }], guard := some (18, false) }) rfl (fun K hK => ?_) AllReadyH.nil
    go_simp
    refine (eqi_any AO Aw os.length os.length co cw os os (by have := HWT.out.few; omega) (by have := HWT.out.few; omega) _ (HRO.out _ K0.out) (HW1.out _ D0.out).1).mono ?_
    rintro e v1 ⟨rfl, b⟩
    rw [decide_eq_true rfl]
    have K1 : Hid (Below w8.heap.size w8 v1) := K0.out.trans (b.mono K0.out.size)
    have D1 : Hid (Below wc.drew.heap.size wc.drew v1) := D0.out.trans b
    clear b hHeld K0 D0
    refine hK.out _ _ (HBX.out _ K1.out) (fun hHeld => ?_)
    clear hK K
    try simp only [Act.put, List.setIfInBounds_toArray, List.set_cons_zero, List.set_cons_succ]
    refine wpAnyH_take (i := 22) (oi := { dst := some 70, op := Op.unOp UnOp.not 4 (Operand.tmp 69), type := 4, pos := "law.go:53", after := #[{ on := 21, ground := Ground.data }, { on := 18, ground := Ground.guard }], guard := some (18, false) }) (v := .bool false) rfl (by kernel_rfl) (by kernel_rfl) (by kernel_rfl) (fun _ _ _ h => h) (Or.inl ⟨by kernel_rfl, fun w' hSw => by (try dsimp only at hSw); go_simp⟩) (by assumption) ?_
    try simp only [Act.put, List.setIfInBounds_toArray, List.set_cons_zero, List.set_cons_succ]
    refine wpAnyH_take (i := 23) (oi := { dst := some 71, op := Op.pick (Operand.tmp 66) (Operand.const (Value.bool true)) (Operand.tmp 70), type := 4, pos := "law.go:53", after := #[{ on := 18, ground := Ground.data }, { on := 22, ground := Ground.data }], guard := none }) (v := .bool false) rfl (by kernel_rfl) (by kernel_rfl) (by kernel_rfl) (fun _ _ _ h => h) (Or.inl ⟨by kernel_rfl, fun w' hSw => by (try dsimp only at hSw); go_simp⟩) (by assumption) ?_
    try simp only [Act.put, List.setIfInBounds_toArray, List.set_cons_zero, List.set_cons_succ]
    refine wpAnyH_take (i := 24) (oi := { dst := some 72, op := Op.move (Operand.tmp 71), type := 4, pos := "law.go:53", after := #[{ on := 23, ground := Ground.data }, { on := 21, ground := Ground.chain }], guard := none }) (v := .bool false) rfl (by kernel_rfl) (by kernel_rfl) (by kernel_rfl) (fun _ _ _ h => h) (Or.inl ⟨by kernel_rfl, fun w' hSw => by (try dsimp only at hSw); go_simp⟩) (by assumption) ?_
    try simp only [Act.put, List.setIfInBounds_toArray, List.set_cons_zero, List.set_cons_succ]
    refine wpAnyH_take (i := 25) (oi := { dst := some 73, op := Op.move (Operand.tmp 6), type := 31, pos := "law.go:53", after := #[{ on := 24, ground := Ground.guard }], guard := some (24, false) }) (v := .slice AS ls.length cs) rfl (by kernel_rfl) (by kernel_rfl) (by kernel_rfl) (fun _ _ _ h => h) (Or.inl ⟨by kernel_rfl, fun w' hSw => by (try dsimp only at hSw); go_simp⟩) (by assumption) ?_
    try simp only [Act.put, List.setIfInBounds_toArray, List.set_cons_zero, List.set_cons_succ]
    refine wpAnyH_take (i := 26) (oi := { dst := some 74, op := Op.move (Operand.tmp 13), type := 31, pos := "law.go:53", after := #[{ on := 24, ground := Ground.guard }], guard := some (24, false) }) (v := .slice Ar ls.length cr) rfl (by kernel_rfl) (by kernel_rfl) (by kernel_rfl) (fun _ _ _ h => h) (Or.inl ⟨by kernel_rfl, fun w' hSw => by (try dsimp only at hSw); go_simp⟩) (by assumption) ?_
    try simp only [Act.put, List.setIfInBounds_toArray, List.set_cons_zero, List.set_cons_succ]
    refine wpAnyH_ready (rs := [27]) (by kernel_rfl) (by simp) ?_
    refine AllReadyH.cons (o := { dst := some 75, op := Op.call { callee := Callee.value (Operand.func 15), args := #[Operand.tmp 73, Operand.tmp 74], argTypes := #[31, 31] }, type := 4, pos := "law.go:53", after := #[{ on := 25, ground := Ground.data }, { on := 26, ground := Ground.data }, { on := 24, ground := Ground.chain }, { on := 24, ground := Ground.guard }], guard := some (24, false) }) rfl (fun K hK => ?_) AllReadyH.nil
    go_simp
    refine (equal6_any AS Ar ls.length cs cr w4.heap.size base ls (by have := HWT.out.few; omega) (fun l hl => by have := HWT.out.few.2.2.2 l hl; omega) _ (HIR.out _ K1.out) (HW1.out _ D1.out).2.1).mono ?_
    rintro e v2 ⟨rfl, b⟩
    have K2 : Hid (Below w8.heap.size w8 v2) := K1.out.trans (b.mono K1.out.size)
    have D2 : Hid (Below wc.drew.heap.size wc.drew v2) := D1.out.trans (b.mono D1.out.size)
    clear b hHeld K1 D1
    refine hK.out _ _ (HBX.out _ K2.out) (fun hHeld => ?_)
    clear hK K
    try simp only [Act.put, List.setIfInBounds_toArray, List.set_cons_zero, List.set_cons_succ]
    refine wpAnyH_take (i := 28) (oi := { dst := some 76, op := Op.unOp UnOp.not 4 (Operand.tmp 75), type := 4, pos := "law.go:53", after := #[{ on := 27, ground := Ground.data }, { on := 24, ground := Ground.guard }], guard := some (24, false) }) (v := .bool false) rfl (by kernel_rfl) (by kernel_rfl) (by kernel_rfl) (fun _ _ _ h => h) (Or.inl ⟨by kernel_rfl, fun w' hSw => by (try dsimp only at hSw); go_simp⟩) (by assumption) ?_
    try simp only [Act.put, List.setIfInBounds_toArray, List.set_cons_zero, List.set_cons_succ]
    refine wpAnyH_take (i := 29) (oi := { dst := some 77, op := Op.pick (Operand.tmp 72) (Operand.const (Value.bool true)) (Operand.tmp 76), type := 4, pos := "law.go:53", after := #[{ on := 24, ground := Ground.data }, { on := 28, ground := Ground.data }], guard := none }) (v := .bool false) rfl (by kernel_rfl) (by kernel_rfl) (by kernel_rfl) (fun _ _ _ h => h) (Or.inl ⟨by kernel_rfl, fun w' hSw => by (try dsimp only at hSw); go_simp⟩) (by assumption) ?_
    try simp only [Act.put, List.setIfInBounds_toArray, List.set_cons_zero, List.set_cons_succ]
    refine wpAnyH_take (i := 30) (oi := { dst := some 78, op := Op.move (Operand.tmp 77), type := 4, pos := "law.go:53", after := #[{ on := 29, ground := Ground.data }, { on := 27, ground := Ground.chain }], guard := none }) (v := .bool false) rfl (by kernel_rfl) (by kernel_rfl) (by kernel_rfl) (fun _ _ _ h => h) (Or.inl ⟨by kernel_rfl, fun w' hSw => by (try dsimp only at hSw); go_simp⟩) (by assumption) ?_
    try simp only [Act.put, List.setIfInBounds_toArray, List.set_cons_zero, List.set_cons_succ]
    refine wpAnyH_take (i := 31) (oi := { dst := some 79, op := Op.move (Operand.tmp 8), type := 4, pos := "law.go:53", after := #[{ on := 30, ground := Ground.guard }], guard := some (30, false) }) (v := .bool (decide (0 < (on.length : Int)))) rfl (by kernel_rfl) (by kernel_rfl) (by kernel_rfl) (fun _ _ _ h => h) (Or.inl ⟨by kernel_rfl, fun w' hSw => by (try dsimp only at hSw); go_simp⟩) (by assumption) ?_
    try simp only [Act.put, List.setIfInBounds_toArray, List.set_cons_zero, List.set_cons_succ]
    refine wpAnyH_take (i := 32) (oi := { dst := some 80, op := Op.move (Operand.tmp 14), type := 27, pos := "law.go:53", after := #[{ on := 30, ground := Ground.guard }], guard := some (30, false) }) (v := .slice Ao on.length cn) rfl (by kernel_rfl) (by kernel_rfl) (by kernel_rfl) (fun _ _ _ h => h) (Or.inl ⟨by kernel_rfl, fun w' hSw => by (try dsimp only at hSw); go_simp⟩) (by assumption) ?_
    try simp only [Act.put, List.setIfInBounds_toArray, List.set_cons_zero, List.set_cons_succ]
    refine wpAnyH_take (i := 33) (oi := { dst := some 81, op := Op.call { callee := Callee.builtin Builtin.len, args := #[Operand.tmp 80], argTypes := #[27] }, type := 3, pos := "law.go:53", after := #[{ on := 32, ground := Ground.data }, { on := 30, ground := Ground.guard }], guard := some (30, false) }) (v := .int .i64 (on.length : Int)) rfl (by kernel_rfl) (by kernel_rfl) (by kernel_rfl) (fun _ _ _ h => h) (Or.inl ⟨by kernel_rfl, fun w' hSw => by (try dsimp only at hSw); go_simp⟩) (by assumption) ?_
    try simp only [Act.put, List.setIfInBounds_toArray, List.set_cons_zero, List.set_cons_succ]
    refine wpAnyH_take (i := 34) (oi := { dst := some 82, op := Op.binOp BinOp.gtr 3 (Operand.tmp 81) (Operand.const (Value.int IntKind.i64 0)) 3, type := 4, pos := "law.go:53", after := #[{ on := 33, ground := Ground.data }, { on := 30, ground := Ground.guard }], guard := some (30, false) }) (v := .bool (decide (0 < (on.length : Int)))) rfl (by kernel_rfl) (by kernel_rfl) (by kernel_rfl) (fun _ _ _ h => h) (Or.inl ⟨by kernel_rfl, fun w' hSw => by (try dsimp only at hSw); go_simp⟩) (by assumption) ?_
    try simp only [Act.put, List.setIfInBounds_toArray, List.set_cons_zero, List.set_cons_succ]
    refine wpAnyH_take (i := 35) (oi := { dst := some 83, op := Op.binOp BinOp.neq 4 (Operand.tmp 79) (Operand.tmp 82) 4, type := 4, pos := "law.go:53", after := #[{ on := 31, ground := Ground.data }, { on := 34, ground := Ground.data }, { on := 30, ground := Ground.guard }], guard := some (30, false) }) (v := .bool false) rfl (by kernel_rfl) (by kernel_rfl) (by kernel_rfl) (fun _ _ _ h => h) (Or.inl ⟨by kernel_rfl, fun w' hSw => by (try dsimp only at hSw); go_simp⟩) (by assumption) ?_
    try simp only [Act.put, List.setIfInBounds_toArray, List.set_cons_zero, List.set_cons_succ]
    refine wpAnyH_take (i := 36) (oi := { dst := some 84, op := Op.pick (Operand.tmp 78) (Operand.const (Value.bool true)) (Operand.tmp 83), type := 4, pos := "law.go:53", after := #[{ on := 30, ground := Ground.data }, { on := 35, ground := Ground.data }], guard := none }) (v := .bool false) rfl (by kernel_rfl) (by kernel_rfl) (by kernel_rfl) (fun _ _ _ h => h) (Or.inl ⟨by kernel_rfl, fun w' hSw => by (try dsimp only at hSw); go_simp⟩) (by assumption) ?_
    try simp only [Act.put, List.setIfInBounds_toArray, List.set_cons_zero, List.set_cons_succ]
    refine wpAnyH_take (i := 37) (oi := { dst := some 85, op := Op.move (Operand.tmp 84), type := 4, pos := "law.go:53", after := #[{ on := 36, ground := Ground.data }, { on := 30, ground := Ground.chain }], guard := none }) (v := .bool false) rfl (by kernel_rfl) (by kernel_rfl) (by kernel_rfl) (fun _ _ _ h => h) (Or.inl ⟨by kernel_rfl, fun w' hSw => by (try dsimp only at hSw); go_simp⟩) (by assumption) ?_
    try simp only [Act.put, List.setIfInBounds_toArray, List.set_cons_zero, List.set_cons_succ]
    refine wpAnyH_take (i := 38) (oi := { dst := some 86, op := Op.load 38 (Operand.tmp 10), type := 38, pos := "law.go:53", after := #[{ on := 37, ground := Ground.guard }], guard := some (37, false) }) (v := .agg #[.slice AB nb cb]) rfl (by kernel_rfl) (by kernel_rfl) (by kernel_rfl) (fun _ _ _ h => h) (Or.inl ⟨by kernel_rfl, fun w' hSw => by (try dsimp only at hSw); go_simp⟩) (by assumption) ?_
    try simp only [Act.put, List.setIfInBounds_toArray, List.set_cons_zero, List.set_cons_succ]
    refine wpAnyH_take (i := 39) (oi := { dst := some 87, op := Op.move (Operand.tmp 14), type := 27, pos := "law.go:53", after := #[{ on := 37, ground := Ground.guard }], guard := some (37, false) }) (v := .slice Ao on.length cn) rfl (by kernel_rfl) (by kernel_rfl) (by kernel_rfl) (fun _ _ _ h => h) (Or.inl ⟨by kernel_rfl, fun w' hSw => by (try dsimp only at hSw); go_simp⟩) (by assumption) ?_
    try simp only [Act.put, List.setIfInBounds_toArray, List.set_cons_zero, List.set_cons_succ]
    refine wpAnyH_ready (rs := [40]) (by kernel_rfl) (by simp) ?_
    refine AllReadyH.cons (o := { dst := some 88, op := Op.call { callee := Callee.value (Operand.func 17), args := #[Operand.tmp 87], argTypes := #[27] }, type := 38, pos := "law.go:53", after := #[{ on := 39, ground := Ground.data }, { on := 37, ground := Ground.chain }, { on := 37, ground := Ground.guard }], guard := some (37, false) }) rfl (fun K hK => ?_) AllReadyH.nil
    go_simp
    refine (Bit.rof_any Ao on.length cn on HWT.out.may (by have := HWT.out.few; omega) _ (HW1.out _ D2.out).2.2).mono ?_
    rintro e v3 ⟨A4, n4, c4, rfl, ho4, b⟩
    have K3 : Hid (Below w8.heap.size w8 v3) := K2.out.trans (b.mono K2.out.size)
    have D3 : Hid (Below wc.drew.heap.size wc.drew v3) := D2.out.trans (b.mono D2.out.size)
    have R4 := Lib.hid ho4
    clear ho4 b hHeld K2 D2
    refine hK.out _ _ (HBX.out _ K3.out) (fun hHeld => ?_)
    clear hK K
    try simp only [Act.put, List.setIfInBounds_toArray, List.set_cons_zero, List.set_cons_succ]
    refine wpAnyH_ready (rs := [41]) (by kernel_rfl) (by simp) ?_
    refine AllReadyH.cons (o := { dst := some 89, op := Op.call { callee := Callee.value (Operand.func 16), args := #[Operand.tmp 86, Operand.tmp 88], argTypes := #[38, 38] }, type := 4, pos := "law.go:53", after := #[{ on := 38, ground := Ground.data }, { on := 40, ground := Ground.data }, { on := 40, ground := Ground.chain }, { on := 37, ground := Ground.guard }], guard := some (37, false) }) rfl (fun K hK => ?_) AllReadyH.nil
    go_simp
    refine (Bit.rsame_any AB A4 nb cb n4 c4 ws (Bit.setW (Bit.ofF on)) (by have := HLN.out.2; omega) (by have h1 := R4.out.1; have h2 := Bit.set_len (Bit.ofF on); omega) _ (HBW.out _ K3.out) R4.out.reads).mono ?_
    rintro e v4 ⟨rfl, b⟩
    rw [decide_eq_true HWT.out.ws_]
    have K4 : Hid (Below w8.heap.size w8 v4) := K3.out.trans (b.mono K3.out.size)
    clear b hHeld K3 D3 R4
    refine hK.out _ _ (HBX.out _ K4.out) (fun hHeld => ?_)
    clear hK K
    try simp only [Act.put, List.setIfInBounds_toArray, List.set_cons_zero, List.set_cons_succ]
    refine wpAnyH_take (i := 42) (oi := { dst := some 90, op := Op.unOp UnOp.not 4 (Operand.tmp 89), type := 4, pos := "law.go:53", after := #[{ on := 41, ground := Ground.data }, { on := 37, ground := Ground.guard }], guard := some (37, false) }) (v := .bool false) rfl (by kernel_rfl) (by kernel_rfl) (by kernel_rfl) (fun _ _ _ h => h) (Or.inl ⟨by kernel_rfl, fun w' hSw => by (try dsimp only at hSw); go_simp⟩) (by assumption) ?_
    try simp only [Act.put, List.setIfInBounds_toArray, List.set_cons_zero, List.set_cons_succ]
    refine wpAnyH_take (i := 43) (oi := { dst := some 91, op := Op.pick (Operand.tmp 85) (Operand.const (Value.bool true)) (Operand.tmp 90), type := 4, pos := "law.go:53", after := #[{ on := 37, ground := Ground.data }, { on := 42, ground := Ground.data }], guard := none }) (v := .bool false) rfl (by kernel_rfl) (by kernel_rfl) (by kernel_rfl) (fun _ _ _ h => h) (Or.inl ⟨by kernel_rfl, fun w' hSw => by (try dsimp only at hSw); go_simp⟩) (by assumption) ?_
    try simp only [Act.put, List.setIfInBounds_toArray, List.set_cons_zero, List.set_cons_succ]
    refine wpAnyH_done (by kernel_rfl) ?_ _
    refine NoPanic.normal ?_
    have hq2 : Hid (∀ (f : GV) W, f.z = gx.z → f.es = gx.es.take 600 → g.ok W → f.ok W → Calls Tryz.prog 18 #[.agg #[.int .i64 g.z, .slice g.A g.n g.c], .agg #[.int .i64 f.z, .slice f.A f.n f.c]] W fun e w' => e = .returned (.bool true) ∧ Below W.heap.size W w') := by
      intro f W h1 h2 h3 h4
      have := rsame_any g.z f.z g.A f.A g.n g.c f.n f.c g.es f.es (by omega) W h3.1 h4.1
      rwa [decide_eq_true ⟨HGE.out.1.trans h1.symm, HGE.out.2.trans h2.symm⟩] at this
    clear hHeld
    go_upto_region 16 with fail
    have E4 := Lib.hid (HE.out _ K4.out)
    clear hq K4 HE HRO HIR HBX HBW HW1 HWT HLN
    have K0 := Lib.hid E4.out.drew
    clear E4
    refine wp_region_noPanic ?_
    refine wp_region_held_drew (S := fun w' => w'.cell? ⟨b3, 0, none⟩ = some (.int .i64 g.z) ∧ w'.cell? ⟨b3, 1, none⟩ = some (.slice g.A g.n g.c) ∧ w'.cell? ⟨w.heap.size, 0, none⟩ = some (.int .i64 gx.z) ∧ w'.cell? ⟨w.heap.size, 1, none⟩ = some (.slice gx.A gx.n gx.c)) (by kernel_rfl) ⟨K0.out.c0 (.head _), K0.out.c1 (.head _), K0.out.c0 (.tail _ (.head _)), K0.out.c1 (.tail _ (.head _))⟩ (fun hHeld => ?_)
    refine wpAnyH_take (i := 0) (oi := { dst := some 92, op := Op.load 24 (Operand.tmp 3), type := 24, pos := "law.go:56", after := #[], guard := none }) (v := .agg #[.int .i64 g.z, .slice g.A g.n g.c]) rfl (by kernel_rfl) (by kernel_rfl) (by kernel_rfl) (fun _ _ _ h => h) (Or.inl ⟨by kernel_rfl, fun w' hSw => by (try dsimp only at hSw); go_simp⟩) (by assumption) ?_
    try simp only [Act.put, List.setIfInBounds_toArray, List.set_cons_zero, List.set_cons_succ]
    refine wpAnyH_take (i := 1) (oi := { dst := some 93, op := Op.load 24 (Operand.tmp 1), type := 24, pos := "law.go:56", after := #[], guard := none }) (v := .agg #[.int .i64 gx.z, .slice gx.A gx.n gx.c]) rfl (by kernel_rfl) (by kernel_rfl) (by kernel_rfl) (fun _ _ _ h => h) (Or.inl ⟨by kernel_rfl, fun w' hSw => by (try dsimp only at hSw); go_simp⟩) (by assumption) ?_
    try simp only [Act.put, List.setIfInBounds_toArray, List.set_cons_zero, List.set_cons_succ]
    refine wpAnyH_ready (rs := [2]) (by kernel_rfl) (by simp) ?_
    refine AllReadyH.cons (o := { dst := some 94, op := Op.call { callee := Callee.value (Operand.func 5), args := #[Operand.tmp 93], argTypes := #[24] }, type := 24, pos := "law.go:56", after := #[{ on := 1, ground := Ground.data }], guard := none }) rfl (fun K hK => ?_) AllReadyH.nil
    go_simp
    refine (own6_any gx.z gx.A gx.n gx.c gx.es (K0.out.ok (.tail _ (.head _))).2.2.2 (K0.out.ok (.tail _ (.head _))).2.1 (K0.out.ok (.tail _ (.head _))).2.2.1 _ (K0.out.ok (.tail _ (.head _))).1).mono ?_
    rintro e u1 hx
    obtain ⟨f, rfl, hz, he, okf, b⟩ := gis_gv hx
    have K1 := Lib.hid (K0.out.on b)
    have HF := Lib.hid okf
    have HFE := Lib.hid (And.intro hz he)
    clear hx hz he okf b hHeld K0
    refine hK.out _ _ ⟨K1.out.c0 (.head _), K1.out.c1 (.head _), K1.out.c0 (.tail _ (.head _)), K1.out.c1 (.tail _ (.head _))⟩ (fun hHeld => ?_)
    clear hK K
    try simp only [Act.put, List.setIfInBounds_toArray, List.set_cons_zero, List.set_cons_succ]
    refine wpAnyH_ready (rs := [3]) (by kernel_rfl) (by simp) ?_
    refine AllReadyH.cons (o := { dst := some 95, op := Op.call { callee := Callee.value (Operand.func 18), args := #[Operand.tmp 92, Operand.tmp 94], argTypes := #[24, 24] }, type := 4, pos := "law.go:56", after := #[{ on := 0, ground := Ground.data }, { on := 2, ground := Ground.data }, { on := 2, ground := Ground.chain }], guard := none }) rfl (fun K hK => ?_) AllReadyH.nil
    go_simp
    refine (hq2.out f _ HFE.out.1 HFE.out.2 (K1.out.ok (.head _)) HF.out).mono ?_
    rintro e u2 ⟨rfl, b⟩
    have K2 := Lib.hid (K1.out.on b)
    clear b hHeld K1 HF
    refine hK.out _ _ ⟨K2.out.c0 (.head _), K2.out.c1 (.head _), K2.out.c0 (.tail _ (.head _)), K2.out.c1 (.tail _ (.head _))⟩ (fun hHeld => ?_)
    clear hK K
    try simp only [Act.put, List.setIfInBounds_toArray, List.set_cons_zero, List.set_cons_succ]
    refine wpAnyH_take (i := 4) (oi := { dst := some 2, op := Op.assign (Operand.tmp 95), type := 4, pos := "law.go:56", after := #[{ on := 3, ground := Ground.data }, { on := 3, ground := Ground.chain }, { on := 0, ground := Ground.phase }, { on := 1, ground := Ground.phase }, { on := 2, ground := Ground.phase }, { on := 3, ground := Ground.phase }], guard := none }) (v := .bool true) rfl (by kernel_rfl) (by kernel_rfl) (by kernel_rfl) (fun _ _ _ h => h) (Or.inl ⟨by kernel_rfl, fun w' hSw => by (try dsimp only at hSw); go_simp⟩) (by assumption) ?_
    try simp only [Act.put, List.setIfInBounds_toArray, List.set_cons_zero, List.set_cons_succ]
    refine wpAnyH_done (by kernel_rfl) ?_ _
    refine NoPanic.normal ?_
    go_wp2_with fail
    go_ret
    exact ⟨rfl, K2.out.below⟩
end Go.Proofs.YtpjbgbgahjggiaaGreat
