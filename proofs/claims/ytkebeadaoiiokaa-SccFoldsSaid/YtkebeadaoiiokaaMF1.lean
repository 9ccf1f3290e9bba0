/- SccFolds: the walk. -/
import Derived.Test.YtkebeadaoiiokaaM11
import Derived.Test.YtkebeadaoiiokaaM10
import Derived.Test.YtkebeadaoiiokaaM16
-- holds: YtkebeadaoiiokaaCn
namespace Go.Proofs.Ytkebeadaoiiokaa
open Go.RowKit Go.Shelf

set_option maxRecDepth 100000 in
set_option maxHeartbeats 4000000 in
theorem folds6_core (S : Scc) (nodes : Int) (A : Option Addr) (n c : Nat) (zs : List Ed) (hc : A = none → c = 0) (hnc : n ≤ c) (hcm : c ≤ 9223372036854775807) (w : World) (hR : Reads w w.heap.size 3 A n (cellsE zs)) :
    Calls Try.prog 5 #[.agg #[.int .i64 nodes, .slice A n c]] w fun e w' => e = .returned (.bool true) ∧ Below w.heap.size w w' := by
  have E0 := Lib.hid ((Env.start w).add (g := ⟨nodes, A, n, c, zs⟩) ⟨hR, hnc, hcm, hc⟩)
  obtain ⟨gx, hgx⟩ : ∃ gx : GV, (⟨nodes, A, n, c, zs⟩ : GV) = gx := ⟨_, rfl⟩
  have hz : nodes = gx.z := by rw [← hgx]
  have hA : A = gx.A := by rw [← hgx]
  have hn : n = gx.n := by rw [← hgx]
  have hcc : c = gx.c := by rw [← hgx]
  rw [hgx] at E0
  subst hz; subst hA; subst hn; subst hcc
  have HS := Lib.hid S
  clear hR hc hnc hcm hgx S
  go_enter Try.func5, Try.ntmps5
  go_wp2_with fail
  generalize w.alloc (.cells #[.int .i64 gx.z, .slice gx.A gx.n gx.c] 24) = W0 at *
  refine (wakes6_any HS.out _).mono ?_
  rintro e w1 ⟨rfl, b⟩
  have E1 := Lib.hid (E0.out.on b)
  clear b E0
  have z0 := E1.out.c0 (.head _)
  have z1 := E1.out.c1 (.head _)
  go_wp2_with fail
  have ok1 := E1.out.ok (.head _)
  refine (own6_any gx.z gx.A gx.n gx.c gx.es ok1.2.2.2 ok1.2.1 ok1.2.2.1 w1 ok1.1).mono ?_
  clear ok1
  rintro e w2 hx
  obtain ⟨g, rfl, hz, he, okg, b⟩ := gis_gv hx
  have E2 := Lib.hid ((E1.out.on b).add okg)
  have hgn : g.n ≤ 600 := by
    have := okg.len
    have h2 : (gx.es.take 600).length ≤ 600 := by rw [List.length_take]; omega
    rw [← he] at h2
    omega
  have HL : Hid (g.es.length = g.n) := okg.len
  clear hx hz he okg b E1 z0 z1
  have z0 := E2.out.c0 (.head _)
  have z1 := E2.out.c1 (.head _)
  go_wp2_with fail
  generalize w2.alloc (.cells #[.int .i64 g.z, .slice g.A g.n g.c] 24) = w3 at *
  generalize w2.heap.size = b3 at *
  refine (HS.out.fold g w3 (by omega) (E2.out.ok (.head _))).mono ?_
  rintro e w4 ⟨gz, ges, k, hx, hright, hwrong⟩
  obtain ⟨gf, rfl, hzf, hef, okf, b⟩ := gerr_gv hx
  have E4 := Lib.hid ((E2.out.on b).add okf)
  have HLF : Hid (gf.es.length = gf.n) := okf.len
  clear hx okf b E2 z0 z1
  have z0 := E4.out.c0 (.tail _ (.head _))
  have z1 := E4.out.c1 (.tail _ (.head _))
  cases hr : rightG g.z g.es
  · obtain ⟨rfl, _, _⟩ := hwrong hr
    have HC := Lib.hid fun W h => check_any g.z g.A g.n g.c g.es (by omega) W h
    rw [check_no hr] at HC
    clear hright hwrong hr hzf hef HS HL HLF
    go_wp2_with fail
    generalize w4.alloc (.cells #[.int .i64 gf.z, .slice gf.A gf.n gf.c] 24) = w5 at *
    generalize w4.heap.size = b4 at *
    refine (HC.out _ (E4.out.ok (.tail _ (.head _))).1).mono ?_
    rintro e w6 ⟨rfl, b⟩
    have E6 := Lib.hid (E4.out.on b)
    clear b E4 z0 z1 HC
    go_wp2_with fail
    go_ret
    exact ⟨rfl, E6.out.below⟩
  · have HR := Lib.hid hr
    obtain ⟨rfl, ls, os, hcs, rfl, rfl⟩ := hright hr
    have hg := rightG_iff.1 hr
    obtain ⟨m, hm⟩ : ∃ m : Nat, g.z = (m : Int) := ⟨g.z.toNat, by have := hg.nodes; omega⟩
    have HM := Lib.hid hm
    rw [hm] at hg
    have HCS := Lib.hid hcs
    rw [show g.z.toNat = m by omega] at hcs
    have HG := Lib.hid hg
    have HCM := Lib.hid hcs
    have hfi := (fold_isG hg hcs).1
    have HST : Hid (∀ i : Nat, ¬ Leads gf.es (i : Int) (i : Int)) := by show ∀ _, _; rw [hef]; exact fold_still hg hcs
    have HFI : Hid (rightG gf.z gf.es = true) := by show _ = _; rw [hzf, hef]; exact rightG_iff.2 hfi
    have hfn : gf.n ≤ 600 := by
      have h1 := HLF.out
      have h2 := sorE_len (foldL os g.es)
      have h3 : (foldL os g.es).length ≤ g.es.length := by unfold foldL; rw [List.length_map]; exact List.length_filter_le _ _
      have h4 := HL.out
      rw [hef] at h1
      omega
    have HFE := Lib.hid (And.intro hzf hef)
    clear hright hwrong hr hm hg hcs hfi hzf hef HLF
    go_wp2_with fail
    generalize w4.alloc (.cells #[.int .i64 gf.z, .slice gf.A gf.n gf.c] 24) = w5 at *
    generalize w4.heap.size = b4 at *
    refine (HS.out.inner g w5 (by omega) (E4.out.ok (.tail _ (.head _)))).mono ?_
    rintro e w6 ⟨gz, ges, k, hx, hright, _⟩
    obtain ⟨gi, rfl, hzi, hei, oki, b⟩ := gerr_gv hx
    obtain ⟨rfl, rfl, ls5, os5, hcs5, rfl⟩ := hright HR.out
    obtain ⟨_, rfl⟩ := hcs5.unique HCS.out
    have E6 := Lib.hid ((E4.out.on b).add oki)
    have HII : Hid (rightG gi.z gi.es = true) := by show _ = _; rw [hzi, hei, HM.out]; exact rightG_iff.2 (HG.out.filter _)
    have hil : gi.n ≤ g.n := by
      have h1 := oki.len
      have h2 := List.length_filter_le (sameOf os5) g.es
      have h4 := HL.out
      rw [hei] at h1
      omega
    have HIE := Lib.hid (And.intro hzi hei)
    clear hx hzi hei oki b hright hcs5 E4 z0 z1
    have z0 := E6.out.c0 (.tail _ (.head _))
    have z1 := E6.out.c1 (.tail _ (.head _))
    go_wp2_with fail
    generalize w6.alloc (.cells #[.int .i64 gi.z, .slice gi.A gi.n gi.c] 24) = w7 at *
    generalize w6.heap.size = b6 at *
    refine (HS.out.cyclic gf w7 (by omega) (E6.out.ok (.tail _ (.head _)))).mono ?_
    rintro e w8 ⟨cb, k, rfl, b, hright, _⟩
    obtain ⟨rfl, hcb⟩ := hright HFI.out
    obtain rfl : cb = false := by
      cases cb
      · rfl
      · exact absurd (hcb.1 rfl) fun ⟨v, hv⟩ => HST.out v hv
    have E8 := Lib.hid (E6.out.on b)
    clear b hright hcb HST E6 z0 z1
    have z0 := E8.out.c0 (.tail _ (.tail _ (.head _)))
    have z1 := E8.out.c1 (.tail _ (.tail _ (.head _)))
    go_wp2_with fail
    refine (HS.out.of g w8 (by omega) (E8.out.ok (.tail _ (.tail _ (.head _))))).mono ?_
    rintro e w9 ⟨os9, k, ⟨A9, c9, rfl, r9, _, _, b⟩, hright, _⟩
    obtain ⟨rfl, ls9, hcs9⟩ := hright HR.out
    obtain ⟨_, rfl⟩ := hcs9.unique HCS.out
    have E9 := Lib.hid (E8.out.on b)
    have P9 := Lib.hid r9
    clear b hright hcs9 r9 E8 z0 z1
    have z0 := E9.out.c0 (.head _)
    have z1 := E9.out.c1 (.head _)
    go_wp2_with fail
    refine (HS.out.of gi w9 (by omega) (E9.out.ok (.head _))).mono ?_
    rintro e w10 ⟨os10, k, ⟨A10, c10, rfl, r10, _, _, b⟩, hright, _⟩
    obtain ⟨rfl, ls10, hcs10⟩ := hright HII.out
    obtain rfl : os10 = os9 := inner_of HG.out HCM.out (by rw [HIE.out.1, HIE.out.2, HM.out] at hcs10; exact hcs10)
    have E10 := Lib.hid (E9.out.on b)
    have P10 := Lib.hid (Ints.on6 P9.out b)
    have Q10 := Lib.hid r10
    clear b hright hcs10 r10 E9 P9 z0 z1
    have z0 := E10.out.c0 (.tail _ (.tail _ (.head _)))
    have z1 := E10.out.c1 (.tail _ (.tail _ (.head _)))
    go_wp2_with fail
    refine (rev_ok g.z g.A g.n g.c g.es (rightG_iff.1 HR.out) (by omega) w10 (E10.out.ok (.tail _ (.tail _ (.head _)))).1).mono ?_
    rintro e w11 hx
    obtain ⟨gb, rfl, hzb, heb, okb, b⟩ := gerr_gv hx
    have E11 := Lib.hid ((E10.out.on b).add okb)
    have hb2 : Below w11.heap.size w11 (w11.alloc (.cells #[.int .i64 gb.z, .slice gb.A gb.n gb.c] 24)) := (Below.refl _ _).alloc (Nat.le_refl _) _
    have P11 := Lib.hid (Ints.on6 (Ints.on6 P10.out b) hb2)
    have Q11 := Lib.hid (Ints.on6 (Ints.on6 Q10.out b) hb2)
    have HBI : Hid (rightG gb.z gb.es = true) := by show _ = _; rw [hzb, heb]; exact rightG_iff.2 (rightG_iff.1 HR.out).back
    have hbn : gb.n ≤ 600 := by
      have h1 := okb.len
      have h2 := back_len (rightG_iff.1 HR.out)
      have h4 := HL.out
      rw [heb] at h1
      omega
    have HBE := Lib.hid (And.intro hzb heb)
    clear hx hzb heb okb b hb2 E10 P10 Q10 z0 z1
    have z0 := E11.out.c0 (.head _)
    have z1 := E11.out.c1 (.head _)
    go_wp2_with fail
    generalize w11.alloc (.cells #[.int .i64 gb.z, .slice gb.A gb.n gb.c] 24) = w12 at *
    generalize w11.heap.size = b14 at *
    refine (HS.out.of gb w12 (by omega) (E11.out.ok (.head _))).mono ?_
    rintro e w13 ⟨os13, k, ⟨A13, c13, rfl, r13, _, _, b⟩, hright, _⟩
    obtain ⟨rfl, ls13, hcs13⟩ := hright HBI.out
    obtain rfl : os13 = os10 := back_of HG.out HCM.out (by rw [HBE.out.1, HBE.out.2, HM.out] at hcs13; exact hcs13)
    have K0 := Lib.hid (E11.out.on b).drew
    have P0 := Lib.hid (Ints.on6 (Ints.on6 P11.out b) ((Below.refl _ _).drew))
    have Q0 := Lib.hid (Ints.on6 (Ints.on6 Q11.out b) ((Below.refl _ _).drew))
    have R0 := Lib.hid (Ints.on6 r13 ((Below.refl _ _).drew))
    have HCF := Lib.hid fun W h => check_any gf.z gf.A gf.n gf.c gf.es (by omega) W h
    rw [check_yes HFI.out] at HCF
    have HCI := Lib.hid fun W h => check_any gi.z gi.A gi.n gi.c gi.es (by omega) W h
    rw [check_yes HII.out] at HCI
    clear b hright hcs13 r13 E11 P11 Q11 z0 z1 HBI HBE hbn HII
    go_upto_region 13 with fail
    refine wp_region_noPanic ?_
    refine wp_region_held_drew (S := fun w' => w'.cell? ⟨b4, 0, none⟩ = some (.int .i64 gf.z) ∧ w'.cell? ⟨b4, 1, none⟩ = some (.slice gf.A gf.n gf.c) ∧ w'.cell? ⟨b6, 0, none⟩ = some (.int .i64 gi.z) ∧ w'.cell? ⟨b6, 1, none⟩ = some (.slice gi.A gi.n gi.c)) (by kernel_rfl) ⟨K0.out.c0 (.tail _ (.tail _ (.head _))), K0.out.c1 (.tail _ (.tail _ (.head _))), K0.out.c0 (.tail _ (.head _)), K0.out.c1 (.tail _ (.head _))⟩ (fun hHeld => ?_)
    refine wpAnyH_take (i := 0) (oi := { dst := some 67, op := Op.move (Operand.tmp 7), type := 27, pos := "outright.go:66", after := #[], guard := none }) (v := .int .i64 0) rfl (by kernel_rfl) (by kernel_rfl) (by kernel_rfl) (fun _ _ _ h => h) (Or.inl ⟨by kernel_rfl, fun w' hSw => by (try dsimp only at hSw); go_simp⟩) (by assumption) ?_
    try simp only [Act.put, List.setIfInBounds_toArray, List.set_cons_zero, List.set_cons_succ]
    refine wpAnyH_take (i := 1) (oi := { dst := some 68, op := Op.move (Operand.tmp 9), type := 27, pos := "outright.go:66", after := #[], guard := none }) (v := .int .i64 0) rfl (by kernel_rfl) (by kernel_rfl) (by kernel_rfl) (fun _ _ _ h => h) (Or.inl ⟨by kernel_rfl, fun w' hSw => by (try dsimp only at hSw); go_simp⟩) (by assumption) ?_
    try simp only [Act.put, List.setIfInBounds_toArray, List.set_cons_zero, List.set_cons_succ]
    refine wpAnyH_take (i := 2) (oi := { dst := some 69, op := Op.move (Operand.tmp 11), type := 27, pos := "outright.go:66", after := #[], guard := none }) (v := .int .i64 0) rfl (by kernel_rfl) (by kernel_rfl) (by kernel_rfl) (fun _ _ _ h => h) (Or.inl ⟨by kernel_rfl, fun w' hSw => by (try dsimp only at hSw); go_simp⟩) (by assumption) ?_
    try simp only [Act.put, List.setIfInBounds_toArray, List.set_cons_zero, List.set_cons_succ]
    refine wpAnyH_take (i := 3) (oi := { dst := some 70, op := Op.move (Operand.tmp 13), type := 27, pos := "outright.go:66", after := #[], guard := none }) (v := .int .i64 0) rfl (by kernel_rfl) (by kernel_rfl) (by kernel_rfl) (fun _ _ _ h => h) (Or.inl ⟨by kernel_rfl, fun w' hSw => by (try dsimp only at hSw); go_simp⟩) (by assumption) ?_
    try simp only [Act.put, List.setIfInBounds_toArray, List.set_cons_zero, List.set_cons_succ]
    refine wpAnyH_take (i := 4) (oi := { dst := some 71, op := Op.move (Operand.tmp 15), type := 27, pos := "outright.go:66", after := #[], guard := none }) (v := .int .i64 0) rfl (by kernel_rfl) (by kernel_rfl) (by kernel_rfl) (fun _ _ _ h => h) (Or.inl ⟨by kernel_rfl, fun w' hSw => by (try dsimp only at hSw); go_simp⟩) (by assumption) ?_
    try simp only [Act.put, List.setIfInBounds_toArray, List.set_cons_zero, List.set_cons_succ]
    refine wpAnyH_take (i := 5) (oi := { dst := some 72, op := Op.move (Operand.tmp 17), type := 27, pos := "outright.go:66", after := #[], guard := none }) (v := .int .i64 0) rfl (by kernel_rfl) (by kernel_rfl) (by kernel_rfl) (fun _ _ _ h => h) (Or.inl ⟨by kernel_rfl, fun w' hSw => by (try dsimp only at hSw); go_simp⟩) (by assumption) ?_
    try simp only [Act.put, List.setIfInBounds_toArray, List.set_cons_zero, List.set_cons_succ]
    refine wpAnyH_take (i := 6) (oi := { dst := some 73, op := Op.load 24 (Operand.tmp 4), type := 24, pos := "outright.go:66", after := #[], guard := none }) (v := .agg #[.int .i64 gf.z, .slice gf.A gf.n gf.c]) rfl (by kernel_rfl) (by kernel_rfl) (by kernel_rfl) (fun _ _ _ h => h) (Or.inl ⟨by kernel_rfl, fun w' hSw => by (try dsimp only at hSw); go_simp⟩) (by assumption) ?_
    try simp only [Act.put, List.setIfInBounds_toArray, List.set_cons_zero, List.set_cons_succ]
    refine wpAnyH_take (i := 8) (oi := { dst := some 75, op := Op.load 24 (Operand.tmp 6), type := 24, pos := "outright.go:66", after := #[], guard := none }) (v := .agg #[.int .i64 gi.z, .slice gi.A gi.n gi.c]) rfl (by kernel_rfl) (by kernel_rfl) (by kernel_rfl) (fun _ _ _ h => h) (Or.inl ⟨by kernel_rfl, fun w' hSw => by (try dsimp only at hSw); go_simp⟩) (by assumption) ?_
    try simp only [Act.put, List.setIfInBounds_toArray, List.set_cons_zero, List.set_cons_succ]
    refine wpAnyH_take (i := 12) (oi := { dst := some 79, op := Op.move (Operand.const (Value.int IntKind.i64 0)), type := 3, pos := "outright.go:66", after := #[], guard := none }) (v := .int .i64 0) rfl (by kernel_rfl) (by kernel_rfl) (by kernel_rfl) (fun _ _ _ h => h) (Or.inl ⟨by kernel_rfl, fun w' hSw => by (try dsimp only at hSw); go_simp⟩) (by assumption) ?_
    try simp only [Act.put, List.setIfInBounds_toArray, List.set_cons_zero, List.set_cons_succ]
    refine wpAnyH_ready (rs := [7]) (by kernel_rfl) (by simp) ?_
    refine AllReadyH.cons (o := { dst := some 74, op := Op.call { callee := Callee.value (Operand.func 17), args := #[Operand.tmp 73], argTypes := #[24] }, type := 27, pos := "outright.go:66", after := #[{ on := 6, ground := Ground.data }], guard := none }) rfl (fun K hK => ?_) AllReadyH.nil
    go_simp
    refine (HCF.out _ (K0.out.ok (.tail _ (.tail _ (.head _)))).1).mono ?_
    rintro e v1 ⟨rfl, b⟩
    have K1 := Lib.hid (K0.out.on b)
    have P1 := Lib.hid (Ints.on6 P0.out b)
    have Q1 := Lib.hid (Ints.on6 Q0.out b)
    have R1 := Lib.hid (Ints.on6 R0.out b)
    clear b K0 P0 Q0 R0 hHeld
    refine hK.out _ _ ⟨K1.out.c0 (.tail _ (.tail _ (.head _))), K1.out.c1 (.tail _ (.tail _ (.head _))), K1.out.c0 (.tail _ (.head _)), K1.out.c1 (.tail _ (.head _))⟩ (fun hHeld => ?_)
    clear hK K
    try simp only [Act.put, List.setIfInBounds_toArray, List.set_cons_zero, List.set_cons_succ]
    refine wpAnyH_ready (rs := [9]) (by kernel_rfl) (by simp) ?_
    refine AllReadyH.cons (o := { dst := some 76, op := Op.call { callee := Callee.value (Operand.func 17), args := #[Operand.tmp 75], argTypes := #[24] }, type := 27, pos := "outright.go:66", after := #[{ on := 8, ground := Ground.data }, { on := 7, ground := Ground.chain }], guard := none }) rfl (fun K hK => ?_) AllReadyH.nil
    go_simp
    refine (HCI.out _ (K1.out.ok (.tail _ (.head _))).1).mono ?_
    rintro e v2 ⟨rfl, b⟩
    have K2 := Lib.hid (K1.out.on b)
    have P2 := Lib.hid (Ints.on6 P1.out b)
    have Q2 := Lib.hid (Ints.on6 Q1.out b)
    have R2 := Lib.hid (Ints.on6 R1.out b)
    clear b K1 P1 Q1 R1 hHeld
    refine hK.out _ _ ⟨K2.out.c0 (.tail _ (.tail _ (.head _))), K2.out.c1 (.tail _ (.tail _ (.head _))), K2.out.c0 (.tail _ (.head _)), K2.out.c1 (.tail _ (.head _))⟩ (fun hHeld => ?_)
    clear hK K
    try simp only [Act.put, List.setIfInBounds_toArray, List.set_cons_zero, List.set_cons_succ]
    refine wpAnyH_ready (rs := [10]) (by kernel_rfl) (by simp) ?_
    refine AllReadyH.cons (o := { dst := some 77, op := Op.buildSlice 52 8 #[(0, Operand.tmp 67), (1, Operand.tmp 68), (2, Operand.tmp 69), (3, Operand.tmp 70), (4, Operand.tmp 71), (5, Operand.tmp 72), (6, Operand.tmp 74), (7, Operand.tmp 76)], type := 52, pos := "outright.go:66", after := #[{ on := 0, ground := Ground.data }, { on := 1, ground := Ground.data }, { on := 2, ground := Ground.data }, { on := 3, ground := Ground.data }, { on := 4, ground := Ground.data }, { on := 5, ground := Ground.data }, { on := 7, ground := Ground.data }, { on := 9, ground := Ground.data }], guard := none }) rfl (fun K hK => ?_) AllReadyH.nil
    go_simp
    have b : Below v2.heap.size v2 (v2.alloc (.cells #[.int .i64 0, .int .i64 0, .int .i64 0, .int .i64 0, .int .i64 0, .int .i64 0, .int .i64 0, .int .i64 0] 27)) := (Below.refl _ _).alloc (Nat.le_refl _) _
    have K3 := Lib.hid (K2.out.on b)
    have P3 := Lib.hid (Ints.on6 P2.out b)
    have Q3 := Lib.hid (Ints.on6 Q2.out b)
    have R3 := Lib.hid (Ints.on6 R2.out b)
    have Z3 := Lib.hid (Blk.new v2 27 #[.int .i64 0, .int .i64 0, .int .i64 0, .int .i64 0, .int .i64 0, .int .i64 0, .int .i64 0, .int .i64 0])
    clear b K2 P2 Q2 R2 hHeld
    generalize v2.alloc (.cells #[.int .i64 0, .int .i64 0, .int .i64 0, .int .i64 0, .int .i64 0, .int .i64 0, .int .i64 0, .int .i64 0] 27) = v3 at *
    generalize v2.heap.size = bE at *
    refine hK.out _ _ ⟨K3.out.c0 (.tail _ (.tail _ (.head _))), K3.out.c1 (.tail _ (.tail _ (.head _))), K3.out.c0 (.tail _ (.head _)), K3.out.c1 (.tail _ (.head _))⟩ (fun hHeld => ?_)
    clear hK K
    try simp only [Act.put, List.setIfInBounds_toArray, List.set_cons_zero, List.set_cons_succ]
    refine wpAnyH_take (i := 11) (oi := { dst := some 78, op := Op.call { callee := Callee.builtin Builtin.len, args := #[Operand.tmp 77], argTypes := #[52] }, type := 3, pos := "outright.go:66", after := #[{ on := 10, ground := Ground.data }], guard := none }) (v := .int .i64 8) rfl (by kernel_rfl) (by kernel_rfl) (by kernel_rfl) (fun _ _ _ h => h) (Or.inl ⟨by kernel_rfl, fun w' hSw => by (try dsimp only at hSw); go_simp⟩) (by assumption) ?_
    try simp only [Act.put, List.setIfInBounds_toArray, List.set_cons_zero, List.set_cons_succ]
    refine wpAnyH_done (by kernel_rfl) ?_ _
    refine NoPanic.normal ?_
    clear hHeld
    go_wp2_with fail
    go_loopg [79] 8 (fun gg s79 wr => ∃ i : Nat, i + gg = 8 ∧ s79 = .int .i64 i ∧ Hid (Env w [(b14, gb), (b6, gi), (b4, gf), (b3, g), (w.heap.size, gx)] wr) ∧ Hid (Reads wr wr.heap.size 1 A9 os13.length (ints os13)) ∧ Hid (Reads wr wr.heap.size 1 A10 os13.length (ints os13)) ∧ Hid (Reads wr wr.heap.size 1 A13 os13.length (ints os13)) ∧ Hid (Blk wr bE 27 #[.int .i64 0, .int .i64 0, .int .i64 0, .int .i64 0, .int .i64 0, .int .i64 0, .int .i64 0, .int .i64 0]))
    case atStart => exact ⟨0, by omega, rfl, K3, P3, Q3, R3, Z3⟩
    case round =>
      clear K3 P3 Q3 R3 Z3
      obtain ⟨i, hig, rfl, K3, P3, Q3, R3, Z3⟩ := hrel
      cases gk with
      | succ g2 =>
        have hlt : (i : Int) < 8 := by omega
        have hi8 : i < 8 := by omega
        have zi : wr.cell? ⟨bE, i, none⟩ = some (.int .i64 0) := by
          rw [Z3.out.cell]
          have : i = 0 ∨ i = 1 ∨ i = 2 ∨ i = 3 ∨ i = 4 ∨ i = 5 ∨ i = 6 ∨ i = 7 := by omega
          rcases this with rfl | rfl | rfl | rfl | rfl | rfl | rfl | rfl <;> rfl
        have hw1 : IntKind.i64.wrap ((i : Int) + 1) = ((i + 1 : Nat) : Int) := by rw [IntKind.wrap_i64]; omega
        have HIG : Hid (i + 1 + g2 = 8) := by show _ = _; omega
        clear hig HS HR HM HG HCS HCM HFI HFE HIE HCF HCI
        go_wp2_with fail
        go_roundg g2
        case measure => omega
        case rel => exact ⟨i + 1, HIG.out, rfl, K3, P3, Q3, R3, Z3⟩
      | zero =>
        obtain rfl : i = 8 := by omega
        clear hig
        have z0 := K3.out.c0 (.tail _ (.tail _ (.head _)))
        have z1 := K3.out.c1 (.tail _ (.tail _ (.head _)))
        go_wp2_with fail
        refine (HS.out.fold gf _ (by omega) (K3.out.ok (.tail _ (.tail _ (.head _))))).mono ?_
        rintro e v1 ⟨gz, ges, k, hx, hright, _⟩
        obtain ⟨gs, rfl, hzs, hes, oks, b⟩ := gerr_gv hx
        obtain ⟨rfl, ls1, os1, hcs1, rfl, rfl⟩ := hright HFI.out
        have hff := fold_fold HG.out HCM.out (by rw [HFE.out.1, HFE.out.2] at hcs1; exact hcs1)
        have K4 := Lib.hid ((K3.out.on b).add oks)
        have hb2 : Below v1.heap.size v1 (v1.alloc (.cells #[.int .i64 gs.z, .slice gs.A gs.n gs.c] 24)) := (Below.refl _ _).alloc (Nat.le_refl _) _
        have P4 := Lib.hid (Ints.on6 (Ints.on6 P3.out b) hb2)
        have Q4 := Lib.hid (Ints.on6 (Ints.on6 Q3.out b) hb2)
        have R4 := Lib.hid (Ints.on6 (Ints.on6 R3.out b) hb2)
        have hsame : gs.z = gf.z ∧ gs.es = gf.es := ⟨by rw [hzs, HFE.out.1, hff.1], by rw [hes, HFE.out.2, hff.2]⟩
        have HSM := Lib.hid fun W h h2 => same_any gs.z gf.z gs.A gf.A gs.n gs.c gf.n gf.c gs.es gf.es (by have h5 := oks.len; have h6 := (K3.out.ok (.tail _ (.tail _ (.head _)))).len; rw [hsame.2] at h5; omega) W h h2
        rw [decide_eq_true hsame] at HSM
        have hol : os13.length ≤ 300 := by
          have h1 := HCM.out.len.1
          have h2 := HG.out.nodes
          omega
        have HQP := Lib.hid fun W h h2 => eqi_any A10 A9 os13.length os13.length c10 c9 os13 os13 (by omega) (by omega) W h h2
        have HRP := Lib.hid fun W h h2 => eqi_any A13 A9 os13.length os13.length c13 c9 os13 os13 (by omega) (by omega) W h h2
        rw [decide_eq_true rfl] at HQP HRP
        have hile : decide ((gi.n : Int) ≤ (g.n : Int)) = true := decide_eq_true (by omega)
        clear hx hzs hes oks b hright hcs1 hff hsame hb2 K3 P3 Q3 R3 Z3 z0 z1 hol HS HR HM HG HCS HCM HFI HFE HIE HCF HCI HL
        go_upto_region 20 with fail
        generalize v1.alloc (.cells #[.int .i64 gs.z, .slice gs.A gs.n gs.c] 24) = v2 at *
        generalize v1.heap.size = b20 at *
        go_wp2_with fail
        refine (HQP.out _ Q4.out P4.out).mono ?_
        rintro e v3 ⟨rfl, b⟩
        have K5 := Lib.hid (K4.out.on b)
        have P5 := Lib.hid (Ints.on6 P4.out b)
        have R5 := Lib.hid (Ints.on6 R4.out b)
        clear b K4 P4 Q4 R4 HQP
        go_wp2_with fail
        refine (HRP.out _ R5.out P5.out).mono ?_
        rintro e v4 ⟨rfl, b⟩
        have K6 := Lib.hid (K5.out.on b)
        clear b K5 P5 R5 HRP
        have z0 := K6.out.c0 (.head _)
        have z1 := K6.out.c1 (.head _)
        have z2 := K6.out.c0 (.tail _ (.tail _ (.tail _ (.head _))))
        have z3 := K6.out.c1 (.tail _ (.tail _ (.tail _ (.head _))))
        go_wp2_with fail
        refine (HSM.out _ (K6.out.ok (.head _)).1 (K6.out.ok (.tail _ (.tail _ (.tail _ (.head _))))).1).mono ?_
        rintro e v5 ⟨rfl, b⟩
        have K7 := Lib.hid (K6.out.on b)
        clear b K6 HSM z0 z1 z2 z3
        have z0 := K7.out.c1 (.tail _ (.tail _ (.head _)))
        have z1 := K7.out.c1 (.tail _ (.tail _ (.tail _ (.tail _ (.head _)))))
        go_wp2_with fail
        go_ret
        exact ⟨rfl, K7.out.below⟩
end Go.Proofs.Ytkebeadaoiiokaa
