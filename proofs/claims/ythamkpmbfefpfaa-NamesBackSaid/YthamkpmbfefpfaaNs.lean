/- NamesBack: the walk. -/
import Derived.Test.YthamkpmbfefpfaaNp
import Derived.Deep.RegionHeld3
namespace Go.Proofs.Ythamkpmbfefpfaa
open Go.RowKit Go.Shelf

theorem own_le9 {W : World} {B n c : Nat} {A : Option Addr} {t : TypeId} {xs : List Value} (h : W.ownsRow B t 1 (.slice A n c) n xs) : n ≤ c := by
  obtain ⟨A', c', e, h1, _⟩ := own_form2 h; injection e with _ _ e; omega
theorem range_get {n k : Nat} (h : k < n) : ((List.range n).map fun (k : Nat) => (k : Int))[k]? = some (k : Int) := by simp [h]

set_option maxRecDepth 100000 in
set_option maxHeartbeats 32000000 in
theorem back_core (A : Option Addr) (n c : Nat) (ns : List ByteArray) (hnc : n ≤ c) (hcm : c ≤ 9223372036854775807) (hsn : ∀ s ∈ ns, s.size ≤ 9223372036854775807) (s : ByteArray) (hs : s.size ≤ 9223372036854775807) (w : World) (hR : Reads w w.heap.size 1 A n (strs ns)) :
    Calls Try.prog 6 #[.agg #[.slice A n c], .string s] w fun e w' => e = .returned (.bool true) ∧ Below w.heap.size w w' := by
  have E0 := Lib.hid ((EN.start w).addT (c := c) hR)
  have HSN : Hid (∀ s ∈ ns.take 301, s.size ≤ 9223372036854775807) := fun s hs => hsn s (List.mem_of_mem_take hs)
  have HS := Lib.hid hs
  clear hR hsn hs
  go_enter Try.func6, Try.ntmps6
  go_upto_region 1 with fail
  generalize w.alloc (.cells #[.slice A n c] 24) = W0 at *
  go_wp2_with fail
  refine (wakes10_any W0).mono ?_
  rintro e w1 ⟨rfl, b1⟩
  have E1 := Lib.hid (E0.out.on b1)
  clear b1 E0
  have z0 := E1.out.c0 (.head _)
  go_wp2_with fail
  refine (own_any A n c ns hnc hcm w1 (E1.out.tb (.head _))).mono ?_
  rintro e w2 ⟨At, nt, ct, rfl, ho, b2⟩
  have hnt : nt ≤ 301 := by have := strs_len (Reads.of_own ho); rw [List.length_take] at this; omega
  have hntc : nt ≤ ct := own_le9 ho
  have E2 := Lib.hid ((E1.out.on b2).addT (c := ct) (Reads.of_own ho))
  clear ho b2 E1 z0
  go_upto_region 4 with fail
  generalize w2.alloc (.cells #[.slice At nt ct] 24) = w3 at *
  generalize w2.heap.size = Bt at *
  generalize ns.take 301 = ts at *
  have z1 := E2.out.c0 (.head _)
  have HF := Lib.hid (fine_any At nt ct ts (by omega) HSN.out w3 (E2.out.tb (.head _)))
  cases hg : goodB nameB ts
  · rw [fine_no hg] at HF
    have HG := Lib.hid hg
    clear hg
    go_wp2_with fail
    refine HF.out.mono ?_
    rintro e w4 ⟨rfl, b4⟩
    have E4 := Lib.hid (E2.out.on b4)
    clear b4 E2 z1 HF
    have z1 := E4.out.c0 (.head _)
    have HFD := Lib.hid (find_any At nt ct ts s HS.out (by omega) HSN.out w4 (E4.out.tb (.head _)))
    unfold FindIs at HFD
    rw [(find_bad HG.out).1, (find_bad HG.out).2] at HFD
    go_wp2_with fail
    refine HFD.out.mono ?_
    rintro e w5 ⟨rfl, b5⟩
    have E5 := Lib.hid (E4.out.on b5)
    clear b5 E4 z1 HFD
    go_wp2_with fail
    go_ret
    exact ⟨rfl, E5.out.below⟩
  · rw [fine_ok hg] at HF
    have HG := Lib.hid hg
    clear hg
    go_wp2_with fail
    refine HF.out.mono ?_
    rintro e w4 ⟨rfl, b4⟩
    have E4 := Lib.hid (E2.out.on b4)
    clear b4 E2 z1 HF
    have z1 := E4.out.c0 (.head _)
    have HP0 := Lib.hid (all_self HG.out)
    have hp0 : putsE [] ts = 0 := (putsE_nil ts).trans HP0.out.1
    have HA := Lib.hid (all_any At nt ct ts (by omega) HSN.out w4 (E4.out.tb (.head _)))
    unfold PutIs at HA
    rw [hp0] at HA
    clear hp0
    go_wp2_with fail
    refine HA.out.mono ?_
    rintro e w5 ⟨A5, n5, c5, R5, m5, d5, ns5, zs5, rfl, ho, ho2, hok, _, b5⟩
    obtain ⟨rfl, rfl⟩ := hok trivial
    rw [HP0.out.2.1] at ho
    rw [HP0.out.2.2] at ho2
    have HLT := Lib.hid (strs_len (E4.out.tb (.head _)))
    obtain rfl : n5 = nt := by have h1 := strs_len (Reads.of_own ho); have h2 := HLT.out; omega
    obtain rfl : m5 = n5 := by have h1 := ints_len (Reads.of_own ho2); have h2 := HLT.out; rw [List.length_map, List.length_range] at h1; omega
    have E5 := Lib.hid (((E4.out.on b5).addI (c := d5) (Reads.of_own ho2)).addT (c := c5) (Reads.of_own ho))
    clear ho ho2 hok b5 HA E4 z1 HP0
    go_upto_region 8 with fail
    generalize w5.alloc (.cells #[.slice A5 m5 c5] 24) = w6 at *
    generalize w5.heap.size = B5 at *
    have z1 := E5.out.c0 (.tail _ (.head _))
    have z5 := E5.out.c0 (.head _)
    have HQ := Lib.hid (eqs_any A5 At m5 m5 c5 ct ts ts (by omega) (by omega) w6 (E5.out.tb (.head _)) (E5.out.tb (.tail _ (.head _))))
    rw [decide_eq_true rfl] at HQ
    go_wp2_with fail
    refine HQ.out.mono ?_
    rintro e w7 ⟨rfl, b7⟩
    have E7 := Lib.hid (E5.out.on b7)
    clear b7 HQ E5 z1 z5
    go_wp2_with fail
    go_loopw [58] (fun i wr => ∃ k : Nat, k ≤ m5 ∧ i = .int .i64 k ∧ Hid (EN w [(B5, ⟨A5, m5, c5, ts⟩), (Bt, ⟨At, m5, ct, ts⟩), (w.heap.size, ⟨A, n, c, ns⟩)] [] [⟨R5, m5, d5, (List.range ts.length).map fun (k : Nat) => (k : Int)⟩] wr)) (fun i _ => m5 - (intOf i).toNat)
    case atStart => exact ⟨0, Nat.zero_le _, rfl, E7⟩
    case round =>
      clear E7
      obtain ⟨k, hk, rfl, E6⟩ := hrel
      by_cases hkn : k < m5
      · have hlt : (k : Int) < (m5 : Int) := by omega
        have hkt : k < ts.length := by have := HLT.out; omega
        obtain ⟨b, o, rfl, _, g0⟩ := int_at (E6.out.ri (.head _)) (range_get hkt)
        obtain ⟨x, hx⟩ : ∃ x, ts[k]? = some x := ⟨ts[k], List.getElem?_eq_getElem hkt⟩
        have hxm := List.mem_of_getElem? hx
        have HXS := Lib.hid (HSN.out x hxm)
        have HXF := Lib.hid (find_in HG.out hxm)
        rw [idx_at (good_iff.1 HG.out).2.1 hx] at HXF
        have HXC := Lib.hid (chk_ok ((good_iff.1 HG.out).2.2 x hxm))
        have z1 := E6.out.c0 (.tail _ (.head _))
        have HNM := Lib.hid (name_any At m5 ct ts (k : Int) (by omega) HSN.out wr (E6.out.tb (.tail _ (.head _))))
        unfold NameIs at HNM
        rw [(name_at HG.out hx).1, (name_at HG.out hx).2] at HNM
        clear hkt hx hxm
        go_wp2_with fail
        refine HNM.out.mono ?_
        rintro e w8 ⟨rfl, b8⟩
        have E8 := Lib.hid (E6.out.on b8)
        clear b8 E6 z1 HNM g0
        have z1 := E8.out.c0 (.tail _ (.head _))
        have HFD := Lib.hid (find_any At m5 ct ts x HXS.out (by omega) HSN.out w8 (E8.out.tb (.tail _ (.head _))))
        unfold FindIs at HFD
        rw [HXF.out.1, HXF.out.2] at HFD
        go_wp2_with fail
        refine HFD.out.mono ?_
        rintro e w9 ⟨rfl, b9⟩
        have E9 := Lib.hid (E8.out.on b9)
        clear b9 E8 z1 HFD HXF
        have HC := Lib.hid (check_any x HXS.out w9)
        rw [HXC.out] at HC
        have hne : ((k : Int) != (k : Int)) = false := by simp
        go_wp2_with fail
        refine HC.out.mono ?_
        rintro e w10 ⟨rfl, b10⟩
        have E10 := Lib.hid (E9.out.on b10)
        clear b10 E9 HC HXC
        go_wp2_with fail
        go_roundw
        case rel => exact ⟨k + 1, by omega, by go_num, E10⟩
        case measure => simp [intOf]; omega
      · have hge : ¬ (k : Int) < (m5 : Int) := by omega
        clear hkn
        have HPC := Lib.hid (putE_cases nameB ts s)
        have HP1 : Hid (put1E ts s = putE nameB ts s) := by show _ = _; unfold put1E; rw [if_pos HG.out]
        have HPI := Lib.hid (put1_any At m5 ct ts s HS.out (by omega) HSN.out wr (E6.out.tb (.tail _ (.head _))))
        unfold Put1Is at HPI
        rw [HP1.out] at HPI
        have z1 := E6.out.c0 (.tail _ (.head _))
        obtain ⟨q, hq⟩ : ∃ q, putE nameB ts s = q := ⟨_, rfl⟩
        rw [hq] at HPI HPC
        have HQQ := Lib.hid hq
        clear hq HP1
        rcases HPC.out with rfl | rfl | rfl
        all_goals
          clear HPC
          go_wp2_with fail
          refine HPI.out.mono ?_
          rintro e w8 ⟨A8, n8, c8, k8, ns8, rfl, ho, hok, hno, b8⟩
          clear HPI z1
        · obtain ⟨rfl, rfl⟩ := hok trivial
          have hnm : nameB s = true := by
            cases h : nameB s
            · have := HQQ.out; rw [putE_name h] at this; cases this
            · rfl
          have HGU := Lib.hid (putE_good HG.out HQQ.out)
          have HUM : Hid (s ∈ addN ts s) := mem_add.2 (.inr rfl)
          have HUI : Hid (idxN (addN ts s) s = idxN ts s) := idx_at (good_iff.1 HGU.out).2.1 add_at
          have HPU : Hid (put1E (addN ts s) s = 0) := by show _ = _; unfold put1E; rw [if_pos HGU.out, putE_in hnm HUM.out]
          have HAU : Hid (addN (addN ts s) s = addN ts s) := add_in HUM.out
          have HUT : Hid ((addN ts s).take m5 = ts) := by have := add_take (ns := ts) (s := s); rw [HLT.out] at this; exact this
          have HSU : Hid (∀ x ∈ addN ts s, x.size ≤ 9223372036854775807) := fun x hx => by
            rcases mem_add.1 hx with h | rfl
            · exact HSN.out x h
            · exact HS.out
          have HN8 : Hid (n8 ≤ 300 ∧ m5 ≤ n8 ∧ n8 ≤ c8) := by
            have h1 := strs_len (Reads.of_own ho)
            have h2 := (good_iff.1 HGU.out).1
            have h3 := add_len_ge (ns := ts) (s := s)
            have h4 := own_le9 ho
            have h5 := HLT.out
            show _ ∧ _ ∧ _
            omega
          have E8 := Lib.hid ((E6.out.on b8).addT (c := c8) (Reads.of_own ho))
          clear hnm ho hok hno b8 E6
          go_upto_region 19 with fail
          generalize w8.alloc (.cells #[.slice A8 n8 c8] 24) = w9 at *
          generalize w8.heap.size = B8 at *
          generalize addN ts s = us at *
          have z8 := E8.out.c0 (.head _)
          have HPI := Lib.hid (put1_any A8 n8 c8 us s HS.out (by have := HN8.out; omega) HSU.out w9 (E8.out.tb (.head _)))
          unfold Put1Is at HPI
          rw [HPU.out] at HPI
          go_wp2_with fail
          refine HPI.out.mono ?_
          rintro e w10 ⟨A10, n10, c10, k10, ns10, rfl, ho, hok, _, b10⟩
          obtain ⟨rfl, rfl⟩ := hok trivial
          rw [HAU.out] at ho
          rw [HUI.out]
          have HN10 : Hid (n10 ≤ 300) := by
            have h1 := strs_len (Reads.of_own ho)
            have h2 := (good_iff.1 HGU.out).1
            show _ ≤ _
            omega
          have E10 := Lib.hid ((E8.out.on b10).addT (c := c10) (Reads.of_own ho))
          clear ho hok b10 E8 HPI z8 HPU HAU
          go_upto_region 22 with fail
          generalize w10.alloc (.cells #[.slice A10 n10 c10] 24) = w12 at *
          generalize w10.heap.size = B10 at *
          have z8 := E10.out.c0 (.tail _ (.head _))
          have HFD := Lib.hid (find_any A8 n8 c8 us s HS.out (by have := HN8.out; omega) HSU.out w12 (E10.out.tb (.tail _ (.head _))))
          unfold FindIs at HFD
          rw [(find_in HGU.out HUM.out).1, (find_in HGU.out HUM.out).2, HUI.out] at HFD
          go_wp2_with fail
          refine HFD.out.mono ?_
          rintro e w11 ⟨rfl, b11⟩
          have E11 := Lib.hid (E10.out.on b11)
          clear b11 E10 HFD z8 HUM HUI HQQ
          go_upto_region 23 with fail
          clear HSN HS HG HLT
          refine wp_region_noPanic ?_
          refine wp_region_held_drew (S := fun W => W.cell? ⟨B10, 0, none⟩ = some (.slice A10 n10 c10) ∧ W.cell? ⟨B8, 0, none⟩ = some (.slice A8 n8 c8) ∧ W.cell? ⟨Bt, 0, none⟩ = some (.slice At m5 ct)) (by kernel_rfl) ⟨E11.out.drew.c0 (.head _), E11.out.drew.c0 (.tail _ (.head _)), E11.out.drew.c0 (.tail _ (.tail _ (.tail _ (.head _))))⟩ (fun hHeld => ?_)
          have E0 := Lib.hid E11.out.drew
          clear E11
          generalize w11.drew = wd at *
          have hqq : ((idxN ts s : Int) == (idxN ts s : Int)) = true := by simp
          have hsl := fun W => sliceS_h A8 n8 c8 m5 (by have := HN8.out; omega) W
          refine wpAnyH_take (i := 0) (oi := { dst := some 139, op := Op.move (Operand.tmp 21), type := 29, pos := "outright.go:37", after := #[], guard := none }) (v := .int .i64 0) rfl (by kernel_rfl) (by kernel_rfl) (by kernel_rfl) (fun _ _ _ h => h) (Or.inl ⟨by kernel_rfl, fun w' hSw => by (try dsimp only at hSw); go_simp⟩) (by assumption) ?_
          try simp only [Act.put, List.setIfInBounds_toArray, List.set_cons_zero, List.set_cons_succ]
          refine wpAnyH_take (i := 1) (oi := { dst := some 140, op := Op.binOp BinOp.eql 29 (Operand.tmp 139) (Operand.const (Value.int IntKind.i64 0)) 29, type := 4, pos := "outright.go:37", after := #[{ on := 0, ground := Ground.data }], guard := none }) (v := .bool true) rfl (by kernel_rfl) (by kernel_rfl) (by kernel_rfl) (fun _ _ _ h => h) (Or.inl ⟨by kernel_rfl, fun w' hSw => by (try dsimp only at hSw); go_simp⟩) (by assumption) ?_
          try simp only [Act.put, List.setIfInBounds_toArray, List.set_cons_zero, List.set_cons_succ]
          refine wpAnyH_take (i := 2) (oi := { dst := some 141, op := Op.move (Operand.tmp 140), type := 4, pos := "outright.go:37", after := #[{ on := 1, ground := Ground.data }], guard := none }) (v := .bool true) rfl (by kernel_rfl) (by kernel_rfl) (by kernel_rfl) (fun _ _ _ h => h) (Or.inl ⟨by kernel_rfl, fun w' hSw => by (try dsimp only at hSw); go_simp⟩) (by assumption) ?_
          try simp only [Act.put, List.setIfInBounds_toArray, List.set_cons_zero, List.set_cons_succ]
          refine wpAnyH_take (i := 3) (oi := { dst := some 142, op := Op.move (Operand.tmp 18), type := 3, pos := "outright.go:37", after := #[{ on := 2, ground := Ground.guard }], guard := some (2, true) }) (v := .int .i64 (idxN ts s : Int)) rfl (by kernel_rfl) (by kernel_rfl) (by kernel_rfl) (fun _ _ _ h => h) (Or.inl ⟨by kernel_rfl, fun w' hSw => by (try dsimp only at hSw); go_simp⟩) (by assumption) ?_
          try simp only [Act.put, List.setIfInBounds_toArray, List.set_cons_zero, List.set_cons_succ]
          refine wpAnyH_take (i := 4) (oi := { dst := some 143, op := Op.move (Operand.tmp 20), type := 3, pos := "outright.go:37", after := #[{ on := 2, ground := Ground.guard }], guard := some (2, true) }) (v := .int .i64 (idxN ts s : Int)) rfl (by kernel_rfl) (by kernel_rfl) (by kernel_rfl) (fun _ _ _ h => h) (Or.inl ⟨by kernel_rfl, fun w' hSw => by (try dsimp only at hSw); go_simp⟩) (by assumption) ?_
          try simp only [Act.put, List.setIfInBounds_toArray, List.set_cons_zero, List.set_cons_succ]
          refine wpAnyH_take (i := 5) (oi := { dst := some 144, op := Op.binOp BinOp.eql 3 (Operand.tmp 142) (Operand.tmp 143) 3, type := 4, pos := "outright.go:37", after := #[{ on := 3, ground := Ground.data }, { on := 4, ground := Ground.data }, { on := 2, ground := Ground.guard }], guard := some (2, true) }) (v := .bool true) rfl (by kernel_rfl) (by kernel_rfl) (by kernel_rfl) (fun _ _ _ h => h) (Or.inl ⟨by kernel_rfl, fun w' hSw => by (try dsimp only at hSw); go_simp⟩) (by assumption) ?_
          try simp only [Act.put, List.setIfInBounds_toArray, List.set_cons_zero, List.set_cons_succ]
          refine wpAnyH_take (i := 6) (oi := { dst := some 145, op := Op.pick (Operand.tmp 141) (Operand.tmp 144) (Operand.const (Value.bool false)), type := 4, pos := "outright.go:37", after := #[{ on := 2, ground := Ground.data }, { on := 5, ground := Ground.data }], guard := none }) (v := .bool true) rfl (by kernel_rfl) (by kernel_rfl) (by kernel_rfl) (fun _ _ _ h => h) (Or.inl ⟨by kernel_rfl, fun w' hSw => by (try dsimp only at hSw); go_simp⟩) (by assumption) ?_
          try simp only [Act.put, List.setIfInBounds_toArray, List.set_cons_zero, List.set_cons_succ]
          refine wpAnyH_take (i := 7) (oi := { dst := some 146, op := Op.move (Operand.tmp 145), type := 4, pos := "outright.go:37", after := #[{ on := 6, ground := Ground.data }, { on := 2, ground := Ground.chain }], guard := none }) (v := .bool true) rfl (by kernel_rfl) (by kernel_rfl) (by kernel_rfl) (fun _ _ _ h => h) (Or.inl ⟨by kernel_rfl, fun w' hSw => by (try dsimp only at hSw); go_simp⟩) (by assumption) ?_
          try simp only [Act.put, List.setIfInBounds_toArray, List.set_cons_zero, List.set_cons_succ]
          refine wpAnyH_take (i := 8) (oi := { dst := some 147, op := Op.move (Operand.tmp 23), type := 4, pos := "outright.go:37", after := #[{ on := 7, ground := Ground.guard }], guard := some (7, true) }) (v := .bool true) rfl (by kernel_rfl) (by kernel_rfl) (by kernel_rfl) (fun _ _ _ h => h) (Or.inl ⟨by kernel_rfl, fun w' hSw => by (try dsimp only at hSw); go_simp⟩) (by assumption) ?_
          try simp only [Act.put, List.setIfInBounds_toArray, List.set_cons_zero, List.set_cons_succ]
          refine wpAnyH_take (i := 9) (oi := { dst := some 148, op := Op.pick (Operand.tmp 146) (Operand.tmp 147) (Operand.const (Value.bool false)), type := 4, pos := "outright.go:37", after := #[{ on := 7, ground := Ground.data }, { on := 8, ground := Ground.data }], guard := none }) (v := .bool true) rfl (by kernel_rfl) (by kernel_rfl) (by kernel_rfl) (fun _ _ _ h => h) (Or.inl ⟨by kernel_rfl, fun w' hSw => by (try dsimp only at hSw); go_simp⟩) (by assumption) ?_
          try simp only [Act.put, List.setIfInBounds_toArray, List.set_cons_zero, List.set_cons_succ]
          refine wpAnyH_take (i := 10) (oi := { dst := some 149, op := Op.move (Operand.tmp 148), type := 4, pos := "outright.go:37", after := #[{ on := 9, ground := Ground.data }, { on := 7, ground := Ground.chain }], guard := none }) (v := .bool true) rfl (by kernel_rfl) (by kernel_rfl) (by kernel_rfl) (fun _ _ _ h => h) (Or.inl ⟨by kernel_rfl, fun w' hSw => by (try dsimp only at hSw); go_simp⟩) (by assumption) ?_
          try simp only [Act.put, List.setIfInBounds_toArray, List.set_cons_zero, List.set_cons_succ]
          refine wpAnyH_take (i := 11) (oi := { dst := some 150, op := Op.move (Operand.tmp 22), type := 3, pos := "outright.go:37", after := #[{ on := 10, ground := Ground.guard }], guard := some (10, true) }) (v := .int .i64 (idxN ts s : Int)) rfl (by kernel_rfl) (by kernel_rfl) (by kernel_rfl) (fun _ _ _ h => h) (Or.inl ⟨by kernel_rfl, fun w' hSw => by (try dsimp only at hSw); go_simp⟩) (by assumption) ?_
          try simp only [Act.put, List.setIfInBounds_toArray, List.set_cons_zero, List.set_cons_succ]
          refine wpAnyH_take (i := 12) (oi := { dst := some 151, op := Op.move (Operand.tmp 18), type := 3, pos := "outright.go:37", after := #[{ on := 10, ground := Ground.guard }], guard := some (10, true) }) (v := .int .i64 (idxN ts s : Int)) rfl (by kernel_rfl) (by kernel_rfl) (by kernel_rfl) (fun _ _ _ h => h) (Or.inl ⟨by kernel_rfl, fun w' hSw => by (try dsimp only at hSw); go_simp⟩) (by assumption) ?_
          try simp only [Act.put, List.setIfInBounds_toArray, List.set_cons_zero, List.set_cons_succ]
          refine wpAnyH_take (i := 13) (oi := { dst := some 152, op := Op.binOp BinOp.eql 3 (Operand.tmp 150) (Operand.tmp 151) 3, type := 4, pos := "outright.go:37", after := #[{ on := 11, ground := Ground.data }, { on := 12, ground := Ground.data }, { on := 10, ground := Ground.guard }], guard := some (10, true) }) (v := .bool true) rfl (by kernel_rfl) (by kernel_rfl) (by kernel_rfl) (fun _ _ _ h => h) (Or.inl ⟨by kernel_rfl, fun w' hSw => by (try dsimp only at hSw); go_simp⟩) (by assumption) ?_
          try simp only [Act.put, List.setIfInBounds_toArray, List.set_cons_zero, List.set_cons_succ]
          refine wpAnyH_take (i := 14) (oi := { dst := some 153, op := Op.pick (Operand.tmp 149) (Operand.tmp 152) (Operand.const (Value.bool false)), type := 4, pos := "outright.go:37", after := #[{ on := 10, ground := Ground.data }, { on := 13, ground := Ground.data }], guard := none }) (v := .bool true) rfl (by kernel_rfl) (by kernel_rfl) (by kernel_rfl) (fun _ _ _ h => h) (Or.inl ⟨by kernel_rfl, fun w' hSw => by (try dsimp only at hSw); go_simp⟩) (by assumption) ?_
          try simp only [Act.put, List.setIfInBounds_toArray, List.set_cons_zero, List.set_cons_succ]
          refine wpAnyH_take (i := 15) (oi := { dst := some 154, op := Op.move (Operand.tmp 153), type := 4, pos := "outright.go:37", after := #[{ on := 14, ground := Ground.data }, { on := 10, ground := Ground.chain }], guard := none }) (v := .bool true) rfl (by kernel_rfl) (by kernel_rfl) (by kernel_rfl) (fun _ _ _ h => h) (Or.inl ⟨by kernel_rfl, fun w' hSw => by (try dsimp only at hSw); go_simp⟩) (by assumption) ?_
          try simp only [Act.put, List.setIfInBounds_toArray, List.set_cons_zero, List.set_cons_succ]
          refine wpAnyH_take (i := 16) (oi := { dst := some 155, op := Op.fieldAddr 24 (Operand.tmp 19) 0, type := 0, pos := "outright.go:37", after := #[{ on := 15, ground := Ground.guard }], guard := some (15, true) }) (v := .pointer (some ⟨B10, 0, none⟩)) rfl (by kernel_rfl) (by kernel_rfl) (by kernel_rfl) (fun _ _ _ h => h) (Or.inl ⟨by kernel_rfl, fun w' hSw => by (try dsimp only at hSw); go_simp⟩) (by assumption) ?_
          try simp only [Act.put, List.setIfInBounds_toArray, List.set_cons_zero, List.set_cons_succ]
          refine wpAnyH_take (i := 17) (oi := { dst := some 156, op := Op.load 22 (Operand.tmp 155), type := 22, pos := "outright.go:37", after := #[{ on := 16, ground := Ground.data }, { on := 15, ground := Ground.guard }], guard := some (15, true) }) (v := .slice A10 n10 c10) rfl (by kernel_rfl) (by kernel_rfl) (by kernel_rfl) (fun _ _ _ h => h) (Or.inl ⟨by kernel_rfl, fun w' hSw => by (try dsimp only at hSw); go_simp⟩) (by assumption) ?_
          try simp only [Act.put, List.setIfInBounds_toArray, List.set_cons_zero, List.set_cons_succ]
          refine wpAnyH_take (i := 18) (oi := { dst := some 157, op := Op.fieldAddr 24 (Operand.tmp 17) 0, type := 0, pos := "outright.go:37", after := #[{ on := 15, ground := Ground.guard }], guard := some (15, true) }) (v := .pointer (some ⟨B8, 0, none⟩)) rfl (by kernel_rfl) (by kernel_rfl) (by kernel_rfl) (fun _ _ _ h => h) (Or.inl ⟨by kernel_rfl, fun w' hSw => by (try dsimp only at hSw); go_simp⟩) (by assumption) ?_
          try simp only [Act.put, List.setIfInBounds_toArray, List.set_cons_zero, List.set_cons_succ]
          refine wpAnyH_take (i := 19) (oi := { dst := some 158, op := Op.load 22 (Operand.tmp 157), type := 22, pos := "outright.go:37", after := #[{ on := 18, ground := Ground.data }, { on := 15, ground := Ground.guard }], guard := some (15, true) }) (v := .slice A8 n8 c8) rfl (by kernel_rfl) (by kernel_rfl) (by kernel_rfl) (fun _ _ _ h => h) (Or.inl ⟨by kernel_rfl, fun w' hSw => by (try dsimp only at hSw); go_simp⟩) (by assumption) ?_
          try simp only [Act.put, List.setIfInBounds_toArray, List.set_cons_zero, List.set_cons_succ]
          refine wpAnyH_ready (rs := [20]) (by kernel_rfl) (by simp) ?_
          refine AllReadyH.cons (o := { dst := some 159, op := Op.call { callee := Callee.value (Operand.func 26), args := #[Operand.tmp 156, Operand.tmp 158], argTypes := #[22, 22] }, type := 4, pos := "outright.go:37", after := #[{ on := 17, ground := Ground.data }, { on := 19, ground := Ground.data }, { on := 15, ground := Ground.chain }, { on := 15, ground := Ground.guard }], guard := some (15, true) }) rfl (fun K hK => ?_) ?_
          · skip
            go_simp
            have HQ := Lib.hid (eqs_any A10 A8 n10 n8 c10 c8 us us (by have := HN10.out; omega) (by have := HN8.out; omega) _ (E0.out.tb (.head _)) (E0.out.tb (.tail _ (.head _))))
            rw [decide_eq_true rfl] at HQ
            refine HQ.out.mono ?_
            rintro e u1 ⟨rfl, b9⟩
            have E1 := Lib.hid (E0.out.on b9)
            clear b9 hHeld HQ E0
            refine hK.out _ _ ⟨E1.out.c0 (.head _), E1.out.c0 (.tail _ (.head _)), E1.out.c0 (.tail _ (.tail _ (.tail _ (.head _))))⟩ (fun hHeld => ?_)
            clear hK K
            try simp only [Act.put, List.setIfInBounds_toArray, List.set_cons_zero, List.set_cons_succ]
            refine wpAnyH_take (i := 21) (oi := { dst := some 160, op := Op.pick (Operand.tmp 154) (Operand.tmp 159) (Operand.const (Value.bool false)), type := 4, pos := "outright.go:37", after := #[{ on := 15, ground := Ground.data }, { on := 20, ground := Ground.data }], guard := none }) (v := .bool true) rfl (by kernel_rfl) (by kernel_rfl) (by kernel_rfl) (fun _ _ _ h => h) (Or.inl ⟨by kernel_rfl, fun w' hSw => by (try dsimp only at hSw); go_simp⟩) (by assumption) ?_
            try simp only [Act.put, List.setIfInBounds_toArray, List.set_cons_zero, List.set_cons_succ]
            refine wpAnyH_take (i := 22) (oi := { dst := some 161, op := Op.move (Operand.tmp 160), type := 4, pos := "outright.go:37", after := #[{ on := 21, ground := Ground.data }, { on := 20, ground := Ground.chain }], guard := none }) (v := .bool true) rfl (by kernel_rfl) (by kernel_rfl) (by kernel_rfl) (fun _ _ _ h => h) (Or.inl ⟨by kernel_rfl, fun w' hSw => by (try dsimp only at hSw); go_simp⟩) (by assumption) ?_
            try simp only [Act.put, List.setIfInBounds_toArray, List.set_cons_zero, List.set_cons_succ]
            refine wpAnyH_take (i := 23) (oi := { dst := some 162, op := Op.load 24 (Operand.tmp 17), type := 24, pos := "outright.go:37", after := #[{ on := 22, ground := Ground.guard }], guard := some (22, true) }) (v := .agg #[.slice A8 n8 c8]) rfl (by kernel_rfl) (by kernel_rfl) (by kernel_rfl) (fun _ _ _ h => h) (Or.inl ⟨by kernel_rfl, fun w' hSw => by (try dsimp only at hSw); go_simp⟩) (by assumption) ?_
            try simp only [Act.put, List.setIfInBounds_toArray, List.set_cons_zero, List.set_cons_succ]
            refine wpAnyH_ready (rs := [24]) (by kernel_rfl) (by simp) ?_
            refine AllReadyH.cons (o := { dst := some 163, op := Op.call { callee := Callee.value (Operand.func 11), args := #[Operand.tmp 162], argTypes := #[24] }, type := 29, pos := "outright.go:37", after := #[{ on := 23, ground := Ground.data }, { on := 22, ground := Ground.chain }, { on := 22, ground := Ground.guard }], guard := some (22, true) }) rfl (fun K hK => ?_) ?_
            · skip
              go_simp
              have HQ := Lib.hid (fine_any A8 n8 c8 us (by have := HN8.out; omega) HSU.out _ (E1.out.tb (.tail _ (.head _))))
              rw [fine_ok HGU.out] at HQ
              refine HQ.out.mono ?_
              rintro e u2 ⟨rfl, b9⟩
              have E2 := Lib.hid (E1.out.on b9)
              clear b9 hHeld HQ E1
              refine hK.out _ _ ⟨E2.out.c0 (.head _), E2.out.c0 (.tail _ (.head _)), E2.out.c0 (.tail _ (.tail _ (.tail _ (.head _))))⟩ (fun hHeld => ?_)
              clear hK K
              try simp only [Act.put, List.setIfInBounds_toArray, List.set_cons_zero, List.set_cons_succ]
              refine wpAnyH_take (i := 25) (oi := { dst := some 164, op := Op.binOp BinOp.eql 29 (Operand.tmp 163) (Operand.const (Value.int IntKind.i64 0)) 29, type := 4, pos := "outright.go:37", after := #[{ on := 24, ground := Ground.data }, { on := 22, ground := Ground.guard }], guard := some (22, true) }) (v := .bool true) rfl (by kernel_rfl) (by kernel_rfl) (by kernel_rfl) (fun _ _ _ h => h) (Or.inl ⟨by kernel_rfl, fun w' hSw => by (try dsimp only at hSw); go_simp⟩) (by assumption) ?_
              try simp only [Act.put, List.setIfInBounds_toArray, List.set_cons_zero, List.set_cons_succ]
              refine wpAnyH_take (i := 26) (oi := { dst := some 165, op := Op.pick (Operand.tmp 161) (Operand.tmp 164) (Operand.const (Value.bool false)), type := 4, pos := "outright.go:37", after := #[{ on := 22, ground := Ground.data }, { on := 25, ground := Ground.data }], guard := none }) (v := .bool true) rfl (by kernel_rfl) (by kernel_rfl) (by kernel_rfl) (fun _ _ _ h => h) (Or.inl ⟨by kernel_rfl, fun w' hSw => by (try dsimp only at hSw); go_simp⟩) (by assumption) ?_
              try simp only [Act.put, List.setIfInBounds_toArray, List.set_cons_zero, List.set_cons_succ]
              refine wpAnyH_take (i := 27) (oi := { dst := some 166, op := Op.move (Operand.tmp 165), type := 4, pos := "outright.go:37", after := #[{ on := 26, ground := Ground.data }, { on := 24, ground := Ground.chain }], guard := none }) (v := .bool true) rfl (by kernel_rfl) (by kernel_rfl) (by kernel_rfl) (fun _ _ _ h => h) (Or.inl ⟨by kernel_rfl, fun w' hSw => by (try dsimp only at hSw); go_simp⟩) (by assumption) ?_
              try simp only [Act.put, List.setIfInBounds_toArray, List.set_cons_zero, List.set_cons_succ]
              refine wpAnyH_take (i := 28) (oi := { dst := some 167, op := Op.fieldAddr 24 (Operand.tmp 17) 0, type := 0, pos := "outright.go:37", after := #[{ on := 27, ground := Ground.guard }], guard := some (27, true) }) (v := .pointer (some ⟨B8, 0, none⟩)) rfl (by kernel_rfl) (by kernel_rfl) (by kernel_rfl) (fun _ _ _ h => h) (Or.inl ⟨by kernel_rfl, fun w' hSw => by (try dsimp only at hSw); go_simp⟩) (by assumption) ?_
              try simp only [Act.put, List.setIfInBounds_toArray, List.set_cons_zero, List.set_cons_succ]
              refine wpAnyH_take (i := 29) (oi := { dst := some 168, op := Op.load 22 (Operand.tmp 167), type := 22, pos := "outright.go:37", after := #[{ on := 28, ground := Ground.data }, { on := 27, ground := Ground.guard }], guard := some (27, true) }) (v := .slice A8 n8 c8) rfl (by kernel_rfl) (by kernel_rfl) (by kernel_rfl) (fun _ _ _ h => h) (Or.inl ⟨by kernel_rfl, fun w' hSw => by (try dsimp only at hSw); go_simp⟩) (by assumption) ?_
              try simp only [Act.put, List.setIfInBounds_toArray, List.set_cons_zero, List.set_cons_succ]
              refine wpAnyH_take (i := 30) (oi := { dst := some 169, op := Op.fieldAddr 24 (Operand.tmp 5) 0, type := 0, pos := "outright.go:37", after := #[{ on := 27, ground := Ground.guard }], guard := some (27, true) }) (v := .pointer (some ⟨Bt, 0, none⟩)) rfl (by kernel_rfl) (by kernel_rfl) (by kernel_rfl) (fun _ _ _ h => h) (Or.inl ⟨by kernel_rfl, fun w' hSw => by (try dsimp only at hSw); go_simp⟩) (by assumption) ?_
              try simp only [Act.put, List.setIfInBounds_toArray, List.set_cons_zero, List.set_cons_succ]
              refine wpAnyH_take (i := 31) (oi := { dst := some 170, op := Op.load 22 (Operand.tmp 169), type := 22, pos := "outright.go:37", after := #[{ on := 30, ground := Ground.data }, { on := 27, ground := Ground.guard }], guard := some (27, true) }) (v := .slice At m5 ct) rfl (by kernel_rfl) (by kernel_rfl) (by kernel_rfl) (fun _ _ _ h => h) (Or.inl ⟨by kernel_rfl, fun w' hSw => by (try dsimp only at hSw); go_simp⟩) (by assumption) ?_
              try simp only [Act.put, List.setIfInBounds_toArray, List.set_cons_zero, List.set_cons_succ]
              refine wpAnyH_take (i := 32) (oi := { dst := some 171, op := Op.call { callee := Callee.builtin Builtin.len, args := #[Operand.tmp 170], argTypes := #[22] }, type := 3, pos := "outright.go:37", after := #[{ on := 31, ground := Ground.data }, { on := 27, ground := Ground.guard }], guard := some (27, true) }) (v := .int .i64 (m5 : Int)) rfl (by kernel_rfl) (by kernel_rfl) (by kernel_rfl) (fun _ _ _ h => h) (Or.inl ⟨by kernel_rfl, fun w' hSw => by (try dsimp only at hSw); go_simp⟩) (by assumption) ?_
              try simp only [Act.put, List.setIfInBounds_toArray, List.set_cons_zero, List.set_cons_succ]
              refine wpAnyH_take (i := 33) (oi := { dst := some 172, op := Op.slice 22 (Operand.tmp 168) none (some (Operand.tmp 171)) none, type := 22, pos := "outright.go:37", after := #[{ on := 29, ground := Ground.data }, { on := 32, ground := Ground.data }, { on := 27, ground := Ground.guard }], guard := some (27, true) }) (v := .slice A8 m5 c8) rfl (by kernel_rfl) (by kernel_rfl) (by kernel_rfl) (fun _ _ _ h => h) (Or.inl ⟨by kernel_rfl, fun w' hSw => by (try dsimp only at hSw); go_simp⟩) (by assumption) ?_
              try simp only [Act.put, List.setIfInBounds_toArray, List.set_cons_zero, List.set_cons_succ]
              refine wpAnyH_take (i := 34) (oi := { dst := some 173, op := Op.fieldAddr 24 (Operand.tmp 5) 0, type := 0, pos := "outright.go:37", after := #[{ on := 27, ground := Ground.guard }], guard := some (27, true) }) (v := .pointer (some ⟨Bt, 0, none⟩)) rfl (by kernel_rfl) (by kernel_rfl) (by kernel_rfl) (fun _ _ _ h => h) (Or.inl ⟨by kernel_rfl, fun w' hSw => by (try dsimp only at hSw); go_simp⟩) (by assumption) ?_
              try simp only [Act.put, List.setIfInBounds_toArray, List.set_cons_zero, List.set_cons_succ]
              refine wpAnyH_take (i := 35) (oi := { dst := some 174, op := Op.load 22 (Operand.tmp 173), type := 22, pos := "outright.go:37", after := #[{ on := 34, ground := Ground.data }, { on := 27, ground := Ground.guard }], guard := some (27, true) }) (v := .slice At m5 ct) rfl (by kernel_rfl) (by kernel_rfl) (by kernel_rfl) (fun _ _ _ h => h) (Or.inl ⟨by kernel_rfl, fun w' hSw => by (try dsimp only at hSw); go_simp⟩) (by assumption) ?_
              try simp only [Act.put, List.setIfInBounds_toArray, List.set_cons_zero, List.set_cons_succ]
              refine wpAnyH_ready (rs := [36]) (by kernel_rfl) (by simp) ?_
              refine AllReadyH.cons (o := { dst := some 175, op := Op.call { callee := Callee.value (Operand.func 26), args := #[Operand.tmp 172, Operand.tmp 174], argTypes := #[22, 22] }, type := 4, pos := "outright.go:37", after := #[{ on := 33, ground := Ground.data }, { on := 35, ground := Ground.data }, { on := 27, ground := Ground.chain }, { on := 27, ground := Ground.guard }], guard := some (27, true) }) rfl (fun K hK => ?_) ?_
              · skip
                go_simp
                have HR8 := Lib.hid (strs_cut (E2.out.tb (.tail _ (.head _))) HN8.out.2.1)
                rw [HUT.out] at HR8
                have HQ := Lib.hid (eqs_any A8 At m5 m5 c8 ct ts ts (by omega) (by omega) _ HR8.out (E2.out.tb (.tail _ (.tail _ (.tail _ (.head _))))))
                rw [decide_eq_true rfl] at HQ
                refine HQ.out.mono ?_
                rintro e u3 ⟨rfl, b9⟩
                have E3 := Lib.hid (E2.out.on b9)
                clear b9 hHeld HQ HR8 E2
                refine hK.out _ _ ⟨E3.out.c0 (.head _), E3.out.c0 (.tail _ (.head _)), E3.out.c0 (.tail _ (.tail _ (.tail _ (.head _))))⟩ (fun hHeld => ?_)
                clear hK K
                try simp only [Act.put, List.setIfInBounds_toArray, List.set_cons_zero, List.set_cons_succ]
                refine wpAnyH_take (i := 37) (oi := { dst := some 176, op := Op.pick (Operand.tmp 166) (Operand.tmp 175) (Operand.const (Value.bool false)), type := 4, pos := "outright.go:37", after := #[{ on := 27, ground := Ground.data }, { on := 36, ground := Ground.data }], guard := none }) (v := .bool true) rfl (by kernel_rfl) (by kernel_rfl) (by kernel_rfl) (fun _ _ _ h => h) (Or.inl ⟨by kernel_rfl, fun w' hSw => by (try dsimp only at hSw); go_simp⟩) (by assumption) ?_
                try simp only [Act.put, List.setIfInBounds_toArray, List.set_cons_zero, List.set_cons_succ]
                refine wpAnyH_take (i := 38) (oi := { dst := some 4, op := Op.assign (Operand.tmp 176), type := 4, pos := "outright.go:37", after := #[{ on := 37, ground := Ground.data }, { on := 36, ground := Ground.chain }, { on := 0, ground := Ground.phase }, { on := 1, ground := Ground.phase }, { on := 2, ground := Ground.phase }, { on := 3, ground := Ground.phase }, { on := 4, ground := Ground.phase }, { on := 5, ground := Ground.phase }, { on := 6, ground := Ground.phase }, { on := 7, ground := Ground.phase }, { on := 8, ground := Ground.phase }, { on := 9, ground := Ground.phase }, { on := 10, ground := Ground.phase }, { on := 11, ground := Ground.phase }, { on := 12, ground := Ground.phase }, { on := 13, ground := Ground.phase }, { on := 14, ground := Ground.phase }, { on := 15, ground := Ground.phase }, { on := 16, ground := Ground.phase }, { on := 17, ground := Ground.phase }, { on := 18, ground := Ground.phase }, { on := 19, ground := Ground.phase }, { on := 20, ground := Ground.phase }, { on := 21, ground := Ground.phase }, { on := 22, ground := Ground.phase }, { on := 23, ground := Ground.phase }, { on := 24, ground := Ground.phase }, { on := 25, ground := Ground.phase }, { on := 26, ground := Ground.phase }, { on := 27, ground := Ground.phase }, { on := 28, ground := Ground.phase }, { on := 29, ground := Ground.phase }, { on := 30, ground := Ground.phase }, { on := 31, ground := Ground.phase }, { on := 32, ground := Ground.phase }, { on := 33, ground := Ground.phase }, { on := 34, ground := Ground.phase }, { on := 35, ground := Ground.phase }, { on := 36, ground := Ground.phase }, { on := 37, ground := Ground.phase }], guard := none }) (v := .bool true) rfl (by kernel_rfl) (by kernel_rfl) (by kernel_rfl) (fun _ _ _ h => h) (Or.inl ⟨by kernel_rfl, fun w' hSw => by (try dsimp only at hSw); go_simp⟩) (by assumption) ?_
                try simp only [Act.put, List.setIfInBounds_toArray, List.set_cons_zero, List.set_cons_succ]
                refine wpAnyH_done (by kernel_rfl) ?_ _
                refine NoPanic.normal ?_
                clear hHeld
                go_wp2_with fail
                go_ret
                exact ⟨rfl, E3.out.below⟩
              exact AllReadyH.nil
            exact AllReadyH.nil
          exact AllReadyH.nil
        · obtain ⟨rfl, rfl⟩ := hno (by decide)
          obtain rfl : n8 = 0 := by have h1 := strs_len (Reads.of_own ho); simp at h1; omega
          have E8 := Lib.hid ((E6.out.on b8).addT (c := c8) (Reads.of_own ho))
          clear ho hok hno b8 E6
          go_upto_region 19 with fail
          generalize w8.alloc (.cells #[.slice A8 0 c8] 24) = w9 at *
          generalize w8.heap.size = B8 at *
          have z8 := E8.out.c0 (.head _)
          have z1 := E8.out.c0 (.tail _ (.tail _ (.head _)))
          have HC := Lib.hid (check_any s HS.out w9)
          have hnm : nameB s = false := by
            cases h : nameB s
            · rfl
            · have := HQQ.out
              by_cases hm : s ∈ ts
              · rw [putE_in h hm] at this; cases this
              · by_cases hl : ts.length = 300
                · rw [putE_full h hm hl] at this; cases this
                · rw [putE_new h hm hl] at this; cases this
          rw [chk_no hnm] at HC
          clear hnm
          go_wp2_with fail
          refine HC.out.mono ?_
          rintro e w10 ⟨rfl, b10⟩
          have E10 := Lib.hid (E8.out.on b10)
          have z1 := E10.out.c0 (.tail _ (.tail _ (.head _)))
          clear b10 E8 HC
          go_wp2_with fail
          go_ret
          exact ⟨rfl, E10.out.below⟩
        · obtain ⟨rfl, rfl⟩ := hno (by decide)
          obtain rfl : n8 = 0 := by have h1 := strs_len (Reads.of_own ho); simp at h1; omega
          have E8 := Lib.hid ((E6.out.on b8).addT (c := c8) (Reads.of_own ho))
          clear ho hok hno b8 E6
          go_upto_region 19 with fail
          generalize w8.alloc (.cells #[.slice A8 0 c8] 24) = w9 at *
          generalize w8.heap.size = B8 at *
          have z8 := E8.out.c0 (.head _)
          have z1 := E8.out.c0 (.tail _ (.tail _ (.head _)))
          have HC := Lib.hid (check_any s HS.out w9)
          have hnm : nameB s = true := by
            cases h : nameB s
            · have := HQQ.out; rw [putE_name h] at this; cases this
            · rfl
          obtain rfl : m5 = 300 := by
            have := HQQ.out
            have h5 := HLT.out
            by_cases hm : s ∈ ts
            · rw [putE_in hnm hm] at this; cases this
            · by_cases hl : ts.length = 300
              · omega
              · rw [putE_new hnm hm hl] at this; cases this
          rw [chk_ok hnm] at HC
          clear hnm
          go_wp2_with fail
          refine HC.out.mono ?_
          rintro e w10 ⟨rfl, b10⟩
          have E10 := Lib.hid (E8.out.on b10)
          have z1 := E10.out.c0 (.tail _ (.tail _ (.head _)))
          clear b10 E8 HC
          go_wp2_with fail
          go_ret
          exact ⟨rfl, E10.out.below⟩
end Go.Proofs.Ythamkpmbfefpfaa
