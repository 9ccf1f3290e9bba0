/- NamesMay: the walk. -/
import Derived.Test.YthamkpmbfefpfaaNp
import Derived.Deep.RegionHeld3
namespace Go.Proofs.Ythamkpmbfefpfaa
open Go.RowKit Go.Shelf

set_option maxRecDepth 100000 in
set_option maxHeartbeats 32000000 in
theorem may_core (A : Option Addr) (n c : Nat) (ns : List ByteArray) (hnc : n ≤ c) (hcm : c ≤ 9223372036854775807) (hsn : ∀ s ∈ ns, s.size ≤ 9223372036854775807) (L : Option Addr) (nl cl : Nat) (ls : List ByteArray) (hnl : nl ≤ 9223372036854775807) (hsl : ∀ s ∈ ls, s.size ≤ 9223372036854775807)
    (I : Option Addr) (ni ci : Nat) (zs : List Int) (hni : ni ≤ 9223372036854775807) (w : World) (hR : Reads w w.heap.size 1 A n (strs ns)) (hRL : Reads w w.heap.size 1 L nl (strs ls)) (hRI : Reads w w.heap.size 1 I ni (ints zs)) :
    Calls Try.prog 3 #[.agg #[.slice A n c], .slice L nl cl, .slice I ni ci] w fun e w' => e = .returned (.bool true) ∧ Below w.heap.size w w' := by
  have E0 := Lib.hid ((((EN.start w).addS (c := cl) hRL).addI (c := ci) hRI).addT (c := c) hR)
  have HSN : Hid (∀ s ∈ ns.take 301, s.size ≤ 9223372036854775807) := fun s hs => hsn s (List.mem_of_mem_take hs)
  have HSL := Lib.hid hsl
  have HLL := Lib.hid (strs_len hRL)
  have HLI := Lib.hid (ints_len hRI)
  clear hR hRL hRI hsn hsl
  go_enter Try.func3, Try.ntmps3
  go_upto_region 1 with fail
  generalize w.alloc (.cells #[.slice A n c] 24) = W0 at *
  go_wp2_with fail
  refine (wakes10_any W0).mono ?_
  rintro e w1 ⟨rfl, b1⟩
  have E1 := Lib.hid (E0.out.on b1)
  clear b1 E0
  have z0 := E1.out.c0 (.head _)
  go_wp2_with fail
  refine (own_any A n c ns hnc hcm w1 (E1.out.tb (.head _))).mono ?_
  rintro e w2 ⟨At, nt, ct, rfl, ho, b2⟩
  have hnt : nt ≤ 301 := by have := strs_len (Reads.of_own ho); rw [List.length_take] at this; omega
  have hntc : nt ≤ ct := by obtain ⟨A', c', e, h1, _⟩ := own_form2 ho; injection e with _ _ e; omega
  have E2 := Lib.hid ((E1.out.on b2).addT (c := ct) (Reads.of_own ho))
  clear ho b2 E1 z0
  go_upto_region 4 with fail
  generalize w2.alloc (.cells #[.slice At nt ct] 24) = w3 at *
  generalize w2.heap.size = Bt at *
  generalize hts : ns.take 301 = ts at *
  have HTS := Lib.hid hts
  clear hts
  have z1 := E2.out.c0 (.head _)
  go_wp2_with fail
  refine (rright_any At nt ct ts (by omega) hntc w3 (E2.out.tb (.head _))).mono ?_
  rintro e w4 ⟨rfl, b4⟩
  have E4 := Lib.hid (E2.out.on b4)
  clear b4 E2 z1
  have z1 := E4.out.c0 (.head _)
  go_wp2_with fail
  refine (fine_any At nt ct ts (by omega) HSN.out w4 (E4.out.tb (.head _))).mono ?_
  rintro e w5 ⟨rfl, b5⟩
  have E5 := Lib.hid (E4.out.on b5)
  clear b5 E4 z1
  cases hg : goodB nameB ts
  · have HG := Lib.hid hg
    rw [fine_no hg]
    clear hg
    go_wp2_with fail
    go_loopw [45] (fun i wr => ∃ k : Nat, k ≤ nl ∧ i = .int .i64 k ∧ Hid (EN w [(Bt, ⟨At, nt, ct, ts⟩), (w.heap.size, ⟨A, n, c, ns⟩)] [⟨L, nl, cl, ls⟩] [⟨I, ni, ci, zs⟩] wr)) (fun i _ => nl - (intOf i).toNat)
    case atStart => exact ⟨0, Nat.zero_le _, rfl, E5⟩
    case round =>
      clear E5
      obtain ⟨k, hk, rfl, E6⟩ := hrel
      by_cases hkn : k < nl ∧ k ≠ 8
      · obtain ⟨hkl, hk8⟩ := hkn
        have hlt : (k : Int) < (nl : Int) := by omega
        have h8b : ((k : Int) == 8) = false := by simp; omega
        obtain ⟨s, hs⟩ : ∃ s, ls[k]? = some s := ⟨ls[k]'(by rw [HLL.out]; exact hkl), List.getElem?_eq_getElem _⟩
        obtain ⟨b, o, rfl, _, g0⟩ := str_at (E6.out.rs (.head _)) hs
        have HSS := Lib.hid (HSL.out s (List.mem_of_getElem? hs))
        have HCH := Lib.hid (check_any s HSS.out wr)
        have HWD := Lib.hid fun W => rword_any s W
        have HNB : Hid (nameB s = wordB s.data.toList) := rfl
        clear hs hk8
        cases hnm : nameB s
        all_goals
          rw [hnm] at HNB
          rw [← HNB.out] at HWD
          first | rw [chk_no hnm] at HCH | rw [chk_ok hnm] at HCH
          clear hnm HNB
          go_wp2_with fail
          refine HCH.out.mono ?_
          rintro e w7 ⟨rfl, b7⟩
          have E7 := Lib.hid (E6.out.on b7)
          clear b7 E6 g0 HCH
          go_wp2_with fail
          refine (HWD.out w7).mono ?_
          rintro e w8 ⟨rfl, b8⟩
          have E8 := Lib.hid (E7.out.on b8)
          clear b8 E7 HWD
          have z1 := E8.out.c0 (.head _)
          have HFD := Lib.hid (find_any At nt ct ts s HSS.out (by omega) HSN.out w8 (E8.out.tb (.head _)))
          unfold FindIs at HFD
          rw [(find_bad HG.out).1, (find_bad HG.out).2] at HFD
          go_wp2_with fail
          refine HFD.out.mono ?_
          rintro e w9 ⟨rfl, b9⟩
          have E9 := Lib.hid (E8.out.on b9)
          clear b9 E8 z1 HFD
          go_wp2_with fail
          go_roundw
          case rel => exact ⟨k + 1, by omega, by go_num, E9⟩
          case measure => simp [intOf]; omega
      · have hend : (¬ (k : Int) < (nl : Int)) ∨ ((k : Int) < (nl : Int) ∧ ((k : Int) == 8) = true ∧ ∃ b o s, L = some ⟨b, o, none⟩ ∧ wr.cell? ⟨b, o + k, none⟩ = some (.string s)) := by
          rcases Nat.lt_or_ge k nl with h | h
          · have h8 : k = 8 := Decidable.byContradiction fun h8 => hkn ⟨h, h8⟩
            obtain ⟨s, hs⟩ : ∃ s, ls[k]? = some s := ⟨ls[k]'(by rw [HLL.out]; exact h), List.getElem?_eq_getElem _⟩
            obtain ⟨b, o, e, _, g0⟩ := str_at (E6.out.rs (.head _)) hs
            exact .inr ⟨by omega, by simp; omega, b, o, s, e, g0⟩
          · exact .inl (by omega)
        clear hkn
        rcases hend with hge | ⟨hlt, h8b, b, o, s, rfl, g0⟩
        all_goals
          go_wp2_with fail
          go_loopw [92] (fun i wr => ∃ k : Nat, k ≤ ni ∧ i = .int .i64 k ∧ Hid (EN w [(Bt, ⟨At, nt, ct, ts⟩), (w.heap.size, ⟨A, n, c, ns⟩)] [⟨_, nl, cl, ls⟩] [⟨I, ni, ci, zs⟩] wr)) (fun i _ => ni - (intOf i).toNat)
          case atStart => exact ⟨0, Nat.zero_le _, rfl, E6⟩
          case round =>
            clear E6
            obtain ⟨k, hk, rfl, E9⟩ := hrel
            by_cases hkn : k < ni ∧ k ≠ 8
            · obtain ⟨hkl, hk8⟩ := hkn
              have hlt : (k : Int) < (ni : Int) := by omega
              have h8b : ((k : Int) == 8) = false := by simp; omega
              obtain ⟨z, hz⟩ : ∃ z, zs[k]? = some z := ⟨zs[k]'(by rw [HLI.out]; exact hkl), List.getElem?_eq_getElem _⟩
              obtain ⟨b2, o2, rfl, _, g2⟩ := int_at (E9.out.ri (.head _)) hz
              have z1 := E9.out.c0 (.head _)
              have HNM := Lib.hid (name_any At nt ct ts z (by omega) HSN.out wr (E9.out.tb (.head _)))
              unfold NameIs at HNM
              clear hz hk8
              rw [(name_bad HG.out).1, (name_bad HG.out).2] at HNM
              go_wp2_with fail
              refine HNM.out.mono ?_
              rintro e w9 ⟨rfl, b9⟩
              have E10 := Lib.hid (E9.out.on b9)
              clear b9 E9 z1 g2 HNM
              go_wp2_with fail
              go_roundw
              case rel => exact ⟨k + 1, by omega, by go_num, E10⟩
              case measure => simp [intOf]; omega
            · have hend : (¬ (k : Int) < (ni : Int)) ∨ ((k : Int) < (ni : Int) ∧ ((k : Int) == 8) = true ∧ ∃ b o z, I = some ⟨b, o, none⟩ ∧ wr.cell? ⟨b, o + k, none⟩ = some (.int .i64 z)) := by
                rcases Nat.lt_or_ge k ni with h | h
                · have h8 : k = 8 := Decidable.byContradiction fun h8 => hkn ⟨h, h8⟩
                  obtain ⟨z, hz⟩ : ∃ z, zs[k]? = some z := ⟨zs[k]'(by rw [HLI.out]; exact h), List.getElem?_eq_getElem _⟩
                  obtain ⟨b, o, e, _, g0⟩ := int_at (E9.out.ri (.head _)) hz
                  exact .inr ⟨by omega, by simp; omega, b, o, z, e, g0⟩
                · exact .inl (by omega)
              clear hkn
              rcases hend with hge2 | ⟨hlt2, h8b2, b2, o2, z2, rfl, g2⟩
              all_goals
                go_upto_region 35 with fail
                clear HSN HSL HLL HLI
                try clear g2
                try clear g0
                try rw [HTS.out.symm] at E9
                refine wp_region_noPanic ?_
                refine wp_region_held_drew (S := fun W => W.cell? ⟨Bt, 0, none⟩ = some (.slice At nt ct) ∧ W.cell? ⟨w.heap.size, 0, none⟩ = some (.slice A n c)) (by kernel_rfl) ⟨E9.out.drew.c0 (.head _), E9.out.drew.c0 (.tail _ (.head _))⟩ (fun hHeld => ?_)
                have E0 := Lib.hid E9.out.drew
                clear E9
                generalize wr.drew = wd at *
                refine wpAnyH_take (i := 0) (oi := { dst := some 129, op := Op.load 24 (Operand.tmp 7), type := 24, pos := "law.go:66", after := #[], guard := none }) (v := .agg #[.slice At nt ct]) rfl (by kernel_rfl) (by kernel_rfl) (by kernel_rfl) (fun _ _ _ h => h) (Or.inl ⟨by kernel_rfl, fun w' hSw => by (try dsimp only at hSw); go_simp⟩) (by assumption) ?_
                try simp only [Act.put, List.setIfInBounds_toArray, List.set_cons_zero, List.set_cons_succ]
                refine wpAnyH_take (i := 1) (oi := { dst := some 130, op := Op.load 24 (Operand.tmp 3), type := 24, pos := "law.go:66", after := #[], guard := none }) (v := .agg #[.slice A n c]) rfl (by kernel_rfl) (by kernel_rfl) (by kernel_rfl) (fun _ _ _ h => h) (Or.inl ⟨by kernel_rfl, fun w' hSw => by (try dsimp only at hSw); go_simp⟩) (by assumption) ?_
                try simp only [Act.put, List.setIfInBounds_toArray, List.set_cons_zero, List.set_cons_succ]
                refine wpAnyH_ready (rs := [2]) (by kernel_rfl) (by simp) ?_
                refine AllReadyH.cons (o := { dst := some 131, op := Op.call { callee := Callee.value (Operand.func 9), args := #[Operand.tmp 130], argTypes := #[24] }, type := 24, pos := "law.go:66", after := #[{ on := 1, ground := Ground.data }], guard := none }) rfl (fun K hK => ?_) ?_
                · skip
                  go_simp
                  refine (own_any A n c ns hnc hcm _ (E0.out.tb (.tail _ (.head _)))).mono ?_
                  rintro e u1 ⟨A9, n9, c9, rfl, ho, b9⟩
                  have HN9 : Hid (n9 = nt) := by have h1 := strs_len (Reads.of_own ho); have h2 := strs_len (E0.out.tb (.head _)); show _ = _; omega
                  have E1 := Lib.hid ((E0.out.on b9).addS (c := c9) (Reads.of_own ho))
                  clear ho b9 hHeld E0
                  refine hK.out _ _ ⟨E1.out.c0 (.head _), E1.out.c0 (.tail _ (.head _))⟩ (fun hHeld => ?_)
                  clear hK K
                  try simp only [Act.put, List.setIfInBounds_toArray, List.set_cons_zero, List.set_cons_succ]
                  refine wpAnyH_ready (rs := [3]) (by kernel_rfl) (by simp) ?_
                  refine AllReadyH.cons (o := { dst := some 132, op := Op.call { callee := Callee.value (Operand.func 17), args := #[Operand.tmp 129, Operand.tmp 131], argTypes := #[24, 24] }, type := 4, pos := "law.go:66", after := #[{ on := 0, ground := Ground.data }, { on := 2, ground := Ground.data }, { on := 2, ground := Ground.chain }], guard := none }) rfl (fun K hK => ?_) ?_
                  · skip
                    go_simp
                    refine (rsame_any At A9 nt n9 ct c9 _ _ (by omega) (by have := HN9.out; omega) _ (E1.out.tb (.head _)) (E1.out.rs (.head _))).mono ?_
                    rintro e u2 ⟨rfl, b9⟩
                    rw [decide_eq_true rfl]
                    have E2 := Lib.hid (E1.out.on b9)
                    clear b9 hHeld E1
                    refine hK.out _ _ ⟨E2.out.c0 (.head _), E2.out.c0 (.tail _ (.head _))⟩ (fun hHeld => ?_)
                    clear hK K
                    try simp only [Act.put, List.setIfInBounds_toArray, List.set_cons_zero, List.set_cons_succ]
                    refine wpAnyH_take (i := 4) (oi := { dst := some 6, op := Op.assign (Operand.tmp 132), type := 4, pos := "law.go:66", after := #[{ on := 3, ground := Ground.data }, { on := 3, ground := Ground.chain }, { on := 0, ground := Ground.phase }, { on := 1, ground := Ground.phase }, { on := 2, ground := Ground.phase }, { on := 3, ground := Ground.phase }], guard := none }) (v := .bool true) rfl (by kernel_rfl) (by kernel_rfl) (by kernel_rfl) (fun _ _ _ h => h) (Or.inl ⟨by kernel_rfl, fun w' hSw => by (try dsimp only at hSw); go_simp⟩) (by assumption) ?_
                    try simp only [Act.put, List.setIfInBounds_toArray, List.set_cons_zero, List.set_cons_succ]
                    refine wpAnyH_done (by kernel_rfl) ?_ _
                    refine NoPanic.normal ?_
                    clear hHeld
                    go_wp2_with fail
                    go_ret
                    exact ⟨rfl, E2.out.below⟩
                  exact AllReadyH.nil
                exact AllReadyH.nil
  · have HG := Lib.hid hg
    rw [fine_ok hg]
    clear hg
    go_wp2_with fail
    go_loopw [45] (fun i wr => ∃ k : Nat, k ≤ nl ∧ i = .int .i64 k ∧ Hid (EN w [(Bt, ⟨At, nt, ct, ts⟩), (w.heap.size, ⟨A, n, c, ns⟩)] [⟨L, nl, cl, ls⟩] [⟨I, ni, ci, zs⟩] wr)) (fun i _ => nl - (intOf i).toNat)
    case atStart => exact ⟨0, Nat.zero_le _, rfl, E5⟩
    case round =>
      clear E5
      obtain ⟨k, hk, rfl, E6⟩ := hrel
      by_cases hkn : k < nl ∧ k ≠ 8
      · obtain ⟨hkl, hk8⟩ := hkn
        have hlt : (k : Int) < (nl : Int) := by omega
        have h8b : ((k : Int) == 8) = false := by simp; omega
        obtain ⟨s, hs⟩ : ∃ s, ls[k]? = some s := ⟨ls[k]'(by rw [HLL.out]; exact hkl), List.getElem?_eq_getElem _⟩
        obtain ⟨b, o, rfl, _, g0⟩ := str_at (E6.out.rs (.head _)) hs
        have HSS := Lib.hid (HSL.out s (List.mem_of_getElem? hs))
        have HCH := Lib.hid (check_any s HSS.out wr)
        have HWD := Lib.hid fun W => rword_any s W
        have HNB : Hid (nameB s = wordB s.data.toList) := rfl
        clear hs hk8
        cases hnm : nameB s
        all_goals
          rw [hnm] at HNB
          rw [← HNB.out] at HWD
          first | rw [chk_no hnm] at HCH | rw [chk_ok hnm] at HCH
          clear hnm HNB
          go_wp2_with fail
          refine HCH.out.mono ?_
          rintro e w7 ⟨rfl, b7⟩
          have E7 := Lib.hid (E6.out.on b7)
          clear b7 E6 g0 HCH
          go_wp2_with fail
          refine (HWD.out w7).mono ?_
          rintro e w8 ⟨rfl, b8⟩
          have E8 := Lib.hid (E7.out.on b8)
          clear b8 E7 HWD
          have z1 := E8.out.c0 (.head _)
          have HF := Lib.hid (rfind_any At nt ct ts s (by omega) w8 (E8.out.tb (.head _)))
          have HFD := Lib.hid (find_any At nt ct ts s HSS.out (by omega) HSN.out w8 (E8.out.tb (.head _)))
          unfold RFind at HF
          unfold FindIs at HFD
          by_cases hm : s ∈ ts
          · have hrf : rfN ts s = (idxN ts s : Int) := by unfold rfN; rw [if_pos hm]
            rw [decide_eq_true hm, hrf] at HF
            rw [(find_in HG.out hm).1, (find_in HG.out hm).2] at HFD
            have hne : ((idxN ts s : Int) != (idxN ts s : Int)) = false := by simp
            clear hm hrf
            go_wp2_with fail
            refine HF.out.mono ?_
            rintro e w9 ⟨rfl, rfl⟩
            go_wp2_with fail
            refine HFD.out.mono ?_
            rintro e w9 ⟨rfl, b9⟩
            have E9 := Lib.hid (E8.out.on b9)
            clear b9 E8 z1 HFD HF
            go_wp2_with fail
            go_roundw
            case rel => exact ⟨k + 1, by omega, by go_num, E9⟩
            case measure => simp [intOf]; omega
          · have hrf : rfN ts s = 0 := by unfold rfN; rw [if_neg hm]
            rw [decide_eq_false hm, hrf] at HF
            rw [(find_out hm).1, (find_out hm).2] at HFD
            clear hm hrf
            go_wp2_with fail
            refine HF.out.mono ?_
            rintro e w9 ⟨rfl, rfl⟩
            go_wp2_with fail
            refine HFD.out.mono ?_
            rintro e w9 ⟨rfl, b9⟩
            have E9 := Lib.hid (E8.out.on b9)
            clear b9 E8 z1 HFD HF
            go_wp2_with fail
            go_roundw
            case rel => exact ⟨k + 1, by omega, by go_num, E9⟩
            case measure => simp [intOf]; omega
      · have hend : (¬ (k : Int) < (nl : Int)) ∨ ((k : Int) < (nl : Int) ∧ ((k : Int) == 8) = true ∧ ∃ b o s, L = some ⟨b, o, none⟩ ∧ wr.cell? ⟨b, o + k, none⟩ = some (.string s)) := by
          rcases Nat.lt_or_ge k nl with h | h
          · have h8 : k = 8 := Decidable.byContradiction fun h8 => hkn ⟨h, h8⟩
            obtain ⟨s, hs⟩ : ∃ s, ls[k]? = some s := ⟨ls[k]'(by rw [HLL.out]; exact h), List.getElem?_eq_getElem _⟩
            obtain ⟨b, o, e, _, g0⟩ := str_at (E6.out.rs (.head _)) hs
            exact .inr ⟨by omega, by simp; omega, b, o, s, e, g0⟩
          · exact .inl (by omega)
        clear hkn
        rcases hend with hge | ⟨hlt, h8b, b, o, s, rfl, g0⟩
        all_goals
          go_wp2_with fail
          go_loopw [92] (fun i wr => ∃ k : Nat, k ≤ ni ∧ i = .int .i64 k ∧ Hid (EN w [(Bt, ⟨At, nt, ct, ts⟩), (w.heap.size, ⟨A, n, c, ns⟩)] [⟨_, nl, cl, ls⟩] [⟨I, ni, ci, zs⟩] wr)) (fun i _ => ni - (intOf i).toNat)
          case atStart => exact ⟨0, Nat.zero_le _, rfl, E6⟩
          case round =>
            clear E6
            obtain ⟨k, hk, rfl, E9⟩ := hrel
            by_cases hkn : k < ni ∧ k ≠ 8
            · obtain ⟨hkl, hk8⟩ := hkn
              have hlt : (k : Int) < (ni : Int) := by omega
              have h8b : ((k : Int) == 8) = false := by simp; omega
              obtain ⟨z, hz⟩ : ∃ z, zs[k]? = some z := ⟨zs[k]'(by rw [HLI.out]; exact hkl), List.getElem?_eq_getElem _⟩
              obtain ⟨b2, o2, rfl, _, g2⟩ := int_at (E9.out.ri (.head _)) hz
              have z1 := E9.out.c0 (.head _)
              have HNM := Lib.hid (name_any At nt ct ts z (by omega) HSN.out wr (E9.out.tb (.head _)))
              unfold NameIs at HNM
              clear hz hk8
              by_cases hin : 0 ≤ z ∧ z < (nt : Int)
              · obtain ⟨q, rfl⟩ : ∃ q : Nat, z = (q : Int) := ⟨z.toNat, by omega⟩
                have hlt9 := strs_len (E9.out.tb (.head _))
                obtain ⟨x, hx⟩ : ∃ x, ts[q]? = some x := ⟨ts[q]'(by omega), List.getElem?_eq_getElem _⟩
                rw [(name_at HG.out hx).1, (name_at HG.out hx).2] at HNM
                have hb := str_yes (a := x) rfl
                have hq1 : (q : Int) < (nt : Int) := hin.2
                have hq0 : (q : Int) ≥ 0 := by omega
                have HX := Lib.hid hx
                clear hx hin hlt9
                go_wp2_with fail
                refine HNM.out.mono ?_
                rintro e w9 ⟨rfl, b9⟩
                have E10 := Lib.hid (E9.out.on b9)
                clear b9 E9 z1 g2 HNM
                have z1 := E10.out.c0 (.head _)
                obtain ⟨b3, o3, rfl, _, g3⟩ := str_at (E10.out.tb (.head _)) HX.out
                go_wp2_with fail
                go_roundw
                case rel => exact ⟨k + 1, by omega, by go_num, E10⟩
                case measure => simp [intOf]; omega
              · have hlt9 := strs_len (E9.out.tb (.head _))
                rw [(name_out HG.out (by rw [hlt9]; exact hin)).1, (name_out HG.out (by rw [hlt9]; exact hin)).2] at HNM
                clear hlt9
                by_cases hz0 : z ≥ 0
                · have hz1 : ¬ z < (nt : Int) := by omega
                  clear hin
                  go_wp2_with fail
                  refine HNM.out.mono ?_
                  rintro e w9 ⟨rfl, b9⟩
                  have E10 := Lib.hid (E9.out.on b9)
                  clear b9 E9 z1 g2 HNM
                  have z1 := E10.out.c0 (.head _)
                  go_wp2_with fail
                  go_roundw
                  case rel => exact ⟨k + 1, by omega, by go_num, E10⟩
                  case measure => simp [intOf]; omega
                · clear hin
                  go_wp2_with fail
                  refine HNM.out.mono ?_
                  rintro e w9 ⟨rfl, b9⟩
                  have E10 := Lib.hid (E9.out.on b9)
                  clear b9 E9 z1 g2 HNM
                  go_wp2_with fail
                  go_roundw
                  case rel => exact ⟨k + 1, by omega, by go_num, E10⟩
                  case measure => simp [intOf]; omega
            · have hend : (¬ (k : Int) < (ni : Int)) ∨ ((k : Int) < (ni : Int) ∧ ((k : Int) == 8) = true ∧ ∃ b o z, I = some ⟨b, o, none⟩ ∧ wr.cell? ⟨b, o + k, none⟩ = some (.int .i64 z)) := by
                rcases Nat.lt_or_ge k ni with h | h
                · have h8 : k = 8 := Decidable.byContradiction fun h8 => hkn ⟨h, h8⟩
                  obtain ⟨z, hz⟩ : ∃ z, zs[k]? = some z := ⟨zs[k]'(by rw [HLI.out]; exact h), List.getElem?_eq_getElem _⟩
                  obtain ⟨b, o, e, _, g0⟩ := int_at (E9.out.ri (.head _)) hz
                  exact .inr ⟨by omega, by simp; omega, b, o, z, e, g0⟩
                · exact .inl (by omega)
              clear hkn
              rcases hend with hge2 | ⟨hlt2, h8b2, b2, o2, z2, rfl, g2⟩
              all_goals
                go_upto_region 35 with fail
                clear HSN HSL HLL HLI
                try clear g2
                try clear g0
                try rw [HTS.out.symm] at E9
                refine wp_region_noPanic ?_
                refine wp_region_held_drew (S := fun W => W.cell? ⟨Bt, 0, none⟩ = some (.slice At nt ct) ∧ W.cell? ⟨w.heap.size, 0, none⟩ = some (.slice A n c)) (by kernel_rfl) ⟨E9.out.drew.c0 (.head _), E9.out.drew.c0 (.tail _ (.head _))⟩ (fun hHeld => ?_)
                have E0 := Lib.hid E9.out.drew
                clear E9
                generalize wr.drew = wd at *
                refine wpAnyH_take (i := 0) (oi := { dst := some 129, op := Op.load 24 (Operand.tmp 7), type := 24, pos := "law.go:66", after := #[], guard := none }) (v := .agg #[.slice At nt ct]) rfl (by kernel_rfl) (by kernel_rfl) (by kernel_rfl) (fun _ _ _ h => h) (Or.inl ⟨by kernel_rfl, fun w' hSw => by (try dsimp only at hSw); go_simp⟩) (by assumption) ?_
                try simp only [Act.put, List.setIfInBounds_toArray, List.set_cons_zero, List.set_cons_succ]
                refine wpAnyH_take (i := 1) (oi := { dst := some 130, op := Op.load 24 (Operand.tmp 3), type := 24, pos := "law.go:66", after := #[], guard := none }) (v := .agg #[.slice A n c]) rfl (by kernel_rfl) (by kernel_rfl) (by kernel_rfl) (fun _ _ _ h => h) (Or.inl ⟨by kernel_rfl, fun w' hSw => by (try dsimp only at hSw); go_simp⟩) (by assumption) ?_
                try simp only [Act.put, List.setIfInBounds_toArray, List.set_cons_zero, List.set_cons_succ]
                refine wpAnyH_ready (rs := [2]) (by kernel_rfl) (by simp) ?_
                refine AllReadyH.cons (o := { dst := some 131, op := Op.call { callee := Callee.value (Operand.func 9), args := #[Operand.tmp 130], argTypes := #[24] }, type := 24, pos := "law.go:66", after := #[{ on := 1, ground := Ground.data }], guard := none }) rfl (fun K hK => ?_) ?_
                · skip
                  go_simp
                  refine (own_any A n c ns hnc hcm _ (E0.out.tb (.tail _ (.head _)))).mono ?_
                  rintro e u1 ⟨A9, n9, c9, rfl, ho, b9⟩
                  have HN9 : Hid (n9 = nt) := by have h1 := strs_len (Reads.of_own ho); have h2 := strs_len (E0.out.tb (.head _)); show _ = _; omega
                  have E1 := Lib.hid ((E0.out.on b9).addS (c := c9) (Reads.of_own ho))
                  clear ho b9 hHeld E0
                  refine hK.out _ _ ⟨E1.out.c0 (.head _), E1.out.c0 (.tail _ (.head _))⟩ (fun hHeld => ?_)
                  clear hK K
                  try simp only [Act.put, List.setIfInBounds_toArray, List.set_cons_zero, List.set_cons_succ]
                  refine wpAnyH_ready (rs := [3]) (by kernel_rfl) (by simp) ?_
                  refine AllReadyH.cons (o := { dst := some 132, op := Op.call { callee := Callee.value (Operand.func 17), args := #[Operand.tmp 129, Operand.tmp 131], argTypes := #[24, 24] }, type := 4, pos := "law.go:66", after := #[{ on := 0, ground := Ground.data }, { on := 2, ground := Ground.data }, { on := 2, ground := Ground.chain }], guard := none }) rfl (fun K hK => ?_) ?_
                  · skip
                    go_simp
                    refine (rsame_any At A9 nt n9 ct c9 _ _ (by omega) (by have := HN9.out; omega) _ (E1.out.tb (.head _)) (E1.out.rs (.head _))).mono ?_
                    rintro e u2 ⟨rfl, b9⟩
                    rw [decide_eq_true rfl]
                    have E2 := Lib.hid (E1.out.on b9)
                    clear b9 hHeld E1
                    refine hK.out _ _ ⟨E2.out.c0 (.head _), E2.out.c0 (.tail _ (.head _))⟩ (fun hHeld => ?_)
                    clear hK K
                    try simp only [Act.put, List.setIfInBounds_toArray, List.set_cons_zero, List.set_cons_succ]
                    refine wpAnyH_take (i := 4) (oi := { dst := some 6, op := Op.assign (Operand.tmp 132), type := 4, pos := "law.go:66", after := #[{ on := 3, ground := Ground.data }, { on := 3, ground := Ground.chain }, { on := 0, ground := Ground.phase }, { on := 1, ground := Ground.phase }, { on := 2, ground := Ground.phase }, { on := 3, ground := Ground.phase }], guard := none }) (v := .bool true) rfl (by kernel_rfl) (by kernel_rfl) (by kernel_rfl) (fun _ _ _ h => h) (Or.inl ⟨by kernel_rfl, fun w' hSw => by (try dsimp only at hSw); go_simp⟩) (by assumption) ?_
                    try simp only [Act.put, List.setIfInBounds_toArray, List.set_cons_zero, List.set_cons_succ]
                    refine wpAnyH_done (by kernel_rfl) ?_ _
                    refine NoPanic.normal ?_
                    clear hHeld
                    go_wp2_with fail
                    go_ret
                    exact ⟨rfl, E2.out.below⟩
                  exact AllReadyH.nil
                exact AllReadyH.nil
end Go.Proofs.Ythamkpmbfefpfaa
