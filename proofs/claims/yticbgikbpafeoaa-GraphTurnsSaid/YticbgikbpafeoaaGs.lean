/- The document's answer for layer graph: Starts, With: contracts. -/
import Derived.Test.YticbgikbpafeoaaGr
namespace Go.Proofs.Yticbgikbpafeoaa
open Go.RowKit

theorem start_upto {l : List Ed} {v : Int} {k : Nat} (h : l.length ≤ k) : (fil (fun p : Ed => decide (p.1 < v)) l k).length = startE l v := by rw [fil_all h]; rfl

set_option maxRecDepth 100000 in
set_option maxHeartbeats 4000000 in
theorem rstarts_any (nodes : Int) (hnd : 0 ≤ nodes ∧ nodes ≤ 300) (A : Option Addr) (n c : Nat) (zs : List Ed) (hn : n ≤ 1000) (w : World) (hR : Reads w w.heap.size 3 A n (cellsE zs)) :
    Calls Try.prog 22 #[.agg #[.int .i64 nodes, .slice A n c]] w (IntsIs (startsE zs (nodes.toNat + 1)) w) := by
  obtain ⟨bx, b0⟩ := box_new w #[.int .i64 nodes, .slice A n c] 24
  obtain ⟨m, hm⟩ : ∃ m, nodes.toNat + 1 = m := ⟨_, rfl⟩
  rw [hm]
  have HL := Lib.hid (reads_len hR)
  have HR := Lib.hid fun W (h : Below w.heap.size w W) => (hR.below h)
  obtain ⟨i1, hi1, hy0, hy1, hy2⟩ := info_parts int_info
  have z0 := bx.cell 0
  have z1 := bx.cell 1
  have B0 := Lib.hid b0
  have BX := Lib.hid bx
  have hw : IntKind.i64.wrap (nodes + 1) = (m : Int) := by rw [IntKind.wrap_i64]; omega
  have hm1 : m ≤ 301 := by omega
  clear hR bx b0 hnd hm
  go_enter Try.func22, Try.ntmps22
  go_wp2_with fail
  generalize w.alloc (.cells #[.int .i64 nodes, .slice A n c] 24) = W0 at *
  have hX0 := BX.out.lt
  clear z0 z1
  go_loopg [3, 11] m (fun gg s3 s11 wr => ∃ (i : Nat) (A' : Option Addr) (c' : Nat), i + gg = m ∧ s11 = .int .i64 i ∧ s3 = .slice A' i c' ∧ i ≤ c' ∧ c' ≤ 9223372036854775807 ∧
    Hid (wr.ownsRow W0.heap.size 3 1 (.slice A' i c') i (ints (startsE zs i))) ∧ Hid (Below W0.heap.size W0 wr))
  case atStart => exact ⟨0, none, 0, by omega, rfl, rfl, Nat.le_refl _, by decide, World.ownsRow_nil _ _ _ _, Below.refl _ _⟩
  case round =>
    obtain ⟨i, A', c', hig, rfl, rfl, huc, hcm, HO, HB⟩ := hrel
    cases gk with
    | zero =>
      have hge : ¬ (i : Int) < (m : Int) := by omega
      have him : i = m := by omega
      have HE := Lib.hid (ints_end B0.out (startsE_len zs i) HO.out huc hcm HB.out)
      rw [him] at HE
      clear hig
      subst him
      go_wp2_with fail
      go_ret
      exact HE.out
    | succ g2 =>
      have hlt : (i : Int) < (m : Int) := by omega
      have him : i < m := by omega
      have HIG := Lib.hid hig
      have BX1 := Lib.hid (BX.out.below HB.out hX0)
      have z0 := BX1.out.cell 0
      have z1 := BX1.out.cell 1
      rename World => wq
      have hEq : Hid (startsE zs (i + 1) = startsE zs i ++ [(startE zs (i : Int) : Int)]) := by
        show _ = _
        unfold startsE
        rw [List.range_succ, List.map_append]
        rfl
      clear hig
      go_wp2_with fail
      clear z0 z1
      go_loopg [5, 17] n (fun gg s5 s17 wr => ∃ k t : Nat, k + gg = n ∧ t ≤ k ∧ s17 = .int .i64 k ∧ s5 = .int .i64 t ∧ Hid ((fil (fun p : Ed => decide (p.1 < (i : Int))) zs k).length = t) ∧
        Hid (wr.ownsRow W0.heap.size 3 1 (.slice A' i c') i (ints (startsE zs i))) ∧ Hid (Below W0.heap.size W0 wr))
      case atStart => exact ⟨0, 0, by omega, by omega, rfl, rfl, rfl, HO, HB⟩
      case round =>
        clear HO HB BX1
        obtain ⟨k, t, hkg, htk, rfl, rfl, HT, HO, HB⟩ := hrel
        cases gk with
        | zero =>
          have hge2 : ¬ (k : Int) < (n : Int) := by omega
          have HST : Hid (startE zs (i : Int) = t) := by rw [← start_upto (l := zs) (v := (i : Int)) (k := k) (by rw [HL.out]; omega)]; exact HT.out
          have HNX : Hid (startsE zs (i + 1) = startsE zs i ++ [(t : Int)]) := by rw [hEq.out, HST.out]; exact rfl
          have hsz2 := HB.out.size
          clear hkg
          go_wp2_with (at_builtin; refine wpList_append_any _ rfl (.tmp 28) (.tmp 30) 41 rfl W0.heap.size 3 i1 _ 1 8 Try.underlying41 hi1 hy0 hy1 hy2 rfl (by decide) (.slice A' i c') i _ rfl (HO.out.alloc _) (wr.heap.size + 1) (some ⟨wr.heap.size, 0, none⟩) 1 _ (ints [(t : Int)]) rfl (int_one wr ((t : Int))) (ints_one _) (by unfold maxLen; omega) (by omega) (by simp; omega) ?_; intro v5 w5 hown5 hgrow5 _; have HB5 : Hid (Below W0.heap.size W0 w5) := (HB.out.alloc hsz2 _).grown hgrow5 (by simp; omega) (fun k hk => (HO.out.lt k hk).1); obtain ⟨A5, c5, rfl, h51, h52⟩ := own_form2 hown5; rw [← ints_append, ← HNX.out] at hown5; have HO5 := Lib.hid hown5; clear hown5 hgrow5)
          go_roundg g2
          case measure => omega
          case rel => exact ⟨i + 1, A5, c5, by have := HIG.out; omega, by go_num, rfl, h51, h52, HO5, HB5⟩
        | succ g3 =>
          have hlt2 : (k : Int) < (n : Int) := by omega
          obtain ⟨p, hp⟩ : ∃ p, zs[k]? = some p := ⟨zs[k]'(by rw [HL.out]; omega), List.getElem?_eq_getElem _⟩
          obtain ⟨b, o, rfl, hb, g0, g1, gk2⟩ := ed_at (HR.out _ (B0.out.trans (HB.out.mono B0.out.size))) hp
          have HKG := Lib.hid hkg
          have hkb : (t : Int) ≤ 1000 := by omega
          have HO1 := Lib.hid (HO.out.alloc (.cells #[.int .i64 p.1, .int .i64 p.2.1, .int .i64 p.2.2] 35))
          have HB1 := Lib.hid (HB.out.alloc HB.out.size (.cells #[.int .i64 p.1, .int .i64 p.2.1, .int .i64 p.2.2] 35))
          by_cases ht : p.1 < (i : Int)
          · have HT2 : Hid ((fil (fun p : Ed => decide (p.1 < (i : Int))) zs (k + 1)).length = t + 1) := by
              show _ = _
              rw [fil_keep (q := fun p : Ed => decide (p.1 < (i : Int))) hp (by simpa using ht), List.length_append, HT.out]
              rfl
            clear hp hkg
            go_wp2_with fail
            go_roundg g3
            case measure => omega
            case rel => exact ⟨k + 1, t + 1, by have := HKG.out; omega, by omega, by go_num, by go_num, HT2, HO1, HB1⟩
          · have HT2 : Hid ((fil (fun p : Ed => decide (p.1 < (i : Int))) zs (k + 1)).length = t) := by
              show _ = _
              rw [fil_skip (q := fun p : Ed => decide (p.1 < (i : Int))) hp (by simpa using ht), HT.out]
            clear hp hkg
            go_wp2_with fail
            go_roundg g3
            case measure => omega
            case rel => exact ⟨k + 1, t, by have := HKG.out; omega, by omega, by go_num, rfl, HT2, HO1, HB1⟩

theorem wl_step (e : Ed) (l : List Ed) (k : Nat) {x : Ed} (h : l[k]? = some x) : (l.take (k + 1)).foldl (wStep e) ([], false) = wStep e ((l.take k).foldl (wStep e) ([], false)) x := by
  rw [List.take_add_one, h, List.foldl_append]
  rfl
theorem ws_keep {e x : Ed} {out : List Ed} {laid : Bool} (h : laid = true ∨ aheadE x e = true) (hx : x ≠ e) : wStep e (out, laid) x = (out ++ [x], laid) := by
  unfold wStep
  rcases h with h | h <;> simp [h, hx]
theorem ws_drop {e x : Ed} {out : List Ed} (hx : x = e) : wStep e (out, true) x = (out, true) := by
  unfold wStep
  simp [hx]
theorem ws_both {e x : Ed} {out : List Ed} (h : aheadE x e = false) (hx : x ≠ e) : wStep e (out, false) x = (out ++ [e] ++ [x], true) := by
  unfold wStep
  simp [h, hx]
theorem ws_one {e x : Ed} {out : List Ed} (hx : x = e) : wStep e (out, false) x = (out ++ [e], true) := by
  unfold wStep
  simp [hx, ahead_irrefl]

set_option maxRecDepth 100000 in
set_option maxHeartbeats 8000000 in
theorem with_any (e : Ed) (A : Option Addr) (n c : Nat) (zs : List Ed) (hn : n ≤ 1000) (w : World) (hR : Reads w w.heap.size 3 A n (cellsE zs)) :
    Calls Try.prog 44 #[.slice A n c, .agg #[.int .i64 e.1, .int .i64 e.2.1, .int .i64 e.2.2]] w (RowIs (withE zs e) w) := by
  obtain ⟨bx, b0⟩ := box_new w #[.int .i64 e.1, .int .i64 e.2.1, .int .i64 e.2.2] 35
  have HL := Lib.hid (reads_len hR)
  have HR := Lib.hid fun W (h : Below w.heap.size w W) => (hR.below h)
  obtain ⟨i0, hi, hz0, hz1, hz2⟩ := info_parts pair_info
  have B0 := Lib.hid b0
  have BX := Lib.hid bx
  clear hR bx b0
  go_enter Try.func44, Try.ntmps44
  go_wp2_with fail
  generalize w.alloc (.cells #[.int .i64 e.1, .int .i64 e.2.1, .int .i64 e.2.2] 35) = W0 at *
  have hX0 := BX.out.lt
  go_loopg [5, 6, 11] n (fun gg s5 s6 s11 wr => ∃ (i u : Nat) (A' : Option Addr) (c' : Nat) (out : List Ed) (laid : Bool), i + gg = n ∧ u ≤ 2 * i ∧ s11 = .int .i64 i ∧ s6 = .bool laid ∧ s5 = .slice A' u c' ∧ u ≤ c' ∧ c' ≤ 9223372036854775807 ∧ Hid ((zs.take i).foldl (wStep e) ([], false) = (out, laid)) ∧ Hid (out.length = u) ∧
    Hid (wr.ownsRow W0.heap.size 35 3 (.slice A' u c') u (cellsE out)) ∧ Hid (Below W0.heap.size W0 wr))
  case atStart => exact ⟨0, 0, none, 0, [], false, by omega, by omega, rfl, rfl, rfl, Nat.le_refl _, by decide, rfl, rfl, World.ownsRow_nil _ _ _ _, Below.refl _ _⟩
  case round =>
    obtain ⟨i, u, A', c', out, laid, hig, hui, rfl, rfl, rfl, huc, hcm, HF, HU, HO, HB⟩ := hrel
    cases gk with
    | zero =>
      have hge : ¬ (i : Int) < (n : Int) := by omega
      have HW : Hid (withE zs e = if laid = true then out else out ++ [e]) := by
        show _ = _
        unfold withE
        have := HF.out
        rw [List.take_of_length_le (by rw [HL.out]; omega)] at this
        rw [this]
      have hin : u ≤ 2000 := by omega
      have HBX := Lib.hid (BX.out.below HB.out hX0)
      have hsz2 := HB.out.size
      clear hig HF
      cases laid
      · have HW2 : Hid (withE zs e = out ++ [e]) := HW.out
        have z0 := HBX.out.cell 0
        have z1 := HBX.out.cell 1
        have z2 := HBX.out.cell 2
        go_wp2_with (at_builtin; refine wpList_append_any _ rfl (.tmp 37) (.tmp 39) 22 rfl W0.heap.size 35 i0 _ 3 24 Try.underlying22 hi hz0 hz1 hz2 rfl (by decide) (.slice A' u c') u _ rfl (HO.out.alloc _) (wr.heap.size + 1) (some ⟨wr.heap.size, 0, none⟩) 1 _ (cellsE [e]) rfl (pair_one wr e) (cellsE_one _) (by unfold maxLen; omega) (by omega) (by simp; omega) ?_; intro v5 w5 hown5 hgrow5 _; have HB5 : Hid (Below W0.heap.size W0 w5) := (HB.out.alloc hsz2 _).grown hgrow5 (by simp; omega) (fun k hk => (HO.out.lt k hk).1); obtain ⟨A5, c5, rfl, h51, h52⟩ := own_form2 hown5; rw [← cellsE_append] at hown5; have HO5 := Lib.hid hown5; clear hown5 hgrow5)
        have HE := Lib.hid (row_end B0.out (by rw [List.length_append, HU.out]; rfl) HO5.out h51 h52 HB5.out)
        rw [← HW2.out] at HE
        go_wp2_with fail
        go_ret
        exact HE.out
      · have HW2 : Hid (withE zs e = out) := HW.out
        have HE := Lib.hid (row_end B0.out HU.out HO.out huc hcm HB.out)
        rw [← HW2.out] at HE
        go_wp2_with fail
        go_ret
        exact HE.out
    | succ g2 =>
      have hlt : (i : Int) < (n : Int) := by omega
      have hin : i < n := by omega
      have huin : u ≤ 2000 := by omega
      obtain ⟨x, hx⟩ : ∃ x, zs[i]? = some x := ⟨zs[i]'(by rw [HL.out]; omega), List.getElem?_eq_getElem _⟩
      obtain ⟨b, o, rfl, hb, g0, g1, gk2⟩ := ed_at (HR.out _ (B0.out.trans (HB.out.mono B0.out.size))) hx
      have HIG := Lib.hid hig
      have HST := Lib.hid (wl_step e zs i hx)
      rw [HF.out] at HST
      have hsz := HB.out.size
      have HX := Lib.hid (Blk.new wr 35 #[.int .i64 x.1, .int .i64 x.2.1, .int .i64 x.2.2])
      have HO1 := Lib.hid (HO.out.alloc (.cells #[.int .i64 x.1, .int .i64 x.2.1, .int .i64 x.2.2] 35))
      have HB1 := Lib.hid (HB.out.alloc hsz (.cells #[.int .i64 x.1, .int .i64 x.2.1, .int .i64 x.2.2] 35))
      have HOL : Hid (∀ g, (Value.slice A' u c').ownBlock = some g → g < wr.heap.size) := fun g hg => (HO.out.lt g hg).2
      obtain ⟨X, hX⟩ : ∃ X, wr.heap.size = X := ⟨_, rfl⟩
      rw [hX] at HX HOL
      clear hig hx
      go_upto_region 6 with fail
      clear g0 g1 gk2 hX HB HO HF
      generalize wr.alloc (.cells #[.int .i64 x.1, .int .i64 x.2.1, .int .i64 x.2.2] 35) = wx at *
      have hXl := HX.out.lt
      have HBE := Lib.hid (BX.out.below HB1.out hX0)
      cases laid
      · have HAH := Lib.hid fun W => rahead_any x e W
        have z0 := HX.out.cell 0
        have z1 := HX.out.cell 1
        have z2 := HX.out.cell 2
        have e0 := HBE.out.cell 0
        have e1 := HBE.out.cell 1
        have e2 := HBE.out.cell 2
        cases ha : aheadE x e
        · rw [ha] at HAH
          by_cases hxe : x = e
          · subst hxe
            have HN := Lib.hid (HST.out.trans (ws_one rfl))
            clear ha HST
            go_wp2_with fail
            refine (HAH.out _).mono ?_
            rintro e9 wy ⟨rfl, b9⟩
            have HB2 : Hid (Below W0.heap.size W0 wy) := HB1.out.trans (b9.mono HB1.out.size)
            have HO2 := Lib.hid (own_below2 HO1.out b9 (Nat.le_refl _))
            have HX2 := Lib.hid (HX.out.below b9 hXl)
            have hX2 := HX2.out.lt
            have hsz2 := HB2.out.size
            have HX3 : Hid (∀ {W : World}, (wy.alloc (.cells #[.int .i64 x.1, .int .i64 x.2.1, .int .i64 x.2.2] 35)).grownBy W (Value.slice A' u c').ownBlock → Blk W X 35 #[.int .i64 x.1, .int .i64 x.2.1, .int .i64 x.2.2]) := fun h => (HX2.out.alloc _).grown h (fun h9 => absurd (HOL.out X h9.symm) (by omega))
            have HBE2 := Lib.hid (BX.out.below HB2.out hX0)
            clear z0 z1 z2 e0 e1 e2 b9 HAH HX HO1 HB1 HBE
            have z0 := HX2.out.cell 0
            have z1 := HX2.out.cell 1
            have z2 := HX2.out.cell 2
            have e0 := HBE2.out.cell 0
            have e1 := HBE2.out.cell 1
            have e2 := HBE2.out.cell 2
            go_wp2_with (at_builtin; refine wpList_append_any _ rfl (.tmp 23) (.tmp 25) 22 rfl W0.heap.size 35 i0 _ 3 24 Try.underlying22 hi hz0 hz1 hz2 rfl (by decide) (.slice A' u c') u _ rfl (HO2.out.alloc _) (wy.heap.size + 1) (some ⟨wy.heap.size, 0, none⟩) 1 _ (cellsE [x]) rfl (pair_one wy x) (cellsE_one _) (by unfold maxLen; omega) (by omega) (by simp; omega) ?_; intro v5 w5 hown5 hgrow5 _; have HB5 : Hid (Below W0.heap.size W0 w5) := (HB2.out.alloc hsz2 _).grown hgrow5 (by simp; omega) (fun k hk => (HO2.out.lt k hk).1); have KB := Lib.hid (HX3.out hgrow5); have v0 := KB.out.cell 0; have v1 := KB.out.cell 1; have v2 := KB.out.cell 2; have KE := Lib.hid (BX.out.below HB5.out hX0); have u0 := KE.out.cell 0; have u1 := KE.out.cell 1; have u2 := KE.out.cell 2; have hsz5 := HB5.out.size; clear HX3; obtain ⟨A5, c5, rfl, h51, h52⟩ := own_form2 hown5; rw [← cellsE_append] at hown5; have HO5 := Lib.hid hown5; clear hown5 hgrow5)
            go_roundg g2
            case measure => omega
            case rel => exact ⟨i + 1, u + 1, A5, c5, out ++ [x], true, by have := HIG.out; omega, by omega, by go_num, rfl, rfl, h51, h52, HN, by rw [List.length_append, HU.out]; rfl, HO5, HB5⟩
          · have HN := Lib.hid (HST.out.trans (ws_both ha hxe))
            have hne := bool_ne hxe
            clear ha HST hxe
            go_wp2_with fail
            refine (HAH.out _).mono ?_
            rintro e9 wy ⟨rfl, b9⟩
            have HB2 : Hid (Below W0.heap.size W0 wy) := HB1.out.trans (b9.mono HB1.out.size)
            have HO2 := Lib.hid (own_below2 HO1.out b9 (Nat.le_refl _))
            have HX2 := Lib.hid (HX.out.below b9 hXl)
            have hX2 := HX2.out.lt
            have hsz2 := HB2.out.size
            have HX3 : Hid (∀ {W : World}, (wy.alloc (.cells #[.int .i64 e.1, .int .i64 e.2.1, .int .i64 e.2.2] 35)).grownBy W (Value.slice A' u c').ownBlock → Blk W X 35 #[.int .i64 x.1, .int .i64 x.2.1, .int .i64 x.2.2]) := fun h => (HX2.out.alloc _).grown h (fun h9 => absurd (HOL.out X h9.symm) (by omega))
            have HBE2 := Lib.hid (BX.out.below HB2.out hX0)
            clear z0 z1 z2 e0 e1 e2 b9 HAH HX HO1 HB1 HBE
            have z0 := HX2.out.cell 0
            have z1 := HX2.out.cell 1
            have z2 := HX2.out.cell 2
            have e0 := HBE2.out.cell 0
            have e1 := HBE2.out.cell 1
            have e2 := HBE2.out.cell 2
            rcases hne with n1 | ⟨n1, n2⟩ | ⟨n1, n2, n3⟩
            all_goals
              go_wp2_with (first | (at_builtin; refine wpList_append_any _ rfl (.tmp 23) (.tmp 25) 22 rfl W0.heap.size 35 i0 _ 3 24 Try.underlying22 hi hz0 hz1 hz2 rfl (by decide) (.slice A' u c') u _ rfl (HO2.out.alloc _) (wy.heap.size + 1) (some ⟨wy.heap.size, 0, none⟩) 1 _ (cellsE [e]) rfl (pair_one wy e) (cellsE_one _) (by unfold maxLen; omega) (by omega) (by simp; omega) ?_; intro v5 w5 hown5 hgrow5 _; have HB5 : Hid (Below W0.heap.size W0 w5) := (HB2.out.alloc hsz2 _).grown hgrow5 (by simp; omega) (fun k hk => (HO2.out.lt k hk).1); have KB := Lib.hid (HX3.out hgrow5); have v0 := KB.out.cell 0; have v1 := KB.out.cell 1; have v2 := KB.out.cell 2; have KE := Lib.hid (BX.out.below HB5.out hX0); have u0 := KE.out.cell 0; have u1 := KE.out.cell 1; have u2 := KE.out.cell 2; have hsz5 := HB5.out.size; clear HX3; obtain ⟨A5, c5, rfl, h51, h52⟩ := own_form2 hown5; rw [← cellsE_append] at hown5; have HO5 := Lib.hid hown5; clear hown5 hgrow5) | (at_builtin; refine wpList_append_any _ rfl (.tmp 30) (.tmp 32) 22 rfl W0.heap.size 35 i0 _ 3 24 Try.underlying22 hi hz0 hz1 hz2 rfl (by decide) (.slice A5 (u + 1) c5) (u + 1) _ rfl (HO5.out.alloc _) (w5.heap.size + 1) (some ⟨w5.heap.size, 0, none⟩) 1 _ (cellsE [x]) rfl (pair_one w5 x) (cellsE_one _) (by unfold maxLen; omega) (by omega) (by simp; omega) ?_; intro v6 w6 hown6 hgrow6 _; have HB6 : Hid (Below W0.heap.size W0 w6) := (HB5.out.alloc hsz5 _).grown hgrow6 (by simp; omega) (fun k hk => (HO5.out.lt k hk).1); obtain ⟨A6, c6, rfl, h61, h62⟩ := own_form2 hown6; rw [← cellsE_append] at hown6; have HO6 := Lib.hid hown6; clear hown6 hgrow6) | fail)
              go_roundg g2
              case measure => omega
              case rel => exact ⟨i + 1, u + 1 + 1, A6, c6, out ++ [e] ++ [x], true, by have := HIG.out; omega, by omega, by go_num, rfl, rfl, h61, h62, HN, by rw [List.length_append, List.length_append, HU.out]; rfl, HO6, HB6⟩
        · rw [ha] at HAH
          have hxe : x ≠ e := fun h => by rw [h, ahead_irrefl] at ha; cases ha
          have HN := Lib.hid (HST.out.trans (ws_keep (.inr ha) hxe))
          have hne := bool_ne hxe
          clear ha HST hxe
          go_wp2_with fail
          refine (HAH.out _).mono ?_
          rintro e9 wy ⟨rfl, b9⟩
          have HB2 : Hid (Below W0.heap.size W0 wy) := HB1.out.trans (b9.mono HB1.out.size)
          have HO2 := Lib.hid (own_below2 HO1.out b9 (Nat.le_refl _))
          have HX2 := Lib.hid (HX.out.below b9 hXl)
          have hX2 := HX2.out.lt
          have hsz2 := HB2.out.size
          have HX3 : Hid (∀ {W : World}, (wy.alloc (.cells #[.int .i64 e.1, .int .i64 e.2.1, .int .i64 e.2.2] 35)).grownBy W (Value.slice A' u c').ownBlock → Blk W X 35 #[.int .i64 x.1, .int .i64 x.2.1, .int .i64 x.2.2]) := fun h => (HX2.out.alloc _).grown h (fun h9 => absurd (HOL.out X h9.symm) (by omega))
          have HBE2 := Lib.hid (BX.out.below HB2.out hX0)
          clear z0 z1 z2 e0 e1 e2 b9 HAH HX HO1 HB1 HBE
          have z0 := HX2.out.cell 0
          have z1 := HX2.out.cell 1
          have z2 := HX2.out.cell 2
          have e0 := HBE2.out.cell 0
          have e1 := HBE2.out.cell 1
          have e2 := HBE2.out.cell 2
          clear HX3
          rcases hne with n1 | ⟨n1, n2⟩ | ⟨n1, n2, n3⟩
          all_goals
            go_wp2_with (at_builtin; refine wpList_append_any _ rfl (.tmp 30) (.tmp 32) 22 rfl W0.heap.size 35 i0 _ 3 24 Try.underlying22 hi hz0 hz1 hz2 rfl (by decide) (.slice A' u c') u _ rfl (HO2.out.alloc _) (wy.heap.size + 1) (some ⟨wy.heap.size, 0, none⟩) 1 _ (cellsE [x]) rfl (pair_one wy x) (cellsE_one _) (by unfold maxLen; omega) (by omega) (by simp; omega) ?_; intro v5 w5 hown5 hgrow5 _; have HB5 : Hid (Below W0.heap.size W0 w5) := (HB2.out.alloc hsz2 _).grown hgrow5 (by simp; omega) (fun k hk => (HO2.out.lt k hk).1); obtain ⟨A5, c5, rfl, h51, h52⟩ := own_form2 hown5; rw [← cellsE_append] at hown5; have HO5 := Lib.hid hown5; clear hown5 hgrow5)
            go_roundg g2
            case measure => omega
            case rel => exact ⟨i + 1, u + 1, A5, c5, out ++ [x], false, by have := HIG.out; omega, by omega, by go_num, rfl, rfl, h51, h52, HN, by rw [List.length_append, HU.out]; rfl, HO5, HB5⟩
      · have z0 := HX.out.cell 0
        have z1 := HX.out.cell 1
        have z2 := HX.out.cell 2
        have e0 := HBE.out.cell 0
        have e1 := HBE.out.cell 1
        have e2 := HBE.out.cell 2
        have hsz2 := HB1.out.size
        by_cases hxe : x = e
        · subst hxe
          have HN := Lib.hid (HST.out.trans (ws_drop rfl))
          clear HST
          go_wp2_with fail
          go_roundg g2
          case measure => omega
          case rel => exact ⟨i + 1, u, A', c', out, true, by have := HIG.out; omega, by omega, by go_num, rfl, rfl, huc, hcm, HN, HU, HO1, HB1⟩
        · have HN := Lib.hid (HST.out.trans (ws_keep (.inl rfl) hxe))
          have hne := bool_ne hxe
          clear HST hxe
          rcases hne with n1 | ⟨n1, n2⟩ | ⟨n1, n2, n3⟩
          all_goals
            go_wp2_with (at_builtin; refine wpList_append_any _ rfl (.tmp 30) (.tmp 32) 22 rfl W0.heap.size 35 i0 _ 3 24 Try.underlying22 hi hz0 hz1 hz2 rfl (by decide) (.slice A' u c') u _ rfl (HO1.out.alloc _) (wx.heap.size + 1) (some ⟨wx.heap.size, 0, none⟩) 1 _ (cellsE [x]) rfl (pair_one wx x) (cellsE_one _) (by unfold maxLen; omega) (by omega) (by simp; omega) ?_; intro v5 w5 hown5 hgrow5 _; have HB5 : Hid (Below W0.heap.size W0 w5) := (HB1.out.alloc hsz2 _).grown hgrow5 (by simp; omega) (fun k hk => (HO1.out.lt k hk).1); obtain ⟨A5, c5, rfl, h51, h52⟩ := own_form2 hown5; rw [← cellsE_append] at hown5; have HO5 := Lib.hid hown5; clear hown5 hgrow5)
            go_roundg g2
            case measure => omega
            case rel => exact ⟨i + 1, u + 1, A5, c5, out ++ [x], true, by have := HIG.out; omega, by omega, by go_num, rfl, rfl, h51, h52, HN, by rw [List.length_append, HU.out]; rfl, HO5, HB5⟩
end Go.Proofs.Yticbgikbpafeoaa
