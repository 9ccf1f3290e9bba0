/- Layer order: Unique of pairs: its contract. -/
import Derived.Test.YtldjffeecbegjaaOk
import Derived.Deep.RegionHeld3
namespace Go.Proofs.Ytldjffeecbegjaa
open Go.RowKit

set_option maxRecDepth 100000 in
set_option maxHeartbeats 4000000 in
theorem uniq_any (A : Option Addr) (n c : Nat) (xs : List Pr) (hn : n ≤ 100000) (w : World) (hR : Reads w w.heap.size 2 A n (cellsP xs)) :
    Calls Try.prog 18 #[.slice A n c] w (RowIs (uniqK xs n) w) := by
  have HR := Lib.hid hR
  have HL := Lib.hid (reads_len hR)
  obtain ⟨i0, hi, hz0, hz1, hz2⟩ := info_parts pair_info
  clear hR
  go_enter Try.func18, Try.ntmps18
  go_wp2_with fail
  go_loopg [3, 8] n (fun gg s3 s8 wr => ∃ (i u : Nat) (A' : Option Addr) (c' : Nat), i + gg = n ∧ u ≤ i ∧ s8 = .int .i64 i ∧ s3 = .slice A' u c' ∧ u ≤ c' ∧ c' ≤ 9223372036854775807 ∧ Hid ((uniqK xs i).length = u) ∧
    Hid (wr.ownsRow w.heap.size 27 2 (.slice A' u c') u (cellsP (uniqK xs i))) ∧ Hid (Below w.heap.size w wr))
  case atStart => exact ⟨0, 0, none, 0, by omega, Nat.le_refl _, rfl, rfl, Nat.le_refl _, by decide, rfl, World.ownsRow_nil _ _ _ _, Below.refl _ _⟩
  case round =>
    obtain ⟨i, u, A', c', hig, hui, rfl, rfl, huc, hcm, HU, HO, HB⟩ := hrel
    cases gk with
    | zero =>
      have hge : ¬ (i : Int) < (n : Int) := by omega
      have hin : i = n := by omega
      subst hin
      clear hig
      go_wp2_with fail
      go_ret
      have hl := HU.out
      unfold RowIs
      rw [hl]
      exact ⟨A', c', rfl, HO.out, huc, hcm, HB.out⟩
    | succ g2 =>
      have hlt : (i : Int) < (n : Int) := by omega
      have hi0 : (0 : Int) ≤ (i : Int) := by omega
      obtain ⟨p, hp⟩ : ∃ p, xs[i]? = some p := ⟨xs[i]'(by rw [HL.out]; omega), List.getElem?_eq_getElem _⟩
      obtain ⟨b, o, rfl, hb, g0, g1⟩ := pr_at (HR.out.below HB.out) hp
      have HIG := Lib.hid hig
      have hsz := HB.out.size
      have hin : i < n := by omega
      have HX := Lib.hid (Blk.new wr 27 #[.int .i64 p.1, .int .i64 p.2])
      have HO1 := Lib.hid (HO.out.alloc (.cells #[.int .i64 p.1, .int .i64 p.2] 27))
      have HB1 : Hid (Below w.heap.size w (wr.alloc (.cells #[.int .i64 p.1, .int .i64 p.2] 27))) := HB.out.alloc hsz _
      obtain ⟨X, hX⟩ : ∃ X, wr.heap.size = X := ⟨_, rfl⟩
      rw [hX] at HX
      clear hig
      go_upto_region 5 with fail
      clear g0 g1 hX HB HO
      generalize wr.alloc (.cells #[.int .i64 p.1, .int .i64 p.2] 27) = wx at *
      by_cases hi00 : i = 0
      · subst hi00
        have HNX := Lib.hid (uniqK_keep hp (fun h => absurd h.1 (by omega)))
        clear hp
        go_wp2_with fail
        go_quiet (fail)
        have HX2 : Hid (Blk (wx.drewN nq) X 27 #[.int .i64 p.1, .int .i64 p.2]) := HX.out
        have HO2 : Hid ((wx.drewN nq).ownsRow w.heap.size 27 2 (.slice A' u c') u (cellsP (uniqK xs 0))) := HO1.out
        have HB2 : Hid (Below w.heap.size w (wx.drewN nq)) := below_drewN HB1.out _
        clear HX HO1 HB1
        generalize wx.drewN nq = wz at *
        have z0 : wz.cell? ⟨X, 0, none⟩ = some (.int .i64 p.1) := HX2.out.cell 0
        have z1 : wz.cell? ⟨X, 1, none⟩ = some (.int .i64 p.2) := HX2.out.cell 1
        have hsz2 := HB2.out.size
        go_wp2_with (at_builtin; refine wpList_append_any _ rfl (.tmp 25) (.tmp 27) 22 rfl w.heap.size 27 i0 _ 2 16 Try.underlying22 hi hz0 hz1 hz2 rfl (by decide) (.slice A' u c') u _ rfl (HO2.out.alloc _) (wz.heap.size + 1) (some ⟨wz.heap.size, 0, none⟩) 1 _ (cellsP [p]) rfl (pair_one wz p) (cellsP_one _) (by unfold maxLen; omega) (by omega) (by simp; omega) ?_; intro v5 w5 hown5 hgrow5 _; have HB5 : Hid (Below w.heap.size w w5) := (HB2.out.alloc hsz2 _).grown hgrow5 (by simp; omega) (fun k hk => (HO2.out.lt k hk).1); obtain ⟨A5, c5, rfl, h51, h52⟩ := own_form2 hown5; rw [← cellsP_append, ← HNX.out] at hown5; have HO5 := Lib.hid hown5; clear hown5 hgrow5)
        go_roundg g2
        case measure => omega
        case rel => exact ⟨0 + 1, u + 1, A5, c5, by have := HIG.out; omega, by omega, by go_num, rfl, h51, h52, by rw [HNX.out, List.length_append, HU.out]; rfl, HO5, HB5⟩
      · obtain ⟨q, hq⟩ : ∃ q, xs[i - 1]? = some q := ⟨xs[i - 1]'(by rw [HL.out]; omega), List.getElem?_eq_getElem _⟩
        obtain ⟨b', o', hA', hb', x0, x1⟩ := pr_at (HR.out.below HB1.out) hq
        injection hA' with hA'
        injection hA' with e1 e2 _
        subst e1; subst e2
        have hib : ((i : Int) == 0) = false := by simp; omega
        have hip : 0 < i := by omega
        have y0 : wx.cell? ⟨X, 0, none⟩ = some (.int .i64 p.1) := HX.out.cell 0
        have y1 : wx.cell? ⟨X, 1, none⟩ = some (.int .i64 p.2) := HX.out.cell 1
        have hs1 : IntKind.i64.wrap ((i : Int) - 1) = (i : Int) - 1 := by rw [IntKind.wrap_i64]; omega
        have ht1 : ((i : Int) - 1).toNat = i - 1 := by omega
        have hj0 : (0 : Int) ≤ (i : Int) - 1 := by omega
        have hj2 : (1 : Int) ≤ (i : Int) := by omega
        have hj1 : (i : Int) - 1 < (n : Int) := by omega
        by_cases hqp : q = p
        · subst hqp
          have HNX := Lib.hid (uniqK_skip hp ⟨hip, hq⟩)
          clear hp hq hi00
          go_wp2_with fail
          have hXT : X < wx.drew.heap.size := HX.out.lt
          have hbl : b < wx.drew.heap.size := by have := HB1.out.size; show b < wx.heap.size; omega
          have HSM := Lib.hid fun W => same_yes q W
          have tok1 : True := trivial
          go_region_held3 (fun w' => w'.cell? ⟨X, 0, none⟩ = some (.int .i64 q.1) ∧ w'.cell? ⟨X, 1, none⟩ = some (.int .i64 q.2) ∧ w'.cell? ⟨b, o + (i - 1) * 2, none⟩ = some (.int .i64 q.1) ∧ w'.cell? ⟨b, o + (i - 1) * 2 + 1, none⟩ = some (.int .i64 q.2)) (first | exact ⟨y0, y1, x0, x1⟩ | exact ⟨q0, q1, q2, q3⟩ | fail) (first
            | (have _t := tok1; go_at_call 40; refine (HSM.out wx.drew).mono ?_; rintro e w20 ⟨rfl, b20⟩; clear tok1; have HB2 : Hid (Below w.heap.size w w20) := HB1.out.drew.trans (b20.mono HB1.out.drew.size); have HX2 : Hid (Blk w20 X 27 #[.int .i64 q.1, .int .i64 q.2]) := HX.out.drew.below b20 hXT; have HO2 : Hid (w20.ownsRow w.heap.size 27 2 (.slice A' u c') u (cellsP (uniqK xs i))) := own_below2 HO1.out.drew b20 (Nat.le_refl _); have q0 := HX2.out.cell 0; have q1 := HX2.out.cell 1; have q2 := (b20.cell (p := ⟨b, o + (i - 1) * 2, none⟩) hbl).trans x0; have q3 := (b20.cell (p := ⟨b, o + (i - 1) * 2 + 1, none⟩) hbl).trans x1; clear b20)
            | fail)
          clear x0 x1 y0 y1 q0 q1 q2 q3 HX HO1 HB1 HX2
          go_wp2_with fail
          go_roundg g2
          case measure => omega
          case rel => exact ⟨i + 1, u, A', c', by have := HIG.out; omega, by omega, by go_num, rfl, huc, hcm, by rw [HNX.out]; exact HU, by rw [HNX.out]; exact HO2.out, HB2⟩
        · have HNX := Lib.hid (uniqK_keep hp (fun h => hqp (by have := h.2; rw [hq] at this; injection this)))
          clear hp hq hi00
          go_wp2_with fail
          have hXT : X < wx.drew.heap.size := HX.out.lt
          have hbl : b < wx.drew.heap.size := by have := HB1.out.size; show b < wx.heap.size; omega
          have HSM := Lib.hid fun W => same_no q p hqp W
          have tok1 : True := trivial
          go_region_held3 (fun w' => w'.cell? ⟨X, 0, none⟩ = some (.int .i64 p.1) ∧ w'.cell? ⟨X, 1, none⟩ = some (.int .i64 p.2) ∧ w'.cell? ⟨b, o + (i - 1) * 2, none⟩ = some (.int .i64 q.1) ∧ w'.cell? ⟨b, o + (i - 1) * 2 + 1, none⟩ = some (.int .i64 q.2)) (first | exact ⟨y0, y1, x0, x1⟩ | exact ⟨q0, q1, q2, q3⟩ | fail) (first
            | (have _t := tok1; go_at_call 40; refine (HSM.out wx.drew).mono ?_; rintro e w20 ⟨rfl, b20⟩; clear tok1; have HB2 : Hid (Below w.heap.size w w20) := HB1.out.drew.trans (b20.mono HB1.out.drew.size); have HX2 : Hid (Blk w20 X 27 #[.int .i64 p.1, .int .i64 p.2]) := HX.out.drew.below b20 hXT; have HO2 : Hid (w20.ownsRow w.heap.size 27 2 (.slice A' u c') u (cellsP (uniqK xs i))) := own_below2 HO1.out.drew b20 (Nat.le_refl _); have q0 := HX2.out.cell 0; have q1 := HX2.out.cell 1; have q2 := (b20.cell (p := ⟨b, o + (i - 1) * 2, none⟩) hbl).trans x0; have q3 := (b20.cell (p := ⟨b, o + (i - 1) * 2 + 1, none⟩) hbl).trans x1; clear b20)
            | fail)
          clear x0 x1 y0 y1 q0 q1 q2 q3 HX HO1 HB1 hqp HSM
          generalize w20 = wz at *
          have z0 : wz.cell? ⟨X, 0, none⟩ = some (.int .i64 p.1) := HX2.out.cell 0
          have z1 : wz.cell? ⟨X, 1, none⟩ = some (.int .i64 p.2) := HX2.out.cell 1
          have hsz2 := HB2.out.size
          go_wp2_with (at_builtin; refine wpList_append_any _ rfl (.tmp 25) (.tmp 27) 22 rfl w.heap.size 27 i0 _ 2 16 Try.underlying22 hi hz0 hz1 hz2 rfl (by decide) (.slice A' u c') u _ rfl (HO2.out.alloc _) (wz.heap.size + 1) (some ⟨wz.heap.size, 0, none⟩) 1 _ (cellsP [p]) rfl (pair_one wz p) (cellsP_one _) (by unfold maxLen; omega) (by omega) (by simp; omega) ?_; intro v5 w5 hown5 hgrow5 _; have HB5 : Hid (Below w.heap.size w w5) := (HB2.out.alloc hsz2 _).grown hgrow5 (by simp; omega) (fun k hk => (HO2.out.lt k hk).1); obtain ⟨A5, c5, rfl, h51, h52⟩ := own_form2 hown5; rw [← cellsP_append, ← HNX.out] at hown5; have HO5 := Lib.hid hown5; clear hown5 hgrow5)
          go_roundg g2
          case measure => omega
          case rel => exact ⟨i + 1, u + 1, A5, c5, by have := HIG.out; omega, by omega, by go_num, rfl, h51, h52, by rw [HNX.out, List.length_append, HU.out]; rfl, HO5, HB5⟩
end Go.Proofs.Ytldjffeecbegjaa
