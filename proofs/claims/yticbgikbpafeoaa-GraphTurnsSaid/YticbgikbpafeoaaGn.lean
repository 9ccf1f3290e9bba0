/- Layer graph: same, Unique of edges: contracts. -/
import Derived.Test.YticbgikbpafeoaaGf
import Derived.Deep.RegionHeld3
import Derived.Recover
import Derived.Defers
namespace Go.Proofs.Yticbgikbpafeoaa
open Go.RowKit

theorem idle_pair (w : World) : CallsD Try.prog 73 #[] .returning w fun e u' w' => e = .returned (.tuple #[]) ∧ u' = .returning ∧ w' = w := by
  refine callsD_of_wpS Try.func73 rfl fun c₀ cs hu => ?_
  apply wpS_region
  simp [wpOpsS, go_sem, recoverD, hu, Try.ntmps73, bodyPostS, results, Try.results73]
  cases c₀
  simp_all

theorem same_end {w w' : World} {a : Act} {b : Bool} (hr : a.tmps.getD 4 undef = .bool b) (hd : a.defers = [{ target := Target.fn (Fn.func 73) #[], args := #[] }]) (hb : Below w.heap.size w w') :
    bodyPostD Try.prog Try.f69 (fun e w' => e = .returned (.bool b) ∧ Below w.heap.size w w') Exit.ret a w' := by
  obtain ⟨t, d⟩ := a
  simp only at hd hr
  subst hd
  refine leaves_cons (f := 73) (args := #[]) (by simp) (by simp [go_sem]) ?_
  refine (idle_pair _).mono ?_
  rintro e u' w'' ⟨rfl, rfl, rfl⟩
  exact ⟨_, results_tmp rfl _ _ _, by rw [← hr], hb⟩

set_option maxHeartbeats 1000000 in
theorem same_yes (p : Ed) (w : World) : Calls Try.prog 69 #[.agg #[.int .i64 p.1, .int .i64 p.2.1, .int .i64 p.2.2], .agg #[.int .i64 p.1, .int .i64 p.2.1, .int .i64 p.2.2]] w fun e w' => e = .returned (.bool true) ∧ Below w.heap.size w w' := by
  go_enter_defers Try.func69, Try.ntmps69
  go_wp2
  exact same_end rfl rfl (((Below.refl _ _).alloc (Nat.le_refl _) _).alloc (by simp) _)
set_option maxHeartbeats 1000000 in
theorem same_no (p q : Ed) (h : p ≠ q) (w : World) : Calls Try.prog 69 #[.agg #[.int .i64 p.1, .int .i64 p.2.1, .int .i64 p.2.2], .agg #[.int .i64 q.1, .int .i64 q.2.1, .int .i64 q.2.2]] w fun e w' => e = .returned (.bool false) ∧ Below w.heap.size w w' := by
  have hc := bool_ne h
  clear h
  rcases hc with h1 | ⟨h1, h2⟩ | ⟨h1, h2, h3⟩
  all_goals
    go_enter_defers Try.func69, Try.ntmps69
    go_wp2
    exact same_end rfl rfl (((Below.refl _ _).alloc (Nat.le_refl _) _).alloc (by simp) _)

/-- A row without those that are the same as the one ahead, k places far. -/
def uniqK {α : Type} [DecidableEq α] (xs : List α) : Nat → List α
  | 0 => []
  | k + 1 => match xs[k]? with
    | none => uniqK xs k
    | some x => if 0 < k ∧ xs[k - 1]? = some x then uniqK xs k else uniqK xs k ++ [x]
theorem uniqK_keep {α : Type} [DecidableEq α] {xs : List α} {k : Nat} {x : α} (h : xs[k]? = some x) (h2 : ¬ (0 < k ∧ xs[k - 1]? = some x)) : uniqK xs (k + 1) = uniqK xs k ++ [x] := by rw [uniqK, h]; exact if_neg h2
theorem uniqK_skip {α : Type} [DecidableEq α] {xs : List α} {k : Nat} {x : α} (h : xs[k]? = some x) (h2 : 0 < k ∧ xs[k - 1]? = some x) : uniqK xs (k + 1) = uniqK xs k := by rw [uniqK, h]; exact if_pos h2
theorem uniqK_le {α : Type} [DecidableEq α] (xs : List α) : ∀ k, (uniqK xs k).length ≤ k
  | 0 => Nat.le_refl _
  | k + 1 => by
    have := uniqK_le xs k
    rw [uniqK]
    split
    · omega
    · split
      · omega
      · rw [List.length_append, List.length_singleton]; omega

/-- What a row of the call's own holds, whatever its length. -/
def RowIs (ps : List Ed) (w : World) (e : Ending) (w' : World) : Prop := CopyIs ps.length ps w e w'

theorem pair_one (w : World) (p : Ed) : Reads (w.alloc (.cells #[.int .i64 p.1, .int .i64 p.2.1, .int .i64 p.2.2] 35)) (w.heap.size + 1) 3 (some ⟨w.heap.size, 0, none⟩) 1 (cellsE [p]) :=
  ⟨rfl, fun _ => ⟨_, rfl, Nat.lt_succ_self _, fun j u hu => by
    rw [Go.WideShapes.add_plain, Nat.zero_add, (Blk.new w 35 #[.int .i64 p.1, .int .i64 p.2.1, .int .i64 p.2.2]).cell]
    rw [← hu, ← List.getElem?_toArray]
    rfl⟩⟩

set_option maxRecDepth 100000 in
set_option maxHeartbeats 4000000 in
theorem uniq_any (A : Option Addr) (n c : Nat) (xs : List Ed) (hn : n ≤ 100000) (w : World) (hR : Reads w w.heap.size 3 A n (cellsE xs)) :
    Calls Try.prog 61 #[.slice A n c] w (RowIs (uniqK xs n) w) := by
  have HR := Lib.hid hR
  have HL := Lib.hid (reads_len hR)
  obtain ⟨i0, hi, hz0, hz1, hz2⟩ := info_parts pair_info
  clear hR
  go_enter Try.func61, Try.ntmps61
  go_wp2_with fail
  go_loopg [3, 8] n (fun gg s3 s8 wr => ∃ (i u : Nat) (A' : Option Addr) (c' : Nat), i + gg = n ∧ u ≤ i ∧ s8 = .int .i64 i ∧ s3 = .slice A' u c' ∧ u ≤ c' ∧ c' ≤ 9223372036854775807 ∧ Hid ((uniqK xs i).length = u) ∧
    Hid (wr.ownsRow w.heap.size 35 3 (.slice A' u c') u (cellsE (uniqK xs i))) ∧ Hid (Below w.heap.size w wr))
  case atStart => exact ⟨0, 0, none, 0, by omega, Nat.le_refl _, rfl, rfl, Nat.le_refl _, by decide, rfl, World.ownsRow_nil _ _ _ _, Below.refl _ _⟩
  case round =>
    obtain ⟨i, u, A', c', hig, hui, rfl, rfl, huc, hcm, HU, HO, HB⟩ := hrel
    cases gk with
    | zero =>
      have hge : ¬ (i : Int) < (n : Int) := by omega
      have hin : i = n := by omega
      subst hin
      clear hig
      go_wp2_with fail
      go_ret
      have hl := HU.out
      unfold RowIs
      rw [hl]
      exact ⟨A', c', rfl, HO.out, huc, hcm, HB.out⟩
    | succ g2 =>
      have hlt : (i : Int) < (n : Int) := by omega
      have hi0 : (0 : Int) ≤ (i : Int) := by omega
      obtain ⟨p, hp⟩ : ∃ p, xs[i]? = some p := ⟨xs[i]'(by rw [HL.out]; omega), List.getElem?_eq_getElem _⟩
      obtain ⟨b, o, rfl, hb, g0, g1, gk2⟩ := ed_at (HR.out.below HB.out) hp
      have HIG := Lib.hid hig
      have hsz := HB.out.size
      have hin : i < n := by omega
      have HX := Lib.hid (Blk.new wr 35 #[.int .i64 p.1, .int .i64 p.2.1, .int .i64 p.2.2])
      have HO1 := Lib.hid (HO.out.alloc (.cells #[.int .i64 p.1, .int .i64 p.2.1, .int .i64 p.2.2] 35))
      have HB1 : Hid (Below w.heap.size w (wr.alloc (.cells #[.int .i64 p.1, .int .i64 p.2.1, .int .i64 p.2.2] 35))) := HB.out.alloc hsz _
      obtain ⟨X, hX⟩ : ∃ X, wr.heap.size = X := ⟨_, rfl⟩
      rw [hX] at HX
      clear hig
      go_upto_region 5 with fail
      clear g0 g1 gk2 hX HB HO
      generalize wr.alloc (.cells #[.int .i64 p.1, .int .i64 p.2.1, .int .i64 p.2.2] 35) = wx at *
      by_cases hi00 : i = 0
      · subst hi00
        have HNX := Lib.hid (uniqK_keep hp (fun h => absurd h.1 (by omega)))
        clear hp
        go_wp2_with fail
        go_quiet (fail)
        have HX2 : Hid (Blk (wx.drewN nq) X 35 #[.int .i64 p.1, .int .i64 p.2.1, .int .i64 p.2.2]) := HX.out
        have HO2 : Hid ((wx.drewN nq).ownsRow w.heap.size 35 3 (.slice A' u c') u (cellsE (uniqK xs 0))) := HO1.out
        have HB2 : Hid (Below w.heap.size w (wx.drewN nq)) := below_drewN HB1.out _
        clear HX HO1 HB1
        generalize wx.drewN nq = wz at *
        have z0 : wz.cell? ⟨X, 0, none⟩ = some (.int .i64 p.1) := HX2.out.cell 0
        have z1 : wz.cell? ⟨X, 1, none⟩ = some (.int .i64 p.2.1) := HX2.out.cell 1
        have z2 : wz.cell? ⟨X, 2, none⟩ = some (.int .i64 p.2.2) := HX2.out.cell 2
        have hsz2 := HB2.out.size
        go_wp2_with (at_builtin; refine wpList_append_any _ rfl (.tmp 25) (.tmp 27) 22 rfl w.heap.size 35 i0 _ 3 24 Try.underlying22 hi hz0 hz1 hz2 rfl (by decide) (.slice A' u c') u _ rfl (HO2.out.alloc _) (wz.heap.size + 1) (some ⟨wz.heap.size, 0, none⟩) 1 _ (cellsE [p]) rfl (pair_one wz p) (cellsE_one _) (by unfold maxLen; omega) (by omega) (by simp; omega) ?_; intro v5 w5 hown5 hgrow5 _; have HB5 : Hid (Below w.heap.size w w5) := (HB2.out.alloc hsz2 _).grown hgrow5 (by simp; omega) (fun k hk => (HO2.out.lt k hk).1); obtain ⟨A5, c5, rfl, h51, h52⟩ := own_form2 hown5; rw [← cellsE_append, ← HNX.out] at hown5; have HO5 := Lib.hid hown5; clear hown5 hgrow5)
        go_roundg g2
        case measure => omega
        case rel => exact ⟨0 + 1, u + 1, A5, c5, by have := HIG.out; omega, by omega, by go_num, rfl, h51, h52, by rw [HNX.out, List.length_append, HU.out]; rfl, HO5, HB5⟩
      · obtain ⟨q, hq⟩ : ∃ q, xs[i - 1]? = some q := ⟨xs[i - 1]'(by rw [HL.out]; omega), List.getElem?_eq_getElem _⟩
        obtain ⟨b', o', hA', hb', x0, x1, x2⟩ := ed_at (HR.out.below HB1.out) hq
        injection hA' with hA'
        injection hA' with e1 e2 _
        subst e1; subst e2
        have hib : ((i : Int) == 0) = false := by simp; omega
        have hip : 0 < i := by omega
        have y0 : wx.cell? ⟨X, 0, none⟩ = some (.int .i64 p.1) := HX.out.cell 0
        have y1 : wx.cell? ⟨X, 1, none⟩ = some (.int .i64 p.2.1) := HX.out.cell 1
        have y2 : wx.cell? ⟨X, 2, none⟩ = some (.int .i64 p.2.2) := HX.out.cell 2
        have hs1 : IntKind.i64.wrap ((i : Int) - 1) = (i : Int) - 1 := by rw [IntKind.wrap_i64]; omega
        have ht1 : ((i : Int) - 1).toNat = i - 1 := by omega
        have hj0 : (0 : Int) ≤ (i : Int) - 1 := by omega
        have hj2 : (1 : Int) ≤ (i : Int) := by omega
        have hj1 : (i : Int) - 1 < (n : Int) := by omega
        by_cases hqp : q = p
        · subst hqp
          have HNX := Lib.hid (uniqK_skip hp ⟨hip, hq⟩)
          clear hp hq hi00
          go_wp2_with fail
          have hXT : X < wx.drew.heap.size := HX.out.lt
          have hbl : b < wx.drew.heap.size := by have := HB1.out.size; show b < wx.heap.size; omega
          have HSM := Lib.hid fun W => same_yes q W
          have tok1 : True := trivial
          go_region_held3 (fun w' => w'.cell? ⟨X, 0, none⟩ = some (.int .i64 q.1) ∧ w'.cell? ⟨X, 1, none⟩ = some (.int .i64 q.2.1) ∧ w'.cell? ⟨X, 2, none⟩ = some (.int .i64 q.2.2) ∧ w'.cell? ⟨b, o + (i - 1) * 3, none⟩ = some (.int .i64 q.1) ∧ w'.cell? ⟨b, o + (i - 1) * 3 + 1, none⟩ = some (.int .i64 q.2.1) ∧ w'.cell? ⟨b, o + (i - 1) * 3 + 2, none⟩ = some (.int .i64 q.2.2)) (first | exact ⟨y0, y1, y2, x0, x1, x2⟩ | exact ⟨q0, q1, q1b, q2, q3, q4⟩ | fail) (first
            | (have _t := tok1; go_at_call 69; refine (HSM.out wx.drew).mono ?_; rintro e w20 ⟨rfl, b20⟩; clear tok1; have HB2 : Hid (Below w.heap.size w w20) := HB1.out.drew.trans (b20.mono HB1.out.drew.size); have HX2 : Hid (Blk w20 X 35 #[.int .i64 q.1, .int .i64 q.2.1, .int .i64 q.2.2]) := HX.out.drew.below b20 hXT; have HO2 : Hid (w20.ownsRow w.heap.size 35 3 (.slice A' u c') u (cellsE (uniqK xs i))) := own_below2 HO1.out.drew b20 (Nat.le_refl _); have q0 := HX2.out.cell 0; have q1 := HX2.out.cell 1; have q1b := HX2.out.cell 2; have q2 := (b20.cell (p := ⟨b, o + (i - 1) * 3, none⟩) hbl).trans x0; have q3 := (b20.cell (p := ⟨b, o + (i - 1) * 3 + 1, none⟩) hbl).trans x1; have q4 := (b20.cell (p := ⟨b, o + (i - 1) * 3 + 2, none⟩) hbl).trans x2; clear b20)
            | fail)
          clear x0 x1 x2 y0 y1 y2 q0 q1 q1b q2 q3 q4 HX HO1 HB1 HX2
          go_wp2_with fail
          go_roundg g2
          case measure => omega
          case rel => exact ⟨i + 1, u, A', c', by have := HIG.out; omega, by omega, by go_num, rfl, huc, hcm, by rw [HNX.out]; exact HU, by rw [HNX.out]; exact HO2.out, HB2⟩
        · have HNX := Lib.hid (uniqK_keep hp (fun h => hqp (by have := h.2; rw [hq] at this; injection this)))
          clear hp hq hi00
          go_wp2_with fail
          have hXT : X < wx.drew.heap.size := HX.out.lt
          have hbl : b < wx.drew.heap.size := by have := HB1.out.size; show b < wx.heap.size; omega
          have HSM := Lib.hid fun W => same_no q p hqp W
          have tok1 : True := trivial
          go_region_held3 (fun w' => w'.cell? ⟨X, 0, none⟩ = some (.int .i64 p.1) ∧ w'.cell? ⟨X, 1, none⟩ = some (.int .i64 p.2.1) ∧ w'.cell? ⟨X, 2, none⟩ = some (.int .i64 p.2.2) ∧ w'.cell? ⟨b, o + (i - 1) * 3, none⟩ = some (.int .i64 q.1) ∧ w'.cell? ⟨b, o + (i - 1) * 3 + 1, none⟩ = some (.int .i64 q.2.1) ∧ w'.cell? ⟨b, o + (i - 1) * 3 + 2, none⟩ = some (.int .i64 q.2.2)) (first | exact ⟨y0, y1, y2, x0, x1, x2⟩ | exact ⟨q0, q1, q1b, q2, q3, q4⟩ | fail) (first
            | (have _t := tok1; go_at_call 69; refine (HSM.out wx.drew).mono ?_; rintro e w20 ⟨rfl, b20⟩; clear tok1; have HB2 : Hid (Below w.heap.size w w20) := HB1.out.drew.trans (b20.mono HB1.out.drew.size); have HX2 : Hid (Blk w20 X 35 #[.int .i64 p.1, .int .i64 p.2.1, .int .i64 p.2.2]) := HX.out.drew.below b20 hXT; have HO2 : Hid (w20.ownsRow w.heap.size 35 3 (.slice A' u c') u (cellsE (uniqK xs i))) := own_below2 HO1.out.drew b20 (Nat.le_refl _); have q0 := HX2.out.cell 0; have q1 := HX2.out.cell 1; have q1b := HX2.out.cell 2; have q2 := (b20.cell (p := ⟨b, o + (i - 1) * 3, none⟩) hbl).trans x0; have q3 := (b20.cell (p := ⟨b, o + (i - 1) * 3 + 1, none⟩) hbl).trans x1; have q4 := (b20.cell (p := ⟨b, o + (i - 1) * 3 + 2, none⟩) hbl).trans x2; clear b20)
            | fail)
          clear x0 x1 x2 y0 y1 y2 q0 q1 q1b q2 q3 q4 HX HO1 HB1 hqp HSM
          generalize w20 = wz at *
          have z0 : wz.cell? ⟨X, 0, none⟩ = some (.int .i64 p.1) := HX2.out.cell 0
          have z1 : wz.cell? ⟨X, 1, none⟩ = some (.int .i64 p.2.1) := HX2.out.cell 1
          have z2 : wz.cell? ⟨X, 2, none⟩ = some (.int .i64 p.2.2) := HX2.out.cell 2
          have hsz2 := HB2.out.size
          go_wp2_with (at_builtin; refine wpList_append_any _ rfl (.tmp 25) (.tmp 27) 22 rfl w.heap.size 35 i0 _ 3 24 Try.underlying22 hi hz0 hz1 hz2 rfl (by decide) (.slice A' u c') u _ rfl (HO2.out.alloc _) (wz.heap.size + 1) (some ⟨wz.heap.size, 0, none⟩) 1 _ (cellsE [p]) rfl (pair_one wz p) (cellsE_one _) (by unfold maxLen; omega) (by omega) (by simp; omega) ?_; intro v5 w5 hown5 hgrow5 _; have HB5 : Hid (Below w.heap.size w w5) := (HB2.out.alloc hsz2 _).grown hgrow5 (by simp; omega) (fun k hk => (HO2.out.lt k hk).1); obtain ⟨A5, c5, rfl, h51, h52⟩ := own_form2 hown5; rw [← cellsE_append, ← HNX.out] at hown5; have HO5 := Lib.hid hown5; clear hown5 hgrow5)
          go_roundg g2
          case measure => omega
          case rel => exact ⟨i + 1, u + 1, A5, c5, by have := HIG.out; omega, by omega, by go_num, rfl, h51, h52, by rw [HNX.out, List.length_append, HU.out]; rfl, HO5, HB5⟩
end Go.Proofs.Yticbgikbpafeoaa
