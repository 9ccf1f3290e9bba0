/- Layer order: same, Unique and Least of pairs, and the document's answers: contracts. -/
import Derived.Test.YtldjffeecbegjaaOi
import Derived.Recover
import Derived.Defers
namespace Go.Proofs.Ytldjffeecbegjaa
open Go.RowKit

theorem idle_pair (w : World) : CallsD Try.prog 49 #[] .returning w fun e u' w' => e = .returned (.tuple #[]) ∧ u' = .returning ∧ w' = w := by
  refine callsD_of_wpS Try.func49 rfl fun c₀ cs hu => ?_
  apply wpS_region
  simp [wpOpsS, go_sem, recoverD, hu, Try.ntmps49, bodyPostS, results, Try.results49]
  cases c₀
  simp_all

theorem same_end {w w' : World} {a : Act} {b : Bool} (hr : a.tmps.getD 4 undef = .bool b) (hd : a.defers = [{ target := Target.fn (Fn.func 49) #[], args := #[] }]) (hb : Below w.heap.size w w') :
    bodyPostD Try.prog Try.f40 (fun e w' => e = .returned (.bool b) ∧ Below w.heap.size w w') Exit.ret a w' := by
  obtain ⟨t, d⟩ := a
  simp only at hd hr
  subst hd
  refine leaves_cons (f := 49) (args := #[]) (by simp) (by simp [go_sem]) ?_
  refine (idle_pair _).mono ?_
  rintro e u' w'' ⟨rfl, rfl, rfl⟩
  exact ⟨_, results_tmp rfl _ _ _, by rw [← hr], hb⟩

set_option maxHeartbeats 1000000 in
theorem same_yes (p : Pr) (w : World) : Calls Try.prog 40 #[.agg #[.int .i64 p.1, .int .i64 p.2], .agg #[.int .i64 p.1, .int .i64 p.2]] w fun e w' => e = .returned (.bool true) ∧ Below w.heap.size w w' := by
  go_enter_defers Try.func40, Try.ntmps40
  go_wp2
  exact same_end rfl rfl (((Below.refl _ _).alloc (Nat.le_refl _) _).alloc (by simp) _)
set_option maxHeartbeats 1000000 in
theorem same_no (p q : Pr) (h : p ≠ q) (w : World) : Calls Try.prog 40 #[.agg #[.int .i64 p.1, .int .i64 p.2], .agg #[.int .i64 q.1, .int .i64 q.2]] w fun e w' => e = .returned (.bool false) ∧ Below w.heap.size w w' := by
  obtain ⟨a, b⟩ := p
  obtain ⟨c, d⟩ := q
  by_cases h1 : a = c
  · subst h1
    have h2 : (b == d) = false := by simpa using fun e => h (by rw [e])
    clear h
    go_enter_defers Try.func40, Try.ntmps40
    go_wp2
    exact same_end rfl rfl (((Below.refl _ _).alloc (Nat.le_refl _) _).alloc (by simp) _)
  · have h2 : (a == c) = false := by simpa using h1
    clear h h1
    go_enter_defers Try.func40, Try.ntmps40
    go_wp2
    exact same_end rfl rfl (((Below.refl _ _).alloc (Nat.le_refl _) _).alloc (by simp) _)

/-- A row without those that are the same as the one ahead, k places far. -/
def uniqK {α : Type} [DecidableEq α] (xs : List α) : Nat → List α
  | 0 => []
  | k + 1 => match xs[k]? with
    | none => uniqK xs k
    | some x => if 0 < k ∧ xs[k - 1]? = some x then uniqK xs k else uniqK xs k ++ [x]
theorem uniqK_keep {α : Type} [DecidableEq α] {xs : List α} {k : Nat} {x : α} (h : xs[k]? = some x) (h2 : ¬ (0 < k ∧ xs[k - 1]? = some x)) : uniqK xs (k + 1) = uniqK xs k ++ [x] := by rw [uniqK, h]; exact if_neg h2
theorem uniqK_skip {α : Type} [DecidableEq α] {xs : List α} {k : Nat} {x : α} (h : xs[k]? = some x) (h2 : 0 < k ∧ xs[k - 1]? = some x) : uniqK xs (k + 1) = uniqK xs k := by rw [uniqK, h]; exact if_pos h2
theorem uniqK_le {α : Type} [DecidableEq α] (xs : List α) : ∀ k, (uniqK xs k).length ≤ k
  | 0 => Nat.le_refl _
  | k + 1 => by
    have := uniqK_le xs k
    rw [uniqK]
    split
    · omega
    · split
      · omega
      · rw [List.length_append, List.length_singleton]; omega

/-- What a row of the call's own holds, whatever its length. -/
def RowIs (ps : List Pr) (w : World) (e : Ending) (w' : World) : Prop := CopyIs ps.length ps w e w'

theorem pair_one (w : World) (p : Pr) : Reads (w.alloc (.cells #[.int .i64 p.1, .int .i64 p.2] 27)) (w.heap.size + 1) 2 (some ⟨w.heap.size, 0, none⟩) 1 (cellsP [p]) :=
  ⟨rfl, fun _ => ⟨_, rfl, Nat.lt_succ_self _, fun j u hu => by
    rw [Go.WideShapes.add_plain, Nat.zero_add, (Blk.new w 27 #[.int .i64 p.1, .int .i64 p.2]).cell]
    rw [← hu, ← List.getElem?_toArray]
    rfl⟩⟩

set_option maxRecDepth 100000 in
set_option maxHeartbeats 4000000 in
theorem runiq_any (A : Option Addr) (n c : Nat) (xs : List Pr) (hn : n ≤ 100000) (w : World) (hR : Reads w w.heap.size 2 A n (cellsP xs)) :
    Calls Try.prog 19 #[.slice A n c] w (RowIs (uniqK xs n) w) := by
  have HR := Lib.hid hR
  have HL := Lib.hid (reads_len hR)
  obtain ⟨i0, hi, hz0, hz1, hz2⟩ := info_parts pair_info
  clear hR
  go_enter Try.func19, Try.ntmps19
  go_wp2_with fail
  go_loopg [3, 8] n (fun gg s3 s8 wr => ∃ (i u : Nat) (A' : Option Addr) (c' : Nat), i + gg = n ∧ u ≤ i ∧ s8 = .int .i64 i ∧ s3 = .slice A' u c' ∧ u ≤ c' ∧ c' ≤ 9223372036854775807 ∧ Hid ((uniqK xs i).length = u) ∧
    Hid (wr.ownsRow w.heap.size 27 2 (.slice A' u c') u (cellsP (uniqK xs i))) ∧ Hid (Below w.heap.size w wr))
  case atStart => exact ⟨0, 0, none, 0, by omega, Nat.le_refl _, rfl, rfl, Nat.le_refl _, by decide, rfl, World.ownsRow_nil _ _ _ _, Below.refl _ _⟩
  case round =>
    obtain ⟨i, u, A', c', hig, hui, rfl, rfl, huc, hcm, HU, HO, HB⟩ := hrel
    cases gk with
    | zero =>
      have hge : ¬ (i : Int) < (n : Int) := by omega
      have hin : i = n := by omega
      subst hin
      clear hig
      go_wp2_with fail
      go_ret
      have hl := HU.out
      unfold RowIs
      rw [hl]
      exact ⟨A', c', rfl, HO.out, huc, hcm, HB.out⟩
    | succ g2 =>
      have hlt : (i : Int) < (n : Int) := by omega
      have hi0 : (0 : Int) ≤ (i : Int) := by omega
      obtain ⟨p, hp⟩ : ∃ p, xs[i]? = some p := ⟨xs[i]'(by rw [HL.out]; omega), List.getElem?_eq_getElem _⟩
      obtain ⟨b, o, rfl, hb, g0, g1⟩ := pr_at (HR.out.below HB.out) hp
      have HIG := Lib.hid hig
      have hsz := HB.out.size
      have hin : i < n := by omega
      have HX := Lib.hid (Blk.new wr 27 #[.int .i64 p.1, .int .i64 p.2])
      have HO1 := Lib.hid (HO.out.alloc (.cells #[.int .i64 p.1, .int .i64 p.2] 27))
      have HB1 : Hid (Below w.heap.size w (wr.alloc (.cells #[.int .i64 p.1, .int .i64 p.2] 27))) := HB.out.alloc hsz _
      obtain ⟨X, hX⟩ : ∃ X, wr.heap.size = X := ⟨_, rfl⟩
      rw [hX] at HX
      clear hig
      go_upto_region 5 with fail
      clear g0 g1 hX HB HO
      generalize wr.alloc (.cells #[.int .i64 p.1, .int .i64 p.2] 27) = wx at *
      by_cases hsk : 0 < i ∧ xs[i - 1]? = some p
      · have hnx := uniqK_skip hp hsk
        obtain ⟨hi1, hq⟩ := hsk
        obtain ⟨b', o', hA', hb', x0, x1⟩ := pr_at (HR.out.below HB1.out) hq
        injection hA' with hA'
        injection hA' with e1 e2 _
        subst e1; subst e2
        have hipos : (0 : Int) < (i : Int) := by omega
        have y0 : wx.cell? ⟨X, 0, none⟩ = some (.int .i64 p.1) := HX.out.cell 0
        have y1 : wx.cell? ⟨X, 1, none⟩ = some (.int .i64 p.2) := HX.out.cell 1
        have hs1 : IntKind.i64.wrap ((i : Int) - 1) = (i : Int) - 1 := by rw [IntKind.wrap_i64]; omega
        have ht1 : ((i : Int) - 1).toNat = i - 1 := by omega
        have hj0 : (0 : Int) ≤ (i : Int) - 1 := by omega
        have hj2 : (1 : Int) ≤ (i : Int) := by omega
        have hj1 : (i : Int) - 1 < (n : Int) := by omega
        have HNX := Lib.hid hnx
        have HP := Lib.hid hp
        clear hnx hp hq
        go_wp2_with fail
        go_quiet (fail)
        go_wp2_with fail
        go_roundg g2
        case measure => omega
        case rel => exact ⟨i + 1, u, A', c', by have := HIG.out; omega, by omega, by go_num, rfl, huc, hcm, by rw [HNX.out]; exact HU, by rw [HNX.out]; exact HO1.out, below_drewN HB1.out _⟩
      · have HNX := Lib.hid (uniqK_keep hp hsk)
        by_cases hi00 : i = 0
        · subst hi00
          clear hp hsk
          go_wp2_with fail
          go_quiet (fail)
          have HX2 : Hid (Blk (wx.drewN nq) X 27 #[.int .i64 p.1, .int .i64 p.2]) := HX.out
          have HO2 : Hid ((wx.drewN nq).ownsRow w.heap.size 27 2 (.slice A' u c') u (cellsP (uniqK xs 0))) := HO1.out
          have HB2 : Hid (Below w.heap.size w (wx.drewN nq)) := below_drewN HB1.out _
          clear HX HO1 HB1 
          generalize wx.drewN nq = wz at *
          have z0 : wz.cell? ⟨X, 0, none⟩ = some (.int .i64 p.1) := HX2.out.cell 0
          have z1 : wz.cell? ⟨X, 1, none⟩ = some (.int .i64 p.2) := HX2.out.cell 1
          have hsz2 := HB2.out.size
          go_wp2_with (at_builtin; refine wpList_append_any _ rfl (.tmp 24) (.tmp 26) 22 rfl w.heap.size 27 i0 _ 2 16 Try.underlying22 hi hz0 hz1 hz2 rfl (by decide) (.slice A' u c') u _ rfl (HO2.out.alloc _) (wz.heap.size + 1) (some ⟨wz.heap.size, 0, none⟩) 1 _ (cellsP [p]) rfl (pair_one wz p) (cellsP_one _) (by unfold maxLen; omega) (by omega) (by simp; omega) ?_; intro v5 w5 hown5 hgrow5 _; have HB5 : Hid (Below w.heap.size w w5) := (HB2.out.alloc hsz2 _).grown hgrow5 (by simp; omega) (fun k hk => (HO2.out.lt k hk).1); obtain ⟨A5, c5, rfl, h51, h52⟩ := own_form2 hown5; rw [← cellsP_append, ← HNX.out] at hown5; have HO5 := Lib.hid hown5; clear hown5 hgrow5)
          go_roundg g2
          case measure => omega
          case rel => exact ⟨0 + 1, u + 1, A5, c5, by have := HIG.out; omega, by omega, by go_num, rfl, h51, h52, by rw [HNX.out, List.length_append, HU.out]; rfl, HO5, HB5⟩
        · obtain ⟨q, hq⟩ : ∃ q, xs[i - 1]? = some q := ⟨xs[i - 1]'(by rw [HL.out]; omega), List.getElem?_eq_getElem _⟩
          have hpq : p ≠ q := fun e => hsk ⟨by omega, by rw [hq, e]⟩
          obtain ⟨b', o', hA', hb', x0, x1⟩ := pr_at (HR.out.below HB1.out) hq
          injection hA' with hA'
          injection hA' with e1 e2 _
          subst e1; subst e2
          have hipos : (0 : Int) < (i : Int) := by omega
          have y0 : wx.cell? ⟨X, 0, none⟩ = some (.int .i64 p.1) := HX.out.cell 0
          have y1 : wx.cell? ⟨X, 1, none⟩ = some (.int .i64 p.2) := HX.out.cell 1
          have hs1 : IntKind.i64.wrap ((i : Int) - 1) = (i : Int) - 1 := by rw [IntKind.wrap_i64]; omega
          have ht1 : ((i : Int) - 1).toNat = i - 1 := by omega
          have hj0 : (0 : Int) ≤ (i : Int) - 1 := by omega
          have hj2 : (1 : Int) ≤ (i : Int) := by omega
          have hj1 : (i : Int) - 1 < (n : Int) := by omega
          have hip : 0 < i := by omega
          clear hp hq hsk hi00
          by_cases hk1 : p.1 = q.1
          · have hb1 : (p.1 == q.1) = true := by simpa using hk1
            have hb2 : (p.2 == q.2) = false := by
              cases e : (p.2 == q.2)
              · rfl
              · exact absurd (Prod.ext hk1 (by simpa using e)) hpq
            clear hpq hk1
            go_wp2_with fail
            go_quiet (fail)
            have HX2 : Hid (Blk (wx.drewN nq) X 27 #[.int .i64 p.1, .int .i64 p.2]) := HX.out
            have HO2 : Hid ((wx.drewN nq).ownsRow w.heap.size 27 2 (.slice A' u c') u (cellsP (uniqK xs i))) := HO1.out
            have HB2 : Hid (Below w.heap.size w (wx.drewN nq)) := below_drewN HB1.out _
            clear HX HO1 HB1 x0 x1 y0 y1 hb1 hb2
            generalize wx.drewN nq = wz at *
            have z0 : wz.cell? ⟨X, 0, none⟩ = some (.int .i64 p.1) := HX2.out.cell 0
            have z1 : wz.cell? ⟨X, 1, none⟩ = some (.int .i64 p.2) := HX2.out.cell 1
            have hsz2 := HB2.out.size
            go_wp2_with (at_builtin; refine wpList_append_any _ rfl (.tmp 24) (.tmp 26) 22 rfl w.heap.size 27 i0 _ 2 16 Try.underlying22 hi hz0 hz1 hz2 rfl (by decide) (.slice A' u c') u _ rfl (HO2.out.alloc _) (wz.heap.size + 1) (some ⟨wz.heap.size, 0, none⟩) 1 _ (cellsP [p]) rfl (pair_one wz p) (cellsP_one _) (by unfold maxLen; omega) (by omega) (by simp; omega) ?_; intro v5 w5 hown5 hgrow5 _; have HB5 : Hid (Below w.heap.size w w5) := (HB2.out.alloc hsz2 _).grown hgrow5 (by simp; omega) (fun k hk => (HO2.out.lt k hk).1); obtain ⟨A5, c5, rfl, h51, h52⟩ := own_form2 hown5; rw [← cellsP_append, ← HNX.out] at hown5; have HO5 := Lib.hid hown5; clear hown5 hgrow5)
            go_roundg g2
            case measure => omega
            case rel => exact ⟨i + 1, u + 1, A5, c5, by have := HIG.out; omega, by omega, by go_num, rfl, h51, h52, by rw [HNX.out, List.length_append, HU.out]; rfl, HO5, HB5⟩
          · have hb1 : (p.1 == q.1) = false := by simpa using hk1
            clear hpq hk1
            go_wp2_with fail
            go_quiet (fail)
            have HX2 : Hid (Blk (wx.drewN nq) X 27 #[.int .i64 p.1, .int .i64 p.2]) := HX.out
            have HO2 : Hid ((wx.drewN nq).ownsRow w.heap.size 27 2 (.slice A' u c') u (cellsP (uniqK xs i))) := HO1.out
            have HB2 : Hid (Below w.heap.size w (wx.drewN nq)) := below_drewN HB1.out _
            clear HX HO1 HB1 x0 x1 y0 y1 hb1
            generalize wx.drewN nq = wz at *
            have z0 : wz.cell? ⟨X, 0, none⟩ = some (.int .i64 p.1) := HX2.out.cell 0
            have z1 : wz.cell? ⟨X, 1, none⟩ = some (.int .i64 p.2) := HX2.out.cell 1
            have hsz2 := HB2.out.size
            go_wp2_with (at_builtin; refine wpList_append_any _ rfl (.tmp 24) (.tmp 26) 22 rfl w.heap.size 27 i0 _ 2 16 Try.underlying22 hi hz0 hz1 hz2 rfl (by decide) (.slice A' u c') u _ rfl (HO2.out.alloc _) (wz.heap.size + 1) (some ⟨wz.heap.size, 0, none⟩) 1 _ (cellsP [p]) rfl (pair_one wz p) (cellsP_one _) (by unfold maxLen; omega) (by omega) (by simp; omega) ?_; intro v5 w5 hown5 hgrow5 _; have HB5 : Hid (Below w.heap.size w w5) := (HB2.out.alloc hsz2 _).grown hgrow5 (by simp; omega) (fun k hk => (HO2.out.lt k hk).1); obtain ⟨A5, c5, rfl, h51, h52⟩ := own_form2 hown5; rw [← cellsP_append, ← HNX.out] at hown5; have HO5 := Lib.hid hown5; clear hown5 hgrow5)
            go_roundg g2
            case measure => omega
            case rel => exact ⟨i + 1, u + 1, A5, c5, by have := HIG.out; omega, by omega, by go_num, rfl, h51, h52, by rw [HNX.out, List.length_append, HU.out]; rfl, HO5, HB5⟩
end Go.Proofs.Ytldjffeecbegjaa
