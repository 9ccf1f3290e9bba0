/- Layer order: Least of pairs, the document's answers Least and Below, and the question of OrderFinds: contracts. -/
import Derived.Test.YtldjffeecbegjaaOn
namespace Go.Proofs.Ytldjffeecbegjaa
open Go.RowKit

/-- The place of the first one that none of the first k stands ahead of. -/
def lstK {α : Type} (lt : α → α → Bool) (xs : List α) : Nat → Nat
  | 0 => 0
  | k + 1 => match xs[k]?, xs[lstK lt xs k]? with
    | some x, some y => if 0 < k ∧ lt x y = true then k else lstK lt xs k
    | _, _ => lstK lt xs k
theorem lstK_turn {α : Type} {lt : α → α → Bool} {xs : List α} {k : Nat} {x y : α} (hx : xs[k]? = some x) (hy : xs[lstK lt xs k]? = some y) (hk : 0 < k) (h : lt x y = true) : lstK lt xs (k + 1) = k := by
  rw [lstK, hx, hy]; exact if_pos ⟨hk, h⟩
theorem lstK_stay {α : Type} {lt : α → α → Bool} {xs : List α} {k : Nat} {x y : α} (hx : xs[k]? = some x) (hy : xs[lstK lt xs k]? = some y) (h : ¬ (0 < k ∧ lt x y = true)) : lstK lt xs (k + 1) = lstK lt xs k := by
  rw [lstK, hx, hy]; exact if_neg h
theorem lstK_one {α : Type} {lt : α → α → Bool} {xs : List α} : lstK lt xs 1 = 0 := by
  rw [lstK]
  split
  · rw [if_neg (fun h => absurd h.1 (by omega))]; rfl
  · rfl
theorem lstK_lt {α : Type} (lt : α → α → Bool) (xs : List α) : ∀ k, 0 < k → lstK lt xs k < k
  | 0, h => by omega
  | 1, _ => by rw [lstK_one]; omega
  | k + 2, _ => by
    have := lstK_lt lt xs (k + 1) (by omega)
    rw [lstK]
    split
    · split
      · omega
      · omega
    · omega

set_option maxRecDepth 100000 in
set_option maxHeartbeats 4000000 in
theorem least_any (A : Option Addr) (n c : Nat) (xs : List Pr) (hn : n ≤ 100000) (w : World) (hR : Reads w w.heap.size 2 A n (cellsP xs)) :
    Calls Try.prog 16 #[.slice A n c, .func (.func 11) #[] #[]] w fun e w' => e = .returned (.tuple #[.int .i64 (lstK ltP xs n), .bool (decide (0 < n))]) ∧ Below w.heap.size w w' := by
  have HR := Lib.hid hR
  have HL := Lib.hid (reads_len hR)
  clear hR
  go_enter Try.func16, Try.ntmps16
  go_wp2_with fail
  go_loopg [6, 11] n (fun gg s6 s11 wr => ∃ (i l : Nat), i + gg = n ∧ l ≤ i ∧ s11 = .int .i64 i ∧ s6 = .int .i64 l ∧ Hid (lstK ltP xs i = l) ∧ Hid (Below w.heap.size w wr))
  case atStart => exact ⟨0, 0, by omega, Nat.le_refl _, rfl, rfl, rfl, Below.refl _ _⟩
  case round =>
    obtain ⟨i, l, hig, hli, rfl, rfl, HLS, HB⟩ := hrel
    cases gk with
    | zero =>
      have hge : ¬ (i : Int) < (n : Int) := by omega
      have hin : i = n := by omega
      subst hin
      have hd : ((0 : Int) < (i : Int)) = (0 < i) := by simp
      clear hig
      go_wp2_with fail
      go_ret2
      exact ⟨by rw [HLS.out]; simp, HB.out⟩
    | succ g2 =>
      have hlt : (i : Int) < (n : Int) := by omega
      have hi0 : (0 : Int) ≤ (i : Int) := by omega
      obtain ⟨p, hp⟩ : ∃ p, xs[i]? = some p := ⟨xs[i]'(by rw [HL.out]; omega), List.getElem?_eq_getElem _⟩
      obtain ⟨b, o, rfl, hb, g0, g1⟩ := pr_at (HR.out.below HB.out) hp
      have HIG := Lib.hid hig
      have hsz := HB.out.size
      have hin : i < n := by omega
      have HX := Lib.hid (Blk.new wr 27 #[.int .i64 p.1, .int .i64 p.2])
      have HB1 : Hid (Below w.heap.size w (wr.alloc (.cells #[.int .i64 p.1, .int .i64 p.2] 27))) := HB.out.alloc hsz _
      obtain ⟨X, hX⟩ : ∃ X, wr.heap.size = X := ⟨_, rfl⟩
      rw [hX] at HX
      clear hig
      go_upto_region 5 with fail
      clear g0 g1 hX HB
      generalize wr.alloc (.cells #[.int .i64 p.1, .int .i64 p.2] 27) = wx at *
      by_cases hi00 : i = 0
      · subst hi00
        have HNX : Hid (lstK ltP xs (0 + 1) = l) := by
          have := HLS.out
          rw [lstK] at this
          rw [← this]; exact lstK_one
        clear hp
        go_wp2_with fail
        go_quiet (fail)
        go_wp2_with fail
        go_roundg g2
        case measure => omega
        case rel => exact ⟨0 + 1, l, by have := HIG.out; omega, by omega, by go_num, rfl, HNX, below_drewN HB1.out _⟩
      · have hip : 0 < i := by omega
        have hll : l < i := by rw [← HLS.out]; exact lstK_lt _ _ i hip
        obtain ⟨q, hq⟩ : ∃ q, xs[l]? = some q := ⟨xs[l]'(by rw [HL.out]; omega), List.getElem?_eq_getElem _⟩
        obtain ⟨b', o', hA', hb', x0, x1⟩ := pr_at (HR.out.below HB1.out) hq
        injection hA' with hA'
        injection hA' with e1 e2 _
        subst e1; subst e2
        have hip2 : (0 : Int) < (i : Int) := by omega
        have y0 : wx.cell? ⟨X, 0, none⟩ = some (.int .i64 p.1) := HX.out.cell 0
        have y1 : wx.cell? ⟨X, 1, none⟩ = some (.int .i64 p.2) := HX.out.cell 1
        have hj0 : (0 : Int) ≤ (l : Int) := by omega
        have hj1 : (l : Int) < (n : Int) := by omega
        have hcmp := cmpN_neg p.1 q.1
        have hbl : b < wx.drew.heap.size := by have := HB1.out.size; show b < wx.heap.size; omega
        have hXT : X < wx.drew.heap.size := HX.out.lt
        have HSM := Lib.hid fun W => keys_any p q W
        have HQ2 : Hid (xs[lstK ltP xs i]? = some q) := by rw [HLS.out]; exact hq
        have HP := Lib.hid hp
        clear hp hq hi00
        by_cases hpq : p.1 < q.1
        · rw [eq_true hpq] at hcmp
          have hv := of_eq_true hcmp
          have HNX := Lib.hid (lstK_turn (lt := ltP) HP.out HQ2.out hip (by unfold ltP; simpa using hpq))
          clear hcmp hpq
          generalize cmpN p.1 q.1 = v at *
          have tok1 : True := trivial
          go_wp2_with fail
          go_region_held3 (fun w' => w'.cell? ⟨X, 0, none⟩ = some (.int .i64 p.1) ∧ w'.cell? ⟨X, 1, none⟩ = some (.int .i64 p.2) ∧ w'.cell? ⟨b, o + l * 2, none⟩ = some (.int .i64 q.1) ∧ w'.cell? ⟨b, o + l * 2 + 1, none⟩ = some (.int .i64 q.2)) (first | exact ⟨y0, y1, x0, x1⟩ | exact ⟨q0, q1, q2, q3⟩ | fail) (first
            | (have _t := tok1; go_at_call 11; refine (HSM.out wx.drew).mono ?_; rintro e w20 ⟨rfl, b20⟩; clear tok1; have HB2 : Hid (Below w.heap.size w w20) := HB1.out.drew.trans (b20.mono HB1.out.drew.size); have q0 := (HX.out.drew.below b20 hXT).cell 0; have q1 := (HX.out.drew.below b20 hXT).cell 1; have q2 := (b20.cell (p := ⟨b, o + l * 2, none⟩) hbl).trans x0; have q3 := (b20.cell (p := ⟨b, o + l * 2 + 1, none⟩) hbl).trans x1; clear b20)
            | fail)
          go_wp2_with fail
          go_roundg g2
          case measure => omega
          case rel => exact ⟨i + 1, i, by have := HIG.out; omega, by omega, by go_num, rfl, HNX, HB2⟩
        · rw [eq_false hpq] at hcmp
          have hv := of_eq_false hcmp
          have HNX : Hid (lstK ltP xs (i + 1) = l) := by
            rw [← HLS.out]
            exact lstK_stay HP.out HQ2.out (fun h => hpq (by have := h.2; unfold ltP at this; simpa using this))
          clear hcmp hpq
          generalize cmpN p.1 q.1 = v at *
          have tok1 : True := trivial
          go_wp2_with fail
          go_region_held3 (fun w' => w'.cell? ⟨X, 0, none⟩ = some (.int .i64 p.1) ∧ w'.cell? ⟨X, 1, none⟩ = some (.int .i64 p.2) ∧ w'.cell? ⟨b, o + l * 2, none⟩ = some (.int .i64 q.1) ∧ w'.cell? ⟨b, o + l * 2 + 1, none⟩ = some (.int .i64 q.2)) (first | exact ⟨y0, y1, x0, x1⟩ | exact ⟨q0, q1, q2, q3⟩ | fail) (first
            | (have _t := tok1; go_at_call 11; refine (HSM.out wx.drew).mono ?_; rintro e w20 ⟨rfl, b20⟩; clear tok1; have HB2 : Hid (Below w.heap.size w w20) := HB1.out.drew.trans (b20.mono HB1.out.drew.size); have q0 := (HX.out.drew.below b20 hXT).cell 0; have q1 := (HX.out.drew.below b20 hXT).cell 1; have q2 := (b20.cell (p := ⟨b, o + l * 2, none⟩) hbl).trans x0; have q3 := (b20.cell (p := ⟨b, o + l * 2 + 1, none⟩) hbl).trans x1; clear b20)
            | fail)
          go_wp2_with fail
          go_roundg g2
          case measure => omega
          case rel => exact ⟨i + 1, l, by have := HIG.out; omega, by omega, by go_num, rfl, HNX, HB2⟩

set_option maxRecDepth 100000 in
set_option maxHeartbeats 4000000 in
theorem rleast_any (A : Option Addr) (n c : Nat) (xs : List Pr) (z : Int) (hz : z = if 0 < n then (lstK ltP xs n : Int) else -1) (hn : n ≤ 100000) (w : World) (hR : Reads w w.heap.size 2 A n (cellsP xs)) :
    Calls Try.prog 17 #[.slice A n c] w fun e w' => e = .returned (.int .i64 z) ∧ Below w.heap.size w w' := by
  have HR := Lib.hid hR
  have HL := Lib.hid (reads_len hR)
  have HZ := Lib.hid hz
  clear hR hz
  go_enter Try.func17, Try.ntmps17
  go_wp2_with fail
  go_loopg [3, 8] n (fun gg s3 s8 wr => ∃ (i : Nat) (z : Int), i + gg = n ∧ s8 = .int .i64 i ∧ s3 = .int .i64 z ∧ Hid (z = if 0 < i then (lstK ltP xs i : Int) else -1) ∧ Hid (Below w.heap.size w wr))
  case atStart => exact ⟨0, -1, by omega, rfl, rfl, rfl, Below.refl _ _⟩
  case round =>
    obtain ⟨i, y, hig, rfl, rfl, HLS, HB⟩ := hrel
    cases gk with
    | zero =>
      have hge : ¬ (i : Int) < (n : Int) := by omega
      have hin : i = n := by omega
      subst hin
      clear hig
      go_wp2_with fail
      go_ret
      exact ⟨by rw [HZ.out, ← HLS.out]; rfl, HB.out⟩
    | succ g2 =>
      have hlt : (i : Int) < (n : Int) := by omega
      have hi0 : (0 : Int) ≤ (i : Int) := by omega
      obtain ⟨p, hp⟩ : ∃ p, xs[i]? = some p := ⟨xs[i]'(by rw [HL.out]; omega), List.getElem?_eq_getElem _⟩
      obtain ⟨b, o, rfl, hb, g0, g1⟩ := pr_at (HR.out.below HB.out) hp
      have HIG := Lib.hid hig
      have hsz := HB.out.size
      have hin : i < n := by omega
      have HX := Lib.hid (Blk.new wr 27 #[.int .i64 p.1, .int .i64 p.2])
      have HB1 : Hid (Below w.heap.size w (wr.alloc (.cells #[.int .i64 p.1, .int .i64 p.2] 27))) := HB.out.alloc hsz _
      obtain ⟨X, hX⟩ : ∃ X, wr.heap.size = X := ⟨_, rfl⟩
      rw [hX] at HX
      clear hig
      go_upto_region 5 with fail
      clear g0 g1 hX HB
      generalize wr.alloc (.cells #[.int .i64 p.1, .int .i64 p.2] 27) = wx at *
      have y0 : wx.cell? ⟨X, 0, none⟩ = some (.int .i64 p.1) := HX.out.cell 0
      have y1 : wx.cell? ⟨X, 1, none⟩ = some (.int .i64 p.2) := HX.out.cell 1
      by_cases hi00 : i = 0
      · subst hi00
        have hy : y < 0 := by have := HLS.out; rw [if_neg (by omega)] at this; omega
        have HNX : Hid (((0 : Nat) : Int) = if 0 < 0 + 1 then (lstK ltP xs (0 + 1) : Int) else -1) := by
          show _ = _
          rw [if_pos (by omega), lstK_one]
        clear hp
        go_wp2_with fail
        go_quiet (fail)
        go_wp2_with fail
        go_roundg g2
        case measure => omega
        case rel => exact ⟨0 + 1, _, by have := HIG.out; omega, by go_num, rfl, HNX, below_drewN HB1.out _⟩
      · have hip : 0 < i := by omega
        obtain ⟨l, hl⟩ : ∃ l, lstK ltP xs i = l := ⟨_, rfl⟩
        have hll : l < i := by rw [← hl]; exact lstK_lt _ _ i hip
        have hyl : y = (l : Int) := by have := HLS.out; rw [if_pos hip, hl] at this; exact this
        subst hyl
        obtain ⟨q, hq⟩ : ∃ q, xs[l]? = some q := ⟨xs[l]'(by rw [HL.out]; omega), List.getElem?_eq_getElem _⟩
        obtain ⟨b', o', hA', hb', x0, x1⟩ := pr_at (HR.out.below HB1.out) hq
        injection hA' with hA'
        injection hA' with e1 e2 _
        subst e1; subst e2
        have hj0 : (0 : Int) ≤ (l : Int) := by omega
        have hj1 : (l : Int) < (n : Int) := by omega
        have hj2 : ¬ (l : Int) < 0 := by omega
        have hj3 : decide ((l : Int) < 0) = false := by simp
        have HQ2 : Hid (xs[lstK ltP xs i]? = some q) := by rw [hl]; exact hq
        have HP := Lib.hid hp
        have HLL := Lib.hid hl
        clear hp hq hi00 hl
        by_cases hpq : p.1 < q.1
        · have HNX : Hid ((i : Int) = if 0 < i + 1 then (lstK ltP xs (i + 1) : Int) else -1) := by
            show _ = _
            rw [if_pos (by omega), lstK_turn (lt := ltP) HP.out HQ2.out hip (by unfold ltP; simpa using hpq)]
          go_wp2_with fail
          go_quiet (fail)
          go_wp2_with fail
          go_roundg g2
          case measure => omega
          case rel => exact ⟨i + 1, _, by have := HIG.out; omega, by go_num, rfl, HNX, below_drewN HB1.out _⟩
        · have HNX : Hid ((l : Int) = if 0 < i + 1 then (lstK ltP xs (i + 1) : Int) else -1) := by
            show _ = _
            rw [if_pos (by omega), lstK_stay (lt := ltP) HP.out HQ2.out (fun h => hpq (by have := h.2; unfold ltP at this; simpa using this)), HLL.out]
          go_wp2_with fail
          go_quiet (fail)
          go_wp2_with fail
          go_roundg g2
          case measure => omega
          case rel => exact ⟨i + 1, _, by have := HIG.out; omega, by go_num, rfl, HNX, below_drewN HB1.out _⟩

/-- How many of the first k have a key below v. -/
def cntB (v : Int) (xs : List Pr) (k : Nat) : Nat := ((xs.take k).filter fun p => decide (p.1 < v)).length
theorem cntB_yes {v : Int} {xs : List Pr} {k : Nat} {p : Pr} (h : xs[k]? = some p) (hp : p.1 < v) : cntB v xs (k + 1) = cntB v xs k + 1 := by
  obtain ⟨hk, rfl⟩ := List.getElem?_eq_some_iff.1 h
  unfold cntB
  rw [List.take_succ_eq_append_getElem hk, List.filter_append, List.length_append]
  simp [hp]
theorem cntB_no {v : Int} {xs : List Pr} {k : Nat} {p : Pr} (h : xs[k]? = some p) (hp : ¬ p.1 < v) : cntB v xs (k + 1) = cntB v xs k := by
  obtain ⟨hk, rfl⟩ := List.getElem?_eq_some_iff.1 h
  unfold cntB
  rw [List.take_succ_eq_append_getElem hk, List.filter_append, List.length_append]
  simp [hp]
theorem cntB_le (v : Int) (xs : List Pr) (k : Nat) : cntB v xs k ≤ k := by
  unfold cntB
  exact Nat.le_trans (List.length_filter_le _ _) (by rw [List.length_take]; omega)

set_option maxRecDepth 100000 in
set_option maxHeartbeats 4000000 in
theorem rbelow_any (A : Option Addr) (n c : Nat) (xs : List Pr) (v : Int) (hn : n ≤ 100000) (w : World) (hR : Reads w w.heap.size 2 A n (cellsP xs)) :
    Calls Try.prog 22 #[.slice A n c, .int .i64 v] w fun e w' => e = .returned (.int .i64 (cntB v xs n)) ∧ Below w.heap.size w w' := by
  have HR := Lib.hid hR
  have HL := Lib.hid (reads_len hR)
  clear hR
  go_enter Try.func22, Try.ntmps22
  go_wp2_with fail
  go_loopg [5, 10] n (fun gg s5 s10 wr => ∃ (i k : Nat), i + gg = n ∧ k ≤ i ∧ s10 = .int .i64 i ∧ s5 = .int .i64 k ∧ Hid (cntB v xs i = k) ∧ Hid (Below w.heap.size w wr))
  case atStart => exact ⟨0, 0, by omega, Nat.le_refl _, rfl, rfl, rfl, Below.refl _ _⟩
  case round =>
    obtain ⟨i, k, hig, hki, rfl, rfl, HK, HB⟩ := hrel
    cases gk with
    | zero =>
      have hge : ¬ (i : Int) < (n : Int) := by omega
      have hin : i = n := by omega
      subst hin
      clear hig
      go_wp2_with fail
      go_ret
      exact ⟨by rw [HK.out]; rfl, HB.out⟩
    | succ g2 =>
      have hlt : (i : Int) < (n : Int) := by omega
      have hi0 : (0 : Int) ≤ (i : Int) := by omega
      obtain ⟨p, hp⟩ : ∃ p, xs[i]? = some p := ⟨xs[i]'(by rw [HL.out]; omega), List.getElem?_eq_getElem _⟩
      obtain ⟨b, o, rfl, hb, g0, g1⟩ := pr_at (HR.out.below HB.out) hp
      have HIG := Lib.hid hig
      have hsz := HB.out.size
      have HB1 : Hid (Below w.heap.size w (wr.alloc (.cells #[.int .i64 p.1, .int .i64 p.2] 27))) := HB.out.alloc hsz _
      have HP := Lib.hid hp
      clear hig hp
      by_cases hpv : p.1 < v
      · have HNX := Lib.hid (cntB_yes HP.out hpv)
        go_wp2_with fail
        go_roundg g2
        case measure => omega
        case rel => exact ⟨i + 1, k + 1, by have := HIG.out; omega, by omega, by go_num, by go_num, by rw [HNX.out, HK.out]; exact rfl, HB1⟩
      · have HNX := Lib.hid (cntB_no HP.out hpv)
        go_wp2_with fail
        go_roundg g2
        case measure => omega
        case rel => exact ⟨i + 1, k, by have := HIG.out; omega, by omega, by go_num, rfl, by rw [HNX.out]; exact HK, HB1⟩

set_option maxHeartbeats 1000000 in
theorem finds_ask (p : Pr) (g : Nat) (v : Int) (w : World) (hv : w.cell? ⟨g, 0, none⟩ = some (.int .i64 v)) (hg : g < w.heap.size) :
    Calls Try.prog 20 #[.agg #[.int .i64 p.1, .int .i64 p.2], .pointer (some ⟨g, 0, none⟩)] w fun e w' => e = .returned (.int .i64 (cmpN p.1 v)) ∧ Below w.heap.size w w' := by
  have HK := Lib.hid fun W => keys_any p (v, 0) W
  have hv1 := (World.cell?_alloc_lt w (.cells #[.int .i64 p.1, .int .i64 p.2] 27) ⟨g, 0, none⟩ hg).trans hv
  have hb : Hid (Below w.heap.size w (w.alloc (.cells #[.int .i64 p.1, .int .i64 p.2] 27))) := (Below.refl _ _).alloc (Nat.le_refl _) _
  go_enter Try.func20, Try.ntmps20
  go_wp2_with fail
  refine (HK.out _).mono ?_
  rintro e w1 ⟨rfl, b1⟩
  have hb1 : Hid (Below w.heap.size w w1) := hb.out.trans (b1.mono hb.out.size)
  clear b1
  go_wp2_with fail
  go_ret
  exact ⟨rfl, hb1.out⟩
end Go.Proofs.Ytldjffeecbegjaa
