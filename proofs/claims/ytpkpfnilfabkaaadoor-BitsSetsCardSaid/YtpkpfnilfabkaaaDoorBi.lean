/- Layer bits: slices of words and of numbers compared and copied by the library: contracts. -/
import Derived.Test.YtpkpfnilfabkaaaDoorBh
import Derived.Lib.SliceRun
namespace Go.Proofs.YtpkpfnilfabkaaaDoor
open Go.RowKit

/-- A list of numbers, as cells. -/
def ints (zs : List Int) : List Value := zs.map (Value.int .i64)
theorem ints_length (zs : List Int) : (ints zs).length = zs.length := by unfold ints; simp
theorem ints_one (zs : List Int) : ∀ u ∈ ints zs, u.oneCell' = true := by
  intro u hu
  unfold ints at hu
  obtain ⟨x, _, rfl⟩ := List.mem_map.1 hu
  rfl
def all64 (zs : List Int) : Prop := ∀ z ∈ zs, -9223372036854775808 ≤ z ∧ z ≤ 9223372036854775807
/-- A slice of n numbers that reads so, below the block B. -/
def RI (w : World) (B : Nat) (A : Option Addr) (n : Nat) (zs : List Int) : Prop := Reads w B 1 A n (ints zs)
section
variable {w w' : World} {B B' n : Nat} {A : Option Addr} {zs : List Int}
theorem RI.len (h : RI w B A n zs) : zs.length = n := by have := h.1; rw [ints_length] at this; omega
theorem RI.at_ {k : Nat} (h : RI w B A n zs) (hk : k < n) : ∃ b o, A = some ⟨b, o, none⟩ ∧ b < B ∧ w.cell? ⟨b, o + k, none⟩ = some (.int .i64 (zs.getD k 0)) := by
  have hl := h.len
  obtain ⟨ad, hA, hb, hc⟩ := h.2 (by omega)
  have e : ∀ j, j < zs.length → (ints zs)[j]? = some (.int .i64 (zs.getD j 0)) := fun j hj => by
    unfold ints
    rw [List.getElem?_map, List.getD_eq_getElem?_getD, List.getElem?_eq_getElem hj]
    rfl
  have h0 := hc k _ (e k (by omega))
  have h00 := hc 0 _ (e 0 (by omega))
  obtain ⟨b, o, spot⟩ := ad
  have hspot : spot = none := by simpa [Addr.add] using World.cell?_spot h00
  subst hspot
  rw [Go.WideShapes.add_plain] at h0
  exact ⟨b, o, hA, hb, h0⟩
theorem RI.below (h : RI w B A n zs) (hb : Below B w w') : RI w' B A n zs := Reads.below h hb
theorem RI.more (h : RI w B A n zs) (hB : B ≤ B') : RI w B' A n zs := Reads.more h hB
theorem RI.alloc (h : RI w B A n zs) (hB : B ≤ w.heap.size) (o : Obj) : RI (w.alloc o) B A n zs := Reads.alloc h hB o
theorem RI.none_ : RI w B none 0 [] := ⟨rfl, fun h => absurd h (by omega)⟩
theorem RI.empty (hz : zs.length = 0) : RI w B A 0 zs := ⟨by rw [ints_length, hz], fun h => absurd h (by omega)⟩
theorem ints_take (zs : List Int) (k : Nat) : ints (zs.take k) = (ints zs).take k := by unfold ints; rw [List.map_take]
theorem ints_append (a b : List Int) : ints (a ++ b) = ints a ++ ints b := by unfold ints; rw [List.map_append]
theorem RI.take {k : Nat} (h : RI w B A n zs) (hk : k ≤ n) : RI w B A k (zs.take k) :=
  ⟨by rw [ints_length, List.length_take, h.len]; omega, fun hn => by
    obtain ⟨ad, hA, hb, hc⟩ := h.2 (by omega)
    exact ⟨ad, hA, hb, fun j u hu => hc j u (by
      rw [ints_take, List.getElem?_take] at hu
      split at hu
      · exact hu
      · cases hu)⟩⟩
end
theorem i64_info : (Tryd.prog.info? 3).map (fun i => (i.zero, i.size, i.bytes)) = some (some (.int .i64 0), 1, 8) := by kernel_rfl

theorem own_new1 (w : World) (t : TypeId) : (w.alloc (.cells #[] t)).ownsRow w.heap.size t 1 (.slice (some ⟨w.heap.size, 0, none⟩) 0 0) 0 [] :=
  ⟨rfl, .inr ⟨w.heap.size, 0, #[], rfl, Nat.le_refl _, by show (w.heap.push _)[w.heap.size]? = _; simp, Nat.le_refl _, Nat.zero_le _, rfl, rfl⟩⟩
theorem own_form1 {w : World} {base : Nat} {e : TypeId} {size : Nat} {v : Value} {n : Nat} {xs : List Value} (h : w.ownsRow base e size v n xs) : ∃ A c, v = .slice A n c ∧ n ≤ c ∧ c ≤ 9223372036854775807 := by
  rcases h.2 with ⟨rfl, rfl⟩ | ⟨g, cap, cur, rfl, _, _, hnc, hcm, _⟩
  · exact ⟨_, _, rfl, Nat.le_refl _, by decide⟩
  · exact ⟨_, _, rfl, hnc, by unfold maxLen at hcm; omega⟩
theorem take_snoc' {α : Type} {l : List α} {k : Nat} {d : α} (h : k < l.length) : l.take (k + 1) = l.take k ++ [l.getD k d] := by
  rw [List.take_succ_eq_append_getElem h, List.getD_eq_getElem?_getD, List.getElem?_eq_getElem h]; rfl
theorem take_ne {α : Type} {l m : List α} {k : Nat} {d : α} (h : l.getD k d ≠ m.getD k d) : l ≠ m := fun e => h (by rw [e])

set_option maxRecDepth 100000 in
set_option maxHeartbeats 2000000 in
theorem equal_u (A A2 : Option Addr) (n m c c2 : Nat) (xs ys : List Nat) (hn : n ≤ 1000000) (hm : m ≤ 1000000) (w : World) (hR : RW w w.heap.size A n xs) (hR2 : RW w w.heap.size A2 m ys) :
    Calls Tryd.prog 36 #[.slice A n c, .slice A2 m c2] w fun e w' => e = .returned (.bool (decide (xs = ys))) ∧ Below w.heap.size w w' := by
  have HR := Lib.hid hR
  have HR2 := Lib.hid hR2
  have HL := Lib.hid hR.len
  have HL2 := Lib.hid hR2.len
  clear hR hR2
  by_cases hnm : n = m
  · subst hnm
    go_enter Tryd.func36, Tryd.ntmps36
    go_wp2_with fail
    go_loopg [13] n (fun gg i wr => ∃ k : Nat, k + gg = n ∧ i = .int .i64 k ∧ Hid (Below w.heap.size w wr) ∧ Hid (xs.take k = ys.take k))
    case atStart => exact ⟨0, by omega, rfl, Below.refl _ _, rfl⟩
    case round =>
      obtain ⟨k, hk, rfl, bk, HT⟩ := hrel
      cases gk with
      | succ g2 =>
        have hlt : (k : Int) < (n : Int) := by omega
        obtain ⟨b, o, rfl, hb, g0⟩ := (HR.out.below bk.out).at_ (k := k) (by omega)
        obtain ⟨b2, o2, rfl, hb2, x0⟩ := (HR2.out.below bk.out).at_ (k := k) (by omega)
        have H1 := Lib.hid (take_snoc' (d := 0) (show k < xs.length by rw [HL.out]; omega))
        have H2 := Lib.hid (take_snoc' (d := 0) (show k < ys.length by rw [HL2.out]; omega))
        have HK := Lib.hid hk
        have HNE := Lib.hid (@take_ne _ xs ys k (0 : Nat))
        generalize xs.getD k 0 = x at *
        generalize ys.getD k 0 = y at *
        clear hk
        by_cases hxy : x = y
        · subst hxy
          have hq : (((x : Int) != (x : Int)) = false) := by simp
          go_wp2_with fail
          go_quiet (fail)
          go_wp2_with fail
          go_roundg g2
          case measure => omega
          case rel => exact ⟨k + 1, by have := HK.out; omega, by go_num, below_drewN bk.out _, by show _ = _; rw [H1.out, H2.out, HT.out]⟩
        · have hq : (((x : Int) != (y : Int)) = true) := by rw [bne_iff_ne]; omega
          have HX : Hid (decide (xs = ys) = false) := by show _ = _; exact decide_eq_false (HNE.out hxy)
          clear hxy
          go_wp2_with fail
          go_quiet (fail)
          go_wp2_with fail
          go_ret
          exact ⟨by rw [HX.out]; rfl, below_drewN bk.out _⟩
      | zero =>
        have hge : ¬ (k : Int) < (n : Int) := by omega
        have HX : Hid (decide (xs = ys) = true) := by
          show _ = _
          have := HT.out
          rw [List.take_of_length_le (by rw [HL.out]; omega), List.take_of_length_le (by rw [HL2.out]; omega)] at this
          exact decide_eq_true this
        have HK := Lib.hid hk
        clear hk
        go_wp2_with fail
        go_ret
        exact ⟨by rw [HX.out]; rfl, bk.out⟩
  · have hq : (((n : Int) != (m : Int)) = true) := by simp; omega
    have HX : Hid (decide (xs = ys) = false) := by
      show _ = _
      refine decide_eq_false fun e => hnm ?_
      rw [← HL.out, ← HL2.out, e]
    go_enter Tryd.func36, Tryd.ntmps36
    go_wp2_with fail
    go_ret
    exact ⟨by rw [HX.out]; rfl, Below.refl _ _⟩

/-- A copy: its cells lie in memory of the call's own. -/
def Copy_u (n : Nat) (xs : List Nat) (w : World) (e : Ending) (w' : World) : Prop :=
  ∃ (A : Option Addr) (c : Nat), e = .returned (.slice A n c) ∧ w'.ownsRow w.heap.size 51 1 (.slice A n c) n (wcells xs) ∧ n ≤ c ∧ c ≤ 9223372036854775807 ∧ Below w.heap.size w w'
set_option maxRecDepth 100000 in
set_option maxHeartbeats 2000000 in
theorem clone_u_none (c : Nat) (w : World) :
    Calls Tryd.prog 38 #[.slice none 0 c] w (Copy_u 0 [] w) := by
  have hq : ∀ w : World, (binOp .eql 22 (.slice none 0 c) (.slice none 0 0)).run Tryd.prog w = .ok (.bool true) w := fun w => Lib.run_eql_slice_nil w _ _ none 0 c 0 0 Tryd.underlying22
  go_enter Tryd.func38, Tryd.ntmps38
  go_wp2_with fail
  go_ret
  exact ⟨none, 0, rfl, World.ownsRow_nil _ _ _ _, Nat.le_refl _, by decide, Below.refl _ _⟩
set_option maxRecDepth 100000 in
set_option maxHeartbeats 2000000 in
theorem clone_u_some (ad : Addr) (n c : Nat) (zs : List Nat) (hn : n ≤ 1000000) (w : World) (hR : RW w w.heap.size (some ad) n zs) :
    Calls Tryd.prog 38 #[.slice (some ad) n c] w (Copy_u n zs w) := by
  have hq : ∀ w : World, (binOp .eql 22 (.slice (some ad) n c) (.slice none 0 0)).run Tryd.prog w = .ok (.bool false) w := fun w => Lib.run_eql_slice_nil w _ _ (some ad) n c 0 0 Tryd.underlying22
  obtain ⟨i0, hi, hz0, hz1, hz2⟩ := info_parts u64_info
  go_enter Tryd.func38, Tryd.ntmps38
  go_wp2_with (at_builtin; refine wpList_append_any _ rfl (.tmp 5) (.tmp 6) 22 rfl w.heap.size 51 i0 _ 1 8 Tryd.underlying22 hi hz0 hz1 hz2 rfl (by decide) _ 0 [] rfl (own_new1 w 51) w.heap.size (some ad) n _ (wcells zs) rfl (hR.alloc (Nat.le_refl _) _) (wcells_one _) (by unfold maxLen; omega) (by omega) (by simp) ?_; intro v' w2 hown hgrow hat)
  rw [Nat.zero_add, List.nil_append] at hown
  have b2 : Below w.heap.size w w2 := ((Below.refl _ _).alloc (Nat.le_refl _) _).grown hgrow (by simp) (fun j hj => by have e : some w.heap.size = some j := hj; injection e with e; omega)
  obtain ⟨A', c', rfl, h1, h2⟩ := own_form1 hown
  go_ret
  exact ⟨A', c', rfl, hown, h1, h2, b2⟩
theorem clone_u (A : Option Addr) (n c : Nat) (zs : List Nat) (hn : n ≤ 1000000) (w : World) (hR : RW w w.heap.size A n zs) :
    Calls Tryd.prog 38 #[.slice A n c] w (Copy_u n zs w) := by
  cases A with
  | some ad => exact clone_u_some ad n c zs hn w hR
  | none =>
    obtain rfl : n = 0 := by
      rcases Nat.eq_zero_or_pos n with h | h
      · exact h
      · obtain ⟨ad, e, _⟩ := hR.2 h; cases e
    obtain rfl : zs = [] := List.eq_nil_of_length_eq_zero hR.len
    exact clone_u_none c w

set_option maxRecDepth 100000 in
set_option maxHeartbeats 2000000 in
theorem equal_i (A A2 : Option Addr) (n m c c2 : Nat) (xs ys : List Int) (hn : n ≤ 1000000) (hm : m ≤ 1000000) (w : World) (hR : RI w w.heap.size A n xs) (hR2 : RI w w.heap.size A2 m ys) :
    Calls Tryd.prog 15 #[.slice A n c, .slice A2 m c2] w fun e w' => e = .returned (.bool (decide (xs = ys))) ∧ Below w.heap.size w w' := by
  have HR := Lib.hid hR
  have HR2 := Lib.hid hR2
  have HL := Lib.hid hR.len
  have HL2 := Lib.hid hR2.len
  clear hR hR2
  by_cases hnm : n = m
  · subst hnm
    go_enter Tryd.func15, Tryd.ntmps15
    go_wp2_with fail
    go_loopg [13] n (fun gg i wr => ∃ k : Nat, k + gg = n ∧ i = .int .i64 k ∧ Hid (Below w.heap.size w wr) ∧ Hid (xs.take k = ys.take k))
    case atStart => exact ⟨0, by omega, rfl, Below.refl _ _, rfl⟩
    case round =>
      obtain ⟨k, hk, rfl, bk, HT⟩ := hrel
      cases gk with
      | succ g2 =>
        have hlt : (k : Int) < (n : Int) := by omega
        obtain ⟨b, o, rfl, hb, g0⟩ := (HR.out.below bk.out).at_ (k := k) (by omega)
        obtain ⟨b2, o2, rfl, hb2, x0⟩ := (HR2.out.below bk.out).at_ (k := k) (by omega)
        have H1 := Lib.hid (take_snoc' (d := 0) (show k < xs.length by rw [HL.out]; omega))
        have H2 := Lib.hid (take_snoc' (d := 0) (show k < ys.length by rw [HL2.out]; omega))
        have HK := Lib.hid hk
        have HNE := Lib.hid (@take_ne _ xs ys k (0 : Int))
        generalize xs.getD k 0 = x at *
        generalize ys.getD k 0 = y at *
        clear hk
        by_cases hxy : x = y
        · subst hxy
          have hq : ((x != x) = false) := by simp
          go_wp2_with fail
          go_quiet (fail)
          go_wp2_with fail
          go_roundg g2
          case measure => omega
          case rel => exact ⟨k + 1, by have := HK.out; omega, by go_num, below_drewN bk.out _, by show _ = _; rw [H1.out, H2.out, HT.out]⟩
        · have hq : ((x != y) = true) := by rw [bne_iff_ne]; omega
          have HX : Hid (decide (xs = ys) = false) := by show _ = _; exact decide_eq_false (HNE.out hxy)
          clear hxy
          go_wp2_with fail
          go_quiet (fail)
          go_wp2_with fail
          go_ret
          exact ⟨by rw [HX.out]; rfl, below_drewN bk.out _⟩
      | zero =>
        have hge : ¬ (k : Int) < (n : Int) := by omega
        have HX : Hid (decide (xs = ys) = true) := by
          show _ = _
          have := HT.out
          rw [List.take_of_length_le (by rw [HL.out]; omega), List.take_of_length_le (by rw [HL2.out]; omega)] at this
          exact decide_eq_true this
        have HK := Lib.hid hk
        clear hk
        go_wp2_with fail
        go_ret
        exact ⟨by rw [HX.out]; rfl, bk.out⟩
  · have hq : (((n : Int) != (m : Int)) = true) := by simp; omega
    have HX : Hid (decide (xs = ys) = false) := by
      show _ = _
      refine decide_eq_false fun e => hnm ?_
      rw [← HL.out, ← HL2.out, e]
    go_enter Tryd.func15, Tryd.ntmps15
    go_wp2_with fail
    go_ret
    exact ⟨by rw [HX.out]; rfl, Below.refl _ _⟩

/-- A copy: its cells lie in memory of the call's own. -/
def Copy_i (n : Nat) (xs : List Int) (w : World) (e : Ending) (w' : World) : Prop :=
  ∃ (A : Option Addr) (c : Nat), e = .returned (.slice A n c) ∧ w'.ownsRow w.heap.size 3 1 (.slice A n c) n (ints xs) ∧ n ≤ c ∧ c ≤ 9223372036854775807 ∧ Below w.heap.size w w'
set_option maxRecDepth 100000 in
set_option maxHeartbeats 2000000 in
theorem clone_i_none (c : Nat) (w : World) :
    Calls Tryd.prog 18 #[.slice none 0 c] w (Copy_i 0 [] w) := by
  have hq : ∀ w : World, (binOp .eql 28 (.slice none 0 c) (.slice none 0 0)).run Tryd.prog w = .ok (.bool true) w := fun w => Lib.run_eql_slice_nil w _ _ none 0 c 0 0 Tryd.underlying28
  go_enter Tryd.func18, Tryd.ntmps18
  go_wp2_with fail
  go_ret
  exact ⟨none, 0, rfl, World.ownsRow_nil _ _ _ _, Nat.le_refl _, by decide, Below.refl _ _⟩
set_option maxRecDepth 100000 in
set_option maxHeartbeats 2000000 in
theorem clone_i_some (ad : Addr) (n c : Nat) (zs : List Int) (hn : n ≤ 1000000) (w : World) (hR : RI w w.heap.size (some ad) n zs) :
    Calls Tryd.prog 18 #[.slice (some ad) n c] w (Copy_i n zs w) := by
  have hq : ∀ w : World, (binOp .eql 28 (.slice (some ad) n c) (.slice none 0 0)).run Tryd.prog w = .ok (.bool false) w := fun w => Lib.run_eql_slice_nil w _ _ (some ad) n c 0 0 Tryd.underlying28
  obtain ⟨i0, hi, hz0, hz1, hz2⟩ := info_parts i64_info
  go_enter Tryd.func18, Tryd.ntmps18
  go_wp2_with (at_builtin; refine wpList_append_any _ rfl (.tmp 5) (.tmp 6) 28 rfl w.heap.size 3 i0 _ 1 8 Tryd.underlying28 hi hz0 hz1 hz2 rfl (by decide) _ 0 [] rfl (own_new1 w 3) w.heap.size (some ad) n _ (ints zs) rfl (hR.alloc (Nat.le_refl _) _) (ints_one _) (by unfold maxLen; omega) (by omega) (by simp) ?_; intro v' w2 hown hgrow hat)
  rw [Nat.zero_add, List.nil_append] at hown
  have b2 : Below w.heap.size w w2 := ((Below.refl _ _).alloc (Nat.le_refl _) _).grown hgrow (by simp) (fun j hj => by have e : some w.heap.size = some j := hj; injection e with e; omega)
  obtain ⟨A', c', rfl, h1, h2⟩ := own_form1 hown
  go_ret
  exact ⟨A', c', rfl, hown, h1, h2, b2⟩
theorem clone_i (A : Option Addr) (n c : Nat) (zs : List Int) (hn : n ≤ 1000000) (w : World) (hR : RI w w.heap.size A n zs) :
    Calls Tryd.prog 18 #[.slice A n c] w (Copy_i n zs w) := by
  cases A with
  | some ad => exact clone_i_some ad n c zs hn w hR
  | none =>
    obtain rfl : n = 0 := by
      rcases Nat.eq_zero_or_pos n with h | h
      · exact h
      · obtain ⟨ad, e, _⟩ := hR.2 h; cases e
    obtain rfl : zs = [] := List.eq_nil_of_length_eq_zero hR.len
    exact clone_i_none c w

/-- What is owned reads so. -/
theorem RW.of_own {w : World} {base n c : Nat} {e : TypeId} {A : Option Addr} {ws : List Nat} (h : w.ownsRow base e 1 (.slice A n c) n (wcells ws)) : RW w w.heap.size A n ws := Reads.of_own h
theorem RI.of_own {w : World} {base n c : Nat} {e : TypeId} {A : Option Addr} {zs : List Int} (h : w.ownsRow base e 1 (.slice A n c) n (ints zs)) : RI w w.heap.size A n zs := Reads.of_own h
end Go.Proofs.YtpkpfnilfabkaaaDoor
