/- Layer graph: slices of edges compared and copied by the library; the document's SameEdges; few: contracts. -/
import Derived.Test.YticbgikbpafeoaaGe
import Derived.Lib.SliceRun
namespace Go.Proofs.Yticbgikbpafeoaa
open Go.RowKit

theorem below_drewN {B : Nat} {a w : World} (h : Below B a w) (n : Nat) : Below B a (w.drewN n) := ⟨h.os, h.tape, h.output, h.size, h.block⟩
theorem drew_below {B : Nat} {a w : World} (h : Below B a w) : Below B a w.drew := h.drew
/-- An edge of a slice, cell by cell. -/
theorem ed_at {w : World} {B n k : Nat} {A : Option Addr} {p : Ed} {ps : List Ed} (h : Reads w B 3 A n (cellsE ps)) (hp : ps[k]? = some p) :
    ∃ b o, A = some ⟨b, o, none⟩ ∧ b < B ∧ w.cell? ⟨b, o + k * 3, none⟩ = some (.int .i64 p.1) ∧ w.cell? ⟨b, o + k * 3 + 1, none⟩ = some (.int .i64 p.2.1) ∧ w.cell? ⟨b, o + k * 3 + 2, none⟩ = some (.int .i64 p.2.2) := by
  have hk := (List.getElem?_eq_some_iff.1 hp).1
  have hl := h.1
  rw [cellsE_length] at hl
  obtain ⟨ad, hA, hb, hc⟩ := h.2 (by omega)
  obtain ⟨h0, h1, h2⟩ := cellsE_at hp
  have g0 := hc _ _ h0
  have g1 := hc _ _ h1
  have g2 := hc _ _ h2
  obtain ⟨b, o, spot⟩ := ad
  have hspot : spot = none := by
    have h00 := hc 0 _ (List.getElem?_eq_getElem (show 0 < (cellsE ps).length by rw [cellsE_length]; omega))
    simpa [Addr.add] using World.cell?_spot h00
  subst hspot
  rw [Go.WideShapes.add_plain] at g0 g1 g2
  exact ⟨b, o, hA, hb, g0, by rw [Nat.add_assoc]; exact g1, by rw [Nat.add_assoc]; exact g2⟩
theorem reads_len {w : World} {B n : Nat} {A : Option Addr} {ps : List Ed} (h : Reads w B 3 A n (cellsE ps)) : ps.length = n := by
  have := h.1; rw [cellsE_length] at this; omega
theorem Own.reads {B h n : Nat} {xs : List Ed} {w : World} (o : Own B h n xs w) : Reads w w.heap.size 3 (some ⟨h, 0, none⟩) n (cellsE xs) :=
  ⟨by rw [cellsE_length, o.2.1], fun _ => ⟨_, rfl, o.2.2.lt, fun j u hu => by
    rw [Go.WideShapes.add_plain, o.2.2.cell, Nat.zero_add, List.getElem?_toArray]; exact hu⟩⟩
theorem reads_take {w : World} {B size n k : Nat} {A : Option Addr} {xs : List Value} (h : Reads w B size A n xs) (hk : k ≤ n) : Reads w B size A k (xs.take (k * size)) :=
  ⟨by rw [List.length_take, h.1]; exact Nat.min_eq_left (Nat.mul_le_mul_right _ hk), fun hn => by
    obtain ⟨ad, hA, hb, hc⟩ := h.2 (by omega)
    exact ⟨ad, hA, hb, fun j u hu => hc j u (by
      rw [List.getElem?_take] at hu
      split at hu
      · exact hu
      · cases hu)⟩⟩


theorem bool_ne {a b : Ed} (h : a ≠ b) : (a.1 == b.1) = false ∨ ((a.1 == b.1) = true ∧ (a.2.1 == b.2.1) = false) ∨ ((a.1 == b.1) = true ∧ (a.2.1 == b.2.1) = true ∧ (a.2.2 == b.2.2) = false) := by
  obtain ⟨x, y, z⟩ := a
  obtain ⟨u, v, t⟩ := b
  by_cases h1 : x = u
  · by_cases h2 : y = v
    · refine .inr (.inr ⟨by simpa using h1, by simpa using h2, ?_⟩)
      simpa using fun h3 => h (by rw [h1, h2, h3])
    · exact .inr (.inl ⟨by simpa using h1, by simpa using h2⟩)
  · exact .inl (by simpa using h1)

set_option maxRecDepth 100000 in
set_option maxHeartbeats 4000000 in
theorem equal_any (A A2 : Option Addr) (n m c c2 : Nat) (xs ys : List Ed) (hn : n ≤ 1000000) (w : World) (hR : Reads w w.heap.size 3 A n (cellsE xs)) (hR2 : Reads w w.heap.size 3 A2 m (cellsE ys)) :
    Calls Try.prog 18 #[.slice A n c, .slice A2 m c2] w fun e w' => e = .returned (.bool (decide (xs = ys))) ∧ Below w.heap.size w w' := by
  have HR := Lib.hid hR
  have HR2 := Lib.hid hR2
  have HL := Lib.hid (reads_len hR)
  have HL2 := Lib.hid (reads_len hR2)
  clear hR hR2
  by_cases hnm : n = m
  · subst hnm
    go_enter Try.func18, Try.ntmps18
    go_wp2_with fail
    go_loopg [13] n (fun gg i wr => ∃ k : Nat, k + gg = n ∧ i = .int .i64 k ∧ Hid (xs.take k = ys.take k) ∧ Hid (Below w.heap.size w wr))
    case atStart => exact ⟨0, by omega, rfl, by simp [Hid], Below.refl _ _⟩
    case round =>
      obtain ⟨k, hk, rfl, ht, bk⟩ := hrel
      cases gk with
      | succ g2 =>
        have hlt : (k : Int) < (n : Int) := by omega
        obtain ⟨p, hp⟩ : ∃ p, xs[k]? = some p := ⟨xs[k]'(by rw [HL.out]; omega), List.getElem?_eq_getElem _⟩
        obtain ⟨q, hq⟩ : ∃ q, ys[k]? = some q := ⟨ys[k]'(by rw [HL2.out]; omega), List.getElem?_eq_getElem _⟩
        obtain ⟨b, o, rfl, hb, g0, g1, g2'⟩ := ed_at (HR.out.below bk.out) hp
        obtain ⟨b2, o2, rfl, hb2, x0, x1, x2⟩ := ed_at (HR2.out.below bk.out) hq
        have HK := Lib.hid hk
        by_cases hpq : p = q
        · subst hpq
          have HT : Hid (xs.take (k + 1) = ys.take (k + 1)) := by
            show _ = _
            rw [List.take_add_one, List.take_add_one, ht.out, hp, hq]
          clear hp hq hk
          go_wp2_with fail
          go_quiet (fail)
          go_wp2_with fail
          go_roundg g2
          case measure => omega
          case rel => exact ⟨k + 1, by have := HK.out; omega, by go_num, HT, below_drewN bk.out _⟩
        · have HD : Hid (decide (xs = ys) = false) := by
            show _ = _
            rw [decide_eq_false_iff_not]
            rintro rfl
            rw [hp] at hq
            injection hq with hq
            exact hpq hq
          have hc := bool_ne hpq
          clear hp hq hk hpq
          rcases hc with h1 | ⟨h1, h2⟩ | ⟨h1, h2, h3⟩
          all_goals
            go_wp2_with fail
            go_quiet (fail)
            go_wp2_with fail
            go_ret
            exact ⟨by rw [HD.out]; rfl, below_drewN bk.out _⟩
      | zero =>
        have hge : ¬ (k : Int) < (n : Int) := by omega
        have HD : Hid (decide (xs = ys) = true) := by
          show _ = _
          rw [decide_eq_true_eq]
          have := ht.out
          rwa [List.take_of_length_le (by rw [HL.out]; omega), List.take_of_length_le (by rw [HL2.out]; omega)] at this
        have HK := Lib.hid hk
        clear hk
        go_wp2_with fail
        go_ret
        exact ⟨by rw [HD.out]; rfl, bk.out⟩
  · have hb : ((n : Int) != (m : Int)) = true := by simp; omega
    have HD : Hid (decide (xs = ys) = false) := by
      show _ = _
      rw [decide_eq_false_iff_not]
      rintro rfl
      exact hnm (HL.out.symm.trans HL2.out)
    clear hnm
    go_enter Try.func18, Try.ntmps18
    go_wp2_with fail
    go_ret
    exact ⟨by rw [HD.out]; rfl, Below.refl _ _⟩
set_option maxRecDepth 100000 in
set_option maxHeartbeats 4000000 in
theorem rsameE_any (A A2 : Option Addr) (n m c c2 : Nat) (xs ys : List Ed) (hn : n ≤ 1000000) (w : World) (hR : Reads w w.heap.size 3 A n (cellsE xs)) (hR2 : Reads w w.heap.size 3 A2 m (cellsE ys)) :
    Calls Try.prog 45 #[.slice A n c, .slice A2 m c2] w fun e w' => e = .returned (.bool (decide (xs = ys))) ∧ Below w.heap.size w w' := by
  have HR := Lib.hid hR
  have HR2 := Lib.hid hR2
  have HL := Lib.hid (reads_len hR)
  have HL2 := Lib.hid (reads_len hR2)
  clear hR hR2
  by_cases hnm : n = m
  · subst hnm
    go_enter Try.func45, Try.ntmps45
    go_wp2_with fail
    go_loopg [13] n (fun gg i wr => ∃ k : Nat, k + gg = n ∧ i = .int .i64 k ∧ Hid (xs.take k = ys.take k) ∧ Hid (Below w.heap.size w wr))
    case atStart => exact ⟨0, by omega, rfl, by simp [Hid], Below.refl _ _⟩
    case round =>
      obtain ⟨k, hk, rfl, ht, bk⟩ := hrel
      cases gk with
      | succ g2 =>
        have hlt : (k : Int) < (n : Int) := by omega
        obtain ⟨p, hp⟩ : ∃ p, xs[k]? = some p := ⟨xs[k]'(by rw [HL.out]; omega), List.getElem?_eq_getElem _⟩
        obtain ⟨q, hq⟩ : ∃ q, ys[k]? = some q := ⟨ys[k]'(by rw [HL2.out]; omega), List.getElem?_eq_getElem _⟩
        obtain ⟨b, o, rfl, hb, g0, g1, g2'⟩ := ed_at (HR.out.below bk.out) hp
        obtain ⟨b2, o2, rfl, hb2, x0, x1, x2⟩ := ed_at (HR2.out.below bk.out) hq
        have HK := Lib.hid hk
        by_cases hpq : p = q
        · subst hpq
          have HT : Hid (xs.take (k + 1) = ys.take (k + 1)) := by
            show _ = _
            rw [List.take_add_one, List.take_add_one, ht.out, hp, hq]
          clear hp hq hk
          go_wp2_with fail
          go_quiet (fail)
          go_wp2_with fail
          go_roundg g2
          case measure => omega
          case rel => exact ⟨k + 1, by have := HK.out; omega, by go_num, HT, below_drewN bk.out _⟩
        · have HD : Hid (decide (xs = ys) = false) := by
            show _ = _
            rw [decide_eq_false_iff_not]
            rintro rfl
            rw [hp] at hq
            injection hq with hq
            exact hpq hq
          have hc := bool_ne hpq
          clear hp hq hk hpq
          rcases hc with h1 | ⟨h1, h2⟩ | ⟨h1, h2, h3⟩
          all_goals
            go_wp2_with fail
            go_quiet (fail)
            go_wp2_with fail
            go_ret
            exact ⟨by rw [HD.out]; rfl, below_drewN bk.out _⟩
      | zero =>
        have hge : ¬ (k : Int) < (n : Int) := by omega
        have HD : Hid (decide (xs = ys) = true) := by
          show _ = _
          rw [decide_eq_true_eq]
          have := ht.out
          rwa [List.take_of_length_le (by rw [HL.out]; omega), List.take_of_length_le (by rw [HL2.out]; omega)] at this
        have HK := Lib.hid hk
        clear hk
        go_wp2_with fail
        go_ret
        exact ⟨by rw [HD.out]; rfl, bk.out⟩
  · have hb : ((n : Int) != (m : Int)) = true := by simp; omega
    have HD : Hid (decide (xs = ys) = false) := by
      show _ = _
      rw [decide_eq_false_iff_not]
      rintro rfl
      exact hnm (HL.out.symm.trans HL2.out)
    clear hnm
    go_enter Try.func45, Try.ntmps45
    go_wp2_with fail
    go_ret
    exact ⟨by rw [HD.out]; rfl, Below.refl _ _⟩

theorem own_prefix {w : World} {base : Nat} {e : TypeId} {size : Nat} {A : Option Addr} {n c k : Nat} {xs : List Value} (h : w.ownsRow base e size (.slice A n c) n xs) (hk : k ≤ n) : w.ownsRow base e size (.slice A k c) k (xs.take (k * size)) := by
  refine ⟨by rw [List.length_take, h.1]; exact Nat.min_eq_left (Nat.mul_le_mul_right _ hk), ?_⟩
  rcases h.2 with ⟨hv, h0⟩ | ⟨g, cap, cur, hv, hb, hg, hnc, hcm, hcs, ht⟩
  · injection hv with h1 h2 h3
    exact .inl ⟨by rw [h1, h3, show k = 0 by omega], by omega⟩
  · injection hv with h1 h2 h3
    refine .inr ⟨g, cap, cur, by rw [h1, h3], hb, hg, by omega, hcm, hcs, ?_⟩
    rw [← ht, List.take_take, Nat.min_eq_left (Nat.mul_le_mul_right _ hk)]
theorem own_below2 {w w' : World} {B base : Nat} {e : TypeId} {size : Nat} {v : Value} {n : Nat} {xs : List Value} (h : w.ownsRow base e size v n xs) (hb : Below B w w') (hB : w.heap.size ≤ B) : w'.ownsRow base e size v n xs := by
  refine ⟨h.1, ?_⟩
  rcases h.2 with hn | ⟨g, cap, cur, hv, hbg, hg, rest⟩
  · exact .inl hn
  · refine .inr ⟨g, cap, cur, hv, hbg, ?_, rest⟩
    have hlt : g < w.heap.size := (Array.getElem?_eq_some_iff.1 hg).1
    rw [hb.block g (by omega)]
    exact hg
theorem own_base {w : World} {base base' : Nat} {e : TypeId} {size : Nat} {v : Value} {n : Nat} {xs : List Value} (h : w.ownsRow base e size v n xs) (hb : base' ≤ base) : w.ownsRow base' e size v n xs := by
  refine ⟨h.1, ?_⟩
  rcases h.2 with hn | ⟨g, cap, cur, hv, hbg, rest⟩
  · exact .inl hn
  · exact .inr ⟨g, cap, cur, hv, by omega, rest⟩

/-- A copy: its cells lie in memory of the call's own. -/
def CopyIs (n : Nat) (ps : List Ed) (w : World) (e : Ending) (w' : World) : Prop :=
  ∃ (A : Option Addr) (c : Nat), e = .returned (.slice A n c) ∧ w'.ownsRow w.heap.size 35 3 (.slice A n c) n (cellsE ps) ∧ n ≤ c ∧ c ≤ 9223372036854775807 ∧ Below w.heap.size w w'
theorem own_new3 (w : World) (t : TypeId) : (w.alloc (.cells #[] t)).ownsRow w.heap.size t 3 (.slice (some ⟨w.heap.size, 0, none⟩) 0 0) 0 [] :=
  ⟨rfl, .inr ⟨w.heap.size, 0, #[], rfl, Nat.le_refl _, by show (w.heap.push _)[w.heap.size]? = _; simp, Nat.le_refl _, Nat.zero_le _, rfl, rfl⟩⟩
theorem own_form2 {w : World} {base : Nat} {e : TypeId} {size : Nat} {v : Value} {n : Nat} {xs : List Value} (h : w.ownsRow base e size v n xs) : ∃ A c, v = .slice A n c ∧ n ≤ c ∧ c ≤ 9223372036854775807 := by
  rcases h.2 with ⟨rfl, rfl⟩ | ⟨g, cap, cur, rfl, _, _, hnc, hcm, _⟩
  · exact ⟨_, _, rfl, Nat.le_refl _, by decide⟩
  · exact ⟨_, _, rfl, hnc, by unfold maxLen at hcm; omega⟩

set_option maxRecDepth 100000 in
set_option maxHeartbeats 2000000 in
theorem cloneP_none (w : World) :
    Calls Try.prog 33 #[.slice none 0 0] w (CopyIs 0 [] w) := by
  have hq : ∀ w : World, (binOp .eql 22 (.slice none 0 0) (.slice none 0 0)).run Try.prog w = .ok (.bool true) w := fun w => Lib.run_eql_slice_nil w _ _ none 0 0 0 0 Try.underlying22
  go_enter Try.func33, Try.ntmps33
  go_wp2_with fail
  go_ret
  exact ⟨none, 0, rfl, World.ownsRow_nil _ _ _ _, Nat.le_refl _, by decide, Below.refl _ _⟩

set_option maxRecDepth 100000 in
set_option maxHeartbeats 2000000 in
theorem cloneP_some (ad : Addr) (n c : Nat) (zs : List Ed) (hn : n ≤ 1000000) (w : World) (hR : Reads w w.heap.size 3 (some ad) n (cellsE zs)) :
    Calls Try.prog 33 #[.slice (some ad) n c] w (CopyIs n zs w) := by
  have hq : ∀ w : World, (binOp .eql 22 (.slice (some ad) n c) (.slice none 0 0)).run Try.prog w = .ok (.bool false) w := fun w => Lib.run_eql_slice_nil w _ _ (some ad) n c 0 0 Try.underlying22
  obtain ⟨i0, hi, hz0, hz1, hz2⟩ := info_parts pair_info
  go_enter Try.func33, Try.ntmps33
  go_wp2_with (at_builtin; refine wpList_append_any _ rfl (.tmp 5) (.tmp 6) 22 rfl w.heap.size 35 i0 _ 3 24 Try.underlying22 hi hz0 hz1 hz2 rfl (by decide) _ 0 [] rfl (own_new3 w 35) w.heap.size (some ad) n _ (cellsE zs) rfl (hR.alloc (Nat.le_refl _) _) (cellsE_one _) (by unfold maxLen; omega) (by omega) (by simp) ?_; intro v' w2 hown hgrow hat)
  rw [Nat.zero_add, List.nil_append] at hown
  have b2 : Below w.heap.size w w2 := ((Below.refl _ _).alloc (Nat.le_refl _) _).grown hgrow (by simp) (fun j hj => by have e : some w.heap.size = some j := hj; injection e with e; omega)
  obtain ⟨A', c', rfl, h1, h2⟩ := own_form2 hown
  go_ret
  exact ⟨A', c', rfl, hown, h1, h2, b2⟩

theorem clone_any (A : Option Addr) (n c : Nat) (zs : List Ed) (hn : n ≤ 1000000) (hc : A = none → c = 0) (hnc : n ≤ c) (w : World) (hR : Reads w w.heap.size 3 A n (cellsE zs)) :
    Calls Try.prog 33 #[.slice A n c] w (CopyIs n zs w) := by
  cases A with
  | some ad => exact cloneP_some ad n c zs hn w hR
  | none =>
    have h0 := hc rfl
    subst h0
    obtain rfl : n = 0 := by omega
    obtain rfl : zs = [] := List.eq_nil_of_length_eq_zero (reads_len hR)
    exact cloneP_none w

set_option maxRecDepth 100000 in
set_option maxHeartbeats 2000000 in
theorem few_any (A : Option Addr) (n c : Nat) (zs : List Ed) (hc : A = none → c = 0) (hnc : n ≤ c) (hcm : c ≤ 9223372036854775807) (w : World) (hR : Reads w w.heap.size 3 A n (cellsE zs)) :
    Calls Try.prog 13 #[.slice A n c] w (CopyIs (min n 80) (zs.take 80) w) := by
  have hl := reads_len hR
  by_cases h80 : n ≤ 80
  · have hk : (n : Int) ≤ 80 := by omega
    have HC := Lib.hid (clone_any A n c zs (by omega) hc hnc w hR)
    have hsl := pr_slice_h A n c n n rfl hnc
    have HE : Hid (CopyIs (min n 80) (zs.take 80) w = CopyIs n zs w) := by
      show _ = _
      rw [Nat.min_eq_left h80, List.take_of_length_le (by omega)]
    clear hl hR hc
    go_enter Try.func13, Try.ntmps13
    go_wp2_with fail
    refine HC.out.mono ?_
    rintro e w2 ⟨A2, c2, rfl, h1, h2, h3, h4⟩
    have HF := Lib.hid (And.intro h1 (And.intro h2 (And.intro h3 h4)))
    clear h1 h2 h3 h4 HC hsl
    go_wp2_with fail
    go_ret
    rw [HE.out]
    exact ⟨A2, c2, rfl, HF.out⟩
  · have hk : ¬ (n : Int) ≤ 80 := by omega
    have hk2 : (80 : Int) < (n : Int) := by omega
    have HC := Lib.hid (clone_any A 80 c (zs.take 80) (by omega) hc (by omega) w (by rw [cellsE_take]; exact reads_take hR (by omega)))
    have hsl := pr_slice_h A n c 80 80 rfl (by omega)
    have HE : Hid (CopyIs (min n 80) (zs.take 80) w = CopyIs 80 (zs.take 80) w) := by
      show _ = _
      rw [Nat.min_eq_right (by omega)]
    clear hl hR hc
    go_enter Try.func13, Try.ntmps13
    go_wp2_with fail
    refine HC.out.mono ?_
    rintro e w2 ⟨A2, c2, rfl, h1, h2, h3, h4⟩
    have HF := Lib.hid (And.intro h1 (And.intro h2 (And.intro h3 h4)))
    clear h1 h2 h3 h4 HC hsl
    go_wp2_with fail
    go_ret
    rw [HE.out]
    exact ⟨A2, c2, rfl, HF.out⟩

end Go.Proofs.Yticbgikbpafeoaa
