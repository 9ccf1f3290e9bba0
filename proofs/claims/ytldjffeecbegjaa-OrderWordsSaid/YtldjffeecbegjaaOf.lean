/- Layer order: slices of pairs compared, copied and asked for their order by the library; few: contracts. -/
import Derived.Test.YtldjffeecbegjaaOe
import Derived.Lib.SliceRun
namespace Go.Proofs.Ytldjffeecbegjaa
open Go.RowKit

theorem below_drewN {B : Nat} {a w : World} (h : Below B a w) (n : Nat) : Below B a (w.drewN n) := ⟨h.os, h.tape, h.output, h.size, h.block⟩
/-- A pair of a slice, cell by cell. -/
theorem pr_at {w : World} {B n k : Nat} {A : Option Addr} {p : Pr} {ps : List Pr} (h : Reads w B 2 A n (cellsP ps)) (hp : ps[k]? = some p) :
    ∃ b o, A = some ⟨b, o, none⟩ ∧ b < B ∧ w.cell? ⟨b, o + k * 2, none⟩ = some (.int .i64 p.1) ∧ w.cell? ⟨b, o + k * 2 + 1, none⟩ = some (.int .i64 p.2) := by
  have hk := (List.getElem?_eq_some_iff.1 hp).1
  have hl := h.1
  rw [cellsP_length] at hl
  obtain ⟨ad, hA, hb, hc⟩ := h.2 (by omega)
  obtain ⟨h0, h1⟩ := cellsP_at hp
  have g0 := hc _ _ h0
  have g1 := hc _ _ h1
  obtain ⟨b, o, spot⟩ := ad
  have hspot : spot = none := by
    have h00 := hc 0 _ (List.getElem?_eq_getElem (show 0 < (cellsP ps).length by rw [cellsP_length]; omega))
    simpa [Addr.add] using World.cell?_spot h00
  subst hspot
  rw [Go.WideShapes.add_plain] at g0 g1
  exact ⟨b, o, hA, hb, g0, by rw [Nat.add_assoc]; exact g1⟩
theorem reads_len {w : World} {B n : Nat} {A : Option Addr} {ps : List Pr} (h : Reads w B 2 A n (cellsP ps)) : ps.length = n := by
  have := h.1; rw [cellsP_length] at this; omega
theorem Own.reads {B h n : Nat} {xs : List Pr} {w : World} (o : Own B h n xs w) : Reads w w.heap.size 2 (some ⟨h, 0, none⟩) n (cellsP xs) :=
  ⟨by rw [cellsP_length, o.2.1], fun _ => ⟨_, rfl, o.2.2.lt, fun j u hu => by
    rw [Go.WideShapes.add_plain, o.2.2.cell, Nat.zero_add, List.getElem?_toArray]; exact hu⟩⟩
theorem reads_take {w : World} {B size n k : Nat} {A : Option Addr} {xs : List Value} (h : Reads w B size A n xs) (hk : k ≤ n) : Reads w B size A k (xs.take (k * size)) :=
  ⟨by rw [List.length_take, h.1]; exact Nat.min_eq_left (Nat.mul_le_mul_right _ hk), fun hn => by
    obtain ⟨ad, hA, hb, hc⟩ := h.2 (by omega)
    exact ⟨ad, hA, hb, fun j u hu => hc j u (by
      rw [List.getElem?_take] at hu
      split at hu
      · exact hu
      · cases hu)⟩⟩

set_option maxRecDepth 100000 in
set_option maxHeartbeats 2000000 in
theorem equalP_same (A A2 : Option Addr) (n c c2 : Nat) (zs : List Pr) (hn : n ≤ 1000000) (w : World) (hR : Reads w w.heap.size 2 A n (cellsP zs)) (hR2 : Reads w w.heap.size 2 A2 n (cellsP zs)) :
    Calls Try.prog 12 #[.slice A n c, .slice A2 n c2] w fun e w' => e = .returned (.bool true) ∧ Below w.heap.size w w' := by
  have HR := Lib.hid hR
  have HR2 := Lib.hid hR2
  have HL := Lib.hid (reads_len hR)
  clear hR hR2
  go_enter Try.func12, Try.ntmps12
  go_wp2_with fail
  go_loopg [13] n (fun gg i wr => ∃ k : Nat, k + gg = n ∧ i = .int .i64 k ∧ Hid (Below w.heap.size w wr))
  case atStart => exact ⟨0, by omega, rfl, Below.refl _ _⟩
  case round =>
    obtain ⟨k, hk, rfl, bk⟩ := hrel
    cases gk with
    | succ g2 =>
      have hlt : (k : Int) < (n : Int) := by omega
      obtain ⟨t, ht⟩ : ∃ t, zs[k]? = some t := ⟨zs[k]'(by rw [HL.out]; omega), List.getElem?_eq_getElem _⟩
      obtain ⟨b, o, rfl, hb, g0, g1⟩ := pr_at (HR.out.below bk.out) ht
      obtain ⟨b2, o2, rfl, hb2, x0, x1⟩ := pr_at (HR2.out.below bk.out) ht
      have HK := Lib.hid hk
      clear ht hk
      go_wp2_with fail
      go_quiet (fail)
      go_wp2_with fail
      go_roundg g2
      case measure => omega
      case rel => exact ⟨k + 1, by have := HK.out; omega, by go_num, below_drewN bk.out _⟩
    | zero =>
      have hge : ¬ (k : Int) < (n : Int) := by omega
      have HK := Lib.hid hk
      clear hk
      go_wp2_with fail
      go_ret
      exact ⟨rfl, bk.out⟩

/-- A copy: its cells lie in memory of the call's own. -/
def CopyIs (n : Nat) (ps : List Pr) (w : World) (e : Ending) (w' : World) : Prop :=
  ∃ (A : Option Addr) (c : Nat), e = .returned (.slice A n c) ∧ w'.ownsRow w.heap.size 27 2 (.slice A n c) n (cellsP ps) ∧ n ≤ c ∧ c ≤ 9223372036854775807 ∧ Below w.heap.size w w'
theorem own_new2 (w : World) (t : TypeId) : (w.alloc (.cells #[] t)).ownsRow w.heap.size t 2 (.slice (some ⟨w.heap.size, 0, none⟩) 0 0) 0 [] :=
  ⟨rfl, .inr ⟨w.heap.size, 0, #[], rfl, Nat.le_refl _, by show (w.heap.push _)[w.heap.size]? = _; simp, Nat.le_refl _, Nat.zero_le _, rfl, rfl⟩⟩
theorem own_form2 {w : World} {base : Nat} {e : TypeId} {size : Nat} {v : Value} {n : Nat} {xs : List Value} (h : w.ownsRow base e size v n xs) : ∃ A c, v = .slice A n c ∧ n ≤ c ∧ c ≤ 9223372036854775807 := by
  rcases h.2 with ⟨rfl, rfl⟩ | ⟨g, cap, cur, rfl, _, _, hnc, hcm, _⟩
  · exact ⟨_, _, rfl, Nat.le_refl _, by decide⟩
  · exact ⟨_, _, rfl, hnc, by unfold maxLen at hcm; omega⟩

set_option maxRecDepth 100000 in
set_option maxHeartbeats 2000000 in
theorem cloneP_none (w : World) :
    Calls Try.prog 35 #[.slice none 0 0] w (CopyIs 0 [] w) := by
  have hq : ∀ w : World, (binOp .eql 22 (.slice none 0 0) (.slice none 0 0)).run Try.prog w = .ok (.bool true) w := fun w => Lib.run_eql_slice_nil w _ _ none 0 0 0 0 Try.underlying22
  go_enter Try.func35, Try.ntmps35
  go_wp2_with fail
  go_ret
  exact ⟨none, 0, rfl, World.ownsRow_nil _ _ _ _, Nat.le_refl _, by decide, Below.refl _ _⟩

set_option maxRecDepth 100000 in
set_option maxHeartbeats 2000000 in
theorem cloneP_some (ad : Addr) (n c : Nat) (zs : List Pr) (hn : n ≤ 1000000) (w : World) (hR : Reads w w.heap.size 2 (some ad) n (cellsP zs)) :
    Calls Try.prog 35 #[.slice (some ad) n c] w (CopyIs n zs w) := by
  have hq : ∀ w : World, (binOp .eql 22 (.slice (some ad) n c) (.slice none 0 0)).run Try.prog w = .ok (.bool false) w := fun w => Lib.run_eql_slice_nil w _ _ (some ad) n c 0 0 Try.underlying22
  obtain ⟨i0, hi, hz0, hz1, hz2⟩ := info_parts pair_info
  go_enter Try.func35, Try.ntmps35
  go_wp2_with (at_builtin; refine wpList_append_any _ rfl (.tmp 5) (.tmp 6) 22 rfl w.heap.size 27 i0 _ 2 16 Try.underlying22 hi hz0 hz1 hz2 rfl (by decide) _ 0 [] rfl (own_new2 w 27) w.heap.size (some ad) n _ (cellsP zs) rfl (hR.alloc (Nat.le_refl _) _) (cellsP_one _) (by unfold maxLen; omega) (by omega) (by simp) ?_; intro v' w2 hown hgrow hat)
  rw [Nat.zero_add, List.nil_append] at hown
  have b2 : Below w.heap.size w w2 := ((Below.refl _ _).alloc (Nat.le_refl _) _).grown hgrow (by simp) (fun j hj => by have e : some w.heap.size = some j := hj; injection e with e; omega)
  obtain ⟨A', c', rfl, h1, h2⟩ := own_form2 hown
  go_ret
  exact ⟨A', c', rfl, hown, h1, h2, b2⟩

theorem clone_any (A : Option Addr) (n c : Nat) (zs : List Pr) (hn : n ≤ 1000000) (hc : A = none → c = 0) (hnc : n ≤ c) (w : World) (hR : Reads w w.heap.size 2 A n (cellsP zs)) :
    Calls Try.prog 35 #[.slice A n c] w (CopyIs n zs w) := by
  cases A with
  | some ad => exact cloneP_some ad n c zs hn w hR
  | none =>
    have h0 := hc rfl
    subst h0
    obtain rfl : n = 0 := by omega
    obtain rfl : zs = [] := List.eq_nil_of_length_eq_zero (reads_len hR)
    exact cloneP_none w

set_option maxRecDepth 100000 in
set_option maxHeartbeats 2000000 in
theorem few_any (A : Option Addr) (n c : Nat) (zs : List Pr) (hc : A = none → c = 0) (hnc : n ≤ c) (hcm : c ≤ 9223372036854775807) (w : World) (hR : Reads w w.heap.size 2 A n (cellsP zs)) :
    Calls Try.prog 9 #[.slice A n c] w (CopyIs (min n 60) (zs.take 60) w) := by
  have hl := reads_len hR
  by_cases h60 : n ≤ 60
  · have hk : (n : Int) ≤ 60 := by omega
    have HC := Lib.hid (clone_any A n c zs (by omega) hc hnc w hR)
    have hsl := pr_slice_h A n c n n rfl hnc
    have HE : Hid (CopyIs (min n 60) (zs.take 60) w = CopyIs n zs w) := by
      show _ = _
      rw [Nat.min_eq_left h60, List.take_of_length_le (by omega)]
    clear hl hR hc
    go_enter Try.func9, Try.ntmps9
    go_wp2_with fail
    refine HC.out.mono ?_
    rintro e w2 ⟨A2, c2, rfl, h1, h2, h3, h4⟩
    have HF := Lib.hid (And.intro h1 (And.intro h2 (And.intro h3 h4)))
    clear h1 h2 h3 h4 HC hsl
    go_wp2_with fail
    go_ret
    rw [HE.out]
    exact ⟨A2, c2, rfl, HF.out⟩
  · have hk : ¬ (n : Int) ≤ 60 := by omega
    have hk2 : (60 : Int) < (n : Int) := by omega
    have HC := Lib.hid (clone_any A 60 c (zs.take 60) (by omega) hc (by omega) w (by rw [cellsP_take]; exact reads_take hR (by omega)))
    have hsl := pr_slice_h A n c 60 60 rfl (by omega)
    have HE : Hid (CopyIs (min n 60) (zs.take 60) w = CopyIs 60 (zs.take 60) w) := by
      show _ = _
      rw [Nat.min_eq_right (by omega)]
    clear hl hR hc
    go_enter Try.func9, Try.ntmps9
    go_wp2_with fail
    refine HC.out.mono ?_
    rintro e w2 ⟨A2, c2, rfl, h1, h2, h3, h4⟩
    have HF := Lib.hid (And.intro h1 (And.intro h2 (And.intro h3 h4)))
    clear h1 h2 h3 h4 HC hsl
    go_wp2_with fail
    go_ret
    rw [HE.out]
    exact ⟨A2, c2, rfl, HF.out⟩

/-- A row is in order. -/
theorem drew_below {B : Nat} {a w : World} (h : Below B a w) : Below B a w.drew := h.drew

set_option maxRecDepth 100000 in
set_option maxHeartbeats 2000000 in
theorem sortedP_yes (A : Option Addr) (n c : Nat) (zs : List Pr) (hn : n ≤ 1000000) (hz : InOrder ltP zs) (w : World) (hR : Reads w w.heap.size 2 A n (cellsP zs)) :
    Calls Try.prog 23 #[.slice A n c, .func (.func 11) #[] #[]] w fun e w' => e = .returned (.bool true) ∧ Below w.heap.size w w' := by
  have HR := Lib.hid hR
  have HL := Lib.hid (reads_len hR)
  have HZ := Lib.hid hz
  clear hR hz
  go_enter Try.func23, Try.ntmps23
  go_wp2_with fail
  go_loopg [5] n (fun gg i wr => ∃ z : Int, z = (n : Int) - 1 - ((n - gg : Nat) : Int) ∧ gg ≤ n ∧ i = .int .i64 z ∧ Hid (Below w.heap.size w wr))
  case atStart => exact ⟨_, by omega, Nat.le_refl _, rfl, Below.refl _ _⟩
  case round =>
    obtain ⟨z, hzz, hgn, rfl, bk⟩ := hrel
    by_cases hpos : 0 < z
    · obtain ⟨k, hk⟩ : ∃ k : Nat, z = ((k + 1 : Nat) : Int) := ⟨(z - 1).toNat, by omega⟩
      subst hk
      have hkn : k + 1 < n := by omega
      obtain ⟨q, hq⟩ : ∃ q, zs[k + 1]? = some q := ⟨zs[k + 1]'(by rw [HL.out]; omega), List.getElem?_eq_getElem _⟩
      obtain ⟨p, hp⟩ : ∃ p, zs[k]? = some p := ⟨zs[k]'(by rw [HL.out]; omega), List.getElem?_eq_getElem _⟩
      have hord : ¬ cmpN q.1 p.1 < 0 := by
        obtain ⟨i1, e1⟩ := List.getElem?_eq_some_iff.1 hq
        obtain ⟨i2, e2⟩ := List.getElem?_eq_some_iff.1 hp
        have := List.pairwise_iff_getElem.1 HZ.out k (k + 1) i2 i1 (by omega)
        rw [e1, e2] at this
        rw [cmpN_neg]
        simpa [ltP] using this
      obtain ⟨b, o, rfl, hb, g0, g1⟩ := pr_at (HR.out.below bk.out) hq
      obtain ⟨b2, o2, hA2, hb2, x0, x1⟩ := pr_at (HR.out.below bk.out) hp
      injection hA2 with hA2
      injection hA2 with e1 e2 _
      subst e1; subst e2
      have HG := Lib.hid hzz
      clear hq hp hzz
      have hs1 : IntKind.i64.wrap (k : Int) = (k : Int) := by rw [IntKind.wrap_i64]; omega
      have hi1 : (0 : Int) ≤ (k : Int) + 1 := by omega
      have ht1 : ((k : Int) + 1).toNat = k + 1 := by omega
      have hi2 : (k : Int) + 1 < (n : Int) := by omega
      have hi3 : (0 : Int) ≤ (k : Int) := by omega
      have hi4 : (k : Int) < (n : Int) := by omega
      go_wp2_with fail
      go_still_tail 10, (by kernel_rfl)
      change wpList _ _ _ _ _ wr.drew
      have HB : Hid (Below w.heap.size w wr.drew) := drew_below bk.out
      clear bk g0 g1 x0 x1 hs1 ht1
      generalize wr.drew = wd at *
      go_wp2_with fail
      refine (keys_any q p _).mono ?_
      rintro e w2 ⟨rfl, b2⟩
      have HB2 : Hid (Below w.heap.size w w2) := HB.out.trans (b2.mono HB.out.size)
      clear b2
      generalize cmpN q.1 p.1 = v at *
      go_wp2_with fail
      go_roundg (gk - 1)
      case measure => have := HG.out; omega
      case rel => exact ⟨k, by have := HG.out; omega, by omega, by go_num, HB2⟩
    · go_wp2_with fail
      go_ret
      exact ⟨rfl, bk.out⟩
end Go.Proofs.Ytldjffeecbegjaa
