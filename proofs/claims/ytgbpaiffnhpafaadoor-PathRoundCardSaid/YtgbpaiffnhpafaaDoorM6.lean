/- Layer graph: sorted, Of, Out, Same; the document's Same; fair: contracts. -/
import Derived.Lib.SliceRun
import Derived.Test.YtgbpaiffnhpafaaDoorM5
import Derived.Deep.RegionHeld3
import Derived.Recover
import Derived.Defers
-- holds: YtgbpaiffnhpafaaDoorGf YtgbpaiffnhpafaaDoorGg YtgbpaiffnhpafaaDoorGn YtgbpaiffnhpafaaDoorGp YtgbpaiffnhpafaaDoorGh YtgbpaiffnhpafaaDoorGi YtgbpaiffnhpafaaDoorGj YtgbpaiffnhpafaaDoorGl
namespace Go.Proofs.YtgbpaiffnhpafaaDoor
open Go.RowKit

theorem below_drewN {B : Nat} {a w : World} (h : Below B a w) (n : Nat) : Below B a (w.drewN n) := ⟨h.os, h.tape, h.output, h.size, h.block⟩
theorem drew_below {B : Nat} {a w : World} (h : Below B a w) : Below B a w.drew := h.drew
/-- An edge of a slice, cell by cell. -/
theorem ed_at {w : World} {B n k : Nat} {A : Option Addr} {p : Ed} {ps : List Ed} (h : Reads w B 3 A n (cellsE ps)) (hp : ps[k]? = some p) :
    ∃ b o, A = some ⟨b, o, none⟩ ∧ b < B ∧ w.cell? ⟨b, o + k * 3, none⟩ = some (.int .i64 p.1) ∧ w.cell? ⟨b, o + k * 3 + 1, none⟩ = some (.int .i64 p.2.1) ∧ w.cell? ⟨b, o + k * 3 + 2, none⟩ = some (.int .i64 p.2.2) := by
  have hk := (List.getElem?_eq_some_iff.1 hp).1
  have hl := h.1
  rw [cellsE_length] at hl
  obtain ⟨ad, hA, hb, hc⟩ := h.2 (by omega)
  obtain ⟨h0, h1, h2⟩ := cellsE_at hp
  have g0 := hc _ _ h0
  have g1 := hc _ _ h1
  have g2 := hc _ _ h2
  obtain ⟨b, o, spot⟩ := ad
  have hspot : spot = none := by
    have h00 := hc 0 _ (List.getElem?_eq_getElem (show 0 < (cellsE ps).length by rw [cellsE_length]; omega))
    simpa [Addr.add] using World.cell?_spot h00
  subst hspot
  rw [Go.WideShapes.add_plain] at g0 g1 g2
  exact ⟨b, o, hA, hb, g0, by rw [Nat.add_assoc]; exact g1, by rw [Nat.add_assoc]; exact g2⟩
theorem reads_len {w : World} {B n : Nat} {A : Option Addr} {ps : List Ed} (h : Reads w B 3 A n (cellsE ps)) : ps.length = n := by
  have := h.1; rw [cellsE_length] at this; omega
theorem Own.reads {B h n : Nat} {xs : List Ed} {w : World} (o : Own B h n xs w) : Reads w w.heap.size 3 (some ⟨h, 0, none⟩) n (cellsE xs) :=
  ⟨by rw [cellsE_length, o.2.1], fun _ => ⟨_, rfl, o.2.2.lt, fun j u hu => by
    rw [Go.WideShapes.add_plain, o.2.2.cell, Nat.zero_add, List.getElem?_toArray]; exact hu⟩⟩
theorem reads_take {w : World} {B size n k : Nat} {A : Option Addr} {xs : List Value} (h : Reads w B size A n xs) (hk : k ≤ n) : Reads w B size A k (xs.take (k * size)) :=
  ⟨by rw [List.length_take, h.1]; exact Nat.min_eq_left (Nat.mul_le_mul_right _ hk), fun hn => by
    obtain ⟨ad, hA, hb, hc⟩ := h.2 (by omega)
    exact ⟨ad, hA, hb, fun j u hu => hc j u (by
      rw [List.getElem?_take] at hu
      split at hu
      · exact hu
      · cases hu)⟩⟩


theorem bool_ne {a b : Ed} (h : a ≠ b) : (a.1 == b.1) = false ∨ ((a.1 == b.1) = true ∧ (a.2.1 == b.2.1) = false) ∨ ((a.1 == b.1) = true ∧ (a.2.1 == b.2.1) = true ∧ (a.2.2 == b.2.2) = false) := by
  obtain ⟨x, y, z⟩ := a
  obtain ⟨u, v, t⟩ := b
  by_cases h1 : x = u
  · by_cases h2 : y = v
    · refine .inr (.inr ⟨by simpa using h1, by simpa using h2, ?_⟩)
      simpa using fun h3 => h (by rw [h1, h2, h3])
    · exact .inr (.inl ⟨by simpa using h1, by simpa using h2⟩)
  · exact .inl (by simpa using h1)

set_option maxRecDepth 100000 in
set_option maxHeartbeats 4000000 in
theorem rsameE_any (A A2 : Option Addr) (n m c c2 : Nat) (xs ys : List Ed) (hn : n ≤ 1000000) (w : World) (hR : Reads w w.heap.size 3 A n (cellsE xs)) (hR2 : Reads w w.heap.size 3 A2 m (cellsE ys)) :
    Calls Tryd.prog 46 #[.slice A n c, .slice A2 m c2] w fun e w' => e = .returned (.bool (decide (xs = ys))) ∧ Below w.heap.size w w' := by
  have HR := Lib.hid hR
  have HR2 := Lib.hid hR2
  have HL := Lib.hid (reads_len hR)
  have HL2 := Lib.hid (reads_len hR2)
  clear hR hR2
  by_cases hnm : n = m
  · subst hnm
    go_enter Tryd.func46, Tryd.ntmps46
    go_wp2_with fail
    go_loopg [13] n (fun gg i wr => ∃ k : Nat, k + gg = n ∧ i = .int .i64 k ∧ Hid (xs.take k = ys.take k) ∧ Hid (Below w.heap.size w wr))
    case atStart => exact ⟨0, by omega, rfl, by simp [Hid], Below.refl _ _⟩
    case round =>
      obtain ⟨k, hk, rfl, ht, bk⟩ := hrel
      cases gk with
      | succ g2 =>
        have hlt : (k : Int) < (n : Int) := by omega
        obtain ⟨p, hp⟩ : ∃ p, xs[k]? = some p := ⟨xs[k]'(by rw [HL.out]; omega), List.getElem?_eq_getElem _⟩
        obtain ⟨q, hq⟩ : ∃ q, ys[k]? = some q := ⟨ys[k]'(by rw [HL2.out]; omega), List.getElem?_eq_getElem _⟩
        obtain ⟨b, o, rfl, hb, g0, g1, g2'⟩ := ed_at (HR.out.below bk.out) hp
        obtain ⟨b2, o2, rfl, hb2, x0, x1, x2⟩ := ed_at (HR2.out.below bk.out) hq
        have HK := Lib.hid hk
        by_cases hpq : p = q
        · subst hpq
          have HT : Hid (xs.take (k + 1) = ys.take (k + 1)) := by
            show _ = _
            rw [List.take_add_one, List.take_add_one, ht.out, hp, hq]
          clear hp hq hk
          go_wp2_with fail
          go_quiet (fail)
          go_wp2_with fail
          go_roundg g2
          case measure => omega
          case rel => exact ⟨k + 1, by have := HK.out; omega, by go_num, HT, below_drewN bk.out _⟩
        · have HD : Hid (decide (xs = ys) = false) := by
            show _ = _
            rw [decide_eq_false_iff_not]
            rintro rfl
            rw [hp] at hq
            injection hq with hq
            exact hpq hq
          have hc := bool_ne hpq
          clear hp hq hk hpq
          rcases hc with h1 | ⟨h1, h2⟩ | ⟨h1, h2, h3⟩
          all_goals
            go_wp2_with fail
            go_quiet (fail)
            go_wp2_with fail
            go_ret
            exact ⟨by rw [HD.out]; rfl, below_drewN bk.out _⟩
      | zero =>
        have hge : ¬ (k : Int) < (n : Int) := by omega
        have HD : Hid (decide (xs = ys) = true) := by
          show _ = _
          rw [decide_eq_true_eq]
          have := ht.out
          rwa [List.take_of_length_le (by rw [HL.out]; omega), List.take_of_length_le (by rw [HL2.out]; omega)] at this
        have HK := Lib.hid hk
        clear hk
        go_wp2_with fail
        go_ret
        exact ⟨by rw [HD.out]; rfl, bk.out⟩
  · have hb : ((n : Int) != (m : Int)) = true := by simp; omega
    have HD : Hid (decide (xs = ys) = false) := by
      show _ = _
      rw [decide_eq_false_iff_not]
      rintro rfl
      exact hnm (HL.out.symm.trans HL2.out)
    clear hnm
    go_enter Tryd.func46, Tryd.ntmps46
    go_wp2_with fail
    go_ret
    exact ⟨by rw [HD.out]; rfl, Below.refl _ _⟩

theorem own_prefix {w : World} {base : Nat} {e : TypeId} {size : Nat} {A : Option Addr} {n c k : Nat} {xs : List Value} (h : w.ownsRow base e size (.slice A n c) n xs) (hk : k ≤ n) : w.ownsRow base e size (.slice A k c) k (xs.take (k * size)) := by
  refine ⟨by rw [List.length_take, h.1]; exact Nat.min_eq_left (Nat.mul_le_mul_right _ hk), ?_⟩
  rcases h.2 with ⟨hv, h0⟩ | ⟨g, cap, cur, hv, hb, hg, hnc, hcm, hcs, ht⟩
  · injection hv with h1 h2 h3
    exact .inl ⟨by rw [h1, h3, show k = 0 by omega], by omega⟩
  · injection hv with h1 h2 h3
    refine .inr ⟨g, cap, cur, by rw [h1, h3], hb, hg, by omega, hcm, hcs, ?_⟩
    rw [← ht, List.take_take, Nat.min_eq_left (Nat.mul_le_mul_right _ hk)]
theorem own_below2 {w w' : World} {B base : Nat} {e : TypeId} {size : Nat} {v : Value} {n : Nat} {xs : List Value} (h : w.ownsRow base e size v n xs) (hb : Below B w w') (hB : w.heap.size ≤ B) : w'.ownsRow base e size v n xs := by
  refine ⟨h.1, ?_⟩
  rcases h.2 with hn | ⟨g, cap, cur, hv, hbg, hg, rest⟩
  · exact .inl hn
  · refine .inr ⟨g, cap, cur, hv, hbg, ?_, rest⟩
    have hlt : g < w.heap.size := (Array.getElem?_eq_some_iff.1 hg).1
    rw [hb.block g (by omega)]
    exact hg
theorem own_base {w : World} {base base' : Nat} {e : TypeId} {size : Nat} {v : Value} {n : Nat} {xs : List Value} (h : w.ownsRow base e size v n xs) (hb : base' ≤ base) : w.ownsRow base' e size v n xs := by
  refine ⟨h.1, ?_⟩
  rcases h.2 with hn | ⟨g, cap, cur, hv, hbg, rest⟩
  · exact .inl hn
  · exact .inr ⟨g, cap, cur, hv, by omega, rest⟩

/-- A copy: its cells lie in memory of the call's own. -/
def CopyIs (n : Nat) (ps : List Ed) (w : World) (e : Ending) (w' : World) : Prop :=
  ∃ (A : Option Addr) (c : Nat), e = .returned (.slice A n c) ∧ w'.ownsRow w.heap.size 53 3 (.slice A n c) n (cellsE ps) ∧ n ≤ c ∧ c ≤ 9223372036854775807 ∧ Below w.heap.size w w'
theorem own_new3 (w : World) (t : TypeId) : (w.alloc (.cells #[] t)).ownsRow w.heap.size t 3 (.slice (some ⟨w.heap.size, 0, none⟩) 0 0) 0 [] :=
  ⟨rfl, .inr ⟨w.heap.size, 0, #[], rfl, Nat.le_refl _, by show (w.heap.push _)[w.heap.size]? = _; simp, Nat.le_refl _, Nat.zero_le _, rfl, rfl⟩⟩
theorem own_form2 {w : World} {base : Nat} {e : TypeId} {size : Nat} {v : Value} {n : Nat} {xs : List Value} (h : w.ownsRow base e size v n xs) : ∃ A c, v = .slice A n c ∧ n ≤ c ∧ c ≤ 9223372036854775807 := by
  rcases h.2 with ⟨rfl, rfl⟩ | ⟨g, cap, cur, rfl, _, _, hnc, hcm, _⟩
  · exact ⟨_, _, rfl, Nat.le_refl _, by decide⟩
  · exact ⟨_, _, rfl, hnc, by unfold maxLen at hcm; omega⟩

set_option maxRecDepth 100000 in
set_option maxHeartbeats 2000000 in
theorem cloneP_none (w : World) :
    Calls Tryd.prog 33 #[.slice none 0 0] w (CopyIs 0 [] w) := by
  have hq : ∀ w : World, (binOp .eql 22 (.slice none 0 0) (.slice none 0 0)).run Tryd.prog w = .ok (.bool true) w := fun w => Lib.run_eql_slice_nil w _ _ none 0 0 0 0 Tryd.underlying22
  go_enter Tryd.func33, Tryd.ntmps33
  go_wp2_with fail
  go_ret
  exact ⟨none, 0, rfl, World.ownsRow_nil _ _ _ _, Nat.le_refl _, by decide, Below.refl _ _⟩

set_option maxRecDepth 100000 in
set_option maxHeartbeats 2000000 in
theorem cloneP_some (ad : Addr) (n c : Nat) (zs : List Ed) (hn : n ≤ 1000000) (w : World) (hR : Reads w w.heap.size 3 (some ad) n (cellsE zs)) :
    Calls Tryd.prog 33 #[.slice (some ad) n c] w (CopyIs n zs w) := by
  have hq : ∀ w : World, (binOp .eql 22 (.slice (some ad) n c) (.slice none 0 0)).run Tryd.prog w = .ok (.bool false) w := fun w => Lib.run_eql_slice_nil w _ _ (some ad) n c 0 0 Tryd.underlying22
  obtain ⟨i0, hi, hz0, hz1, hz2⟩ := info_parts pair_info
  go_enter Tryd.func33, Tryd.ntmps33
  go_wp2_with (at_builtin; refine wpList_append_any _ rfl (.tmp 5) (.tmp 6) 22 rfl w.heap.size 53 i0 _ 3 24 Tryd.underlying22 hi hz0 hz1 hz2 rfl (by decide) _ 0 [] rfl (own_new3 w 53) w.heap.size (some ad) n _ (cellsE zs) rfl (hR.alloc (Nat.le_refl _) _) (cellsE_one _) (by unfold maxLen; omega) (by omega) (by simp) ?_; intro v' w2 hown hgrow hat)
  rw [Nat.zero_add, List.nil_append] at hown
  have b2 : Below w.heap.size w w2 := ((Below.refl _ _).alloc (Nat.le_refl _) _).grown hgrow (by simp) (fun j hj => by have e : some w.heap.size = some j := hj; injection e with e; omega)
  obtain ⟨A', c', rfl, h1, h2⟩ := own_form2 hown
  go_ret
  exact ⟨A', c', rfl, hown, h1, h2, b2⟩

theorem clone_any (A : Option Addr) (n c : Nat) (zs : List Ed) (hn : n ≤ 1000000) (hc : A = none → c = 0) (hnc : n ≤ c) (w : World) (hR : Reads w w.heap.size 3 A n (cellsE zs)) :
    Calls Tryd.prog 33 #[.slice A n c] w (CopyIs n zs w) := by
  cases A with
  | some ad => exact cloneP_some ad n c zs hn w hR
  | none =>
    have h0 := hc rfl
    subst h0
    obtain rfl : n = 0 := by omega
    obtain rfl : zs = [] := List.eq_nil_of_length_eq_zero (reads_len hR)
    exact cloneP_none w

end Go.Proofs.YtgbpaiffnhpafaaDoor
namespace Go.Proofs.YtgbpaiffnhpafaaDoor
open Go.RowKit

set_option maxRecDepth 100000 in
set_option maxHeartbeats 2000000 in
theorem find_start (cv : Value) (A : Option Addr) (n c j : Nat) (ps : List Ed) (q : Ed → Int) (bb : Bool) (hn : n ≤ 1000000) (w : World) (hR : Reads w w.heap.size 3 A n (cellsE ps))
    (hj : j ≤ n) (hlo : ∀ i p, ps[i]? = some p → i < j → q p < 0) (hhi : ∀ i p, ps[i]? = some p → j ≤ i → ¬ q p < 0) (hbb : j < n → ∀ p, ps[j]? = some p → bb = (q p == 0)) (hb0 : ¬ j < n → bb = false)
    (hq : ∀ p ∈ ps, ∀ W : World, Below w.heap.size w W → Calls Tryd.prog 103 #[.agg #[.int .i64 p.1, .int .i64 p.2.1, .int .i64 p.2.2], cv] W fun e W' => e = .returned (.int .i64 (q p)) ∧ Below W.heap.size W W') :
    Calls Tryd.prog 102 #[.slice A n c, .func (.func 103) #[] #[cv]] w fun e w' => e = .returned (.tuple #[.int .i64 j, .bool bb]) ∧ Below w.heap.size w w' := by
  have HR := Lib.hid hR
  have HL := Lib.hid (reads_len hR)
  have HLO := Lib.hid hlo
  have HHI := Lib.hid hhi
  have HBB := Lib.hid (And.intro hbb hb0)
  have HQ := Lib.hid hq
  clear hR hlo hhi hbb hb0 hq
  go_enter Tryd.func102, Tryd.ntmps102
  go_wp2_with fail
  go_loopg [6, 7] n (fun gg s6 s7 wr => ∃ l h : Nat, h - l ≤ gg ∧ l ≤ j ∧ j ≤ h ∧ h ≤ n ∧ s6 = .int .i64 l ∧ s7 = .int .i64 h ∧ Hid (Below w.heap.size w wr))
  case atStart => exact ⟨0, n, by omega, by omega, by omega, by omega, rfl, rfl, Below.refl _ _⟩
  case round =>
    obtain ⟨l, h, hg, hlj, hjh, hhn, rfl, rfl, bk⟩ := hrel
    by_cases hlt : l < h
    · have hlt2 : (l : Int) < (h : Int) := by omega
      obtain ⟨m, hm⟩ : ∃ m, m = l + (h - l) / 2 := ⟨_, rfl⟩
      have hmi : (l : Int) + ((h : Int) - (l : Int)) / 2 = (m : Int) := by omega
      have hml : l ≤ m := by omega
      have hmh : m < h := by omega
      obtain ⟨p, hp⟩ : ∃ p, ps[m]? = some p := ⟨ps[m]'(by rw [HL.out]; omega), List.getElem?_eq_getElem _⟩
      obtain ⟨b, o, rfl, hb, g0, g1, gk2⟩ := ed_at (HR.out.below bk.out) hp
      have hi1 : (0 : Int) ≤ (m : Int) := by omega
      have hi2 : (m : Int) < (n : Int) := by omega
      have HG := Lib.hid hg
      have HMM := Lib.hid hm
      clear hm hg
      by_cases hmj : m < j
      · have hv := HLO.out m p hp hmj
        have HP := Lib.hid (List.mem_of_getElem? hp)
        clear hp
        go_wp2_with fail
        refine (HQ.out p HP.out _ bk.out).mono ?_
        rintro e w2 ⟨rfl, b2⟩
        have HB2 : Hid (Below w.heap.size w w2) := bk.out.trans (b2.mono bk.out.size)
        clear b2 g0 g1 gk2
        generalize q p = v at *
        go_wp2_with fail
        go_roundg (gk - 1)
        case measure => have := HG.out; omega
        case rel => exact ⟨m + 1, h, by have := HG.out; have := HMM.out; omega, by omega, hjh, hhn, by go_num, rfl, HB2⟩
      · have hv := HHI.out m p hp (by omega)
        have HP := Lib.hid (List.mem_of_getElem? hp)
        clear hp
        go_wp2_with fail
        refine (HQ.out p HP.out _ bk.out).mono ?_
        rintro e w2 ⟨rfl, b2⟩
        have HB2 : Hid (Below w.heap.size w w2) := bk.out.trans (b2.mono bk.out.size)
        clear b2 g0 g1 gk2
        generalize q p = v at *
        go_wp2_with fail
        go_roundg (gk - 1)
        case measure => have := HG.out; omega
        case rel => exact ⟨l, m, by have := HG.out; have := HMM.out; omega, hlj, by omega, by omega, rfl, rfl, HB2⟩
    · have hge : ¬ (l : Int) < (h : Int) := by omega
      obtain rfl : l = j := by omega
      clear hlj hjh
      by_cases hjn : l < n
      · have hjn2 : (l : Int) < (n : Int) := by omega
        obtain ⟨p, hp⟩ : ∃ p, ps[l]? = some p := ⟨ps[l]'(by rw [HL.out]; omega), List.getElem?_eq_getElem _⟩
        obtain ⟨b, o, rfl, hb, g0, g1, gk2⟩ := ed_at (HR.out.below bk.out) hp
        have HV := Lib.hid (HBB.out.1 hjn p hp)
        have hi1 : (0 : Int) ≤ (l : Int) := by omega
        have HP := Lib.hid (List.mem_of_getElem? hp)
        clear hp
        go_wp2_with fail
        refine (HQ.out p HP.out _ bk.out).mono ?_
        rintro e w2 ⟨rfl, b2⟩
        have HB2 : Hid (Below w.heap.size w w2) := bk.out.trans (b2.mono bk.out.size)
        clear b2 g0 g1 gk2
        generalize q p = v at *
        go_wp2_with fail
        go_ret2
        exact ⟨by rw [HV.out]; rfl, HB2.out⟩
      · have hjn2 : decide ((l : Int) < (n : Int)) = false := by simp; omega
        have hjn3 : ¬ (l : Int) < (n : Int) := by omega
        have HV := Lib.hid (HBB.out.2 hjn)
        go_wp2_with fail
        go_ret2
        exact ⟨by rw [HV.out]; rfl, bk.out⟩

end Go.Proofs.YtgbpaiffnhpafaaDoor
namespace Go.Proofs.YtgbpaiffnhpafaaDoor
open Go.RowKit

theorem idle_pair (w : World) : CallsD Tryd.prog 109 #[] .returning w fun e u' w' => e = .returned (.tuple #[]) ∧ u' = .returning ∧ w' = w := by
  refine callsD_of_wpS Tryd.func109 rfl fun c₀ cs hu => ?_
  apply wpS_region
  simp [wpOpsS, go_sem, recoverD, hu, Tryd.ntmps109, bodyPostS, results, Tryd.results109]
  cases c₀
  simp_all

theorem same_end {w w' : World} {a : Act} {b : Bool} (hr : a.tmps.getD 4 undef = .bool b) (hd : a.defers = [{ target := Target.fn (Fn.func 109) #[], args := #[] }]) (hb : Below w.heap.size w w') :
    bodyPostD Tryd.prog Tryd.f98 (fun e w' => e = .returned (.bool b) ∧ Below w.heap.size w w') Exit.ret a w' := by
  obtain ⟨t, d⟩ := a
  simp only at hd hr
  subst hd
  refine leaves_cons (f := 109) (args := #[]) (by simp) (by simp [go_sem]) ?_
  refine (idle_pair _).mono ?_
  rintro e u' w'' ⟨rfl, rfl, rfl⟩
  exact ⟨_, results_tmp rfl _ _ _, by rw [← hr], hb⟩

set_option maxHeartbeats 1000000 in
theorem same_yes (p : Ed) (w : World) : Calls Tryd.prog 98 #[.agg #[.int .i64 p.1, .int .i64 p.2.1, .int .i64 p.2.2], .agg #[.int .i64 p.1, .int .i64 p.2.1, .int .i64 p.2.2]] w fun e w' => e = .returned (.bool true) ∧ Below w.heap.size w w' := by
  go_enter_defers Tryd.func98, Tryd.ntmps98
  go_wp2
  exact same_end rfl rfl (((Below.refl _ _).alloc (Nat.le_refl _) _).alloc (by simp) _)
set_option maxHeartbeats 1000000 in
theorem same_no (p q : Ed) (h : p ≠ q) (w : World) : Calls Tryd.prog 98 #[.agg #[.int .i64 p.1, .int .i64 p.2.1, .int .i64 p.2.2], .agg #[.int .i64 q.1, .int .i64 q.2.1, .int .i64 q.2.2]] w fun e w' => e = .returned (.bool false) ∧ Below w.heap.size w w' := by
  have hc := bool_ne h
  clear h
  rcases hc with h1 | ⟨h1, h2⟩ | ⟨h1, h2, h3⟩
  all_goals
    go_enter_defers Tryd.func98, Tryd.ntmps98
    go_wp2
    exact same_end rfl rfl (((Below.refl _ _).alloc (Nat.le_refl _) _).alloc (by simp) _)

/-- A row without those that are the same as the one ahead, k places far. -/
def uniqK {α : Type} [DecidableEq α] (xs : List α) : Nat → List α
  | 0 => []
  | k + 1 => match xs[k]? with
    | none => uniqK xs k
    | some x => if 0 < k ∧ xs[k - 1]? = some x then uniqK xs k else uniqK xs k ++ [x]
theorem uniqK_keep {α : Type} [DecidableEq α] {xs : List α} {k : Nat} {x : α} (h : xs[k]? = some x) (h2 : ¬ (0 < k ∧ xs[k - 1]? = some x)) : uniqK xs (k + 1) = uniqK xs k ++ [x] := by rw [uniqK, h]; exact if_neg h2
theorem uniqK_skip {α : Type} [DecidableEq α] {xs : List α} {k : Nat} {x : α} (h : xs[k]? = some x) (h2 : 0 < k ∧ xs[k - 1]? = some x) : uniqK xs (k + 1) = uniqK xs k := by rw [uniqK, h]; exact if_pos h2
theorem uniqK_le {α : Type} [DecidableEq α] (xs : List α) : ∀ k, (uniqK xs k).length ≤ k
  | 0 => Nat.le_refl _
  | k + 1 => by
    have := uniqK_le xs k
    rw [uniqK]
    split
    · omega
    · split
      · omega
      · rw [List.length_append, List.length_singleton]; omega

/-- What a row of the call's own holds, whatever its length. -/
def RowIs (ps : List Ed) (w : World) (e : Ending) (w' : World) : Prop := CopyIs ps.length ps w e w'

theorem pair_one (w : World) (p : Ed) : Reads (w.alloc (.cells #[.int .i64 p.1, .int .i64 p.2.1, .int .i64 p.2.2] 53)) (w.heap.size + 1) 3 (some ⟨w.heap.size, 0, none⟩) 1 (cellsE [p]) :=
  ⟨rfl, fun _ => ⟨_, rfl, Nat.lt_succ_self _, fun j u hu => by
    rw [Go.WideShapes.add_plain, Nat.zero_add, (Blk.new w 53 #[.int .i64 p.1, .int .i64 p.2.1, .int .i64 p.2.2]).cell]
    rw [← hu, ← List.getElem?_toArray]
    rfl⟩⟩

set_option maxRecDepth 100000 in
set_option maxHeartbeats 4000000 in
theorem uniq_any (A : Option Addr) (n c : Nat) (xs : List Ed) (hn : n ≤ 100000) (w : World) (hR : Reads w w.heap.size 3 A n (cellsE xs)) :
    Calls Tryd.prog 85 #[.slice A n c] w (RowIs (uniqK xs n) w) := by
  have HR := Lib.hid hR
  have HL := Lib.hid (reads_len hR)
  obtain ⟨i0, hi, hz0, hz1, hz2⟩ := info_parts pair_info
  clear hR
  go_enter Tryd.func85, Tryd.ntmps85
  go_wp2_with fail
  go_loopg [3, 8] n (fun gg s3 s8 wr => ∃ (i u : Nat) (A' : Option Addr) (c' : Nat), i + gg = n ∧ u ≤ i ∧ s8 = .int .i64 i ∧ s3 = .slice A' u c' ∧ u ≤ c' ∧ c' ≤ 9223372036854775807 ∧ Hid ((uniqK xs i).length = u) ∧
    Hid (wr.ownsRow w.heap.size 53 3 (.slice A' u c') u (cellsE (uniqK xs i))) ∧ Hid (Below w.heap.size w wr))
  case atStart => exact ⟨0, 0, none, 0, by omega, Nat.le_refl _, rfl, rfl, Nat.le_refl _, by decide, rfl, World.ownsRow_nil _ _ _ _, Below.refl _ _⟩
  case round =>
    obtain ⟨i, u, A', c', hig, hui, rfl, rfl, huc, hcm, HU, HO, HB⟩ := hrel
    cases gk with
    | zero =>
      have hge : ¬ (i : Int) < (n : Int) := by omega
      have hin : i = n := by omega
      subst hin
      clear hig
      go_wp2_with fail
      go_ret
      have hl := HU.out
      unfold RowIs
      rw [hl]
      exact ⟨A', c', rfl, HO.out, huc, hcm, HB.out⟩
    | succ g2 =>
      have hlt : (i : Int) < (n : Int) := by omega
      have hi0 : (0 : Int) ≤ (i : Int) := by omega
      obtain ⟨p, hp⟩ : ∃ p, xs[i]? = some p := ⟨xs[i]'(by rw [HL.out]; omega), List.getElem?_eq_getElem _⟩
      obtain ⟨b, o, rfl, hb, g0, g1, gk2⟩ := ed_at (HR.out.below HB.out) hp
      have HIG := Lib.hid hig
      have hsz := HB.out.size
      have hin : i < n := by omega
      have HX := Lib.hid (Blk.new wr 53 #[.int .i64 p.1, .int .i64 p.2.1, .int .i64 p.2.2])
      have HO1 := Lib.hid (HO.out.alloc (.cells #[.int .i64 p.1, .int .i64 p.2.1, .int .i64 p.2.2] 53))
      have HB1 : Hid (Below w.heap.size w (wr.alloc (.cells #[.int .i64 p.1, .int .i64 p.2.1, .int .i64 p.2.2] 53))) := HB.out.alloc hsz _
      obtain ⟨X, hX⟩ : ∃ X, wr.heap.size = X := ⟨_, rfl⟩
      rw [hX] at HX
      clear hig
      go_upto_region 5 with fail
      clear g0 g1 gk2 hX HB HO
      generalize wr.alloc (.cells #[.int .i64 p.1, .int .i64 p.2.1, .int .i64 p.2.2] 53) = wx at *
      by_cases hi00 : i = 0
      · subst hi00
        have HNX := Lib.hid (uniqK_keep hp (fun h => absurd h.1 (by omega)))
        clear hp
        go_wp2_with fail
        go_quiet (fail)
        have HX2 : Hid (Blk (wx.drewN nq) X 53 #[.int .i64 p.1, .int .i64 p.2.1, .int .i64 p.2.2]) := HX.out
        have HO2 : Hid ((wx.drewN nq).ownsRow w.heap.size 53 3 (.slice A' u c') u (cellsE (uniqK xs 0))) := HO1.out
        have HB2 : Hid (Below w.heap.size w (wx.drewN nq)) := below_drewN HB1.out _
        clear HX HO1 HB1
        generalize wx.drewN nq = wz at *
        have z0 : wz.cell? ⟨X, 0, none⟩ = some (.int .i64 p.1) := HX2.out.cell 0
        have z1 : wz.cell? ⟨X, 1, none⟩ = some (.int .i64 p.2.1) := HX2.out.cell 1
        have z2 : wz.cell? ⟨X, 2, none⟩ = some (.int .i64 p.2.2) := HX2.out.cell 2
        have hsz2 := HB2.out.size
        go_wp2_with (at_builtin; refine wpList_append_any _ rfl (.tmp 25) (.tmp 27) 22 rfl w.heap.size 53 i0 _ 3 24 Tryd.underlying22 hi hz0 hz1 hz2 rfl (by decide) (.slice A' u c') u _ rfl (HO2.out.alloc _) (wz.heap.size + 1) (some ⟨wz.heap.size, 0, none⟩) 1 _ (cellsE [p]) rfl (pair_one wz p) (cellsE_one _) (by unfold maxLen; omega) (by omega) (by simp; omega) ?_; intro v5 w5 hown5 hgrow5 _; have HB5 : Hid (Below w.heap.size w w5) := (HB2.out.alloc hsz2 _).grown hgrow5 (by simp; omega) (fun k hk => (HO2.out.lt k hk).1); obtain ⟨A5, c5, rfl, h51, h52⟩ := own_form2 hown5; rw [← cellsE_append, ← HNX.out] at hown5; have HO5 := Lib.hid hown5; clear hown5 hgrow5)
        go_roundg g2
        case measure => omega
        case rel => exact ⟨0 + 1, u + 1, A5, c5, by have := HIG.out; omega, by omega, by go_num, rfl, h51, h52, by rw [HNX.out, List.length_append, HU.out]; rfl, HO5, HB5⟩
      · obtain ⟨q, hq⟩ : ∃ q, xs[i - 1]? = some q := ⟨xs[i - 1]'(by rw [HL.out]; omega), List.getElem?_eq_getElem _⟩
        obtain ⟨b', o', hA', hb', x0, x1, x2⟩ := ed_at (HR.out.below HB1.out) hq
        injection hA' with hA'
        injection hA' with e1 e2 _
        subst e1; subst e2
        have hib : ((i : Int) == 0) = false := by simp; omega
        have hip : 0 < i := by omega
        have y0 : wx.cell? ⟨X, 0, none⟩ = some (.int .i64 p.1) := HX.out.cell 0
        have y1 : wx.cell? ⟨X, 1, none⟩ = some (.int .i64 p.2.1) := HX.out.cell 1
        have y2 : wx.cell? ⟨X, 2, none⟩ = some (.int .i64 p.2.2) := HX.out.cell 2
        have hs1 : IntKind.i64.wrap ((i : Int) - 1) = (i : Int) - 1 := by rw [IntKind.wrap_i64]; omega
        have ht1 : ((i : Int) - 1).toNat = i - 1 := by omega
        have hj0 : (0 : Int) ≤ (i : Int) - 1 := by omega
        have hj2 : (1 : Int) ≤ (i : Int) := by omega
        have hj1 : (i : Int) - 1 < (n : Int) := by omega
        by_cases hqp : q = p
        · subst hqp
          have HNX := Lib.hid (uniqK_skip hp ⟨hip, hq⟩)
          clear hp hq hi00
          go_wp2_with fail
          have hXT : X < wx.drew.heap.size := HX.out.lt
          have hbl : b < wx.drew.heap.size := by have := HB1.out.size; show b < wx.heap.size; omega
          have HSM := Lib.hid fun W => same_yes q W
          have tok1 : True := trivial
          go_region_held3 (fun w' => w'.cell? ⟨X, 0, none⟩ = some (.int .i64 q.1) ∧ w'.cell? ⟨X, 1, none⟩ = some (.int .i64 q.2.1) ∧ w'.cell? ⟨X, 2, none⟩ = some (.int .i64 q.2.2) ∧ w'.cell? ⟨b, o + (i - 1) * 3, none⟩ = some (.int .i64 q.1) ∧ w'.cell? ⟨b, o + (i - 1) * 3 + 1, none⟩ = some (.int .i64 q.2.1) ∧ w'.cell? ⟨b, o + (i - 1) * 3 + 2, none⟩ = some (.int .i64 q.2.2)) (first | exact ⟨y0, y1, y2, x0, x1, x2⟩ | exact ⟨q0, q1, q1b, q2, q3, q4⟩ | fail) (first
            | (have _t := tok1; go_at_call 98; refine (HSM.out wx.drew).mono ?_; rintro e w20 ⟨rfl, b20⟩; clear tok1; have HB2 : Hid (Below w.heap.size w w20) := HB1.out.drew.trans (b20.mono HB1.out.drew.size); have HX2 : Hid (Blk w20 X 53 #[.int .i64 q.1, .int .i64 q.2.1, .int .i64 q.2.2]) := HX.out.drew.below b20 hXT; have HO2 : Hid (w20.ownsRow w.heap.size 53 3 (.slice A' u c') u (cellsE (uniqK xs i))) := own_below2 HO1.out.drew b20 (Nat.le_refl _); have q0 := HX2.out.cell 0; have q1 := HX2.out.cell 1; have q1b := HX2.out.cell 2; have q2 := (b20.cell (p := ⟨b, o + (i - 1) * 3, none⟩) hbl).trans x0; have q3 := (b20.cell (p := ⟨b, o + (i - 1) * 3 + 1, none⟩) hbl).trans x1; have q4 := (b20.cell (p := ⟨b, o + (i - 1) * 3 + 2, none⟩) hbl).trans x2; clear b20)
            | fail)
          clear x0 x1 x2 y0 y1 y2 q0 q1 q1b q2 q3 q4 HX HO1 HB1 HX2
          go_wp2_with fail
          go_roundg g2
          case measure => omega
          case rel => exact ⟨i + 1, u, A', c', by have := HIG.out; omega, by omega, by go_num, rfl, huc, hcm, by rw [HNX.out]; exact HU, by rw [HNX.out]; exact HO2.out, HB2⟩
        · have HNX := Lib.hid (uniqK_keep hp (fun h => hqp (by have := h.2; rw [hq] at this; injection this)))
          clear hp hq hi00
          go_wp2_with fail
          have hXT : X < wx.drew.heap.size := HX.out.lt
          have hbl : b < wx.drew.heap.size := by have := HB1.out.size; show b < wx.heap.size; omega
          have HSM := Lib.hid fun W => same_no q p hqp W
          have tok1 : True := trivial
          go_region_held3 (fun w' => w'.cell? ⟨X, 0, none⟩ = some (.int .i64 p.1) ∧ w'.cell? ⟨X, 1, none⟩ = some (.int .i64 p.2.1) ∧ w'.cell? ⟨X, 2, none⟩ = some (.int .i64 p.2.2) ∧ w'.cell? ⟨b, o + (i - 1) * 3, none⟩ = some (.int .i64 q.1) ∧ w'.cell? ⟨b, o + (i - 1) * 3 + 1, none⟩ = some (.int .i64 q.2.1) ∧ w'.cell? ⟨b, o + (i - 1) * 3 + 2, none⟩ = some (.int .i64 q.2.2)) (first | exact ⟨y0, y1, y2, x0, x1, x2⟩ | exact ⟨q0, q1, q1b, q2, q3, q4⟩ | fail) (first
            | (have _t := tok1; go_at_call 98; refine (HSM.out wx.drew).mono ?_; rintro e w20 ⟨rfl, b20⟩; clear tok1; have HB2 : Hid (Below w.heap.size w w20) := HB1.out.drew.trans (b20.mono HB1.out.drew.size); have HX2 : Hid (Blk w20 X 53 #[.int .i64 p.1, .int .i64 p.2.1, .int .i64 p.2.2]) := HX.out.drew.below b20 hXT; have HO2 : Hid (w20.ownsRow w.heap.size 53 3 (.slice A' u c') u (cellsE (uniqK xs i))) := own_below2 HO1.out.drew b20 (Nat.le_refl _); have q0 := HX2.out.cell 0; have q1 := HX2.out.cell 1; have q1b := HX2.out.cell 2; have q2 := (b20.cell (p := ⟨b, o + (i - 1) * 3, none⟩) hbl).trans x0; have q3 := (b20.cell (p := ⟨b, o + (i - 1) * 3 + 1, none⟩) hbl).trans x1; have q4 := (b20.cell (p := ⟨b, o + (i - 1) * 3 + 2, none⟩) hbl).trans x2; clear b20)
            | fail)
          clear x0 x1 x2 y0 y1 y2 q0 q1 q1b q2 q3 q4 HX HO1 HB1 hqp HSM
          generalize w20 = wz at *
          have z0 : wz.cell? ⟨X, 0, none⟩ = some (.int .i64 p.1) := HX2.out.cell 0
          have z1 : wz.cell? ⟨X, 1, none⟩ = some (.int .i64 p.2.1) := HX2.out.cell 1
          have z2 : wz.cell? ⟨X, 2, none⟩ = some (.int .i64 p.2.2) := HX2.out.cell 2
          have hsz2 := HB2.out.size
          go_wp2_with (at_builtin; refine wpList_append_any _ rfl (.tmp 25) (.tmp 27) 22 rfl w.heap.size 53 i0 _ 3 24 Tryd.underlying22 hi hz0 hz1 hz2 rfl (by decide) (.slice A' u c') u _ rfl (HO2.out.alloc _) (wz.heap.size + 1) (some ⟨wz.heap.size, 0, none⟩) 1 _ (cellsE [p]) rfl (pair_one wz p) (cellsE_one _) (by unfold maxLen; omega) (by omega) (by simp; omega) ?_; intro v5 w5 hown5 hgrow5 _; have HB5 : Hid (Below w.heap.size w w5) := (HB2.out.alloc hsz2 _).grown hgrow5 (by simp; omega) (fun k hk => (HO2.out.lt k hk).1); obtain ⟨A5, c5, rfl, h51, h52⟩ := own_form2 hown5; rw [← cellsE_append, ← HNX.out] at hown5; have HO5 := Lib.hid hown5; clear hown5 hgrow5)
          go_roundg g2
          case measure => omega
          case rel => exact ⟨i + 1, u + 1, A5, c5, by have := HIG.out; omega, by omega, by go_num, rfl, h51, h52, by rw [HNX.out, List.length_append, HU.out]; rfl, HO5, HB5⟩
end Go.Proofs.YtgbpaiffnhpafaaDoor
namespace Go.Proofs.YtgbpaiffnhpafaaDoor
open Go.RowKit

/-- An edge between so many nodes. -/
def rightE (nodes : Int) (p : Ed) : Bool := decide ((0 ≤ p.1 ∧ p.1 < nodes) ∧ (0 ≤ p.2.1 ∧ p.2.1 < nodes) ∧ p.1 ≠ p.2.1 ∧ 0 ≤ p.2.2 ∧ p.2.2 ≤ 9)
def mayN (nodes : Int) : Bool := decide (0 ≤ nodes ∧ nodes ≤ 300)
/-- In order, each once. -/
def upE (l : List Ed) : Prop := l.Pairwise fun x y => plE x < plE y
instance (l : List Ed) : Decidable (upE l) := by unfold upE; exact inferInstance
def rightG (nodes : Int) (l : List Ed) : Bool := mayN nodes && l.all (rightE nodes) && decide (upE l)
theorem rightE_ok {nodes : Int} {p : Ed} (hm : mayN nodes = true) (h : rightE nodes p = true) : okE p := by
  unfold mayN at hm
  unfold rightE at h
  simp only [decide_eq_true_eq] at hm h
  unfold okE
  omega
structure IsG (nodes : Int) (l : List Ed) : Prop where
  may : mayN nodes = true
  all : ∀ p ∈ l, rightE nodes p = true
  up : upE l
theorem rightG_iff {nodes : Int} {l : List Ed} : rightG nodes l = true ↔ IsG nodes l := by
  unfold rightG
  rw [Bool.and_eq_true, Bool.and_eq_true, List.all_eq_true, decide_eq_true_eq]
  exact ⟨fun h => ⟨h.1.1, h.1.2, h.2⟩, fun h => ⟨⟨h.may, h.all⟩, h.up⟩⟩
theorem IsG.ok {nodes : Int} {l : List Ed} (h : IsG nodes l) : ∀ p ∈ l, okE p := fun p hp => rightE_ok h.may (h.all p hp)
theorem IsG.nodes {nodes : Int} {l : List Ed} (h : IsG nodes l) : 0 ≤ nodes ∧ nodes ≤ 300 := by have := h.may; unfold mayN at this; simpa using this
theorem IsG.filter {nodes : Int} {l : List Ed} (h : IsG nodes l) (q : Ed → Bool) : IsG nodes (l.filter q) := ⟨h.may, fun p hp => h.all p (List.mem_filter.1 hp).1, List.Pairwise.filter _ h.up⟩

/-- Neighbours in order: all in order. -/
theorem up_of_next : ∀ {l : List Ed}, (∀ k x y, l[k]? = some x → l[k + 1]? = some y → plE x < plE y) → upE l
  | [], _ => List.Pairwise.nil
  | [x], _ => List.pairwise_singleton _ _
  | x :: y :: l, h => by
    have ih : upE (y :: l) := up_of_next fun k a b ha hb => h (k + 1) a b (by simpa using ha) (by simpa using hb)
    have hxy := h 0 x y rfl rfl
    refine List.pairwise_cons.2 ⟨fun z hz => ?_, ih⟩
    rcases List.mem_cons.1 hz with rfl | hz
    · exact hxy
    · have := (List.pairwise_cons.1 ih).1 z hz
      omega
theorem next_of_up {l : List Ed} (h : upE l) {k : Nat} {x y : Ed} (hx : l[k]? = some x) (hy : l[k + 1]? = some y) : plE x < plE y := by
  obtain ⟨i1, e1⟩ := List.getElem?_eq_some_iff.1 hx
  obtain ⟨i2, e2⟩ := List.getElem?_eq_some_iff.1 hy
  have := List.pairwise_iff_getElem.1 h k (k + 1) i1 i2 (by omega)
  rwa [e1, e2] at this

/-- Two rows in order that have the same are one. -/
theorem up_ext : ∀ {l m : List Ed}, upE l → upE m → (∀ x, x ∈ l ↔ x ∈ m) → l = m
  | [], [], _, _, _ => rfl
  | [], y :: m, _, _, h => by have := (h y).2 (.head _); simp at this
  | x :: l, [], _, _, h => by have := (h x).1 (.head _); simp at this
  | x :: l, y :: m, hl, hm, h => by
    have hl1 := List.pairwise_cons.1 hl
    have hm1 := List.pairwise_cons.1 hm
    have hxy : x = y := by
      rcases List.mem_cons.1 ((h x).1 (.head _)) with e | e
      · exact e
      · rcases List.mem_cons.1 ((h y).2 (.head _)) with e' | e'
        · exact e'.symm
        · have a := hm1.1 x e
          have b := hl1.1 y e'
          omega
    subst hxy
    congr 1
    refine up_ext hl1.2 hm1.2 fun z => ⟨fun hz => ?_, fun hz => ?_⟩
    · rcases List.mem_cons.1 ((h z).1 (.tail _ hz)) with rfl | e
      · have := hl1.1 z hz; omega
      · exact e
    · rcases List.mem_cons.1 ((h z).2 (.tail _ hz)) with rfl | e
      · have := hm1.1 z hz; omega
      · exact e

/-- Sorted, each once. -/
def sorE (l : List Ed) : List Ed := uniqK (srt ltE l) l.length
theorem uniqK_props {s : List Ed} (hs : InOrder ltE s) (hok : ∀ p ∈ s, okE p) : ∀ k, k ≤ s.length → upE (uniqK s k) ∧ (∀ x, x ∈ uniqK s k ↔ x ∈ s.take k)
  | 0, _ => ⟨List.Pairwise.nil, fun x => by simp [uniqK]⟩
  | k + 1, hk => by
    obtain ⟨ih1, ih2⟩ := uniqK_props hs hok k (by omega)
    obtain ⟨x, hx⟩ : ∃ x, s[k]? = some x := ⟨s[k]'(by omega), List.getElem?_eq_getElem _⟩
    have htk : s.take (k + 1) = s.take k ++ [x] := by rw [List.take_add_one, hx]; rfl
    have hle : ∀ y ∈ s.take k, plE y ≤ plE x := by
      intro y hy
      obtain ⟨i, hi, rfl⟩ := List.getElem_of_mem hy
      rw [List.length_take] at hi
      obtain ⟨i1, e1⟩ := List.getElem?_eq_some_iff.1 hx
      have := List.pairwise_iff_getElem.1 hs i k (by omega) i1 (by omega)
      rw [e1] at this
      rw [List.getElem_take]
      unfold ltE at this
      simpa using this
    by_cases h : 0 < k ∧ s[k - 1]? = some x
    · rw [uniqK_skip hx h]
      refine ⟨ih1, fun z => ?_⟩
      rw [ih2 z, htk, List.mem_append, List.mem_singleton]
      refine ⟨.inl, fun e => e.elim id fun e => ?_⟩
      subst e
      have : (s.take k)[k - 1]? = some z := by rw [List.getElem?_take]; rw [if_pos (by omega)]; exact h.2
      exact List.mem_of_getElem? this
    · rw [uniqK_keep hx h]
      have hxk : okE x := hok x (List.mem_of_getElem? hx)
      refine ⟨List.pairwise_append.2 ⟨ih1, List.pairwise_singleton _ _, fun y hy z hz => ?_⟩, fun z => ?_⟩
      · rw [List.mem_singleton] at hz
        subst hz
        have hy1 := (ih2 y).1 hy
        have h1 := hle y hy1
        rcases Int.lt_or_eq_of_le h1 with h2 | h2
        · exact h2
        · exfalso
          have hyk : okE y := hok y (List.mem_of_mem_take hy1)
          have e := plE_inj hyk hxk h2
          subst e
          apply h
          have hk0 : 0 < k := by
            rcases Nat.eq_zero_or_pos k with h0 | h0
            · subst h0; simp at hy1
            · exact h0
          refine ⟨hk0, ?_⟩
          obtain ⟨u, hu⟩ : ∃ u, s[k - 1]? = some u := ⟨s[k - 1]'(by omega), List.getElem?_eq_getElem _⟩
          have hu1 : u ∈ s.take k := List.mem_of_getElem? (i := k - 1) (by rw [List.getElem?_take, if_pos (by omega)]; exact hu)
          have hu2 := hle u hu1
          obtain ⟨i, hi, hiy⟩ := List.getElem_of_mem hy1
          rw [List.length_take] at hi
          rw [List.getElem_take] at hiy
          have hyu : plE y ≤ plE u := by
            rcases Nat.lt_or_ge i (k - 1) with h3 | h3
            · obtain ⟨j1, e1⟩ := List.getElem?_eq_some_iff.1 hu
              have := List.pairwise_iff_getElem.1 hs i (k - 1) (by omega) j1 h3
              rw [e1, hiy] at this
              unfold ltE at this
              simpa using this
            · have : i = k - 1 := by omega
              subst this
              rw [List.getElem?_eq_getElem (by omega)] at hu
              injection hu with hu
              rw [← hu, hiy]; exact Int.le_refl _
          rw [hu, plE_inj (hok u (List.mem_of_mem_take hu1)) hxk (by omega)]
      · rw [List.mem_append, ih2 z, htk, List.mem_append]
theorem sorE_props {l : List Ed} (h : ∀ p ∈ l, okE p) : upE (sorE l) ∧ ∀ x, x ∈ sorE l ↔ x ∈ l := by
  have hlen := srt_len ltE_ahead l
  obtain ⟨h1, h2⟩ := uniqK_props (srt_order ltE_ahead l) (fun p hp => h p ((mem_srt ltE_ahead p l).1 hp)) l.length (by omega)
  refine ⟨h1, fun x => ?_⟩
  unfold sorE
  rw [h2 x, List.take_of_length_le (by omega), mem_srt ltE_ahead]
theorem sorE_up {l : List Ed} (h : ∀ p ∈ l, okE p) : upE (sorE l) := (sorE_props h).1
theorem mem_sorE {l : List Ed} (h : ∀ p ∈ l, okE p) (x : Ed) : x ∈ sorE l ↔ x ∈ l := (sorE_props h).2 x
theorem sorE_is {l m : List Ed} (h : ∀ p ∈ l, okE p) (hm : upE m) (he : ∀ x, x ∈ m ↔ x ∈ l) : sorE l = m :=
  up_ext (sorE_up h) hm fun x => by rw [mem_sorE h, he]
theorem sorE_len (l : List Ed) : (sorE l).length ≤ l.length := uniqK_le _ _
theorem IsG.sor {nodes : Int} {l : List Ed} (hm : mayN nodes = true) (h : ∀ p ∈ l, rightE nodes p = true) : IsG nodes (sorE l) := by
  have hok : ∀ p ∈ l, okE p := fun p hp => rightE_ok hm (h p hp)
  exact ⟨hm, fun p hp => h p ((mem_sorE hok p).1 hp), sorE_up hok⟩

/-- Does one edge stand ahead of another one, by the document? -/
def aheadE (p q : Ed) : Bool := if p.1 ≠ q.1 then decide (p.1 < q.1) else if p.2.1 ≠ q.2.1 then decide (p.2.1 < q.2.1) else decide (p.2.2 < q.2.2)
theorem ahead_pl {p q : Ed} (hp : okE p) (hq : okE q) : aheadE p q = true ↔ plE p < plE q := by
  unfold aheadE plE
  unfold okE at hp hq
  split
  · rw [decide_eq_true_eq]; omega
  · split
    · rw [decide_eq_true_eq]; omega
    · rw [decide_eq_true_eq]; omega
theorem rg_may {nodes : Int} {l : List Ed} (h : mayN nodes = false) : rightG nodes l = false := by unfold rightG; rw [h]; rfl
theorem rg_edge {nodes : Int} {l : List Ed} {p : Ed} (hp : p ∈ l) (h : rightE nodes p = false) : rightG nodes l = false := by
  cases e : rightG nodes l
  · rfl
  · rw [(rightG_iff.1 e).all p hp] at h; cases h
theorem rg_place {nodes : Int} {l : List Ed} {k : Nat} {x y : Ed} (hx : l[k]? = some x) (hy : l[k + 1]? = some y) (h : plE y ≤ plE x) : rightG nodes l = false := by
  cases e : rightG nodes l
  · rfl
  · have := next_of_up (rightG_iff.1 e).up hx hy
    omega
theorem rg_ahead {nodes : Int} {l : List Ed} {k : Nat} {x y : Ed} (hx : l[k]? = some x) (hy : l[k + 1]? = some y) (h : aheadE x y = false) : rightG nodes l = false := by
  cases e : rightG nodes l
  · rfl
  · have g := rightG_iff.1 e
    rw [(ahead_pl (g.ok x (List.mem_of_getElem? hx)) (g.ok y (List.mem_of_getElem? hy))).2 (next_of_up g.up hx hy)] at h
    cases h
theorem rg_true {nodes : Int} {l : List Ed} (h1 : ∀ p ∈ l, rightE nodes p = true) (h2 : ∀ k x y, l[k]? = some x → l[k + 1]? = some y → aheadE x y = true) : rightG nodes l = mayN nodes := by
  cases e : mayN nodes
  · exact rg_may e
  · have hok : ∀ p ∈ l, okE p := fun p hp => rightE_ok e (h1 p hp)
    exact rightG_iff.2 ⟨e, h1, up_of_next fun k x y hx hy => (ahead_pl (hok x (List.mem_of_getElem? hx)) (hok y (List.mem_of_getElem? hy))).1 (h2 k x y hx hy)⟩
theorem rg_places {nodes : Int} {l : List Ed} (hm : mayN nodes = true) (h1 : ∀ p ∈ l, rightE nodes p = true) (h2 : ∀ k x y, l[k]? = some x → l[k + 1]? = some y → plE x < plE y) : rightG nodes l = true :=
  rightG_iff.2 ⟨hm, h1, up_of_next h2⟩

/-- A row in order with one more, as the document makes it. -/
def wStep (e : Ed) (s : List Ed × Bool) (x : Ed) : List Ed × Bool :=
  let t := if s.2 = false ∧ aheadE x e = false then (s.1 ++ [e], true) else s
  if x = e then t else (t.1 ++ [x], t.2)
def withE (l : List Ed) (e : Ed) : List Ed := let s := l.foldl (wStep e) ([], false); if s.2 = true then s.1 else s.1 ++ [e]
def ofE (l : List Ed) : List Ed := l.foldl withE []
theorem ahead_irrefl (e : Ed) : aheadE e e = false := by simp [aheadE]
theorem w_laid (e : Ed) : ∀ (l acc : List Ed), l.foldl (wStep e) (acc, true) = (acc ++ l.filter (fun x => decide (x ≠ e)), true)
  | [], acc => by simp
  | x :: l, acc => by
    rw [List.foldl_cons]
    by_cases h : x = e
    · have : wStep e (acc, true) x = (acc, true) := by unfold wStep; simp [h]
      rw [this, w_laid e l acc]; simp [h]
    · have : wStep e (acc, true) x = (acc ++ [x], true) := by unfold wStep; simp [h]
      rw [this, w_laid e l (acc ++ [x])]; simp [h]
theorem w_not (e : Ed) : ∀ (l acc : List Ed), (∃ pre post, l = pre ++ post ∧ (∀ x ∈ pre, aheadE x e = true) ∧ (∀ y, post.head? = some y → aheadE y e = false) ∧
    (let s := l.foldl (wStep e) (acc, false); if s.2 = true then s.1 else s.1 ++ [e]) = acc ++ pre ++ [e] ++ post.filter (fun x => decide (x ≠ e)))
  | [], acc => ⟨[], [], rfl, fun _ h => by simp at h, fun _ h => by simp at h, by simp⟩
  | x :: l, acc => by
    by_cases h : aheadE x e = true
    · have hne : x ≠ e := fun e1 => by rw [e1, ahead_irrefl] at h; cases h
      have hs : wStep e (acc, false) x = (acc ++ [x], false) := by unfold wStep; simp [h, hne]
      obtain ⟨pre, post, h1, h2, h3, h4⟩ := w_not e l (acc ++ [x])
      refine ⟨x :: pre, post, by rw [h1]; rfl, fun z hz => ?_, h3, ?_⟩
      · rcases List.mem_cons.1 hz with rfl | hz
        · exact h
        · exact h2 z hz
      · rw [List.foldl_cons, hs, h4]; simp
    · have h' : aheadE x e = false := by simpa using h
      refine ⟨[], x :: l, rfl, fun _ h => by simp at h, fun y hy => by simp at hy; subst hy; exact h', ?_⟩
      by_cases hx : x = e
      · have hs : wStep e (acc, false) x = (acc ++ [e], true) := by unfold wStep; simp [hx, ahead_irrefl]
        rw [List.foldl_cons, hs, w_laid]; simp [hx]
      · have hs : wStep e (acc, false) x = (acc ++ [e] ++ [x], true) := by unfold wStep; simp [h', hx]
        rw [List.foldl_cons, hs, w_laid]; simp [hx]
theorem withE_props {l : List Ed} {e : Ed} (hl : upE l) (hok : ∀ p ∈ l, okE p) (he : okE e) : upE (withE l e) ∧ ∀ x, x ∈ withE l e ↔ x = e ∨ x ∈ l := by
  obtain ⟨pre, post, h1, h2, h3, h4⟩ := w_not e l []
  have hw : withE l e = pre ++ [e] ++ post.filter (fun x => decide (x ≠ e)) := by unfold withE; rw [h4]; simp
  subst h1
  have hp := List.pairwise_append.1 hl
  have hpost : ∀ y ∈ post.filter (fun x => decide (x ≠ e)), plE e < plE y := by
    intro y hy
    obtain ⟨hy1, hy2⟩ := List.mem_filter.1 hy
    have hy2 : y ≠ e := by simpa using hy2
    have hyo := hok y (List.mem_append_right _ hy1)
    have hge : ¬ plE y < plE e := by
      match post, hy1, h3, hp with
      | z :: zs, hy1, h3, hp =>
        have hz := h3 z rfl
        have hzo := hok z (List.mem_append_right _ (.head _))
        have hz1 : ¬ plE z < plE e := fun c => by rw [(ahead_pl hzo he).2 c] at hz; cases hz
        rcases List.mem_cons.1 hy1 with rfl | hy1
        · exact hz1
        · have := (List.pairwise_cons.1 hp.2.1).1 y hy1
          omega
    rcases Int.lt_or_eq_of_le (Int.not_lt.1 hge) with h | h
    · exact h
    · exact absurd (plE_inj he hyo h).symm hy2
  refine ⟨?_, fun x => ?_⟩
  · rw [hw]
    refine List.pairwise_append.2 ⟨List.pairwise_append.2 ⟨hp.1, List.pairwise_singleton _ _, fun a ha b hb => ?_⟩, List.Pairwise.filter _ hp.2.1, fun a ha b hb => ?_⟩
    · rw [List.mem_singleton] at hb
      subst hb
      exact (ahead_pl (hok a (List.mem_append_left _ ha)) he).1 (h2 a ha)
    · rcases List.mem_append.1 ha with ha | ha
      · exact hp.2.2 a ha b (List.mem_filter.1 hb).1
      · rw [List.mem_singleton] at ha
        subst ha
        exact hpost b hb
  · rw [hw]
    simp only [List.mem_append, List.mem_singleton, List.mem_filter, decide_eq_true_eq]
    by_cases hx : x = e <;> simp [hx]
theorem ofE_from : ∀ (l acc : List Ed), (∀ p ∈ l, okE p) → upE acc → (∀ p ∈ acc, okE p) → upE (l.foldl withE acc) ∧ ∀ x, x ∈ l.foldl withE acc ↔ x ∈ acc ∨ x ∈ l
  | [], acc, _, ha, _ => ⟨ha, fun x => by simp⟩
  | e :: l, acc, hl, ha, hoa => by
    obtain ⟨h1, h2⟩ := withE_props ha hoa (hl e (.head _))
    obtain ⟨h3, h4⟩ := ofE_from l (withE acc e) (fun p hp => hl p (.tail _ hp)) h1 fun p hp => by
      rcases (h2 p).1 hp with rfl | hp
      · exact hl p (.head _)
      · exact hoa p hp
    refine ⟨h3, fun x => ?_⟩
    rw [List.foldl_cons, h4 x, h2 x, List.mem_cons]
    exact ⟨fun h => h.elim (fun h => h.elim (fun h => .inr (.inl h)) .inl) fun h => .inr (.inr h), fun h => h.elim (fun h => .inl (.inr h)) fun h => h.elim (fun h => .inl (.inl h)) .inr⟩
theorem ofE_eq {l : List Ed} (h : ∀ p ∈ l, okE p) : ofE l = sorE l := by
  obtain ⟨h1, h2⟩ := ofE_from l [] h List.Pairwise.nil (fun _ h => by simp at h)
  exact (sorE_is h h1 fun x => by rw [h2 x]; simp).symm
theorem wStep_le (e : Ed) (s : List Ed × Bool) (x : Ed) : (wStep e s x).1.length ≤ s.1.length + 2 := by
  unfold wStep
  simp only
  split <;> split <;> simp <;> omega

/-- What leads out of a node; how many edges are from nodes below it. -/
def outE (l : List Ed) (v : Int) : List Ed := l.filter fun p => decide (p.1 = v)
def inE (l : List Ed) (v : Int) : List Ed := l.filter fun p => decide (p.2.1 = v)
def startE (l : List Ed) (v : Int) : Nat := (l.filter fun p => decide (p.1 < v)).length
def kindsE (l : List Ed) (u v : Int) : List Int := ((outE l u).filter fun p => decide (p.2.1 = v)).map fun p => p.2.2
def flipE (p : Ed) : Ed := (p.2.1, p.1, p.2.2)
def backE (l : List Ed) : List Ed := sorE (l.map flipE)
theorem from_le {l : List Ed} (hok : ∀ p ∈ l, okE p) (h : upE l) : l.Pairwise fun x y => x.1 ≤ y.1 := by
  refine List.Pairwise.imp_of_mem (fun {a b} ha hb hab => ?_) h
  have := hok a ha
  have := hok b hb
  unfold okE at *
  unfold plE at hab
  omega
theorem start_split {l : List Ed} (h : l.Pairwise fun x y => x.1 ≤ y.1) (v : Int) : l.take (startE l v) = l.filter (fun p => decide (p.1 < v)) ∧ l.drop (startE l v) = l.filter (fun p => decide (v ≤ p.1)) := by
  unfold startE
  induction l with
  | nil => simp
  | cons x l ih =>
    obtain ⟨h1, h2⟩ := List.pairwise_cons.1 h
    by_cases hx : x.1 < v
    · obtain ⟨e1, e2⟩ := ih h2
      have hx2 : ¬ v ≤ x.1 := by omega
      simp [hx, hx2, e1, e2]
    · have hx2 : v ≤ x.1 := by omega
      have e1 : (x :: l).filter (fun p => decide (p.1 < v)) = [] := by
        rw [List.filter_eq_nil_iff]
        intro y hy
        rcases List.mem_cons.1 hy with rfl | hy
        · simpa using hx2
        · have := h1 y hy
          simp; omega
      have e2 : (x :: l).filter (fun p => decide (v ≤ p.1)) = x :: l := by
        rw [List.filter_eq_self]
        intro y hy
        rcases List.mem_cons.1 hy with rfl | hy
        · simpa using hx2
        · have := h1 y hy
          simp; omega
      rw [e1, e2]; simp
theorem start_le (l : List Ed) (v : Int) : startE l v ≤ l.length := List.length_filter_le _ _
theorem start_mono (l : List Ed) {u v : Int} (h : u ≤ v) : startE l u ≤ startE l v := by
  unfold startE
  induction l with
  | nil => simp
  | cons x l ih =>
    by_cases h1 : x.1 < u
    · have h2 : x.1 < v := by omega
      simp [h1, h2]; exact ih
    · by_cases h2 : x.1 < v
      · simp [h1, h2]; omega
      · simp [h1, h2]; exact ih
theorem out_cut {l : List Ed} (h : l.Pairwise fun x y => x.1 ≤ y.1) (v : Int) : (l.drop (startE l v)).take (startE l (v + 1) - startE l v) = outE l v := by
  have e1 := (start_split h v).1
  have e2 := (start_split h (v + 1)).1
  have hle := start_mono l (u := v) (v := v + 1) (by omega)
  rw [← List.drop_take, e2]
  have e3 : (l.filter (fun p => decide (p.1 < v + 1))) = l.take (startE l v) ++ outE l v := by
    rw [e1]
    unfold outE
    clear e1 e2 hle
    induction l with
    | nil => simp
    | cons x l ih =>
      obtain ⟨h1, h2⟩ := List.pairwise_cons.1 h
      have ih := ih h2
      rcases Int.lt_trichotomy x.1 v with hx | hx | hx
      · have a : x.1 < v + 1 := by omega
        have b : ¬ x.1 = v := by omega
        simp [hx, a, b, ih]
      · have a : x.1 < v + 1 := by omega
        have b : ¬ x.1 < v := by omega
        have e : l.filter (fun p => decide (p.1 < v)) = [] := by
          rw [List.filter_eq_nil_iff]
          intro y hy
          have := h1 y hy
          simp; omega
        rw [e, List.nil_append] at ih
        rw [List.filter_cons_of_pos (by simpa using a), List.filter_cons_of_neg (by simpa using b), List.filter_cons_of_pos (by simpa using hx), ih, e, List.nil_append]
      · have a : ¬ x.1 < v + 1 := by omega
        have b : ¬ x.1 < v := by omega
        have c : ¬ x.1 = v := by omega
        simp [a, b, c, ih]
  rw [e3, List.drop_left' (by rw [List.length_take]; have := start_le l v; omega)]
theorem start_lo {l : List Ed} (h : l.Pairwise fun x y => x.1 ≤ y.1) (v : Int) {i : Nat} {p : Ed} (hp : l[i]? = some p) (hi : i < startE l v) : p.1 - v < 0 := by
  have : p ∈ l.take (startE l v) := List.mem_of_getElem? (i := i) (by rw [List.getElem?_take, if_pos hi]; exact hp)
  rw [(start_split h v).1] at this
  have := (List.mem_filter.1 this).2
  simp at this; omega
theorem start_hi {l : List Ed} (h : l.Pairwise fun x y => x.1 ≤ y.1) (v : Int) {i : Nat} {p : Ed} (hp : l[i]? = some p) (hi : startE l v ≤ i) : ¬ p.1 - v < 0 := by
  have : p ∈ l.drop (startE l v) := List.mem_of_getElem? (i := i - startE l v) (by rw [List.getElem?_drop, Nat.add_sub_cancel' hi]; exact hp)
  rw [(start_split h v).2] at this
  have := (List.mem_filter.1 this).2
  simp at this; omega
theorem start_all {nodes : Int} {l : List Ed} (h : ∀ p ∈ l, rightE nodes p = true) : startE l nodes = l.length := by
  unfold startE
  rw [List.filter_eq_self.2]
  intro p hp
  have := h p hp
  unfold rightE at this
  simp at this
  simp; omega

theorem flip_right {nodes : Int} {p : Ed} (h : rightE nodes p = true) : rightE nodes (flipE p) = true := by
  unfold rightE flipE at *
  simp only [decide_eq_true_eq] at *
  exact ⟨h.2.1, h.1, fun e => h.2.2.1 e.symm, h.2.2.2⟩
theorem flip_flip (p : Ed) : flipE (flipE p) = p := rfl
theorem IsG.flip {nodes : Int} {l : List Ed} (h : IsG nodes l) : ∀ p ∈ l.map flipE, rightE nodes p = true := fun p hp => by
  obtain ⟨q, hq, rfl⟩ := List.mem_map.1 hp
  exact flip_right (h.all q hq)
theorem IsG.flip_ok {nodes : Int} {l : List Ed} (h : IsG nodes l) : ∀ p ∈ l.map flipE, okE p := fun p hp => rightE_ok h.may (h.flip p hp)
theorem IsG.back {nodes : Int} {l : List Ed} (h : IsG nodes l) : IsG nodes (backE l) := IsG.sor h.may h.flip
theorem mem_back {nodes : Int} {l : List Ed} (h : IsG nodes l) (p : Ed) : p ∈ backE l ↔ flipE p ∈ l := by
  unfold backE
  rw [mem_sorE h.flip_ok, List.mem_map]
  exact ⟨fun ⟨q, hq, e⟩ => by rw [← e]; exact hq, fun hp => ⟨flipE p, hp, rfl⟩⟩
theorem back_back {nodes : Int} {l : List Ed} (h : IsG nodes l) : backE (backE l) = l :=
  sorE_is h.back.flip_ok h.up fun x => by
    rw [List.mem_map]
    exact ⟨fun hx => ⟨flipE x, (mem_back h _).2 hx, rfl⟩, fun ⟨q, hq, e⟩ => by rw [← e]; exact (mem_back h q).1 hq⟩
theorem back_len {nodes : Int} {l : List Ed} (h : IsG nodes l) : (backE l).length = l.length := by
  have h1 : (backE l).length ≤ l.length := by have := sorE_len (l.map flipE); rw [List.length_map] at this; exact this
  have h2 : (backE (backE l)).length ≤ (backE l).length := by have := sorE_len ((backE l).map flipE); rw [List.length_map] at this; exact this
  rw [back_back h] at h2
  omega
theorem out_in {nodes : Int} {l : List Ed} (h : IsG nodes l) (v : Int) : inE (backE l) v = (outE l v).map flipE := by
  refine up_ext (List.Pairwise.filter _ h.back.up) ?_ fun x => ?_
  · refine List.pairwise_map.2 (List.Pairwise.imp_of_mem (fun {a b} ha hb hab => ?_) (List.Pairwise.filter _ h.up))
    have ha1 := (List.mem_filter.1 ha).2
    have hb1 := (List.mem_filter.1 hb).2
    have ho1 := h.ok a (List.mem_filter.1 ha).1
    have ho2 := h.ok b (List.mem_filter.1 hb).1
    simp at ha1 hb1
    unfold okE at ho1 ho2
    unfold plE flipE
    unfold plE at hab
    simp only
    omega
  · unfold inE outE
    rw [List.mem_filter, mem_back h, List.mem_map]
    refine ⟨fun ⟨h1, h2⟩ => ⟨flipE x, List.mem_filter.2 ⟨h1, decide_eq_true (of_decide_eq_true h2)⟩, rfl⟩, fun ⟨q, hq, e⟩ => ?_⟩
    obtain ⟨h1, h2⟩ := List.mem_filter.1 hq
    rw [← e]
    exact ⟨h1, decide_eq_true (of_decide_eq_true h2)⟩
end Go.Proofs.YtgbpaiffnhpafaaDoor
namespace Go.Proofs.YtgbpaiffnhpafaaDoor
open Go.RowKit

def nodeB (nodes v : Int) : Bool := decide (0 ≤ v ∧ v < nodes)
set_option maxHeartbeats 1000000 in
theorem node_yes (v nodes : Int) (h : 0 ≤ v ∧ v < nodes) (w : World) : Calls Tryd.prog 81 #[.int .i64 v, .int .i64 nodes] w fun e w' => e = .returned (.bool true) ∧ w = w' := by
  obtain ⟨h1, h2⟩ := h
  go_enter Tryd.func81, Tryd.ntmps81
  go_wp2_with fail
  go_ret
  exact ⟨rfl, rfl⟩
set_option maxHeartbeats 1000000 in
theorem node_no (v nodes : Int) (h : ¬ (0 ≤ v ∧ v < nodes)) (w : World) : Calls Tryd.prog 81 #[.int .i64 v, .int .i64 nodes] w fun e w' => e = .returned (.bool false) ∧ w = w' := by
  by_cases h1 : 0 ≤ v
  · have h2 : ¬ v < nodes := fun c => h ⟨h1, c⟩
    clear h
    go_enter Tryd.func81, Tryd.ntmps81
    go_wp2_with fail
    go_ret
    exact ⟨rfl, rfl⟩
  · have h2 : decide (0 ≤ v) = false := by simpa using h1
    clear h
    go_enter Tryd.func81, Tryd.ntmps81
    go_wp2_with fail
    go_ret
    exact ⟨rfl, rfl⟩
theorem node_any (v nodes : Int) (w : World) : Calls Tryd.prog 81 #[.int .i64 v, .int .i64 nodes] w fun e w' => e = .returned (.bool (nodeB nodes v)) ∧ w = w' := by
  unfold nodeB
  by_cases h : 0 ≤ v ∧ v < nodes
  · rw [decide_eq_true h]; exact node_yes v nodes h w
  · rw [decide_eq_false h]; exact node_no v nodes h w
set_option maxHeartbeats 1000000 in
theorem may_any (nodes : Int) (w : World) : Calls Tryd.prog 58 #[.int .i64 nodes] w fun e w' => e = .returned (.bool (mayN nodes)) ∧ w = w' := by
  by_cases h1 : 0 ≤ nodes
  · by_cases h2 : nodes ≤ 300
    · have HE : Hid (mayN nodes = true) := by show _ = _; unfold mayN; simp [h1, h2]
      go_enter Tryd.func58, Tryd.ntmps58
      go_wp2_with fail
      go_ret
      exact ⟨by rw [HE.out]; rfl, rfl⟩
    · have HE : Hid (mayN nodes = false) := by show _ = _; unfold mayN; simp [h1, h2]
      go_enter Tryd.func58, Tryd.ntmps58
      go_wp2_with fail
      go_ret
      exact ⟨by rw [HE.out]; rfl, rfl⟩
  · have h2 : decide (0 ≤ nodes) = false := by simpa using h1
    have HE : Hid (mayN nodes = false) := by show _ = _; unfold mayN; simp [h1]
    go_enter Tryd.func58, Tryd.ntmps58
    go_wp2_with fail
    go_ret
    exact ⟨by rw [HE.out]; rfl, rfl⟩

theorem box_new (w : World) (cs : Array Value) (t : TypeId) : Blk (w.alloc (.cells cs t)) w.heap.size t cs ∧ Below w.heap.size w (w.alloc (.cells cs t)) := ⟨Blk.new w t cs, (Below.refl _ _).alloc (Nat.le_refl _) _⟩

theorem edge_ways {nodes : Int} {p : Ed} (h : rightE nodes p = false) : ¬ (0 ≤ p.1 ∧ p.1 < nodes) ∨ ((0 ≤ p.1 ∧ p.1 < nodes) ∧ ¬ (0 ≤ p.2.1 ∧ p.2.1 < nodes)) ∨ ((0 ≤ p.1 ∧ p.1 < nodes) ∧ (0 ≤ p.2.1 ∧ p.2.1 < nodes) ∧ (p.1 == p.2.1) = true) ∨
    ((0 ≤ p.1 ∧ p.1 < nodes) ∧ (0 ≤ p.2.1 ∧ p.2.1 < nodes) ∧ (p.1 == p.2.1) = false ∧ p.2.2 < 0) ∨ ((0 ≤ p.1 ∧ p.1 < nodes) ∧ (0 ≤ p.2.1 ∧ p.2.1 < nodes) ∧ (p.1 == p.2.1) = false ∧ ¬ p.2.2 < 0 ∧ p.2.2 > 9) := by
  unfold rightE at h
  rw [decide_eq_false_iff_not] at h
  by_cases h1 : 0 ≤ p.1 ∧ p.1 < nodes
  · by_cases h2 : 0 ≤ p.2.1 ∧ p.2.1 < nodes
    · by_cases h3 : p.1 = p.2.1
      · exact .inr (.inr (.inl ⟨h1, h2, by simpa using h3⟩))
      · by_cases h4 : p.2.2 < 0
        · exact .inr (.inr (.inr (.inl ⟨h1, h2, by simpa using h3, h4⟩)))
        · exact .inr (.inr (.inr (.inr ⟨h1, h2, by simpa using h3, h4, by
            rcases Int.lt_or_le 9 p.2.2 with h5 | h5
            · exact h5
            · exact absurd ⟨h1, h2, h3, by omega, h5⟩ h⟩)))
    · exact .inr (.inl ⟨h1, h2⟩)
  · exact .inl h1
theorem all_take {l : List Ed} {q : Ed → Bool} {k : Nat} {x : Ed} (h : ∀ p ∈ l.take k, q p = true) (hx : l[k]? = some x) (hq : q x = true) : ∀ p ∈ l.take (k + 1), q p = true := by
  rw [List.take_add_one, hx]
  intro p hp
  rcases List.mem_append.1 hp with hp | hp
  · exact h p hp
  · simp at hp; subst hp; exact hq
theorem all_no {l : List Ed} {q : Ed → Bool} {x : Ed} (hx : x ∈ l) (hq : q x = false) : l.all q = false := by
  rw [List.all_eq_false]
  exact ⟨x, hx, by rw [hq]; decide⟩

set_option maxRecDepth 100000 in
set_option maxHeartbeats 4000000 in
theorem between_any (nodes : Int) (A : Option Addr) (n c : Nat) (zs : List Ed) (hn : n ≤ 1000000) (w : World) (hR : Reads w w.heap.size 3 A n (cellsE zs)) :
    Calls Tryd.prog 59 #[.int .i64 nodes, .slice A n c] w fun e w' => e = .returned (.bool (zs.all (rightE nodes))) ∧ Below w.heap.size w w' := by
  have HR := Lib.hid hR
  have HL := Lib.hid (reads_len hR)
  clear hR
  go_enter Tryd.func59, Tryd.ntmps59
  go_wp2_with fail
  go_loopg [9] n (fun gg i wr => ∃ k : Nat, k + gg = n ∧ i = .int .i64 k ∧ Hid (∀ p ∈ zs.take k, rightE nodes p = true) ∧ Hid (Below w.heap.size w wr))
  case atStart => exact ⟨0, by omega, rfl, fun _ h => by simp at h, Below.refl _ _⟩
  case round =>
    obtain ⟨k, hk, rfl, ht, bk⟩ := hrel
    cases gk with
    | succ g2 =>
      have hlt : (k : Int) < (n : Int) := by omega
      obtain ⟨p, hp⟩ : ∃ p, zs[k]? = some p := ⟨zs[k]'(by rw [HL.out]; omega), List.getElem?_eq_getElem _⟩
      obtain ⟨b, o, rfl, hb, g0, g1, g2'⟩ := ed_at (HR.out.below bk.out) hp
      have HK := Lib.hid hk
      have HB1 : Hid (Below w.heap.size w (wr.alloc (.cells #[.int .i64 p.1, .int .i64 p.2.1, .int .i64 p.2.2] 53))) := bk.out.alloc bk.out.size _
      cases he : rightE nodes p
      · have HF : Hid (zs.all (rightE nodes) = false) := all_no (List.mem_of_getElem? hp) he
        have hw := edge_ways he
        clear hp hk he
        rcases hw with h1 | ⟨h1, h2⟩ | ⟨h1, h2, h3⟩ | ⟨h1, h2, h3, h4⟩ | ⟨h1, h2, h3, h4, h5⟩
        · have H1 := Lib.hid h1
          clear h1
          go_wp2_with fail
          refine (node_no _ _ H1.out _).mono ?_
          rintro e w1 ⟨rfl, rfl⟩
          go_wp2_with fail
          go_ret
          exact ⟨by rw [HF.out]; rfl, HB1.out⟩
        · have H1 := Lib.hid h1
          have H2 := Lib.hid h2
          clear h1 h2
          go_wp2_with fail
          refine (node_yes _ _ H1.out _).mono ?_
          rintro e w1 ⟨rfl, rfl⟩
          go_wp2_with fail
          refine (node_no _ _ H2.out _).mono ?_
          rintro e w1 ⟨rfl, rfl⟩
          go_wp2_with fail
          go_ret
          exact ⟨by rw [HF.out]; rfl, HB1.out⟩
        all_goals
          have H1 := Lib.hid h1
          have H2 := Lib.hid h2
          clear h1 h2
          go_wp2_with fail
          refine (node_yes _ _ H1.out _).mono ?_
          rintro e w1 ⟨rfl, rfl⟩
          go_wp2_with fail
          refine (node_yes _ _ H2.out _).mono ?_
          rintro e w1 ⟨rfl, rfl⟩
          go_wp2_with fail
          go_ret
          exact ⟨by rw [HF.out]; rfl, HB1.out⟩
      · have HT := Lib.hid (all_take ht.out hp he)
        unfold rightE at he
        rw [decide_eq_true_eq] at he
        obtain ⟨h1, h2, h3, h4, h5⟩ := he
        have H1 := Lib.hid h1
        have H2 := Lib.hid h2
        have h3b : (p.1 == p.2.1) = false := by simpa using h3
        have h4b : ¬ p.2.2 < 0 := by omega
        have h5b : ¬ p.2.2 > 9 := by omega
        clear hp hk h1 h2 h3 h4 h5
        go_wp2_with fail
        refine (node_yes _ _ H1.out _).mono ?_
        rintro e w1 ⟨rfl, rfl⟩
        go_wp2_with fail
        refine (node_yes _ _ H2.out _).mono ?_
        rintro e w1 ⟨rfl, rfl⟩
        go_wp2_with fail
        go_roundg g2
        case measure => omega
        case rel => exact ⟨k + 1, by have := HK.out; omega, by go_num, HT, HB1⟩
    | zero =>
      have hge : ¬ (k : Int) < (n : Int) := by omega
      have HF : Hid (zs.all (rightE nodes) = true) := by
        show _ = _
        rw [List.all_eq_true]
        have := ht.out
        rwa [List.take_of_length_le (by rw [HL.out]; omega)] at this
      have HK := Lib.hid hk
      clear hk
      go_wp2_with fail
      go_ret
      exact ⟨by rw [HF.out]; rfl, bk.out⟩
end Go.Proofs.YtgbpaiffnhpafaaDoor
namespace Go.Proofs.YtgbpaiffnhpafaaDoor
open Go.RowKit

def checkG (nodes : Int) (l : List Ed) : Int := if rightG nodes l = true then 0 else 150
theorem check_yes {nodes : Int} {l : List Ed} (h : rightG nodes l = true) : checkG nodes l = 0 := by unfold checkG; rw [if_pos h]
theorem check_no {nodes : Int} {l : List Ed} (h : rightG nodes l = false) : checkG nodes l = 150 := by unfold checkG; rw [if_neg (by rw [h]; decide)]

set_option maxRecDepth 100000 in
set_option maxHeartbeats 4000000 in
theorem check_any (nodes : Int) (A : Option Addr) (n c : Nat) (zs : List Ed) (hn : n ≤ 1000) (w : World) (hR : Reads w w.heap.size 3 A n (cellsE zs)) :
    Calls Tryd.prog 26 #[.agg #[.int .i64 nodes, .slice A n c]] w fun e w' => e = .returned (.int .i64 (checkG nodes zs)) ∧ Below w.heap.size w w' := by
  obtain ⟨bx, b0⟩ := box_new w #[.int .i64 nodes, .slice A n c] 24
  have HL := Lib.hid (reads_len hR)
  have HR := Lib.hid fun W (h : Below w.heap.size w W) => (hR.below h)
  have hsz := b0.size
  have BX := Lib.hid bx
  have B0 := Lib.hid b0
  clear hR bx b0
  go_enter Tryd.func26, Tryd.ntmps26
  go_wp2_with fail
  refine (may_any nodes _).mono ?_
  rintro e w1 ⟨rfl, rfl⟩
  generalize w.alloc (.cells #[.int .i64 nodes, .slice A n c] 24) = W0 at *
  have z0 : W0.cell? ⟨w.heap.size, 0, none⟩ = some (.int .i64 nodes) := BX.out.cell 0
  have z1 : W0.cell? ⟨w.heap.size, 1, none⟩ = some (.slice A n c) := BX.out.cell 1
  cases hm : mayN nodes
  · have HE := Lib.hid (check_no (rg_may (l := zs) hm))
    clear hm
    go_wp2_with fail
    go_ret
    exact ⟨by rw [HE.out]; rfl, B0.out⟩
  · have HM := Lib.hid hm
    have h40 : ¬ (n : Int) > 40000 := by omega
    have HBT := Lib.hid (between_any nodes A n c zs (by omega) W0 ((HR.out W0 B0.out).more hsz))
    clear hm
    go_wp2_with fail
    refine HBT.out.mono ?_
    rintro e w1 ⟨rfl, b⟩
    have BX1 := Lib.hid (BX.out.below b BX.out.lt)
    have B1 : Hid (Below w.heap.size w w1) := B0.out.trans (b.mono hsz)
    clear b z0 z1 BX B0 HBT
    have z0 : w1.cell? ⟨w.heap.size, 0, none⟩ = some (.int .i64 nodes) := BX1.out.cell 0
    have z1 : w1.cell? ⟨w.heap.size, 1, none⟩ = some (.slice A n c) := BX1.out.cell 1
    cases ha : zs.all (rightE nodes)
    · have HE : Hid (checkG nodes zs = 150) := by
        rw [List.all_eq_false] at ha
        obtain ⟨x, hx, h⟩ := ha
        exact check_no (rg_edge hx (by simpa using h))
      clear ha
      go_wp2_with fail
      go_ret
      exact ⟨by rw [HE.out]; rfl, B1.out⟩
    · have HA := Lib.hid (List.all_eq_true.1 ha)
      have HOK : Hid (∀ p ∈ zs, okE p) := fun p hp => rightE_ok HM.out (HA.out p hp)
      clear ha
      have hsz1 : w.heap.size + 1 ≤ w1.heap.size := by have := BX1.out.lt; omega
      go_wp2_with fail
      clear z0 z1
      go_loopg [3] n (fun gg s3 wr => ∃ (k : Nat) (z : Int), n ≤ k + 1 + gg ∧ k ≤ n ∧ z = (k : Int) + 1 ∧ s3 = .int .i64 z ∧ Hid (∀ j x y, j < k → zs[j]? = some x → zs[j + 1]? = some y → plE x < plE y) ∧ Hid (Below w.heap.size w wr) ∧ Hid (Blk wr w.heap.size 24 #[.int .i64 nodes, .slice A n c]))
      case atStart => exact ⟨0, 1, by omega, by omega, rfl, rfl, fun j x y h => by omega, B1, BX1⟩
      case round =>
        clear B1 BX1 hsz1
        obtain ⟨k, z, hk, hkn, hz, rfl, HO, HB, HX⟩ := hrel
        have z0 : wr.cell? ⟨w.heap.size, 0, none⟩ = some (.int .i64 nodes) := HX.out.cell 0
        have z1 : wr.cell? ⟨w.heap.size, 1, none⟩ = some (.slice A n c) := HX.out.cell 1
        by_cases hlt : k + 1 < n
        · have hltI : z < (n : Int) := by omega
          obtain ⟨p, hp⟩ : ∃ p, zs[k]? = some p := ⟨zs[k]'(by rw [HL.out]; omega), List.getElem?_eq_getElem _⟩
          obtain ⟨q, hq⟩ : ∃ q, zs[k + 1]? = some q := ⟨zs[k + 1]'(by rw [HL.out]; omega), List.getElem?_eq_getElem _⟩
          obtain ⟨b, o, hA1, hb, g0, g1, g2⟩ := ed_at (HR.out _ HB.out) hp
          obtain ⟨b2, o2, hA2, hb2, x0, x1, x2⟩ := ed_at (HR.out _ HB.out) hq
          subst hA1
          injection hA2 with hA2
          injection hA2 with e1 e2 _
          subst e1; subst e2
          have HP := Lib.hid fun W => place_any p (HOK.out p (List.mem_of_getElem? hp)) W
          have HQ := Lib.hid fun W => place_any q (HOK.out q (List.mem_of_getElem? hq)) W
          have HPX := Lib.hid hp
          have HQX := Lib.hid hq
          have HK := Lib.hid (And.intro hk hkn)
          have hXb : w.heap.size < wr.heap.size := HX.out.lt
          have hbl : b < wr.heap.size := by have := HB.out.size; omega
          have J0 : Hid (Below wr.heap.size wr wr.drew) := (Below.refl _ _).drew
          have HSS : Hid (∀ W, Below wr.heap.size wr W → W.cell? ⟨w.heap.size, 0, none⟩ = some (.int .i64 nodes) ∧ W.cell? ⟨w.heap.size, 1, none⟩ = some (.slice (some ⟨b, o, none⟩) n c) ∧
              W.cell? ⟨b, o + k * 3, none⟩ = some (.int .i64 p.1) ∧ W.cell? ⟨b, o + k * 3 + 1, none⟩ = some (.int .i64 p.2.1) ∧ W.cell? ⟨b, o + k * 3 + 2, none⟩ = some (.int .i64 p.2.2) ∧
              W.cell? ⟨b, o + (k + 1) * 3, none⟩ = some (.int .i64 q.1) ∧ W.cell? ⟨b, o + (k + 1) * 3 + 1, none⟩ = some (.int .i64 q.2.1) ∧ W.cell? ⟨b, o + (k + 1) * 3 + 2, none⟩ = some (.int .i64 q.2.2)) :=
            fun W h => ⟨(h.cell (p := ⟨w.heap.size, 0, none⟩) hXb).trans z0, (h.cell (p := ⟨w.heap.size, 1, none⟩) hXb).trans z1, (h.cell (p := ⟨b, _, none⟩) hbl).trans g0, (h.cell (p := ⟨b, _, none⟩) hbl).trans g1, (h.cell (p := ⟨b, _, none⟩) hbl).trans g2, (h.cell (p := ⟨b, _, none⟩) hbl).trans x0, (h.cell (p := ⟨b, _, none⟩) hbl).trans x1, (h.cell (p := ⟨b, _, none⟩) hbl).trans x2⟩
          have hs1 : IntKind.i64.wrap (z - 1) = (k : Int) := by rw [IntKind.wrap_i64]; omega
          have hi0 : (0 : Int) ≤ (k : Int) := by omega
          have hi1 : (k : Int) < (n : Int) := by omega
          have hi2 : (0 : Int) ≤ z := by omega
          have hs2 : IntKind.i64.wrap (z + 1) = z + 1 := by rw [IntKind.wrap_i64]; omega
          have ht1 : z.toNat = k + 1 := by omega
          have HZ := Lib.hid hz
          clear hp hq hk hkn hz
          go_wp2_with fail
          clear z0 z1 g0 g1 g2 x0 x1 x2
          go_region_held3 (fun W => W.cell? ⟨w.heap.size, 0, none⟩ = some (.int .i64 nodes) ∧ W.cell? ⟨w.heap.size, 1, none⟩ = some (.slice (some ⟨b, o, none⟩) n c) ∧
              W.cell? ⟨b, o + k * 3, none⟩ = some (.int .i64 p.1) ∧ W.cell? ⟨b, o + k * 3 + 1, none⟩ = some (.int .i64 p.2.1) ∧ W.cell? ⟨b, o + k * 3 + 2, none⟩ = some (.int .i64 p.2.2) ∧
              W.cell? ⟨b, o + (k + 1) * 3, none⟩ = some (.int .i64 q.1) ∧ W.cell? ⟨b, o + (k + 1) * 3 + 1, none⟩ = some (.int .i64 q.2.1) ∧ W.cell? ⟨b, o + (k + 1) * 3 + 2, none⟩ = some (.int .i64 q.2.2)) (first | exact HSS.out _ J2.out | exact HSS.out _ J1.out | exact HSS.out _ J0.out | fail) (first
            | (have _t := J1; go_at_call 60; refine (HQ.out v1).mono ?_; rintro e v2 ⟨rfl, b⟩; have J2 : Hid (Below wr.heap.size wr v2) := J1.out.trans (b.mono J1.out.size); clear b)
            | (go_at_call 60; refine (HP.out wr.drew).mono ?_; rintro e v1 ⟨rfl, b⟩; have J1 : Hid (Below wr.heap.size wr v1) := J0.out.trans (b.mono J0.out.size); clear b)
            | fail)
          have HB2 : Hid (Below w.heap.size w v2) := HB.out.trans (J2.out.mono HB.out.size)
          have HX2 : Hid (Blk v2 w.heap.size 24 #[.int .i64 nodes, .slice (some ⟨b, o, none⟩) n c]) := HX.out.below J2.out hXb
          clear J0 J1 J2 HSS HB HX HP HQ
          clear hs1 hi0 hi1 ht1
          by_cases hpq : plE p < plE q
          · have hge : ¬ plE p ≥ plE q := by omega
            have HPQ := Lib.hid hpq
            clear hpq
            generalize hxp : plE p = xp at *
            generalize hxq : plE q = xq at *
            have HX1 := Lib.hid (And.intro hxp hxq)
            clear hxp hxq
            go_wp2_with fail
            go_roundg (gk - 1)
            case measure => have := HK.out; omega
            case rel =>
              refine ⟨k + 1, z + 1, by have := HK.out; omega, by omega, by have := HZ.out; omega, rfl, fun j x y hj hx hy => ?_, HB2, HX2⟩
              rcases Nat.lt_or_ge j k with h | h
              · exact HO.out j x y h hx hy
              · obtain rfl : j = k := by omega
                rw [HPX.out] at hx
                rw [HQX.out] at hy
                injection hx with hx
                injection hy with hy
                subst hx; subst hy
                rw [HX1.out.1, HX1.out.2]; exact HPQ.out
          · have hge : plE p ≥ plE q := by omega
            have HE := Lib.hid (check_no (rg_place (nodes := nodes) HPX.out HQX.out hge))
            clear hpq
            generalize plE p = xp at *
            generalize plE q = xq at *
            go_wp2_with fail
            go_ret
            exact ⟨by rw [HE.out]; rfl, HB2.out⟩
        · have hge : ¬ z < (n : Int) := by omega
          have HE : Hid (checkG nodes zs = 0) := check_yes (rg_places HM.out HA.out fun j x y hx hy => HO.out j x y (by
            have := (List.getElem?_eq_some_iff.1 hy).1
            have := HL.out
            omega) hx hy)
          clear hlt hz
          go_wp2_with fail
          go_ret
          exact ⟨by rw [HE.out]; rfl, HB.out⟩
end Go.Proofs.YtgbpaiffnhpafaaDoor
namespace Go.Proofs.YtgbpaiffnhpafaaDoor
open Go.RowKit

def askE (nodes : Int) (l : List Ed) (vs : List Int) : Int := if rightG nodes l = true then (if vs.all (nodeB nodes) = true then 0 else 2) else 150
theorem ask_graph {nodes : Int} {l : List Ed} {vs : List Int} (h : rightG nodes l = false) : askE nodes l vs = 150 := by unfold askE; rw [if_neg (by rw [h]; decide)]
theorem ask_arg {nodes : Int} {l : List Ed} {vs : List Int} (h : rightG nodes l = true) (hv : vs.all (nodeB nodes) = false) : askE nodes l vs = 2 := by unfold askE; rw [if_pos h, if_neg (by rw [hv]; decide)]
theorem ask_ok {nodes : Int} {l : List Ed} {vs : List Int} (h : rightG nodes l = true) (hv : vs.all (nodeB nodes) = true) : askE nodes l vs = 0 := by unfold askE; rw [if_pos h, if_pos hv]

theorem int_at {w : World} {B n k : Nat} {A : Option Addr} {v : Int} {vs : List Int} (h : Reads w B 1 A n (ints vs)) (hv : vs[k]? = some v) :
    ∃ b o, A = some ⟨b, o, none⟩ ∧ b < B ∧ w.cell? ⟨b, o + k, none⟩ = some (.int .i64 v) := by
  have hk := (List.getElem?_eq_some_iff.1 hv).1
  have hl := h.1
  rw [ints_length] at hl
  obtain ⟨b, o, hA, hb, hc⟩ := reads_plain h (by omega)
  exact ⟨b, o, hA, hb, hc k _ (by unfold ints; rw [List.getElem?_map, hv]; rfl)⟩
theorem ints_len {w : World} {B n : Nat} {A : Option Addr} {vs : List Int} (h : Reads w B 1 A n (ints vs)) : vs.length = n := by
  have := h.1; rw [ints_length] at this; omega

set_option maxHeartbeats 1000000 in
theorem start1_any (p : Ed) (hp : okE p) (v : Int) (hv : 0 ≤ v ∧ v ≤ 1000) (B : Nat) (W : World) (hB : B < W.heap.size) (hc : W.cell? ⟨B, 0, none⟩ = some (.int .i64 v)) :
    Calls Tryd.prog 103 #[.agg #[.int .i64 p.1, .int .i64 p.2.1, .int .i64 p.2.2], .pointer (some ⟨B, 0, none⟩)] W fun e W' => e = .returned (.int .i64 (p.1 - v)) ∧ Below W.heap.size W W' := by
  have hc2 : (W.alloc (.cells #[.int .i64 p.1, .int .i64 p.2.1, .int .i64 p.2.2] 53)).cell? ⟨B, 0, none⟩ = some (.int .i64 v) := (World.cell?_alloc_lt W _ ⟨B, 0, none⟩ hB).trans hc
  have hw : IntKind.i64.wrap (p.1 - v) = p.1 - v := by rw [IntKind.wrap_i64]; unfold okE at hp; omega
  go_enter Tryd.func103, Tryd.ntmps103
  go_wp2_with fail
  go_ret
  exact ⟨rfl, (Below.refl _ _).alloc (Nat.le_refl _) _⟩

/-- Edges as they stand in a graph that may be. -/
structure InRow (l : List Ed) : Prop where
  ok : ∀ p ∈ l, okE p
  ord : l.Pairwise fun x y => x.1 ≤ y.1
theorem IsG.row {nodes : Int} {l : List Ed} (h : IsG nodes l) : InRow l := ⟨h.ok, from_le h.ok h.up⟩

set_option maxRecDepth 100000 in
set_option maxHeartbeats 4000000 in
theorem start_any (A : Option Addr) (n c : Nat) (zs : List Ed) (v : Int) (hv : 0 ≤ v ∧ v ≤ 1000) (hz : InRow zs) (hn : n ≤ 1000) (w : World) (hR : Reads w w.heap.size 3 A n (cellsE zs)) :
    Calls Tryd.prog 88 #[.slice A n c, .int .i64 v] w fun e w' => e = .returned (.int .i64 (startE zs v : Int)) ∧ Below w.heap.size w w' := by
  obtain ⟨bx, b0⟩ := box_new w #[.int .i64 v] 3
  have hl := reads_len hR
  have hj : startE zs v ≤ n := by have := start_le zs v; omega
  have HF := Lib.hid (find_start (.pointer (some ⟨w.heap.size, 0, none⟩)) A n c (startE zs v) zs (fun p => p.1 - v) (match zs[startE zs v]? with | some p => (p.1 - v == 0) | none => false) (by omega) _ ((hR.below b0).more b0.size) hj
    (fun i p hp hi => start_lo hz.ord v hp hi) (fun i p hp hi => start_hi hz.ord v hp hi) (fun _ p hp => by rw [hp]) (fun h => by rw [List.getElem?_eq_none (by omega)])
    (fun p hp W hW => start1_any p (hz.ok p hp) v hv w.heap.size W (Nat.lt_of_lt_of_le bx.lt hW.size) ((bx.below hW bx.lt).cell 0)))
  have B0 := Lib.hid b0
  clear hR bx b0
  generalize (match zs[startE zs v]? with | some p => (p.1 - v == 0) | none => false) = bb at *
  go_enter Tryd.func88, Tryd.ntmps88
  go_wp2_with fail
  refine HF.out.mono ?_
  rintro e w1 ⟨rfl, b⟩
  have B1 : Hid (Below w.heap.size w w1) := B0.out.trans (b.mono B0.out.size)
  clear b
  go_wp2_with fail
  go_ret
  exact ⟨rfl, B1.out⟩

theorem reads_part {w : World} {B n l h : Nat} {A : Option Addr} {xs : List Value} (hR : Reads w B 3 A n xs) (hl : l ≤ h) (hh : h ≤ n) : Reads w B 3 (if h = l then A else A.map (·.add (l * 3))) (h - l) ((xs.drop (l * 3)).take ((h - l) * 3)) := by
  by_cases e : h = l
  · subst e
    rw [if_pos rfl, Nat.sub_self]
    exact ⟨by simp, fun h => absurd h (by omega)⟩
  · rw [if_neg e]
    have := (hR.cut (k := l) (cap := n + 1) (by omega) (by omega))
    rw [if_neg (by omega)] at this
    exact reads_take this (by omega)

/-- What is cut out of a row: the edges from a node. -/
def CutAt (zs : List Ed) (v : Int) (A : Option Addr) : Option Addr := if startE zs (v + 1) = startE zs v then A else A.map (·.add (startE zs v * 3))
theorem cut_reads {w : World} {B n : Nat} {A : Option Addr} {zs : List Ed} (v : Int) (hz : InRow zs) (h : Reads w B 3 A n (cellsE zs)) : Reads w B 3 (CutAt zs v A) (startE zs (v + 1) - startE zs v) (cellsE (outE zs v)) := by
  have hl := reads_len h
  have h1 := start_mono zs (u := v) (v := v + 1) (by omega)
  have h2 := start_le zs (v + 1)
  have := reads_part h h1 (by omega)
  rw [← cellsE_drop, ← cellsE_take, out_cut hz.ord] at this
  exact this

theorem Own.row {B h n : Nat} {xs : List Ed} {w : World} (o : Own B h n xs w) (hn : n ≤ 1000000) : w.ownsRow B 53 3 (.slice (some ⟨h, 0, none⟩) n n) n (cellsE xs) := by
  refine ⟨by rw [cellsE_length, o.2.1], .inr ⟨h, n, _, rfl, o.1, o.2.2, Nat.le_refl _, by unfold maxLen; omega, by rw [List.size_toArray, cellsE_length, o.2.1], ?_⟩⟩
  rw [List.take_of_length_le (by rw [cellsE_length, o.2.1]; exact Nat.le_refl _)]

set_option maxRecDepth 100000 in
set_option maxHeartbeats 4000000 in
theorem copied_any (A : Option Addr) (n c : Nat) (zs : List Ed) (hn : n ≤ 100000) (w : World) (hR : Reads w w.heap.size 3 A n (cellsE zs)) :
    Calls Tryd.prog 107 #[.slice A n c] w (RowIs zs w) := by
  have hl := reads_len hR
  have hmk := fun W => pr_make n (by omega) W
  have b0 : Below w.heap.size w (w.alloc (.cells (cellsE (List.replicate n ((0, 0, 0) : Ed))).toArray 53)) := (Below.refl _ _).alloc (Nat.le_refl _) _
  obtain ⟨w2, r2, hb2, hg2⟩ := copy_pairs (w.alloc (.cells (cellsE (List.replicate n ((0, 0, 0) : Ed))).toArray 53)) w.heap.size 0 0 n n A n c _ zs (by omega) (Blk.new _ _ _)
    (Src.of_reads (hR.below b0) (by omega) (by simp) (Nat.le_refl _)) (Nat.le_refl _) (by rw [List.length_replicate]; omega)
  have hx : (List.replicate n ((0, 0, 0) : Ed)).take 0 ++ zs ++ (List.replicate n ((0, 0, 0) : Ed)).drop (0 + n) = zs := by
    rw [List.take_zero, List.nil_append, List.drop_of_length_le (by rw [List.length_replicate]; omega), List.append_nil]
  rw [hx] at hb2
  have HF : Hid (Own w.heap.size w.heap.size n zs w2 ∧ Below w.heap.size w w2) := ⟨⟨Nat.le_refl _, hl, hb2⟩, below_row b0 hg2 (by simp) (Nat.le_refl _)⟩
  clear hR hb2 hg2 hx b0
  go_enter Tryd.func107, Tryd.ntmps107
  go_wp2_with fail
  go_ret
  unfold RowIs
  rw [hl]
  exact ⟨_, n, rfl, HF.out.1.row (by omega), Nat.le_refl _, by omega, HF.out.2⟩
end Go.Proofs.YtgbpaiffnhpafaaDoor
namespace Go.Proofs.YtgbpaiffnhpafaaDoor
open Go.RowKit

theorem store2 {W : World} {X : Nat} {t : TypeId} {a b : Value} (h : Blk W X t #[a, b]) (u v : Value) : Blk ((W.setCell ⟨X, 0, none⟩ u).setCell ⟨X, 1, none⟩ v) X t #[u, v] := by
  have := (h.set_ 0 u).set_ 1 v
  simpa using this
theorem own_store {W : World} {base X k : Nat} {t e : TypeId} {size n : Nat} {v : Value} {xs : List Value} {cs : Array Value} (h : W.ownsRow base e size v n xs) (hb : Blk W X t cs) (hte : t ≠ e) (u : Value) : (W.setCell ⟨X, k, none⟩ u).ownsRow base e size v n xs := by
  refine h.kept (row := some X) (setCell_only (p := ⟨X, k, none⟩) (World.grownBy.refl W _) (.inl rfl) u) ?_
  rcases h.2 with ⟨rfl, _⟩ | ⟨g, cap, cur, rfl, _, hg, _⟩
  · exact .inl rfl
  · refine .inr fun e' => ?_
    have e2 : g = X := by simpa [Value.ownBlock] using e'
    subst e2
    unfold Blk at hb
    rw [hb] at hg
    injection hg with hg
    injection hg with _ h2
    exact hte h2
theorem own_store2 {W : World} {base X : Nat} {t e : TypeId} {size n : Nat} {v : Value} {xs : List Value} {a b : Value} (h : W.ownsRow base e size v n xs) (hb : Blk W X t #[a, b]) (hte : t ≠ e) (u u' : Value) : ((W.setCell ⟨X, 0, none⟩ u).setCell ⟨X, 1, none⟩ u').ownsRow base e size v n xs :=
  own_store (own_store h hb hte u) (hb.set_ 0 u) hte u'
theorem below_store2 {B : Nat} {w W : World} {X : Nat} (h : Below B w W) (hX : B ≤ X) (u v : Value) : Below B w ((W.setCell ⟨X, 0, none⟩ u).setCell ⟨X, 1, none⟩ v) :=
  (h.setCell (p := ⟨X, 0, none⟩) hX u).setCell (p := ⟨X, 1, none⟩) hX v

/-- A graph, and an error. -/
def GErr (nodes : Int) (ps : List Ed) (k : Int) (w : World) (e : Ending) (w' : World) : Prop :=
  ∃ (A : Option Addr) (c : Nat), e = .returned (.tuple #[.agg #[.int .i64 nodes, .slice A ps.length c], .int .i64 k]) ∧ w'.ownsRow w.heap.size 53 3 (.slice A ps.length c) ps.length (cellsE ps) ∧ ps.length ≤ c ∧ c ≤ 9223372036854775807 ∧ Below w.heap.size w w'
/-- A graph. -/
def GIs (nodes : Int) (ps : List Ed) (w : World) (e : Ending) (w' : World) : Prop :=
  ∃ (A : Option Addr) (c : Nat), e = .returned (.agg #[.int .i64 nodes, .slice A ps.length c]) ∧ w'.ownsRow w.heap.size 53 3 (.slice A ps.length c) ps.length (cellsE ps) ∧ ps.length ≤ c ∧ c ≤ 9223372036854775807 ∧ Below w.heap.size w w'
/-- Edges, and an error. -/
def RErr (ps : List Ed) (k : Int) (w : World) (e : Ending) (w' : World) : Prop :=
  ∃ (A : Option Addr) (c : Nat), e = .returned (.tuple #[.slice A ps.length c, .int .i64 k]) ∧ w'.ownsRow w.heap.size 53 3 (.slice A ps.length c) ps.length (cellsE ps) ∧ ps.length ≤ c ∧ c ≤ 9223372036854775807 ∧ Below w.heap.size w w'
theorem rows_row {ps : List Ed} {w w' : World} {e : Ending} (h : RowIs ps w e w') : ∃ (A : Option Addr) (c : Nat), e = .returned (.slice A ps.length c) ∧ w'.ownsRow w.heap.size 53 3 (.slice A ps.length c) ps.length (cellsE ps) ∧ ps.length ≤ c ∧ c ≤ 9223372036854775807 ∧ Below w.heap.size w w' := h
theorem reads_own {w : World} {A : Option Addr} {n c : Nat} {ps : List Ed} {base : Nat} (h : w.ownsRow base 53 3 (.slice A n c) n (cellsE ps)) : Reads w w.heap.size 3 A n (cellsE ps) := Reads.of_own h
theorem own_nil {w : World} {A : Option Addr} {n c : Nat} {xs : List Value} {base : Nat} {e : TypeId} {size : Nat} (h : w.ownsRow base e size (.slice A n c) n xs) : A = none → c = 0 := by
  rintro rfl
  rcases h.2 with ⟨hv, _⟩ | ⟨g, cap, cur, hv, _⟩
  · injection hv
  · injection hv with h1
    cases h1

set_option maxHeartbeats 1000000 in
theorem sorted_any (A : Option Addr) (n c : Nat) (zs : List Ed) (hok : ∀ p ∈ zs, okE p) (hn : n ≤ 1000) (w : World) (hR : Reads w w.heap.size 3 A n (cellsE zs)) :
    Calls Tryd.prog 64 #[.slice A n c] w (RowIs (sorE zs) w) := by
  have hl := reads_len hR
  have HS := Lib.hid (sort_any A n c zs hok (by omega) w hR)
  have HL := Lib.hid hl
  clear hR hl hok
  go_enter Tryd.func64, Tryd.ntmps64
  go_wp2_with fail
  refine HS.out.mono ?_
  rintro e w1 ⟨h, rfl, o, b⟩
  have HU := Lib.hid (uniq_any (some ⟨h, 0, none⟩) n n (srt ltE zs) (by omega) w1 o.reads)
  have B1 := Lib.hid b
  clear b o
  go_wp2_with fail
  refine HU.out.mono ?_
  rintro e w2 hx
  obtain ⟨A2, c2, rfl, h1, h2, h3, h4⟩ := rows_row hx
  have HF := Lib.hid (And.intro h1 (And.intro h2 (And.intro h3 h4)))
  clear h1 h2 h3 h4 hx HU
  go_wp2_with fail
  go_ret
  unfold RowIs sorE
  rw [HL.out]
  exact ⟨A2, c2, rfl, own_base HF.out.1 B1.out.size, HF.out.2.1, HF.out.2.2.1, B1.out.trans (HF.out.2.2.2.mono B1.out.size)⟩

set_option maxRecDepth 100000 in
set_option maxHeartbeats 2000000 in
theorem of_ok (nodes : Int) (A : Option Addr) (n c : Nat) (zs : List Ed) (hm : mayN nodes = true) (ha : ∀ p ∈ zs, rightE nodes p = true) (hn : n ≤ 1000) (w : World) (hR : Reads w w.heap.size 3 A n (cellsE zs)) :
    Calls Tryd.prog 32 #[.int .i64 nodes, .slice A n c] w (GErr nodes (sorE zs) 0 w) := by
  obtain ⟨bx, b0⟩ := box_new w #[.int .i64 0, .slice none 0 0] 24
  have hl := reads_len hR
  have HLE : Hid ((sorE zs).length ≤ 1000) := by have := sorE_len zs; show _ ≤ _; omega
  have HM := Lib.hid fun W => may_any nodes W
  rw [hm] at HM
  have HB := Lib.hid (between_any nodes A n c zs (by omega) _ ((hR.below b0).more b0.size))
  rw [List.all_eq_true.2 ha] at HB
  have HS := Lib.hid fun W (h : Below w.heap.size w W) => sorted_any A n c zs (fun p hp => rightE_ok hm (ha p hp)) hn W ((hR.below h).more h.size)
  have BX := Lib.hid bx
  have B0 := Lib.hid b0
  clear hR bx b0 hm ha hl
  go_enter Tryd.func32, Tryd.ntmps32
  go_wp2_with fail
  refine (HM.out _).mono ?_
  rintro e w1 ⟨rfl, rfl⟩
  go_wp2_with fail
  refine HB.out.mono ?_
  rintro e w1 ⟨rfl, b⟩
  have BX1 := Lib.hid (BX.out.below b BX.out.lt)
  have B1 : Hid (Below w.heap.size w w1) := B0.out.trans (b.mono B0.out.size)
  clear b B0 BX HB HM
  go_wp2_with fail
  refine (HS.out _ B1.out).mono ?_
  rintro e w2 hx
  obtain ⟨A2, c2, rfl, h1, h2, h3, h4⟩ := rows_row hx
  have BX2 := Lib.hid (BX1.out.below h4 BX1.out.lt)
  have B2 : Hid (Below w.heap.size w w2) := B1.out.trans (h4.mono B1.out.size)
  have HF := Lib.hid (And.intro (own_base h1 B1.out.size) (And.intro h2 h3))
  have h40 : ¬ ((sorE zs).length : Int) > 40000 := by have := HLE.out; omega
  clear h1 h2 h3 h4 hx HS BX1 B1
  have z0 := BX2.out.cell 0
  have z1 := BX2.out.cell 1
  have f0 := BX2.out.frozen 0
  have f1 := BX2.out.frozen 1
  have y0 := (store2 BX2.out (.int .i64 nodes) (.slice A2 (sorE zs).length c2)).cell 0
  have y1 := (store2 BX2.out (.int .i64 nodes) (.slice A2 (sorE zs).length c2)).cell 1
  have HE : Hid (GErr nodes (sorE zs) 0 w (.returned (.tuple #[.agg #[.int .i64 nodes, .slice A2 (sorE zs).length c2], .int .i64 0])) ((w2.setCell ⟨w.heap.size, 0, none⟩ (.int .i64 nodes)).setCell ⟨w.heap.size, 1, none⟩ (.slice A2 (sorE zs).length c2))) :=
    ⟨A2, c2, rfl, own_store2 HF.out.1 BX2.out (by decide) _ _, HF.out.2.1, HF.out.2.2, below_store2 B2.out (Nat.le_refl _) _ _⟩
  go_wp2_with fail
  exact bodyPost_ret (v := .tuple #[.agg #[.int .i64 nodes, .slice A2 (sorE zs).length c2], .int .i64 0]) (by simp [results, Tryd.results32, go_sem, y0, y1]) rfl HE.out

set_option maxRecDepth 100000 in
set_option maxHeartbeats 2000000 in
theorem of_no (nodes : Int) (A : Option Addr) (n c : Nat) (zs : List Ed) (h : (mayN nodes && zs.all (rightE nodes)) = false) (hn : n ≤ 1000) (w : World) (hR : Reads w w.heap.size 3 A n (cellsE zs)) :
    Calls Tryd.prog 32 #[.int .i64 nodes, .slice A n c] w (GErr 0 [] 2 w) := by
  obtain ⟨bx, b0⟩ := box_new w #[.int .i64 0, .slice none 0 0] 24
  have HM := Lib.hid fun W => may_any nodes W
  have HB := Lib.hid (between_any nodes A n c zs (by omega) _ ((hR.below b0).more b0.size))
  have BX := Lib.hid bx
  have B0 := Lib.hid b0
  clear hR bx b0
  cases hm : mayN nodes
  · rw [hm] at HM
    clear hm h HB
    go_enter Tryd.func32, Tryd.ntmps32
    go_wp2_with fail
    refine (HM.out _).mono ?_
    rintro e w1 ⟨rfl, rfl⟩
    generalize w.alloc (.cells #[.int .i64 0, .slice none 0 0] 24) = w2 at *
    have z0 := BX.out.cell 0
    have z1 := BX.out.cell 1
    have f0 := BX.out.frozen 0
    have f1 := BX.out.frozen 1
    have y0 := (store2 BX.out (.int .i64 0) (.slice none 0 0)).cell 0
    have y1 := (store2 BX.out (.int .i64 0) (.slice none 0 0)).cell 1
    have HE : Hid (GErr 0 [] 2 w (.returned (.tuple #[.agg #[.int .i64 0, .slice none 0 0], .int .i64 2])) ((w2.setCell ⟨w.heap.size, 0, none⟩ (.int .i64 0)).setCell ⟨w.heap.size, 1, none⟩ (.slice none 0 0))) :=
      ⟨none, 0, rfl, World.ownsRow_nil _ _ _ _, Nat.le_refl _, by decide, below_store2 B0.out (Nat.le_refl _) _ _⟩
    go_wp2_with fail
    exact bodyPost_ret (v := .tuple #[.agg #[.int .i64 0, .slice none 0 0], .int .i64 2]) (by simp [results, Tryd.results32, go_sem, y0, y1]) rfl HE.out
  · rw [hm] at HM h
    rw [Bool.true_and] at h
    rw [h] at HB
    clear hm h
    go_enter Tryd.func32, Tryd.ntmps32
    go_wp2_with fail
    refine (HM.out _).mono ?_
    rintro e w1 ⟨rfl, rfl⟩
    go_wp2_with fail
    refine HB.out.mono ?_
    rintro e w2 ⟨rfl, b⟩
    have BX1 := Lib.hid (BX.out.below b BX.out.lt)
    have B1 : Hid (Below w.heap.size w w2) := B0.out.trans (b.mono B0.out.size)
    clear b HB B0 BX
    have z0 := BX1.out.cell 0
    have z1 := BX1.out.cell 1
    have f0 := BX1.out.frozen 0
    have f1 := BX1.out.frozen 1
    have y0 := (store2 BX1.out (.int .i64 0) (.slice none 0 0)).cell 0
    have y1 := (store2 BX1.out (.int .i64 0) (.slice none 0 0)).cell 1
    have HE : Hid (GErr 0 [] 2 w (.returned (.tuple #[.agg #[.int .i64 0, .slice none 0 0], .int .i64 2])) ((w2.setCell ⟨w.heap.size, 0, none⟩ (.int .i64 0)).setCell ⟨w.heap.size, 1, none⟩ (.slice none 0 0))) :=
      ⟨none, 0, rfl, World.ownsRow_nil _ _ _ _, Nat.le_refl _, by decide, below_store2 B1.out (Nat.le_refl _) _ _⟩
    go_wp2_with fail
    exact bodyPost_ret (v := .tuple #[.agg #[.int .i64 0, .slice none 0 0], .int .i64 2]) (by simp [results, Tryd.results32, go_sem, y0, y1]) rfl HE.out

theorem two_boxes (w : World) (a b : Array Value) (t0 t1 : TypeId) : ((w.alloc (.cells a t0)).alloc (.cells b t1)).heap.size = w.heap.size + 2 := by simp

set_option maxRecDepth 100000 in
set_option maxHeartbeats 2000000 in
theorem rsame_any (x y : Int) (A A2 : Option Addr) (n c m c2 : Nat) (zs ys : List Ed) (hn : n ≤ 1000) (w : World) (hR : Reads w w.heap.size 3 A n (cellsE zs)) (hR2 : Reads w w.heap.size 3 A2 m (cellsE ys)) :
    Calls Tryd.prog 18 #[.agg #[.int .i64 x, .slice A n c], .agg #[.int .i64 y, .slice A2 m c2]] w fun e w' => e = .returned (.bool (decide (x = y ∧ zs = ys))) ∧ Below w.heap.size w w' := by
  obtain ⟨k0, k1, b0⟩ := two_new w #[.int .i64 x, .slice A n c] #[.int .i64 y, .slice A2 m c2] 24 24
  have HQ := Lib.hid (rsameE_any A A2 n m c c2 zs ys (by omega) _ ((hR.below b0).more b0.size) ((hR2.below b0).more b0.size))
  have z0 := k0.cell 0
  have z1 := k0.cell 1
  have z2 := k1.cell 0
  have z3 := k1.cell 1
  have B0 := Lib.hid b0
  clear hR hR2 k0 k1 b0
  by_cases hxy : x = y
  · subst hxy
    have HD : Hid (decide (x = x ∧ zs = ys) = decide (zs = ys)) := by show _ = _; simp
    go_enter Tryd.func18, Tryd.ntmps18
    go_wp2_with fail
    refine HQ.out.mono ?_
    rintro e w1 ⟨rfl, b⟩
    have B1 : Hid (Below w.heap.size w w1) := B0.out.trans (b.mono B0.out.size)
    clear b z0 z1 z2 z3
    generalize decide (zs = ys) = bb at *
    go_wp2_with fail
    go_ret
    exact ⟨by rw [HD.out]; rfl, B1.out⟩
  · have hb : (x == y) = false := by simpa using hxy
    have HD : Hid (decide (x = y ∧ zs = ys) = false) := by show _ = _; simp [hxy]
    clear hxy
    go_enter Tryd.func18, Tryd.ntmps18
    go_wp2_with fail
    go_ret
    exact ⟨by rw [HD.out]; rfl, B0.out⟩

end Go.Proofs.YtgbpaiffnhpafaaDoor
