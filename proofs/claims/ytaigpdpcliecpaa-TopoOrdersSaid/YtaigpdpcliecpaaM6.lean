/- Layer topo: how deep nodes are: plain facts. -/
import Derived.Lib.SliceRun
import Derived.Test.YtaigpdpcliecpaaM5
import Derived.Deep.RegionHeld3
import Derived.Recover
import Derived.Defers
-- holds: YtaigpdpcliecpaaGf YtaigpdpcliecpaaGn YtaigpdpcliecpaaGp YtaigpdpcliecpaaTa YtaigpdpcliecpaaGg YtaigpdpcliecpaaGh YtaigpdpcliecpaaGi YtaigpdpcliecpaaGj YtaigpdpcliecpaaGl YtaigpdpcliecpaaTb YtaigpdpcliecpaaTi YtaigpdpcliecpaaTc
namespace Go.Proofs.Ytaigpdpcliecpaa
open Go.RowKit

theorem below_drewN {B : Nat} {a w : World} (h : Below B a w) (n : Nat) : Below B a (w.drewN n) := ⟨h.os, h.tape, h.output, h.size, h.block⟩
theorem drew_below {B : Nat} {a w : World} (h : Below B a w) : Below B a w.drew := h.drew
/-- An edge of a slice, cell by cell. -/
theorem ed_at {w : World} {B n k : Nat} {A : Option Addr} {p : Ed} {ps : List Ed} (h : Reads w B 3 A n (cellsE ps)) (hp : ps[k]? = some p) :
    ∃ b o, A = some ⟨b, o, none⟩ ∧ b < B ∧ w.cell? ⟨b, o + k * 3, none⟩ = some (.int .i64 p.1) ∧ w.cell? ⟨b, o + k * 3 + 1, none⟩ = some (.int .i64 p.2.1) ∧ w.cell? ⟨b, o + k * 3 + 2, none⟩ = some (.int .i64 p.2.2) := by
  have hk := (List.getElem?_eq_some_iff.1 hp).1
  have hl := h.1
  rw [cellsE_length] at hl
  obtain ⟨ad, hA, hb, hc⟩ := h.2 (by omega)
  obtain ⟨h0, h1, h2⟩ := cellsE_at hp
  have g0 := hc _ _ h0
  have g1 := hc _ _ h1
  have g2 := hc _ _ h2
  obtain ⟨b, o, spot⟩ := ad
  have hspot : spot = none := by
    have h00 := hc 0 _ (List.getElem?_eq_getElem (show 0 < (cellsE ps).length by rw [cellsE_length]; omega))
    simpa [Addr.add] using World.cell?_spot h00
  subst hspot
  rw [Go.WideShapes.add_plain] at g0 g1 g2
  exact ⟨b, o, hA, hb, g0, by rw [Nat.add_assoc]; exact g1, by rw [Nat.add_assoc]; exact g2⟩
theorem reads_len {w : World} {B n : Nat} {A : Option Addr} {ps : List Ed} (h : Reads w B 3 A n (cellsE ps)) : ps.length = n := by
  have := h.1; rw [cellsE_length] at this; omega
theorem Own.reads {B h n : Nat} {xs : List Ed} {w : World} (o : Own B h n xs w) : Reads w w.heap.size 3 (some ⟨h, 0, none⟩) n (cellsE xs) :=
  ⟨by rw [cellsE_length, o.2.1], fun _ => ⟨_, rfl, o.2.2.lt, fun j u hu => by
    rw [Go.WideShapes.add_plain, o.2.2.cell, Nat.zero_add, List.getElem?_toArray]; exact hu⟩⟩
theorem reads_take {w : World} {B size n k : Nat} {A : Option Addr} {xs : List Value} (h : Reads w B size A n xs) (hk : k ≤ n) : Reads w B size A k (xs.take (k * size)) :=
  ⟨by rw [List.length_take, h.1]; exact Nat.min_eq_left (Nat.mul_le_mul_right _ hk), fun hn => by
    obtain ⟨ad, hA, hb, hc⟩ := h.2 (by omega)
    exact ⟨ad, hA, hb, fun j u hu => hc j u (by
      rw [List.getElem?_take] at hu
      split at hu
      · exact hu
      · cases hu)⟩⟩


theorem bool_ne {a b : Ed} (h : a ≠ b) : (a.1 == b.1) = false ∨ ((a.1 == b.1) = true ∧ (a.2.1 == b.2.1) = false) ∨ ((a.1 == b.1) = true ∧ (a.2.1 == b.2.1) = true ∧ (a.2.2 == b.2.2) = false) := by
  obtain ⟨x, y, z⟩ := a
  obtain ⟨u, v, t⟩ := b
  by_cases h1 : x = u
  · by_cases h2 : y = v
    · refine .inr (.inr ⟨by simpa using h1, by simpa using h2, ?_⟩)
      simpa using fun h3 => h (by rw [h1, h2, h3])
    · exact .inr (.inl ⟨by simpa using h1, by simpa using h2⟩)
  · exact .inl (by simpa using h1)

set_option maxRecDepth 100000 in
set_option maxHeartbeats 4000000 in
theorem rsameE_any (A A2 : Option Addr) (n m c c2 : Nat) (xs ys : List Ed) (hn : n ≤ 1000000) (w : World) (hR : Reads w w.heap.size 3 A n (cellsE xs)) (hR2 : Reads w w.heap.size 3 A2 m (cellsE ys)) :
    Calls Try.prog 37 #[.slice A n c, .slice A2 m c2] w fun e w' => e = .returned (.bool (decide (xs = ys))) ∧ Below w.heap.size w w' := by
  have HR := Lib.hid hR
  have HR2 := Lib.hid hR2
  have HL := Lib.hid (reads_len hR)
  have HL2 := Lib.hid (reads_len hR2)
  clear hR hR2
  by_cases hnm : n = m
  · subst hnm
    go_enter Try.func37, Try.ntmps37
    go_wp2_with fail
    go_loopg [13] n (fun gg i wr => ∃ k : Nat, k + gg = n ∧ i = .int .i64 k ∧ Hid (xs.take k = ys.take k) ∧ Hid (Below w.heap.size w wr))
    case atStart => exact ⟨0, by omega, rfl, by simp [Hid], Below.refl _ _⟩
    case round =>
      obtain ⟨k, hk, rfl, ht, bk⟩ := hrel
      cases gk with
      | succ g2 =>
        have hlt : (k : Int) < (n : Int) := by omega
        obtain ⟨p, hp⟩ : ∃ p, xs[k]? = some p := ⟨xs[k]'(by rw [HL.out]; omega), List.getElem?_eq_getElem _⟩
        obtain ⟨q, hq⟩ : ∃ q, ys[k]? = some q := ⟨ys[k]'(by rw [HL2.out]; omega), List.getElem?_eq_getElem _⟩
        obtain ⟨b, o, rfl, hb, g0, g1, g2'⟩ := ed_at (HR.out.below bk.out) hp
        obtain ⟨b2, o2, rfl, hb2, x0, x1, x2⟩ := ed_at (HR2.out.below bk.out) hq
        have HK := Lib.hid hk
        by_cases hpq : p = q
        · subst hpq
          have HT : Hid (xs.take (k + 1) = ys.take (k + 1)) := by
            show _ = _
            rw [List.take_add_one, List.take_add_one, ht.out, hp, hq]
          clear hp hq hk
          go_wp2_with fail
          go_quiet (fail)
          go_wp2_with fail
          go_roundg g2
          case measure => omega
          case rel => exact ⟨k + 1, by have := HK.out; omega, by go_num, HT, below_drewN bk.out _⟩
        · have HD : Hid (decide (xs = ys) = false) := by
            show _ = _
            rw [decide_eq_false_iff_not]
            rintro rfl
            rw [hp] at hq
            injection hq with hq
            exact hpq hq
          have hc := bool_ne hpq
          clear hp hq hk hpq
          rcases hc with h1 | ⟨h1, h2⟩ | ⟨h1, h2, h3⟩
          all_goals
            go_wp2_with fail
            go_quiet (fail)
            go_wp2_with fail
            go_ret
            exact ⟨by rw [HD.out]; rfl, below_drewN bk.out _⟩
      | zero =>
        have hge : ¬ (k : Int) < (n : Int) := by omega
        have HD : Hid (decide (xs = ys) = true) := by
          show _ = _
          rw [decide_eq_true_eq]
          have := ht.out
          rwa [List.take_of_length_le (by rw [HL.out]; omega), List.take_of_length_le (by rw [HL2.out]; omega)] at this
        have HK := Lib.hid hk
        clear hk
        go_wp2_with fail
        go_ret
        exact ⟨by rw [HD.out]; rfl, bk.out⟩
  · have hb : ((n : Int) != (m : Int)) = true := by simp; omega
    have HD : Hid (decide (xs = ys) = false) := by
      show _ = _
      rw [decide_eq_false_iff_not]
      rintro rfl
      exact hnm (HL.out.symm.trans HL2.out)
    clear hnm
    go_enter Try.func37, Try.ntmps37
    go_wp2_with fail
    go_ret
    exact ⟨by rw [HD.out]; rfl, Below.refl _ _⟩

theorem own_prefix {w : World} {base : Nat} {e : TypeId} {size : Nat} {A : Option Addr} {n c k : Nat} {xs : List Value} (h : w.ownsRow base e size (.slice A n c) n xs) (hk : k ≤ n) : w.ownsRow base e size (.slice A k c) k (xs.take (k * size)) := by
  refine ⟨by rw [List.length_take, h.1]; exact Nat.min_eq_left (Nat.mul_le_mul_right _ hk), ?_⟩
  rcases h.2 with ⟨hv, h0⟩ | ⟨g, cap, cur, hv, hb, hg, hnc, hcm, hcs, ht⟩
  · injection hv with h1 h2 h3
    exact .inl ⟨by rw [h1, h3, show k = 0 by omega], by omega⟩
  · injection hv with h1 h2 h3
    refine .inr ⟨g, cap, cur, by rw [h1, h3], hb, hg, by omega, hcm, hcs, ?_⟩
    rw [← ht, List.take_take, Nat.min_eq_left (Nat.mul_le_mul_right _ hk)]
theorem own_below2 {w w' : World} {B base : Nat} {e : TypeId} {size : Nat} {v : Value} {n : Nat} {xs : List Value} (h : w.ownsRow base e size v n xs) (hb : Below B w w') (hB : w.heap.size ≤ B) : w'.ownsRow base e size v n xs := by
  refine ⟨h.1, ?_⟩
  rcases h.2 with hn | ⟨g, cap, cur, hv, hbg, hg, rest⟩
  · exact .inl hn
  · refine .inr ⟨g, cap, cur, hv, hbg, ?_, rest⟩
    have hlt : g < w.heap.size := (Array.getElem?_eq_some_iff.1 hg).1
    rw [hb.block g (by omega)]
    exact hg
theorem own_base {w : World} {base base' : Nat} {e : TypeId} {size : Nat} {v : Value} {n : Nat} {xs : List Value} (h : w.ownsRow base e size v n xs) (hb : base' ≤ base) : w.ownsRow base' e size v n xs := by
  refine ⟨h.1, ?_⟩
  rcases h.2 with hn | ⟨g, cap, cur, hv, hbg, rest⟩
  · exact .inl hn
  · exact .inr ⟨g, cap, cur, hv, by omega, rest⟩

/-- A copy: its cells lie in memory of the call's own. -/
def CopyIs (n : Nat) (ps : List Ed) (w : World) (e : Ending) (w' : World) : Prop :=
  ∃ (A : Option Addr) (c : Nat), e = .returned (.slice A n c) ∧ w'.ownsRow w.heap.size 50 3 (.slice A n c) n (cellsE ps) ∧ n ≤ c ∧ c ≤ 9223372036854775807 ∧ Below w.heap.size w w'
theorem own_new3 (w : World) (t : TypeId) : (w.alloc (.cells #[] t)).ownsRow w.heap.size t 3 (.slice (some ⟨w.heap.size, 0, none⟩) 0 0) 0 [] :=
  ⟨rfl, .inr ⟨w.heap.size, 0, #[], rfl, Nat.le_refl _, by show (w.heap.push _)[w.heap.size]? = _; simp, Nat.le_refl _, Nat.zero_le _, rfl, rfl⟩⟩
theorem own_form2 {w : World} {base : Nat} {e : TypeId} {size : Nat} {v : Value} {n : Nat} {xs : List Value} (h : w.ownsRow base e size v n xs) : ∃ A c, v = .slice A n c ∧ n ≤ c ∧ c ≤ 9223372036854775807 := by
  rcases h.2 with ⟨rfl, rfl⟩ | ⟨g, cap, cur, rfl, _, _, hnc, hcm, _⟩
  · exact ⟨_, _, rfl, Nat.le_refl _, by decide⟩
  · exact ⟨_, _, rfl, hnc, by unfold maxLen at hcm; omega⟩

set_option maxRecDepth 100000 in
set_option maxHeartbeats 2000000 in
theorem cloneP_none (w : World) :
    Calls Try.prog 30 #[.slice none 0 0] w (CopyIs 0 [] w) := by
  have hq : ∀ w : World, (binOp .eql 22 (.slice none 0 0) (.slice none 0 0)).run Try.prog w = .ok (.bool true) w := fun w => Lib.run_eql_slice_nil w _ _ none 0 0 0 0 Try.underlying22
  go_enter Try.func30, Try.ntmps30
  go_wp2_with fail
  go_ret
  exact ⟨none, 0, rfl, World.ownsRow_nil _ _ _ _, Nat.le_refl _, by decide, Below.refl _ _⟩

set_option maxRecDepth 100000 in
set_option maxHeartbeats 2000000 in
theorem cloneP_some (ad : Addr) (n c : Nat) (zs : List Ed) (hn : n ≤ 1000000) (w : World) (hR : Reads w w.heap.size 3 (some ad) n (cellsE zs)) :
    Calls Try.prog 30 #[.slice (some ad) n c] w (CopyIs n zs w) := by
  have hq : ∀ w : World, (binOp .eql 22 (.slice (some ad) n c) (.slice none 0 0)).run Try.prog w = .ok (.bool false) w := fun w => Lib.run_eql_slice_nil w _ _ (some ad) n c 0 0 Try.underlying22
  obtain ⟨i0, hi, hz0, hz1, hz2⟩ := info_parts pair_info
  go_enter Try.func30, Try.ntmps30
  go_wp2_with (at_builtin; refine wpList_append_any _ rfl (.tmp 5) (.tmp 6) 22 rfl w.heap.size 50 i0 _ 3 24 Try.underlying22 hi hz0 hz1 hz2 rfl (by decide) _ 0 [] rfl (own_new3 w 50) w.heap.size (some ad) n _ (cellsE zs) rfl (hR.alloc (Nat.le_refl _) _) (cellsE_one _) (by unfold maxLen; omega) (by omega) (by simp) ?_; intro v' w2 hown hgrow hat)
  rw [Nat.zero_add, List.nil_append] at hown
  have b2 : Below w.heap.size w w2 := ((Below.refl _ _).alloc (Nat.le_refl _) _).grown hgrow (by simp) (fun j hj => by have e : some w.heap.size = some j := hj; injection e with e; omega)
  obtain ⟨A', c', rfl, h1, h2⟩ := own_form2 hown
  go_ret
  exact ⟨A', c', rfl, hown, h1, h2, b2⟩

theorem clone_any (A : Option Addr) (n c : Nat) (zs : List Ed) (hn : n ≤ 1000000) (hc : A = none → c = 0) (hnc : n ≤ c) (w : World) (hR : Reads w w.heap.size 3 A n (cellsE zs)) :
    Calls Try.prog 30 #[.slice A n c] w (CopyIs n zs w) := by
  cases A with
  | some ad => exact cloneP_some ad n c zs hn w hR
  | none =>
    have h0 := hc rfl
    subst h0
    obtain rfl : n = 0 := by omega
    obtain rfl : zs = [] := List.eq_nil_of_length_eq_zero (reads_len hR)
    exact cloneP_none w

end Go.Proofs.Ytaigpdpcliecpaa
namespace Go.Proofs.Ytaigpdpcliecpaa
open Go.RowKit

theorem idle_pair (w : World) : CallsD Try.prog 76 #[] .returning w fun e u' w' => e = .returned (.tuple #[]) ∧ u' = .returning ∧ w' = w := by
  refine callsD_of_wpS Try.func76 rfl fun c₀ cs hu => ?_
  apply wpS_region
  simp [wpOpsS, go_sem, recoverD, hu, Try.ntmps76, bodyPostS, results, Try.results76]
  cases c₀
  simp_all

theorem same_end {w w' : World} {a : Act} {b : Bool} (hr : a.tmps.getD 4 undef = .bool b) (hd : a.defers = [{ target := Target.fn (Fn.func 76) #[], args := #[] }]) (hb : Below w.heap.size w w') :
    bodyPostD Try.prog Try.f68 (fun e w' => e = .returned (.bool b) ∧ Below w.heap.size w w') Exit.ret a w' := by
  obtain ⟨t, d⟩ := a
  simp only at hd hr
  subst hd
  refine leaves_cons (f := 76) (args := #[]) (by simp) (by simp [go_sem]) ?_
  refine (idle_pair _).mono ?_
  rintro e u' w'' ⟨rfl, rfl, rfl⟩
  exact ⟨_, results_tmp rfl _ _ _, by rw [← hr], hb⟩

set_option maxHeartbeats 1000000 in
theorem same_yes (p : Ed) (w : World) : Calls Try.prog 68 #[.agg #[.int .i64 p.1, .int .i64 p.2.1, .int .i64 p.2.2], .agg #[.int .i64 p.1, .int .i64 p.2.1, .int .i64 p.2.2]] w fun e w' => e = .returned (.bool true) ∧ Below w.heap.size w w' := by
  go_enter_defers Try.func68, Try.ntmps68
  go_wp2
  exact same_end rfl rfl (((Below.refl _ _).alloc (Nat.le_refl _) _).alloc (by simp) _)
set_option maxHeartbeats 1000000 in
theorem same_no (p q : Ed) (h : p ≠ q) (w : World) : Calls Try.prog 68 #[.agg #[.int .i64 p.1, .int .i64 p.2.1, .int .i64 p.2.2], .agg #[.int .i64 q.1, .int .i64 q.2.1, .int .i64 q.2.2]] w fun e w' => e = .returned (.bool false) ∧ Below w.heap.size w w' := by
  have hc := bool_ne h
  clear h
  rcases hc with h1 | ⟨h1, h2⟩ | ⟨h1, h2, h3⟩
  all_goals
    go_enter_defers Try.func68, Try.ntmps68
    go_wp2
    exact same_end rfl rfl (((Below.refl _ _).alloc (Nat.le_refl _) _).alloc (by simp) _)

/-- A row without those that are the same as the one ahead, k places far. -/
def uniqK {α : Type} [DecidableEq α] (xs : List α) : Nat → List α
  | 0 => []
  | k + 1 => match xs[k]? with
    | none => uniqK xs k
    | some x => if 0 < k ∧ xs[k - 1]? = some x then uniqK xs k else uniqK xs k ++ [x]
theorem uniqK_keep {α : Type} [DecidableEq α] {xs : List α} {k : Nat} {x : α} (h : xs[k]? = some x) (h2 : ¬ (0 < k ∧ xs[k - 1]? = some x)) : uniqK xs (k + 1) = uniqK xs k ++ [x] := by rw [uniqK, h]; exact if_neg h2
theorem uniqK_skip {α : Type} [DecidableEq α] {xs : List α} {k : Nat} {x : α} (h : xs[k]? = some x) (h2 : 0 < k ∧ xs[k - 1]? = some x) : uniqK xs (k + 1) = uniqK xs k := by rw [uniqK, h]; exact if_pos h2
theorem uniqK_le {α : Type} [DecidableEq α] (xs : List α) : ∀ k, (uniqK xs k).length ≤ k
  | 0 => Nat.le_refl _
  | k + 1 => by
    have := uniqK_le xs k
    rw [uniqK]
    split
    · omega
    · split
      · omega
      · rw [List.length_append, List.length_singleton]; omega

/-- What a row of the call's own holds, whatever its length. -/
def RowIs (ps : List Ed) (w : World) (e : Ending) (w' : World) : Prop := CopyIs ps.length ps w e w'

theorem pair_one (w : World) (p : Ed) : Reads (w.alloc (.cells #[.int .i64 p.1, .int .i64 p.2.1, .int .i64 p.2.2] 50)) (w.heap.size + 1) 3 (some ⟨w.heap.size, 0, none⟩) 1 (cellsE [p]) :=
  ⟨rfl, fun _ => ⟨_, rfl, Nat.lt_succ_self _, fun j u hu => by
    rw [Go.WideShapes.add_plain, Nat.zero_add, (Blk.new w 50 #[.int .i64 p.1, .int .i64 p.2.1, .int .i64 p.2.2]).cell]
    rw [← hu, ← List.getElem?_toArray]
    rfl⟩⟩

set_option maxRecDepth 100000 in
set_option maxHeartbeats 4000000 in
theorem uniq_any (A : Option Addr) (n c : Nat) (xs : List Ed) (hn : n ≤ 100000) (w : World) (hR : Reads w w.heap.size 3 A n (cellsE xs)) :
    Calls Try.prog 62 #[.slice A n c] w (RowIs (uniqK xs n) w) := by
  have HR := Lib.hid hR
  have HL := Lib.hid (reads_len hR)
  obtain ⟨i0, hi, hz0, hz1, hz2⟩ := info_parts pair_info
  clear hR
  go_enter Try.func62, Try.ntmps62
  go_wp2_with fail
  go_loopg [3, 8] n (fun gg s3 s8 wr => ∃ (i u : Nat) (A' : Option Addr) (c' : Nat), i + gg = n ∧ u ≤ i ∧ s8 = .int .i64 i ∧ s3 = .slice A' u c' ∧ u ≤ c' ∧ c' ≤ 9223372036854775807 ∧ Hid ((uniqK xs i).length = u) ∧
    Hid (wr.ownsRow w.heap.size 50 3 (.slice A' u c') u (cellsE (uniqK xs i))) ∧ Hid (Below w.heap.size w wr))
  case atStart => exact ⟨0, 0, none, 0, by omega, Nat.le_refl _, rfl, rfl, Nat.le_refl _, by decide, rfl, World.ownsRow_nil _ _ _ _, Below.refl _ _⟩
  case round =>
    obtain ⟨i, u, A', c', hig, hui, rfl, rfl, huc, hcm, HU, HO, HB⟩ := hrel
    cases gk with
    | zero =>
      have hge : ¬ (i : Int) < (n : Int) := by omega
      have hin : i = n := by omega
      subst hin
      clear hig
      go_wp2_with fail
      go_ret
      have hl := HU.out
      unfold RowIs
      rw [hl]
      exact ⟨A', c', rfl, HO.out, huc, hcm, HB.out⟩
    | succ g2 =>
      have hlt : (i : Int) < (n : Int) := by omega
      have hi0 : (0 : Int) ≤ (i : Int) := by omega
      obtain ⟨p, hp⟩ : ∃ p, xs[i]? = some p := ⟨xs[i]'(by rw [HL.out]; omega), List.getElem?_eq_getElem _⟩
      obtain ⟨b, o, rfl, hb, g0, g1, gk2⟩ := ed_at (HR.out.below HB.out) hp
      have HIG := Lib.hid hig
      have hsz := HB.out.size
      have hin : i < n := by omega
      have HX := Lib.hid (Blk.new wr 50 #[.int .i64 p.1, .int .i64 p.2.1, .int .i64 p.2.2])
      have HO1 := Lib.hid (HO.out.alloc (.cells #[.int .i64 p.1, .int .i64 p.2.1, .int .i64 p.2.2] 50))
      have HB1 : Hid (Below w.heap.size w (wr.alloc (.cells #[.int .i64 p.1, .int .i64 p.2.1, .int .i64 p.2.2] 50))) := HB.out.alloc hsz _
      obtain ⟨X, hX⟩ : ∃ X, wr.heap.size = X := ⟨_, rfl⟩
      rw [hX] at HX
      clear hig
      go_upto_region 5 with fail
      clear g0 g1 gk2 hX HB HO
      generalize wr.alloc (.cells #[.int .i64 p.1, .int .i64 p.2.1, .int .i64 p.2.2] 50) = wx at *
      by_cases hi00 : i = 0
      · subst hi00
        have HNX := Lib.hid (uniqK_keep hp (fun h => absurd h.1 (by omega)))
        clear hp
        go_wp2_with fail
        go_quiet (fail)
        have HX2 : Hid (Blk (wx.drewN nq) X 50 #[.int .i64 p.1, .int .i64 p.2.1, .int .i64 p.2.2]) := HX.out
        have HO2 : Hid ((wx.drewN nq).ownsRow w.heap.size 50 3 (.slice A' u c') u (cellsE (uniqK xs 0))) := HO1.out
        have HB2 : Hid (Below w.heap.size w (wx.drewN nq)) := below_drewN HB1.out _
        clear HX HO1 HB1
        generalize wx.drewN nq = wz at *
        have z0 : wz.cell? ⟨X, 0, none⟩ = some (.int .i64 p.1) := HX2.out.cell 0
        have z1 : wz.cell? ⟨X, 1, none⟩ = some (.int .i64 p.2.1) := HX2.out.cell 1
        have z2 : wz.cell? ⟨X, 2, none⟩ = some (.int .i64 p.2.2) := HX2.out.cell 2
        have hsz2 := HB2.out.size
        go_wp2_with (at_builtin; refine wpList_append_any _ rfl (.tmp 25) (.tmp 27) 22 rfl w.heap.size 50 i0 _ 3 24 Try.underlying22 hi hz0 hz1 hz2 rfl (by decide) (.slice A' u c') u _ rfl (HO2.out.alloc _) (wz.heap.size + 1) (some ⟨wz.heap.size, 0, none⟩) 1 _ (cellsE [p]) rfl (pair_one wz p) (cellsE_one _) (by unfold maxLen; omega) (by omega) (by simp; omega) ?_; intro v5 w5 hown5 hgrow5 _; have HB5 : Hid (Below w.heap.size w w5) := (HB2.out.alloc hsz2 _).grown hgrow5 (by simp; omega) (fun k hk => (HO2.out.lt k hk).1); obtain ⟨A5, c5, rfl, h51, h52⟩ := own_form2 hown5; rw [← cellsE_append, ← HNX.out] at hown5; have HO5 := Lib.hid hown5; clear hown5 hgrow5)
        go_roundg g2
        case measure => omega
        case rel => exact ⟨0 + 1, u + 1, A5, c5, by have := HIG.out; omega, by omega, by go_num, rfl, h51, h52, by rw [HNX.out, List.length_append, HU.out]; rfl, HO5, HB5⟩
      · obtain ⟨q, hq⟩ : ∃ q, xs[i - 1]? = some q := ⟨xs[i - 1]'(by rw [HL.out]; omega), List.getElem?_eq_getElem _⟩
        obtain ⟨b', o', hA', hb', x0, x1, x2⟩ := ed_at (HR.out.below HB1.out) hq
        injection hA' with hA'
        injection hA' with e1 e2 _
        subst e1; subst e2
        have hib : ((i : Int) == 0) = false := by simp; omega
        have hip : 0 < i := by omega
        have y0 : wx.cell? ⟨X, 0, none⟩ = some (.int .i64 p.1) := HX.out.cell 0
        have y1 : wx.cell? ⟨X, 1, none⟩ = some (.int .i64 p.2.1) := HX.out.cell 1
        have y2 : wx.cell? ⟨X, 2, none⟩ = some (.int .i64 p.2.2) := HX.out.cell 2
        have hs1 : IntKind.i64.wrap ((i : Int) - 1) = (i : Int) - 1 := by rw [IntKind.wrap_i64]; omega
        have ht1 : ((i : Int) - 1).toNat = i - 1 := by omega
        have hj0 : (0 : Int) ≤ (i : Int) - 1 := by omega
        have hj2 : (1 : Int) ≤ (i : Int) := by omega
        have hj1 : (i : Int) - 1 < (n : Int) := by omega
        by_cases hqp : q = p
        · subst hqp
          have HNX := Lib.hid (uniqK_skip hp ⟨hip, hq⟩)
          clear hp hq hi00
          go_wp2_with fail
          have hXT : X < wx.drew.heap.size := HX.out.lt
          have hbl : b < wx.drew.heap.size := by have := HB1.out.size; show b < wx.heap.size; omega
          have HSM := Lib.hid fun W => same_yes q W
          have tok1 : True := trivial
          go_region_held3 (fun w' => w'.cell? ⟨X, 0, none⟩ = some (.int .i64 q.1) ∧ w'.cell? ⟨X, 1, none⟩ = some (.int .i64 q.2.1) ∧ w'.cell? ⟨X, 2, none⟩ = some (.int .i64 q.2.2) ∧ w'.cell? ⟨b, o + (i - 1) * 3, none⟩ = some (.int .i64 q.1) ∧ w'.cell? ⟨b, o + (i - 1) * 3 + 1, none⟩ = some (.int .i64 q.2.1) ∧ w'.cell? ⟨b, o + (i - 1) * 3 + 2, none⟩ = some (.int .i64 q.2.2)) (first | exact ⟨y0, y1, y2, x0, x1, x2⟩ | exact ⟨q0, q1, q1b, q2, q3, q4⟩ | fail) (first
            | (have _t := tok1; go_at_call 68; refine (HSM.out wx.drew).mono ?_; rintro e w20 ⟨rfl, b20⟩; clear tok1; have HB2 : Hid (Below w.heap.size w w20) := HB1.out.drew.trans (b20.mono HB1.out.drew.size); have HX2 : Hid (Blk w20 X 50 #[.int .i64 q.1, .int .i64 q.2.1, .int .i64 q.2.2]) := HX.out.drew.below b20 hXT; have HO2 : Hid (w20.ownsRow w.heap.size 50 3 (.slice A' u c') u (cellsE (uniqK xs i))) := own_below2 HO1.out.drew b20 (Nat.le_refl _); have q0 := HX2.out.cell 0; have q1 := HX2.out.cell 1; have q1b := HX2.out.cell 2; have q2 := (b20.cell (p := ⟨b, o + (i - 1) * 3, none⟩) hbl).trans x0; have q3 := (b20.cell (p := ⟨b, o + (i - 1) * 3 + 1, none⟩) hbl).trans x1; have q4 := (b20.cell (p := ⟨b, o + (i - 1) * 3 + 2, none⟩) hbl).trans x2; clear b20)
            | fail)
          clear x0 x1 x2 y0 y1 y2 q0 q1 q1b q2 q3 q4 HX HO1 HB1 HX2
          go_wp2_with fail
          go_roundg g2
          case measure => omega
          case rel => exact ⟨i + 1, u, A', c', by have := HIG.out; omega, by omega, by go_num, rfl, huc, hcm, by rw [HNX.out]; exact HU, by rw [HNX.out]; exact HO2.out, HB2⟩
        · have HNX := Lib.hid (uniqK_keep hp (fun h => hqp (by have := h.2; rw [hq] at this; injection this)))
          clear hp hq hi00
          go_wp2_with fail
          have hXT : X < wx.drew.heap.size := HX.out.lt
          have hbl : b < wx.drew.heap.size := by have := HB1.out.size; show b < wx.heap.size; omega
          have HSM := Lib.hid fun W => same_no q p hqp W
          have tok1 : True := trivial
          go_region_held3 (fun w' => w'.cell? ⟨X, 0, none⟩ = some (.int .i64 p.1) ∧ w'.cell? ⟨X, 1, none⟩ = some (.int .i64 p.2.1) ∧ w'.cell? ⟨X, 2, none⟩ = some (.int .i64 p.2.2) ∧ w'.cell? ⟨b, o + (i - 1) * 3, none⟩ = some (.int .i64 q.1) ∧ w'.cell? ⟨b, o + (i - 1) * 3 + 1, none⟩ = some (.int .i64 q.2.1) ∧ w'.cell? ⟨b, o + (i - 1) * 3 + 2, none⟩ = some (.int .i64 q.2.2)) (first | exact ⟨y0, y1, y2, x0, x1, x2⟩ | exact ⟨q0, q1, q1b, q2, q3, q4⟩ | fail) (first
            | (have _t := tok1; go_at_call 68; refine (HSM.out wx.drew).mono ?_; rintro e w20 ⟨rfl, b20⟩; clear tok1; have HB2 : Hid (Below w.heap.size w w20) := HB1.out.drew.trans (b20.mono HB1.out.drew.size); have HX2 : Hid (Blk w20 X 50 #[.int .i64 p.1, .int .i64 p.2.1, .int .i64 p.2.2]) := HX.out.drew.below b20 hXT; have HO2 : Hid (w20.ownsRow w.heap.size 50 3 (.slice A' u c') u (cellsE (uniqK xs i))) := own_below2 HO1.out.drew b20 (Nat.le_refl _); have q0 := HX2.out.cell 0; have q1 := HX2.out.cell 1; have q1b := HX2.out.cell 2; have q2 := (b20.cell (p := ⟨b, o + (i - 1) * 3, none⟩) hbl).trans x0; have q3 := (b20.cell (p := ⟨b, o + (i - 1) * 3 + 1, none⟩) hbl).trans x1; have q4 := (b20.cell (p := ⟨b, o + (i - 1) * 3 + 2, none⟩) hbl).trans x2; clear b20)
            | fail)
          clear x0 x1 x2 y0 y1 y2 q0 q1 q1b q2 q3 q4 HX HO1 HB1 hqp HSM
          generalize w20 = wz at *
          have z0 : wz.cell? ⟨X, 0, none⟩ = some (.int .i64 p.1) := HX2.out.cell 0
          have z1 : wz.cell? ⟨X, 1, none⟩ = some (.int .i64 p.2.1) := HX2.out.cell 1
          have z2 : wz.cell? ⟨X, 2, none⟩ = some (.int .i64 p.2.2) := HX2.out.cell 2
          have hsz2 := HB2.out.size
          go_wp2_with (at_builtin; refine wpList_append_any _ rfl (.tmp 25) (.tmp 27) 22 rfl w.heap.size 50 i0 _ 3 24 Try.underlying22 hi hz0 hz1 hz2 rfl (by decide) (.slice A' u c') u _ rfl (HO2.out.alloc _) (wz.heap.size + 1) (some ⟨wz.heap.size, 0, none⟩) 1 _ (cellsE [p]) rfl (pair_one wz p) (cellsE_one _) (by unfold maxLen; omega) (by omega) (by simp; omega) ?_; intro v5 w5 hown5 hgrow5 _; have HB5 : Hid (Below w.heap.size w w5) := (HB2.out.alloc hsz2 _).grown hgrow5 (by simp; omega) (fun k hk => (HO2.out.lt k hk).1); obtain ⟨A5, c5, rfl, h51, h52⟩ := own_form2 hown5; rw [← cellsE_append, ← HNX.out] at hown5; have HO5 := Lib.hid hown5; clear hown5 hgrow5)
          go_roundg g2
          case measure => omega
          case rel => exact ⟨i + 1, u + 1, A5, c5, by have := HIG.out; omega, by omega, by go_num, rfl, h51, h52, by rw [HNX.out, List.length_append, HU.out]; rfl, HO5, HB5⟩
end Go.Proofs.Ytaigpdpcliecpaa
namespace Go.Proofs.Ytaigpdpcliecpaa
open Go.RowKit

/-- An edge between so many nodes. -/
def rightE (nodes : Int) (p : Ed) : Bool := decide ((0 ≤ p.1 ∧ p.1 < nodes) ∧ (0 ≤ p.2.1 ∧ p.2.1 < nodes) ∧ p.1 ≠ p.2.1 ∧ 0 ≤ p.2.2 ∧ p.2.2 ≤ 9)
def mayN (nodes : Int) : Bool := decide (0 ≤ nodes ∧ nodes ≤ 300)
/-- In order, each once. -/
def upE (l : List Ed) : Prop := l.Pairwise fun x y => plE x < plE y
instance (l : List Ed) : Decidable (upE l) := by unfold upE; exact inferInstance
def rightG (nodes : Int) (l : List Ed) : Bool := mayN nodes && l.all (rightE nodes) && decide (upE l)
theorem rightE_ok {nodes : Int} {p : Ed} (hm : mayN nodes = true) (h : rightE nodes p = true) : okE p := by
  unfold mayN at hm
  unfold rightE at h
  simp only [decide_eq_true_eq] at hm h
  unfold okE
  omega
structure IsG (nodes : Int) (l : List Ed) : Prop where
  may : mayN nodes = true
  all : ∀ p ∈ l, rightE nodes p = true
  up : upE l
theorem rightG_iff {nodes : Int} {l : List Ed} : rightG nodes l = true ↔ IsG nodes l := by
  unfold rightG
  rw [Bool.and_eq_true, Bool.and_eq_true, List.all_eq_true, decide_eq_true_eq]
  exact ⟨fun h => ⟨h.1.1, h.1.2, h.2⟩, fun h => ⟨⟨h.may, h.all⟩, h.up⟩⟩
theorem IsG.ok {nodes : Int} {l : List Ed} (h : IsG nodes l) : ∀ p ∈ l, okE p := fun p hp => rightE_ok h.may (h.all p hp)
theorem IsG.nodes {nodes : Int} {l : List Ed} (h : IsG nodes l) : 0 ≤ nodes ∧ nodes ≤ 300 := by have := h.may; unfold mayN at this; simpa using this
theorem IsG.filter {nodes : Int} {l : List Ed} (h : IsG nodes l) (q : Ed → Bool) : IsG nodes (l.filter q) := ⟨h.may, fun p hp => h.all p (List.mem_filter.1 hp).1, List.Pairwise.filter _ h.up⟩

/-- Neighbours in order: all in order. -/
theorem up_of_next : ∀ {l : List Ed}, (∀ k x y, l[k]? = some x → l[k + 1]? = some y → plE x < plE y) → upE l
  | [], _ => List.Pairwise.nil
  | [x], _ => List.pairwise_singleton _ _
  | x :: y :: l, h => by
    have ih : upE (y :: l) := up_of_next fun k a b ha hb => h (k + 1) a b (by simpa using ha) (by simpa using hb)
    have hxy := h 0 x y rfl rfl
    refine List.pairwise_cons.2 ⟨fun z hz => ?_, ih⟩
    rcases List.mem_cons.1 hz with rfl | hz
    · exact hxy
    · have := (List.pairwise_cons.1 ih).1 z hz
      omega
theorem next_of_up {l : List Ed} (h : upE l) {k : Nat} {x y : Ed} (hx : l[k]? = some x) (hy : l[k + 1]? = some y) : plE x < plE y := by
  obtain ⟨i1, e1⟩ := List.getElem?_eq_some_iff.1 hx
  obtain ⟨i2, e2⟩ := List.getElem?_eq_some_iff.1 hy
  have := List.pairwise_iff_getElem.1 h k (k + 1) i1 i2 (by omega)
  rwa [e1, e2] at this

/-- Two rows in order that have the same are one. -/
theorem up_ext : ∀ {l m : List Ed}, upE l → upE m → (∀ x, x ∈ l ↔ x ∈ m) → l = m
  | [], [], _, _, _ => rfl
  | [], y :: m, _, _, h => by have := (h y).2 (.head _); simp at this
  | x :: l, [], _, _, h => by have := (h x).1 (.head _); simp at this
  | x :: l, y :: m, hl, hm, h => by
    have hl1 := List.pairwise_cons.1 hl
    have hm1 := List.pairwise_cons.1 hm
    have hxy : x = y := by
      rcases List.mem_cons.1 ((h x).1 (.head _)) with e | e
      · exact e
      · rcases List.mem_cons.1 ((h y).2 (.head _)) with e' | e'
        · exact e'.symm
        · have a := hm1.1 x e
          have b := hl1.1 y e'
          omega
    subst hxy
    congr 1
    refine up_ext hl1.2 hm1.2 fun z => ⟨fun hz => ?_, fun hz => ?_⟩
    · rcases List.mem_cons.1 ((h z).1 (.tail _ hz)) with rfl | e
      · have := hl1.1 z hz; omega
      · exact e
    · rcases List.mem_cons.1 ((h z).2 (.tail _ hz)) with rfl | e
      · have := hm1.1 z hz; omega
      · exact e

/-- Sorted, each once. -/
def sorE (l : List Ed) : List Ed := uniqK (srt ltE l) l.length
theorem uniqK_props {s : List Ed} (hs : InOrder ltE s) (hok : ∀ p ∈ s, okE p) : ∀ k, k ≤ s.length → upE (uniqK s k) ∧ (∀ x, x ∈ uniqK s k ↔ x ∈ s.take k)
  | 0, _ => ⟨List.Pairwise.nil, fun x => by simp [uniqK]⟩
  | k + 1, hk => by
    obtain ⟨ih1, ih2⟩ := uniqK_props hs hok k (by omega)
    obtain ⟨x, hx⟩ : ∃ x, s[k]? = some x := ⟨s[k]'(by omega), List.getElem?_eq_getElem _⟩
    have htk : s.take (k + 1) = s.take k ++ [x] := by rw [List.take_add_one, hx]; rfl
    have hle : ∀ y ∈ s.take k, plE y ≤ plE x := by
      intro y hy
      obtain ⟨i, hi, rfl⟩ := List.getElem_of_mem hy
      rw [List.length_take] at hi
      obtain ⟨i1, e1⟩ := List.getElem?_eq_some_iff.1 hx
      have := List.pairwise_iff_getElem.1 hs i k (by omega) i1 (by omega)
      rw [e1] at this
      rw [List.getElem_take]
      unfold ltE at this
      simpa using this
    by_cases h : 0 < k ∧ s[k - 1]? = some x
    · rw [uniqK_skip hx h]
      refine ⟨ih1, fun z => ?_⟩
      rw [ih2 z, htk, List.mem_append, List.mem_singleton]
      refine ⟨.inl, fun e => e.elim id fun e => ?_⟩
      subst e
      have : (s.take k)[k - 1]? = some z := by rw [List.getElem?_take]; rw [if_pos (by omega)]; exact h.2
      exact List.mem_of_getElem? this
    · rw [uniqK_keep hx h]
      have hxk : okE x := hok x (List.mem_of_getElem? hx)
      refine ⟨List.pairwise_append.2 ⟨ih1, List.pairwise_singleton _ _, fun y hy z hz => ?_⟩, fun z => ?_⟩
      · rw [List.mem_singleton] at hz
        subst hz
        have hy1 := (ih2 y).1 hy
        have h1 := hle y hy1
        rcases Int.lt_or_eq_of_le h1 with h2 | h2
        · exact h2
        · exfalso
          have hyk : okE y := hok y (List.mem_of_mem_take hy1)
          have e := plE_inj hyk hxk h2
          subst e
          apply h
          have hk0 : 0 < k := by
            rcases Nat.eq_zero_or_pos k with h0 | h0
            · subst h0; simp at hy1
            · exact h0
          refine ⟨hk0, ?_⟩
          obtain ⟨u, hu⟩ : ∃ u, s[k - 1]? = some u := ⟨s[k - 1]'(by omega), List.getElem?_eq_getElem _⟩
          have hu1 : u ∈ s.take k := List.mem_of_getElem? (i := k - 1) (by rw [List.getElem?_take, if_pos (by omega)]; exact hu)
          have hu2 := hle u hu1
          obtain ⟨i, hi, hiy⟩ := List.getElem_of_mem hy1
          rw [List.length_take] at hi
          rw [List.getElem_take] at hiy
          have hyu : plE y ≤ plE u := by
            rcases Nat.lt_or_ge i (k - 1) with h3 | h3
            · obtain ⟨j1, e1⟩ := List.getElem?_eq_some_iff.1 hu
              have := List.pairwise_iff_getElem.1 hs i (k - 1) (by omega) j1 h3
              rw [e1, hiy] at this
              unfold ltE at this
              simpa using this
            · have : i = k - 1 := by omega
              subst this
              rw [List.getElem?_eq_getElem (by omega)] at hu
              injection hu with hu
              rw [← hu, hiy]; exact Int.le_refl _
          rw [hu, plE_inj (hok u (List.mem_of_mem_take hu1)) hxk (by omega)]
      · rw [List.mem_append, ih2 z, htk, List.mem_append]
theorem sorE_props {l : List Ed} (h : ∀ p ∈ l, okE p) : upE (sorE l) ∧ ∀ x, x ∈ sorE l ↔ x ∈ l := by
  have hlen := srt_len ltE_ahead l
  obtain ⟨h1, h2⟩ := uniqK_props (srt_order ltE_ahead l) (fun p hp => h p ((mem_srt ltE_ahead p l).1 hp)) l.length (by omega)
  refine ⟨h1, fun x => ?_⟩
  unfold sorE
  rw [h2 x, List.take_of_length_le (by omega), mem_srt ltE_ahead]
theorem sorE_up {l : List Ed} (h : ∀ p ∈ l, okE p) : upE (sorE l) := (sorE_props h).1
theorem mem_sorE {l : List Ed} (h : ∀ p ∈ l, okE p) (x : Ed) : x ∈ sorE l ↔ x ∈ l := (sorE_props h).2 x
theorem sorE_is {l m : List Ed} (h : ∀ p ∈ l, okE p) (hm : upE m) (he : ∀ x, x ∈ m ↔ x ∈ l) : sorE l = m :=
  up_ext (sorE_up h) hm fun x => by rw [mem_sorE h, he]
theorem sorE_len (l : List Ed) : (sorE l).length ≤ l.length := uniqK_le _ _
theorem IsG.sor {nodes : Int} {l : List Ed} (hm : mayN nodes = true) (h : ∀ p ∈ l, rightE nodes p = true) : IsG nodes (sorE l) := by
  have hok : ∀ p ∈ l, okE p := fun p hp => rightE_ok hm (h p hp)
  exact ⟨hm, fun p hp => h p ((mem_sorE hok p).1 hp), sorE_up hok⟩

/-- Does one edge stand ahead of another one, by the document? -/
def aheadE (p q : Ed) : Bool := if p.1 ≠ q.1 then decide (p.1 < q.1) else if p.2.1 ≠ q.2.1 then decide (p.2.1 < q.2.1) else decide (p.2.2 < q.2.2)
theorem ahead_pl {p q : Ed} (hp : okE p) (hq : okE q) : aheadE p q = true ↔ plE p < plE q := by
  unfold aheadE plE
  unfold okE at hp hq
  split
  · rw [decide_eq_true_eq]; omega
  · split
    · rw [decide_eq_true_eq]; omega
    · rw [decide_eq_true_eq]; omega
theorem rg_may {nodes : Int} {l : List Ed} (h : mayN nodes = false) : rightG nodes l = false := by unfold rightG; rw [h]; rfl
theorem rg_edge {nodes : Int} {l : List Ed} {p : Ed} (hp : p ∈ l) (h : rightE nodes p = false) : rightG nodes l = false := by
  cases e : rightG nodes l
  · rfl
  · rw [(rightG_iff.1 e).all p hp] at h; cases h
theorem rg_place {nodes : Int} {l : List Ed} {k : Nat} {x y : Ed} (hx : l[k]? = some x) (hy : l[k + 1]? = some y) (h : plE y ≤ plE x) : rightG nodes l = false := by
  cases e : rightG nodes l
  · rfl
  · have := next_of_up (rightG_iff.1 e).up hx hy
    omega
theorem rg_ahead {nodes : Int} {l : List Ed} {k : Nat} {x y : Ed} (hx : l[k]? = some x) (hy : l[k + 1]? = some y) (h : aheadE x y = false) : rightG nodes l = false := by
  cases e : rightG nodes l
  · rfl
  · have g := rightG_iff.1 e
    rw [(ahead_pl (g.ok x (List.mem_of_getElem? hx)) (g.ok y (List.mem_of_getElem? hy))).2 (next_of_up g.up hx hy)] at h
    cases h
theorem rg_true {nodes : Int} {l : List Ed} (h1 : ∀ p ∈ l, rightE nodes p = true) (h2 : ∀ k x y, l[k]? = some x → l[k + 1]? = some y → aheadE x y = true) : rightG nodes l = mayN nodes := by
  cases e : mayN nodes
  · exact rg_may e
  · have hok : ∀ p ∈ l, okE p := fun p hp => rightE_ok e (h1 p hp)
    exact rightG_iff.2 ⟨e, h1, up_of_next fun k x y hx hy => (ahead_pl (hok x (List.mem_of_getElem? hx)) (hok y (List.mem_of_getElem? hy))).1 (h2 k x y hx hy)⟩
theorem rg_places {nodes : Int} {l : List Ed} (hm : mayN nodes = true) (h1 : ∀ p ∈ l, rightE nodes p = true) (h2 : ∀ k x y, l[k]? = some x → l[k + 1]? = some y → plE x < plE y) : rightG nodes l = true :=
  rightG_iff.2 ⟨hm, h1, up_of_next h2⟩

/-- A row in order with one more, as the document makes it. -/
def wStep (e : Ed) (s : List Ed × Bool) (x : Ed) : List Ed × Bool :=
  let t := if s.2 = false ∧ aheadE x e = false then (s.1 ++ [e], true) else s
  if x = e then t else (t.1 ++ [x], t.2)
def withE (l : List Ed) (e : Ed) : List Ed := let s := l.foldl (wStep e) ([], false); if s.2 = true then s.1 else s.1 ++ [e]
def ofE (l : List Ed) : List Ed := l.foldl withE []
theorem ahead_irrefl (e : Ed) : aheadE e e = false := by simp [aheadE]
theorem w_laid (e : Ed) : ∀ (l acc : List Ed), l.foldl (wStep e) (acc, true) = (acc ++ l.filter (fun x => decide (x ≠ e)), true)
  | [], acc => by simp
  | x :: l, acc => by
    rw [List.foldl_cons]
    by_cases h : x = e
    · have : wStep e (acc, true) x = (acc, true) := by unfold wStep; simp [h]
      rw [this, w_laid e l acc]; simp [h]
    · have : wStep e (acc, true) x = (acc ++ [x], true) := by unfold wStep; simp [h]
      rw [this, w_laid e l (acc ++ [x])]; simp [h]
theorem w_not (e : Ed) : ∀ (l acc : List Ed), (∃ pre post, l = pre ++ post ∧ (∀ x ∈ pre, aheadE x e = true) ∧ (∀ y, post.head? = some y → aheadE y e = false) ∧
    (let s := l.foldl (wStep e) (acc, false); if s.2 = true then s.1 else s.1 ++ [e]) = acc ++ pre ++ [e] ++ post.filter (fun x => decide (x ≠ e)))
  | [], acc => ⟨[], [], rfl, fun _ h => by simp at h, fun _ h => by simp at h, by simp⟩
  | x :: l, acc => by
    by_cases h : aheadE x e = true
    · have hne : x ≠ e := fun e1 => by rw [e1, ahead_irrefl] at h; cases h
      have hs : wStep e (acc, false) x = (acc ++ [x], false) := by unfold wStep; simp [h, hne]
      obtain ⟨pre, post, h1, h2, h3, h4⟩ := w_not e l (acc ++ [x])
      refine ⟨x :: pre, post, by rw [h1]; rfl, fun z hz => ?_, h3, ?_⟩
      · rcases List.mem_cons.1 hz with rfl | hz
        · exact h
        · exact h2 z hz
      · rw [List.foldl_cons, hs, h4]; simp
    · have h' : aheadE x e = false := by simpa using h
      refine ⟨[], x :: l, rfl, fun _ h => by simp at h, fun y hy => by simp at hy; subst hy; exact h', ?_⟩
      by_cases hx : x = e
      · have hs : wStep e (acc, false) x = (acc ++ [e], true) := by unfold wStep; simp [hx, ahead_irrefl]
        rw [List.foldl_cons, hs, w_laid]; simp [hx]
      · have hs : wStep e (acc, false) x = (acc ++ [e] ++ [x], true) := by unfold wStep; simp [h', hx]
        rw [List.foldl_cons, hs, w_laid]; simp [hx]
theorem withE_props {l : List Ed} {e : Ed} (hl : upE l) (hok : ∀ p ∈ l, okE p) (he : okE e) : upE (withE l e) ∧ ∀ x, x ∈ withE l e ↔ x = e ∨ x ∈ l := by
  obtain ⟨pre, post, h1, h2, h3, h4⟩ := w_not e l []
  have hw : withE l e = pre ++ [e] ++ post.filter (fun x => decide (x ≠ e)) := by unfold withE; rw [h4]; simp
  subst h1
  have hp := List.pairwise_append.1 hl
  have hpost : ∀ y ∈ post.filter (fun x => decide (x ≠ e)), plE e < plE y := by
    intro y hy
    obtain ⟨hy1, hy2⟩ := List.mem_filter.1 hy
    have hy2 : y ≠ e := by simpa using hy2
    have hyo := hok y (List.mem_append_right _ hy1)
    have hge : ¬ plE y < plE e := by
      match post, hy1, h3, hp with
      | z :: zs, hy1, h3, hp =>
        have hz := h3 z rfl
        have hzo := hok z (List.mem_append_right _ (.head _))
        have hz1 : ¬ plE z < plE e := fun c => by rw [(ahead_pl hzo he).2 c] at hz; cases hz
        rcases List.mem_cons.1 hy1 with rfl | hy1
        · exact hz1
        · have := (List.pairwise_cons.1 hp.2.1).1 y hy1
          omega
    rcases Int.lt_or_eq_of_le (Int.not_lt.1 hge) with h | h
    · exact h
    · exact absurd (plE_inj he hyo h).symm hy2
  refine ⟨?_, fun x => ?_⟩
  · rw [hw]
    refine List.pairwise_append.2 ⟨List.pairwise_append.2 ⟨hp.1, List.pairwise_singleton _ _, fun a ha b hb => ?_⟩, List.Pairwise.filter _ hp.2.1, fun a ha b hb => ?_⟩
    · rw [List.mem_singleton] at hb
      subst hb
      exact (ahead_pl (hok a (List.mem_append_left _ ha)) he).1 (h2 a ha)
    · rcases List.mem_append.1 ha with ha | ha
      · exact hp.2.2 a ha b (List.mem_filter.1 hb).1
      · rw [List.mem_singleton] at ha
        subst ha
        exact hpost b hb
  · rw [hw]
    simp only [List.mem_append, List.mem_singleton, List.mem_filter, decide_eq_true_eq]
    by_cases hx : x = e <;> simp [hx]
theorem ofE_from : ∀ (l acc : List Ed), (∀ p ∈ l, okE p) → upE acc → (∀ p ∈ acc, okE p) → upE (l.foldl withE acc) ∧ ∀ x, x ∈ l.foldl withE acc ↔ x ∈ acc ∨ x ∈ l
  | [], acc, _, ha, _ => ⟨ha, fun x => by simp⟩
  | e :: l, acc, hl, ha, hoa => by
    obtain ⟨h1, h2⟩ := withE_props ha hoa (hl e (.head _))
    obtain ⟨h3, h4⟩ := ofE_from l (withE acc e) (fun p hp => hl p (.tail _ hp)) h1 fun p hp => by
      rcases (h2 p).1 hp with rfl | hp
      · exact hl p (.head _)
      · exact hoa p hp
    refine ⟨h3, fun x => ?_⟩
    rw [List.foldl_cons, h4 x, h2 x, List.mem_cons]
    exact ⟨fun h => h.elim (fun h => h.elim (fun h => .inr (.inl h)) .inl) fun h => .inr (.inr h), fun h => h.elim (fun h => .inl (.inr h)) fun h => h.elim (fun h => .inl (.inl h)) .inr⟩
theorem ofE_eq {l : List Ed} (h : ∀ p ∈ l, okE p) : ofE l = sorE l := by
  obtain ⟨h1, h2⟩ := ofE_from l [] h List.Pairwise.nil (fun _ h => by simp at h)
  exact (sorE_is h h1 fun x => by rw [h2 x]; simp).symm
theorem wStep_le (e : Ed) (s : List Ed × Bool) (x : Ed) : (wStep e s x).1.length ≤ s.1.length + 2 := by
  unfold wStep
  simp only
  split <;> split <;> simp <;> omega

/-- What leads out of a node; how many edges are from nodes below it. -/
def outE (l : List Ed) (v : Int) : List Ed := l.filter fun p => decide (p.1 = v)
def inE (l : List Ed) (v : Int) : List Ed := l.filter fun p => decide (p.2.1 = v)
def startE (l : List Ed) (v : Int) : Nat := (l.filter fun p => decide (p.1 < v)).length
def kindsE (l : List Ed) (u v : Int) : List Int := ((outE l u).filter fun p => decide (p.2.1 = v)).map fun p => p.2.2
def flipE (p : Ed) : Ed := (p.2.1, p.1, p.2.2)
def backE (l : List Ed) : List Ed := sorE (l.map flipE)
theorem from_le {l : List Ed} (hok : ∀ p ∈ l, okE p) (h : upE l) : l.Pairwise fun x y => x.1 ≤ y.1 := by
  refine List.Pairwise.imp_of_mem (fun {a b} ha hb hab => ?_) h
  have := hok a ha
  have := hok b hb
  unfold okE at *
  unfold plE at hab
  omega
theorem start_split {l : List Ed} (h : l.Pairwise fun x y => x.1 ≤ y.1) (v : Int) : l.take (startE l v) = l.filter (fun p => decide (p.1 < v)) ∧ l.drop (startE l v) = l.filter (fun p => decide (v ≤ p.1)) := by
  unfold startE
  induction l with
  | nil => simp
  | cons x l ih =>
    obtain ⟨h1, h2⟩ := List.pairwise_cons.1 h
    by_cases hx : x.1 < v
    · obtain ⟨e1, e2⟩ := ih h2
      have hx2 : ¬ v ≤ x.1 := by omega
      simp [hx, hx2, e1, e2]
    · have hx2 : v ≤ x.1 := by omega
      have e1 : (x :: l).filter (fun p => decide (p.1 < v)) = [] := by
        rw [List.filter_eq_nil_iff]
        intro y hy
        rcases List.mem_cons.1 hy with rfl | hy
        · simpa using hx2
        · have := h1 y hy
          simp; omega
      have e2 : (x :: l).filter (fun p => decide (v ≤ p.1)) = x :: l := by
        rw [List.filter_eq_self]
        intro y hy
        rcases List.mem_cons.1 hy with rfl | hy
        · simpa using hx2
        · have := h1 y hy
          simp; omega
      rw [e1, e2]; simp
theorem start_le (l : List Ed) (v : Int) : startE l v ≤ l.length := List.length_filter_le _ _
theorem start_mono (l : List Ed) {u v : Int} (h : u ≤ v) : startE l u ≤ startE l v := by
  unfold startE
  induction l with
  | nil => simp
  | cons x l ih =>
    by_cases h1 : x.1 < u
    · have h2 : x.1 < v := by omega
      simp [h1, h2]; exact ih
    · by_cases h2 : x.1 < v
      · simp [h1, h2]; omega
      · simp [h1, h2]; exact ih
theorem out_cut {l : List Ed} (h : l.Pairwise fun x y => x.1 ≤ y.1) (v : Int) : (l.drop (startE l v)).take (startE l (v + 1) - startE l v) = outE l v := by
  have e1 := (start_split h v).1
  have e2 := (start_split h (v + 1)).1
  have hle := start_mono l (u := v) (v := v + 1) (by omega)
  rw [← List.drop_take, e2]
  have e3 : (l.filter (fun p => decide (p.1 < v + 1))) = l.take (startE l v) ++ outE l v := by
    rw [e1]
    unfold outE
    clear e1 e2 hle
    induction l with
    | nil => simp
    | cons x l ih =>
      obtain ⟨h1, h2⟩ := List.pairwise_cons.1 h
      have ih := ih h2
      rcases Int.lt_trichotomy x.1 v with hx | hx | hx
      · have a : x.1 < v + 1 := by omega
        have b : ¬ x.1 = v := by omega
        simp [hx, a, b, ih]
      · have a : x.1 < v + 1 := by omega
        have b : ¬ x.1 < v := by omega
        have e : l.filter (fun p => decide (p.1 < v)) = [] := by
          rw [List.filter_eq_nil_iff]
          intro y hy
          have := h1 y hy
          simp; omega
        rw [e, List.nil_append] at ih
        rw [List.filter_cons_of_pos (by simpa using a), List.filter_cons_of_neg (by simpa using b), List.filter_cons_of_pos (by simpa using hx), ih, e, List.nil_append]
      · have a : ¬ x.1 < v + 1 := by omega
        have b : ¬ x.1 < v := by omega
        have c : ¬ x.1 = v := by omega
        simp [a, b, c, ih]
  rw [e3, List.drop_left' (by rw [List.length_take]; have := start_le l v; omega)]
theorem start_lo {l : List Ed} (h : l.Pairwise fun x y => x.1 ≤ y.1) (v : Int) {i : Nat} {p : Ed} (hp : l[i]? = some p) (hi : i < startE l v) : p.1 - v < 0 := by
  have : p ∈ l.take (startE l v) := List.mem_of_getElem? (i := i) (by rw [List.getElem?_take, if_pos hi]; exact hp)
  rw [(start_split h v).1] at this
  have := (List.mem_filter.1 this).2
  simp at this; omega
theorem start_hi {l : List Ed} (h : l.Pairwise fun x y => x.1 ≤ y.1) (v : Int) {i : Nat} {p : Ed} (hp : l[i]? = some p) (hi : startE l v ≤ i) : ¬ p.1 - v < 0 := by
  have : p ∈ l.drop (startE l v) := List.mem_of_getElem? (i := i - startE l v) (by rw [List.getElem?_drop, Nat.add_sub_cancel' hi]; exact hp)
  rw [(start_split h v).2] at this
  have := (List.mem_filter.1 this).2
  simp at this; omega
theorem start_all {nodes : Int} {l : List Ed} (h : ∀ p ∈ l, rightE nodes p = true) : startE l nodes = l.length := by
  unfold startE
  rw [List.filter_eq_self.2]
  intro p hp
  have := h p hp
  unfold rightE at this
  simp at this
  simp; omega

theorem flip_right {nodes : Int} {p : Ed} (h : rightE nodes p = true) : rightE nodes (flipE p) = true := by
  unfold rightE flipE at *
  simp only [decide_eq_true_eq] at *
  exact ⟨h.2.1, h.1, fun e => h.2.2.1 e.symm, h.2.2.2⟩
theorem flip_flip (p : Ed) : flipE (flipE p) = p := rfl
theorem IsG.flip {nodes : Int} {l : List Ed} (h : IsG nodes l) : ∀ p ∈ l.map flipE, rightE nodes p = true := fun p hp => by
  obtain ⟨q, hq, rfl⟩ := List.mem_map.1 hp
  exact flip_right (h.all q hq)
theorem IsG.flip_ok {nodes : Int} {l : List Ed} (h : IsG nodes l) : ∀ p ∈ l.map flipE, okE p := fun p hp => rightE_ok h.may (h.flip p hp)
theorem IsG.back {nodes : Int} {l : List Ed} (h : IsG nodes l) : IsG nodes (backE l) := IsG.sor h.may h.flip
theorem mem_back {nodes : Int} {l : List Ed} (h : IsG nodes l) (p : Ed) : p ∈ backE l ↔ flipE p ∈ l := by
  unfold backE
  rw [mem_sorE h.flip_ok, List.mem_map]
  exact ⟨fun ⟨q, hq, e⟩ => by rw [← e]; exact hq, fun hp => ⟨flipE p, hp, rfl⟩⟩
theorem back_back {nodes : Int} {l : List Ed} (h : IsG nodes l) : backE (backE l) = l :=
  sorE_is h.back.flip_ok h.up fun x => by
    rw [List.mem_map]
    exact ⟨fun hx => ⟨flipE x, (mem_back h _).2 hx, rfl⟩, fun ⟨q, hq, e⟩ => by rw [← e]; exact (mem_back h q).1 hq⟩
theorem back_len {nodes : Int} {l : List Ed} (h : IsG nodes l) : (backE l).length = l.length := by
  have h1 : (backE l).length ≤ l.length := by have := sorE_len (l.map flipE); rw [List.length_map] at this; exact this
  have h2 : (backE (backE l)).length ≤ (backE l).length := by have := sorE_len ((backE l).map flipE); rw [List.length_map] at this; exact this
  rw [back_back h] at h2
  omega
theorem out_in {nodes : Int} {l : List Ed} (h : IsG nodes l) (v : Int) : inE (backE l) v = (outE l v).map flipE := by
  refine up_ext (List.Pairwise.filter _ h.back.up) ?_ fun x => ?_
  · refine List.pairwise_map.2 (List.Pairwise.imp_of_mem (fun {a b} ha hb hab => ?_) (List.Pairwise.filter _ h.up))
    have ha1 := (List.mem_filter.1 ha).2
    have hb1 := (List.mem_filter.1 hb).2
    have ho1 := h.ok a (List.mem_filter.1 ha).1
    have ho2 := h.ok b (List.mem_filter.1 hb).1
    simp at ha1 hb1
    unfold okE at ho1 ho2
    unfold plE flipE
    unfold plE at hab
    simp only
    omega
  · unfold inE outE
    rw [List.mem_filter, mem_back h, List.mem_map]
    refine ⟨fun ⟨h1, h2⟩ => ⟨flipE x, List.mem_filter.2 ⟨h1, decide_eq_true (of_decide_eq_true h2)⟩, rfl⟩, fun ⟨q, hq, e⟩ => ?_⟩
    obtain ⟨h1, h2⟩ := List.mem_filter.1 hq
    rw [← e]
    exact ⟨h1, decide_eq_true (of_decide_eq_true h2)⟩
end Go.Proofs.Ytaigpdpcliecpaa
namespace Go.Proofs.Ytaigpdpcliecpaa
open Go.RowKit

/-- v is not taken, and no edge leads to it from a node that is not taken. -/
def freeB (zs : List Ed) (l : List Int) (v : Int) : Bool := decide (v ∉ l) && zs.all fun p => decide (p.2.1 ≠ v) || decide (p.1 ∈ l)
theorem freeB_iff {zs : List Ed} {l : List Int} {v : Int} : freeB zs l v = true ↔ v ∉ l ∧ ∀ p ∈ zs, p.2.1 = v → p.1 ∈ l := by
  unfold freeB
  rw [Bool.and_eq_true, decide_eq_true_eq, List.all_eq_true]
  refine and_congr_right fun _ => forall_congr' fun p => forall_congr' fun _ => ?_
  rw [Bool.or_eq_true, decide_eq_true_eq, decide_eq_true_eq]
  by_cases h : p.2.1 = v <;> simp [h]
/-- v is the least one that can be taken next. -/
def NextT (zs : List Ed) (m : Nat) (l : List Int) (v : Int) : Prop := (0 ≤ v ∧ v < (m : Int)) ∧ freeB zs l v = true ∧ ∀ u, 0 ≤ u → u < v → freeB zs l u = false
def NoneT (zs : List Ed) (m : Nat) (l : List Int) : Prop := ∀ v, 0 ≤ v → v < (m : Int) → freeB zs l v = false
theorem NextT.unique {zs : List Ed} {m : Nat} {l : List Int} {v w : Int} (h : NextT zs m l v) (k : NextT zs m l w) : v = w := by
  rcases Int.lt_trichotomy v w with c | c | c
  · exact absurd h.2.1 (by rw [k.2.2 v h.1.1 c]; decide)
  · exact c
  · exact absurd k.2.1 (by rw [h.2.2 w k.1.1 c]; decide)
theorem NextT.some_ {zs : List Ed} {m : Nat} {l : List Int} {v : Int} (h : NextT zs m l v) : ¬ NoneT zs m l := fun k => absurd h.2.1 (by rw [k v h.1.1 h.1.2]; decide)
/-- What is taken, one by one. -/
def Kahn (zs : List Ed) (m : Nat) (l : List Int) : Prop := ∀ i x, l[i]? = some x → NextT zs m (l.take i) x
structure KahnAll (zs : List Ed) (m : Nat) (l : List Int) : Prop where
  way : Kahn zs m l
  none_ : NoneT zs m l
theorem Kahn.nil (zs : List Ed) (m : Nat) : Kahn zs m [] := fun i x h => by simp at h
theorem Kahn.more {zs : List Ed} {m : Nat} {l : List Int} {v : Int} (h : Kahn zs m l) (k : NextT zs m l v) : Kahn zs m (l ++ [v]) := by
  intro i x hx
  rcases Nat.lt_trichotomy i l.length with c | c | c
  · rw [List.getElem?_append_left c] at hx
    rw [List.take_append_of_le_length (Nat.le_of_lt c)]
    exact h i x hx
  · subst c
    simp at hx
    subst hx
    simpa using k
  · rw [List.getElem?_eq_none (by simp; omega)] at hx
    cases hx
theorem Kahn.take_eq {zs : List Ed} {m : Nat} {l k : List Int} (h : Kahn zs m l) (g : Kahn zs m k) : ∀ i, i ≤ l.length → i ≤ k.length → l.take i = k.take i
  | 0, _, _ => by simp
  | i + 1, h1, h2 => by
    have ih := h.take_eq g i (by omega) (by omega)
    have a := h i _ (List.getElem?_eq_getElem (by omega))
    have b := g i _ (List.getElem?_eq_getElem (by omega))
    rw [ih] at a
    have e := a.unique b
    rw [List.take_add_one, List.take_add_one, ih, List.getElem?_eq_getElem (by omega), List.getElem?_eq_getElem (by omega), e]
theorem KahnAll.unique {zs : List Ed} {m : Nat} {l k : List Int} (h : KahnAll zs m l) (g : KahnAll zs m k) : l = k := by
  rcases Nat.lt_trichotomy l.length k.length with c | c | c
  · have e := h.way.take_eq g.way l.length (Nat.le_refl _) (by omega)
    rw [List.take_length] at e
    have b := g.way l.length _ (List.getElem?_eq_getElem c)
    rw [← e] at b
    exact absurd h.none_ b.some_
  · have e := h.way.take_eq g.way l.length (Nat.le_refl _) (by omega)
    rwa [List.take_length, c, List.take_length] at e
  · have e := h.way.take_eq g.way k.length (by omega) (Nat.le_refl _)
    rw [List.take_length] at e
    have b := h.way k.length _ (List.getElem?_eq_getElem c)
    rw [e] at b
    exact absurd g.none_ b.some_
theorem mem_take {l : List Int} {i : Nat} {x : Int} (h : x ∈ l.take i) : ∃ j, j < i ∧ l[j]? = some x := by
  obtain ⟨j, hj⟩ := List.mem_iff_getElem?.1 h
  rw [List.getElem?_take] at hj
  split at hj
  · exact ⟨j, by assumption, hj⟩
  · cases hj
theorem take_mem {l : List Int} {i j : Nat} {x : Int} (hj : j < i) (h : l[j]? = some x) : x ∈ l.take i := by
  refine List.mem_iff_getElem?.2 ⟨j, ?_⟩
  rw [List.getElem?_take, if_pos hj]
  exact h
theorem Kahn.ends {zs : List Ed} {m : Nat} {l : List Int} (h : Kahn zs m l) : ∀ x ∈ l, 0 ≤ x ∧ x < (m : Int) := fun x hx => by
  obtain ⟨i, hi⟩ := List.mem_iff_getElem?.1 hx
  exact (h i x hi).1
theorem nodup_of {l : List Int} (h : ∀ i x, l[i]? = some x → x ∉ l.take i) : l.Nodup := by
  rw [List.nodup_iff_pairwise_ne, List.pairwise_iff_getElem]
  intro i j hi hj hij e
  exact h j _ (List.getElem?_eq_getElem hj) (take_mem hij (by rw [List.getElem?_eq_getElem hi, e]))
theorem nodup_take {l : List Int} (h : l.Nodup) {i : Nat} {x : Int} (hx : l[i]? = some x) : x ∉ l.take i := fun hm => by
  obtain ⟨j, hj, hx2⟩ := mem_take hm
  rw [List.nodup_iff_pairwise_ne, List.pairwise_iff_getElem] at h
  obtain ⟨a, ha⟩ := List.getElem?_eq_some_iff.1 hx
  obtain ⟨b, hb⟩ := List.getElem?_eq_some_iff.1 hx2
  exact h j i b a hj (by rw [ha, hb])
theorem Kahn.nodup {zs : List Ed} {m : Nat} {l : List Int} (h : Kahn zs m l) : l.Nodup := nodup_of fun i x hx => (freeB_iff.1 (h i x hx).2.1).1
theorem Kahn.ahead {zs : List Ed} {m : Nat} {l : List Int} (h : Kahn zs m l) {p : Ed} (hp : p ∈ zs) {i : Nat} (hi : l[i]? = some p.2.1) : p.1 ∈ l.take i := (freeB_iff.1 (h i _ hi).2.1).2 p hp rfl

/-- The numbers of the nodes. -/
def allN (m : Nat) : List Int := (List.range m).map fun v : Nat => (v : Int)
theorem mem_allN {m : Nat} {x : Int} : x ∈ allN m ↔ 0 ≤ x ∧ x < (m : Int) := by
  unfold allN
  rw [List.mem_map]
  constructor
  · rintro ⟨v, hv, rfl⟩
    have := List.mem_range.1 hv
    omega
  · intro h
    exact ⟨x.toNat, List.mem_range.2 (by omega), by omega⟩
theorem allN_len (m : Nat) : (allN m).length = m := by simp [allN]
theorem allN_nodup (m : Nat) : (allN m).Nodup := by
  unfold allN
  rw [List.nodup_iff_pairwise_ne, List.pairwise_map]
  exact (List.pairwise_lt_range).imp fun h => by omega
theorem allN_at {m v : Nat} (h : v < m) : (allN m)[v]? = some (v : Int) := by simp [allN, h]
theorem few_t {l : List Int} {m : Nat} (h1 : l.Nodup) (h2 : ∀ x ∈ l, 0 ≤ x ∧ x < (m : Int)) : l.Perm ((allN m).filter fun x => decide (x ∈ l)) :=
  (List.perm_ext_iff_of_nodup h1 ((allN_nodup m).filter _)).2 fun x => by
    rw [List.mem_filter, mem_allN, decide_eq_true_eq]
    exact ⟨fun hx => ⟨h2 x hx, hx⟩, fun hx => hx.2⟩
theorem few_le {l : List Int} {m : Nat} (h1 : l.Nodup) (h2 : ∀ x ∈ l, 0 ≤ x ∧ x < (m : Int)) : l.length ≤ m := by
  rw [(few_t h1 h2).length_eq]
  exact Nat.le_trans (List.length_filter_le _ _) (by rw [allN_len]; exact Nat.le_refl _)
theorem filter_full {α : Type} {q : α → Bool} : ∀ {l : List α}, (l.filter q).length = l.length → ∀ x ∈ l, q x = true
  | [], _, x, h => by simp at h
  | a :: l, h, x, hx => by
    have h1 := List.length_filter_le q l
    cases ha : q a
    · rw [List.filter_cons_of_neg (by simp [ha])] at h
      simp at h
      omega
    · rw [List.filter_cons_of_pos ha] at h
      simp at h
      rcases List.mem_cons.1 hx with rfl | hx
      · exact ha
      · exact filter_full (by simpa using h) x hx
theorem full_all {l : List Int} {m : Nat} (h1 : l.Nodup) (h2 : ∀ x ∈ l, 0 ≤ x ∧ x < (m : Int)) (h3 : l.length = m) {v : Int} (h0 : 0 ≤ v) (hv : v < (m : Int)) : v ∈ l := by
  have e := (few_t h1 h2).length_eq
  have := filter_full (q := fun x => decide (x ∈ l)) (l := allN m) (by rw [allN_len, ← e, h3]) v (mem_allN.2 ⟨h0, hv⟩)
  simpa using this
theorem Kahn.few {zs : List Ed} {m : Nat} {l : List Int} (h : Kahn zs m l) : l.length ≤ m := few_le h.nodup h.ends
theorem NextT.less {zs : List Ed} {m : Nat} {l : List Int} {v : Int} (h : Kahn zs m l) (k : NextT zs m l v) : l.length < m := by
  have := (h.more k).few
  simp at this
  omega

/-- An order in which all edges lead forward. -/
structure RightO (zs : List Ed) (m : Nat) (o : List Int) : Prop where
  once : o.Nodup
  ends : ∀ x ∈ o, 0 ≤ x ∧ x < (m : Int)
  many : o.length = m
  ahead : ∀ p ∈ zs, ∀ i, o[i]? = some p.2.1 → p.1 ∈ o.take i
theorem KahnAll.right {zs : List Ed} {m : Nat} {l : List Int} (h : KahnAll zs m l) (hl : l.length = m) : RightO zs m l :=
  ⟨h.way.nodup, h.way.ends, hl, fun _ hp _ hi => h.way.ahead hp hi⟩
theorem first_not {o l : List Int} : (∃ i x, o[i]? = some x ∧ x ∉ l ∧ ∀ y ∈ o.take i, y ∈ l) ∨ ∀ x ∈ o, x ∈ l := by
  induction o with
  | nil => exact .inr fun x h => by simp at h
  | cons a o ih =>
    by_cases ha : a ∈ l
    · rcases ih with ⟨i, x, h1, h2, h3⟩ | h
      · refine .inl ⟨i + 1, x, by simpa using h1, h2, fun y hy => ?_⟩
        rw [List.take_succ_cons] at hy
        rcases List.mem_cons.1 hy with rfl | hy
        · exact ha
        · exact h3 y hy
      · refine .inr fun x hx => ?_
        rcases List.mem_cons.1 hx with rfl | hx
        · exact ha
        · exact h x hx
    · exact .inl ⟨0, a, rfl, ha, fun y hy => by simp at hy⟩
/-- If there is a right order, nothing is left. -/
theorem RightO.full {zs : List Ed} {m : Nat} {o l : List Int} (h : RightO zs m o) (k : KahnAll zs m l) : l.length = m := by
  have h1 : ∀ x ∈ o, x ∈ l := by
    rcases first_not (o := o) (l := l) with ⟨i, x, hx, h2, h3⟩ | h
    · exfalso
      have he := h.ends x (List.mem_of_getElem? hx)
      have hf : freeB zs l x = true := freeB_iff.2 ⟨h2, fun p hp e => h3 _ (h.ahead p hp i (by rw [e]; exact hx))⟩
      rw [k.none_ x he.1 he.2] at hf
      cases hf
    · exact h
  have h4 := k.way.few
  have h5 : o.length ≤ l.length := by
    have hp : o.Perm (l.filter fun x => decide (x ∈ o)) := (List.perm_ext_iff_of_nodup h.once (k.way.nodup.filter _)).2 fun x => by
      rw [List.mem_filter, decide_eq_true_eq]
      exact ⟨fun hx => ⟨h1 x hx, hx⟩, fun hx => hx.2⟩
    rw [hp.length_eq]
    exact List.length_filter_le _ _
  have := h.many
  omega
/-- No right order is less. -/
theorem RightO.least {zs : List Ed} {m : Nat} {o l : List Int} (h : RightO zs m o) (k : KahnAll zs m l) {i : Nat} {x y : Int} (he : l.take i = o.take i) (hx : l[i]? = some x) (hy : o[i]? = some y) : x ≤ y := by
  have ha := k.way i x hx
  have hy2 := h.ends y (List.mem_of_getElem? hy)
  have hf : freeB zs (l.take i) y = true := by
    rw [he]
    exact freeB_iff.2 ⟨nodup_take h.once hy, fun p hp e => h.ahead p hp i (by rw [e]; exact hy)⟩
  rcases Int.lt_or_le y x with c | c
  · rw [ha.2.2 y hy2.1 c] at hf
    cases hf
  · exact c
/-- What is left, rising. -/
def leftE (m : Nat) (l : List Int) : List Int := (allN m).filter fun x => decide (x ∉ l)
theorem left_none {zs : List Ed} {m : Nat} {l : List Int} (h : Kahn zs m l) : leftE m l = [] ↔ l.length = m := by
  unfold leftE
  rw [List.filter_eq_nil_iff]
  constructor
  · intro hn
    have hp : l.Perm (allN m) := (List.perm_ext_iff_of_nodup h.nodup (allN_nodup m)).2 fun x => by
      rw [mem_allN]
      refine ⟨h.ends x, fun hx => ?_⟩
      have := hn x (mem_allN.2 hx)
      simpa using this
    rw [hp.length_eq, allN_len]
  · intro hl x hx
    have := mem_allN.1 hx
    simpa using full_all h.nodup h.ends hl this.1 this.2
theorem left_len (m : Nat) (l : List Int) : (leftE m l).length ≤ m := Nat.le_trans (List.length_filter_le _ _) (by rw [allN_len]; exact Nat.le_refl _)
theorem mem_left {m : Nat} {l : List Int} {x : Int} : x ∈ leftE m l ↔ (0 ≤ x ∧ x < (m : Int)) ∧ x ∉ l := by
  unfold leftE
  rw [List.mem_filter, mem_allN, decide_eq_true_eq]
theorem left_up (m : Nat) (l : List Int) : (leftE m l).Pairwise (· < ·) := by
  unfold leftE allN
  refine List.Pairwise.filter _ ?_
  rw [List.pairwise_map]
  exact (List.pairwise_lt_range).imp fun h => by omega
/-- To each one that is left an edge leads from one that is left. -/
theorem KahnAll.left {zs : List Ed} {m : Nat} {l : List Int} (h : KahnAll zs m l) (hz : ∀ p ∈ zs, rightE (m : Int) p = true) {x : Int} (hx : x ∈ leftE m l) : ∃ p ∈ zs, p.2.1 = x ∧ p.1 ∈ leftE m l := by
  obtain ⟨h1, h2⟩ := mem_left.1 hx
  have hf := h.none_ x h1.1 h1.2
  by_cases hc : ∀ p ∈ zs, p.2.1 = x → p.1 ∈ l
  · rw [freeB_iff.2 ⟨h2, hc⟩] at hf
    cases hf
  · obtain ⟨p, hp⟩ := Classical.not_forall.1 hc
    obtain ⟨hp, h3⟩ := Classical.not_imp.1 hp
    obtain ⟨h3, h4⟩ := Classical.not_imp.1 h3
    have hr := of_decide_eq_true (hz p hp)
    exact ⟨p, hp, h3, mem_left.2 ⟨by omega, h4⟩⟩

/-- Which orders are right, by counting. -/
theorem rightO_counts {zs : List Ed} {m : Nat} {o : List Int} : RightO zs m o ↔ (∀ v, 0 ≤ v → v < (m : Int) → o.count v = 1) ∧ o.length = m ∧ ∀ p ∈ zs, ∀ i, o[i]? = some p.2.1 → p.1 ∈ o.take i := by
  constructor
  · intro h
    refine ⟨fun v h0 hv => ?_, h.many, h.ahead⟩
    have h1 := full_all h.once h.ends h.many h0 hv
    have h2 := List.nodup_iff_count.1 h.once v
    have h3 := List.count_pos_iff.2 h1
    omega
  · rintro ⟨h1, h2, h3⟩
    have hcount : ∀ v : Int, (allN m).count v ≤ o.count v := by
      intro v
      by_cases hv : v ∈ allN m
      · have := mem_allN.1 hv
        rw [h1 v this.1 this.2]
        exact List.nodup_iff_count.1 (allN_nodup m) v
      · rw [List.count_eq_zero_of_not_mem hv]
        exact Nat.zero_le _
    have hperm : (allN m).Perm o := by
      have hsub : ∀ (a b : List Int), (∀ v, a.count v ≤ b.count v) → a.length = b.length → a.Perm b := by
        intro a
        induction a with
        | nil =>
          intro b _ hl
          have : b = [] := List.length_eq_zero_iff.1 hl.symm
          rw [this]
        | cons x a ih =>
          intro b hc hl
          have hx : x ∈ b := by
            refine List.count_pos_iff.1 ?_
            have := hc x
            rw [List.count_cons_self] at this
            omega
          have hpb := List.perm_cons_erase hx
          refine (List.Perm.cons x (ih (b.erase x) (fun v => ?_) ?_)).trans hpb.symm
          · have h1 := hc v
            have h2 := hpb.count_eq v
            rw [List.count_cons] at h1 h2
            omega
          · have := hpb.length_eq
            simp at this hl
            omega
      exact hsub _ _ hcount (by rw [allN_len, h2])
    refine ⟨?_, fun x hx => mem_allN.1 (hperm.mem_iff.2 hx), h2, h3⟩
    exact hperm.nodup_iff.1 (allN_nodup m)
/-- Which orders are right, node by node: no edge leads to one that was met. -/
theorem rightO_search {zs : List Ed} {m : Nat} {o : List Int} (hz : ∀ p ∈ zs, rightE (m : Int) p = true) (hl : o.length = m) :
    RightO zs m o ↔ ∀ i x, o[i]? = some x → (0 ≤ x ∧ x < (m : Int)) ∧ x ∉ o.take i ∧ ∀ p ∈ zs, p.1 = x → p.2.1 ∉ o.take (i + 1) := by
  constructor
  · intro h i x hx
    refine ⟨h.ends x (List.mem_of_getElem? hx), nodup_take h.once hx, fun p hp e hm => ?_⟩
    obtain ⟨j, hj, h1⟩ := mem_take hm
    have h2 := h.ahead p hp j h1
    rw [e] at h2
    obtain ⟨k, hk, h3⟩ := mem_take h2
    exact nodup_take h.once hx (take_mem (by omega) h3)
  · intro h
    have ho : o.Nodup := nodup_of fun i x hx => (h i x hx).2.1
    have he : ∀ x ∈ o, 0 ≤ x ∧ x < (m : Int) := fun x hx => by
      obtain ⟨i, hi⟩ := List.mem_iff_getElem?.1 hx
      exact (h i x hi).1
    refine ⟨ho, he, hl, fun p hp i hi => ?_⟩
    have hr := of_decide_eq_true (hz p hp)
    have hm := full_all ho he hl hr.1.1 hr.1.2
    obtain ⟨k, hk⟩ := List.mem_iff_getElem?.1 hm
    rcases Nat.lt_or_ge k i with c | c
    · exact take_mem c hk
    · exact absurd (take_mem (by omega) hi) ((h k _ hk).2.2 p hp rfl)
end Go.Proofs.Ytaigpdpcliecpaa
namespace Go.Proofs.Ytaigpdpcliecpaa
open Go.RowKit

set_option maxRecDepth 100000 in
set_option maxHeartbeats 2000000 in
theorem find_start (cv : Value) (A : Option Addr) (n c j : Nat) (ps : List Ed) (q : Ed → Int) (bb : Bool) (hn : n ≤ 1000000) (w : World) (hR : Reads w w.heap.size 3 A n (cellsE ps))
    (hj : j ≤ n) (hlo : ∀ i p, ps[i]? = some p → i < j → q p < 0) (hhi : ∀ i p, ps[i]? = some p → j ≤ i → ¬ q p < 0) (hbb : j < n → ∀ p, ps[j]? = some p → bb = (q p == 0)) (hb0 : ¬ j < n → bb = false)
    (hq : ∀ p ∈ ps, ∀ W : World, Below w.heap.size w W → Calls Try.prog 75 #[.agg #[.int .i64 p.1, .int .i64 p.2.1, .int .i64 p.2.2], cv] W fun e W' => e = .returned (.int .i64 (q p)) ∧ Below W.heap.size W W') :
    Calls Try.prog 74 #[.slice A n c, .func (.func 75) #[] #[cv]] w fun e w' => e = .returned (.tuple #[.int .i64 j, .bool bb]) ∧ Below w.heap.size w w' := by
  have HR := Lib.hid hR
  have HL := Lib.hid (reads_len hR)
  have HLO := Lib.hid hlo
  have HHI := Lib.hid hhi
  have HBB := Lib.hid (And.intro hbb hb0)
  have HQ := Lib.hid hq
  clear hR hlo hhi hbb hb0 hq
  go_enter Try.func74, Try.ntmps74
  go_wp2_with fail
  go_loopg [6, 7] n (fun gg s6 s7 wr => ∃ l h : Nat, h - l ≤ gg ∧ l ≤ j ∧ j ≤ h ∧ h ≤ n ∧ s6 = .int .i64 l ∧ s7 = .int .i64 h ∧ Hid (Below w.heap.size w wr))
  case atStart => exact ⟨0, n, by omega, by omega, by omega, by omega, rfl, rfl, Below.refl _ _⟩
  case round =>
    obtain ⟨l, h, hg, hlj, hjh, hhn, rfl, rfl, bk⟩ := hrel
    by_cases hlt : l < h
    · have hlt2 : (l : Int) < (h : Int) := by omega
      obtain ⟨m, hm⟩ : ∃ m, m = l + (h - l) / 2 := ⟨_, rfl⟩
      have hmi : (l : Int) + ((h : Int) - (l : Int)) / 2 = (m : Int) := by omega
      have hml : l ≤ m := by omega
      have hmh : m < h := by omega
      obtain ⟨p, hp⟩ : ∃ p, ps[m]? = some p := ⟨ps[m]'(by rw [HL.out]; omega), List.getElem?_eq_getElem _⟩
      obtain ⟨b, o, rfl, hb, g0, g1, gk2⟩ := ed_at (HR.out.below bk.out) hp
      have hi1 : (0 : Int) ≤ (m : Int) := by omega
      have hi2 : (m : Int) < (n : Int) := by omega
      have HG := Lib.hid hg
      have HMM := Lib.hid hm
      clear hm hg
      by_cases hmj : m < j
      · have hv := HLO.out m p hp hmj
        have HP := Lib.hid (List.mem_of_getElem? hp)
        clear hp
        go_wp2_with fail
        refine (HQ.out p HP.out _ bk.out).mono ?_
        rintro e w2 ⟨rfl, b2⟩
        have HB2 : Hid (Below w.heap.size w w2) := bk.out.trans (b2.mono bk.out.size)
        clear b2 g0 g1 gk2
        generalize q p = v at *
        go_wp2_with fail
        go_roundg (gk - 1)
        case measure => have := HG.out; omega
        case rel => exact ⟨m + 1, h, by have := HG.out; have := HMM.out; omega, by omega, hjh, hhn, by go_num, rfl, HB2⟩
      · have hv := HHI.out m p hp (by omega)
        have HP := Lib.hid (List.mem_of_getElem? hp)
        clear hp
        go_wp2_with fail
        refine (HQ.out p HP.out _ bk.out).mono ?_
        rintro e w2 ⟨rfl, b2⟩
        have HB2 : Hid (Below w.heap.size w w2) := bk.out.trans (b2.mono bk.out.size)
        clear b2 g0 g1 gk2
        generalize q p = v at *
        go_wp2_with fail
        go_roundg (gk - 1)
        case measure => have := HG.out; omega
        case rel => exact ⟨l, m, by have := HG.out; have := HMM.out; omega, hlj, by omega, by omega, rfl, rfl, HB2⟩
    · have hge : ¬ (l : Int) < (h : Int) := by omega
      obtain rfl : l = j := by omega
      clear hlj hjh
      by_cases hjn : l < n
      · have hjn2 : (l : Int) < (n : Int) := by omega
        obtain ⟨p, hp⟩ : ∃ p, ps[l]? = some p := ⟨ps[l]'(by rw [HL.out]; omega), List.getElem?_eq_getElem _⟩
        obtain ⟨b, o, rfl, hb, g0, g1, gk2⟩ := ed_at (HR.out.below bk.out) hp
        have HV := Lib.hid (HBB.out.1 hjn p hp)
        have hi1 : (0 : Int) ≤ (l : Int) := by omega
        have HP := Lib.hid (List.mem_of_getElem? hp)
        clear hp
        go_wp2_with fail
        refine (HQ.out p HP.out _ bk.out).mono ?_
        rintro e w2 ⟨rfl, b2⟩
        have HB2 : Hid (Below w.heap.size w w2) := bk.out.trans (b2.mono bk.out.size)
        clear b2 g0 g1 gk2
        generalize q p = v at *
        go_wp2_with fail
        go_ret2
        exact ⟨by rw [HV.out]; rfl, HB2.out⟩
      · have hjn2 : decide ((l : Int) < (n : Int)) = false := by simp; omega
        have hjn3 : ¬ (l : Int) < (n : Int) := by omega
        have HV := Lib.hid (HBB.out.2 hjn)
        go_wp2_with fail
        go_ret2
        exact ⟨by rw [HV.out]; rfl, bk.out⟩

end Go.Proofs.Ytaigpdpcliecpaa
namespace Go.Proofs.Ytaigpdpcliecpaa
open Go.RowKit

def nodeB (nodes v : Int) : Bool := decide (0 ≤ v ∧ v < nodes)
set_option maxHeartbeats 1000000 in
theorem node_yes (v nodes : Int) (h : 0 ≤ v ∧ v < nodes) (w : World) : Calls Try.prog 58 #[.int .i64 v, .int .i64 nodes] w fun e w' => e = .returned (.bool true) ∧ w = w' := by
  obtain ⟨h1, h2⟩ := h
  go_enter Try.func58, Try.ntmps58
  go_wp2_with fail
  go_ret
  exact ⟨rfl, rfl⟩
set_option maxHeartbeats 1000000 in
theorem node_no (v nodes : Int) (h : ¬ (0 ≤ v ∧ v < nodes)) (w : World) : Calls Try.prog 58 #[.int .i64 v, .int .i64 nodes] w fun e w' => e = .returned (.bool false) ∧ w = w' := by
  by_cases h1 : 0 ≤ v
  · have h2 : ¬ v < nodes := fun c => h ⟨h1, c⟩
    clear h
    go_enter Try.func58, Try.ntmps58
    go_wp2_with fail
    go_ret
    exact ⟨rfl, rfl⟩
  · have h2 : decide (0 ≤ v) = false := by simpa using h1
    clear h
    go_enter Try.func58, Try.ntmps58
    go_wp2_with fail
    go_ret
    exact ⟨rfl, rfl⟩
theorem node_any (v nodes : Int) (w : World) : Calls Try.prog 58 #[.int .i64 v, .int .i64 nodes] w fun e w' => e = .returned (.bool (nodeB nodes v)) ∧ w = w' := by
  unfold nodeB
  by_cases h : 0 ≤ v ∧ v < nodes
  · rw [decide_eq_true h]; exact node_yes v nodes h w
  · rw [decide_eq_false h]; exact node_no v nodes h w
set_option maxHeartbeats 1000000 in
theorem may_any (nodes : Int) (w : World) : Calls Try.prog 39 #[.int .i64 nodes] w fun e w' => e = .returned (.bool (mayN nodes)) ∧ w = w' := by
  by_cases h1 : 0 ≤ nodes
  · by_cases h2 : nodes ≤ 300
    · have HE : Hid (mayN nodes = true) := by show _ = _; unfold mayN; simp [h1, h2]
      go_enter Try.func39, Try.ntmps39
      go_wp2_with fail
      go_ret
      exact ⟨by rw [HE.out]; rfl, rfl⟩
    · have HE : Hid (mayN nodes = false) := by show _ = _; unfold mayN; simp [h1, h2]
      go_enter Try.func39, Try.ntmps39
      go_wp2_with fail
      go_ret
      exact ⟨by rw [HE.out]; rfl, rfl⟩
  · have h2 : decide (0 ≤ nodes) = false := by simpa using h1
    have HE : Hid (mayN nodes = false) := by show _ = _; unfold mayN; simp [h1]
    go_enter Try.func39, Try.ntmps39
    go_wp2_with fail
    go_ret
    exact ⟨by rw [HE.out]; rfl, rfl⟩

theorem box_new (w : World) (cs : Array Value) (t : TypeId) : Blk (w.alloc (.cells cs t)) w.heap.size t cs ∧ Below w.heap.size w (w.alloc (.cells cs t)) := ⟨Blk.new w t cs, (Below.refl _ _).alloc (Nat.le_refl _) _⟩

theorem edge_ways {nodes : Int} {p : Ed} (h : rightE nodes p = false) : ¬ (0 ≤ p.1 ∧ p.1 < nodes) ∨ ((0 ≤ p.1 ∧ p.1 < nodes) ∧ ¬ (0 ≤ p.2.1 ∧ p.2.1 < nodes)) ∨ ((0 ≤ p.1 ∧ p.1 < nodes) ∧ (0 ≤ p.2.1 ∧ p.2.1 < nodes) ∧ (p.1 == p.2.1) = true) ∨
    ((0 ≤ p.1 ∧ p.1 < nodes) ∧ (0 ≤ p.2.1 ∧ p.2.1 < nodes) ∧ (p.1 == p.2.1) = false ∧ p.2.2 < 0) ∨ ((0 ≤ p.1 ∧ p.1 < nodes) ∧ (0 ≤ p.2.1 ∧ p.2.1 < nodes) ∧ (p.1 == p.2.1) = false ∧ ¬ p.2.2 < 0 ∧ p.2.2 > 9) := by
  unfold rightE at h
  rw [decide_eq_false_iff_not] at h
  by_cases h1 : 0 ≤ p.1 ∧ p.1 < nodes
  · by_cases h2 : 0 ≤ p.2.1 ∧ p.2.1 < nodes
    · by_cases h3 : p.1 = p.2.1
      · exact .inr (.inr (.inl ⟨h1, h2, by simpa using h3⟩))
      · by_cases h4 : p.2.2 < 0
        · exact .inr (.inr (.inr (.inl ⟨h1, h2, by simpa using h3, h4⟩)))
        · exact .inr (.inr (.inr (.inr ⟨h1, h2, by simpa using h3, h4, by
            rcases Int.lt_or_le 9 p.2.2 with h5 | h5
            · exact h5
            · exact absurd ⟨h1, h2, h3, by omega, h5⟩ h⟩)))
    · exact .inr (.inl ⟨h1, h2⟩)
  · exact .inl h1
theorem all_take {l : List Ed} {q : Ed → Bool} {k : Nat} {x : Ed} (h : ∀ p ∈ l.take k, q p = true) (hx : l[k]? = some x) (hq : q x = true) : ∀ p ∈ l.take (k + 1), q p = true := by
  rw [List.take_add_one, hx]
  intro p hp
  rcases List.mem_append.1 hp with hp | hp
  · exact h p hp
  · simp at hp; subst hp; exact hq
theorem all_no {l : List Ed} {q : Ed → Bool} {x : Ed} (hx : x ∈ l) (hq : q x = false) : l.all q = false := by
  rw [List.all_eq_false]
  exact ⟨x, hx, by rw [hq]; decide⟩

set_option maxRecDepth 100000 in
set_option maxHeartbeats 4000000 in
theorem between_any (nodes : Int) (A : Option Addr) (n c : Nat) (zs : List Ed) (hn : n ≤ 1000000) (w : World) (hR : Reads w w.heap.size 3 A n (cellsE zs)) :
    Calls Try.prog 40 #[.int .i64 nodes, .slice A n c] w fun e w' => e = .returned (.bool (zs.all (rightE nodes))) ∧ Below w.heap.size w w' := by
  have HR := Lib.hid hR
  have HL := Lib.hid (reads_len hR)
  clear hR
  go_enter Try.func40, Try.ntmps40
  go_wp2_with fail
  go_loopg [9] n (fun gg i wr => ∃ k : Nat, k + gg = n ∧ i = .int .i64 k ∧ Hid (∀ p ∈ zs.take k, rightE nodes p = true) ∧ Hid (Below w.heap.size w wr))
  case atStart => exact ⟨0, by omega, rfl, fun _ h => by simp at h, Below.refl _ _⟩
  case round =>
    obtain ⟨k, hk, rfl, ht, bk⟩ := hrel
    cases gk with
    | succ g2 =>
      have hlt : (k : Int) < (n : Int) := by omega
      obtain ⟨p, hp⟩ : ∃ p, zs[k]? = some p := ⟨zs[k]'(by rw [HL.out]; omega), List.getElem?_eq_getElem _⟩
      obtain ⟨b, o, rfl, hb, g0, g1, g2'⟩ := ed_at (HR.out.below bk.out) hp
      have HK := Lib.hid hk
      have HB1 : Hid (Below w.heap.size w (wr.alloc (.cells #[.int .i64 p.1, .int .i64 p.2.1, .int .i64 p.2.2] 50))) := bk.out.alloc bk.out.size _
      cases he : rightE nodes p
      · have HF : Hid (zs.all (rightE nodes) = false) := all_no (List.mem_of_getElem? hp) he
        have hw := edge_ways he
        clear hp hk he
        rcases hw with h1 | ⟨h1, h2⟩ | ⟨h1, h2, h3⟩ | ⟨h1, h2, h3, h4⟩ | ⟨h1, h2, h3, h4, h5⟩
        · have H1 := Lib.hid h1
          clear h1
          go_wp2_with fail
          refine (node_no _ _ H1.out _).mono ?_
          rintro e w1 ⟨rfl, rfl⟩
          go_wp2_with fail
          go_ret
          exact ⟨by rw [HF.out]; rfl, HB1.out⟩
        · have H1 := Lib.hid h1
          have H2 := Lib.hid h2
          clear h1 h2
          go_wp2_with fail
          refine (node_yes _ _ H1.out _).mono ?_
          rintro e w1 ⟨rfl, rfl⟩
          go_wp2_with fail
          refine (node_no _ _ H2.out _).mono ?_
          rintro e w1 ⟨rfl, rfl⟩
          go_wp2_with fail
          go_ret
          exact ⟨by rw [HF.out]; rfl, HB1.out⟩
        all_goals
          have H1 := Lib.hid h1
          have H2 := Lib.hid h2
          clear h1 h2
          go_wp2_with fail
          refine (node_yes _ _ H1.out _).mono ?_
          rintro e w1 ⟨rfl, rfl⟩
          go_wp2_with fail
          refine (node_yes _ _ H2.out _).mono ?_
          rintro e w1 ⟨rfl, rfl⟩
          go_wp2_with fail
          go_ret
          exact ⟨by rw [HF.out]; rfl, HB1.out⟩
      · have HT := Lib.hid (all_take ht.out hp he)
        unfold rightE at he
        rw [decide_eq_true_eq] at he
        obtain ⟨h1, h2, h3, h4, h5⟩ := he
        have H1 := Lib.hid h1
        have H2 := Lib.hid h2
        have h3b : (p.1 == p.2.1) = false := by simpa using h3
        have h4b : ¬ p.2.2 < 0 := by omega
        have h5b : ¬ p.2.2 > 9 := by omega
        clear hp hk h1 h2 h3 h4 h5
        go_wp2_with fail
        refine (node_yes _ _ H1.out _).mono ?_
        rintro e w1 ⟨rfl, rfl⟩
        go_wp2_with fail
        refine (node_yes _ _ H2.out _).mono ?_
        rintro e w1 ⟨rfl, rfl⟩
        go_wp2_with fail
        go_roundg g2
        case measure => omega
        case rel => exact ⟨k + 1, by have := HK.out; omega, by go_num, HT, HB1⟩
    | zero =>
      have hge : ¬ (k : Int) < (n : Int) := by omega
      have HF : Hid (zs.all (rightE nodes) = true) := by
        show _ = _
        rw [List.all_eq_true]
        have := ht.out
        rwa [List.take_of_length_le (by rw [HL.out]; omega)] at this
      have HK := Lib.hid hk
      clear hk
      go_wp2_with fail
      go_ret
      exact ⟨by rw [HF.out]; rfl, bk.out⟩
end Go.Proofs.Ytaigpdpcliecpaa
namespace Go.Proofs.Ytaigpdpcliecpaa
open Go.RowKit

def checkG (nodes : Int) (l : List Ed) : Int := if rightG nodes l = true then 0 else 150
theorem check_yes {nodes : Int} {l : List Ed} (h : rightG nodes l = true) : checkG nodes l = 0 := by unfold checkG; rw [if_pos h]
theorem check_no {nodes : Int} {l : List Ed} (h : rightG nodes l = false) : checkG nodes l = 150 := by unfold checkG; rw [if_neg (by rw [h]; decide)]

set_option maxRecDepth 100000 in
set_option maxHeartbeats 4000000 in
theorem check_any (nodes : Int) (A : Option Addr) (n c : Nat) (zs : List Ed) (hn : n ≤ 1000) (w : World) (hR : Reads w w.heap.size 3 A n (cellsE zs)) :
    Calls Try.prog 22 #[.agg #[.int .i64 nodes, .slice A n c]] w fun e w' => e = .returned (.int .i64 (checkG nodes zs)) ∧ Below w.heap.size w w' := by
  obtain ⟨bx, b0⟩ := box_new w #[.int .i64 nodes, .slice A n c] 24
  have HL := Lib.hid (reads_len hR)
  have HR := Lib.hid fun W (h : Below w.heap.size w W) => (hR.below h)
  have hsz := b0.size
  have BX := Lib.hid bx
  have B0 := Lib.hid b0
  clear hR bx b0
  go_enter Try.func22, Try.ntmps22
  go_wp2_with fail
  refine (may_any nodes _).mono ?_
  rintro e w1 ⟨rfl, rfl⟩
  generalize w.alloc (.cells #[.int .i64 nodes, .slice A n c] 24) = W0 at *
  have z0 : W0.cell? ⟨w.heap.size, 0, none⟩ = some (.int .i64 nodes) := BX.out.cell 0
  have z1 : W0.cell? ⟨w.heap.size, 1, none⟩ = some (.slice A n c) := BX.out.cell 1
  cases hm : mayN nodes
  · have HE := Lib.hid (check_no (rg_may (l := zs) hm))
    clear hm
    go_wp2_with fail
    go_ret
    exact ⟨by rw [HE.out]; rfl, B0.out⟩
  · have HM := Lib.hid hm
    have h40 : ¬ (n : Int) > 40000 := by omega
    have HBT := Lib.hid (between_any nodes A n c zs (by omega) W0 ((HR.out W0 B0.out).more hsz))
    clear hm
    go_wp2_with fail
    refine HBT.out.mono ?_
    rintro e w1 ⟨rfl, b⟩
    have BX1 := Lib.hid (BX.out.below b BX.out.lt)
    have B1 : Hid (Below w.heap.size w w1) := B0.out.trans (b.mono hsz)
    clear b z0 z1 BX B0 HBT
    have z0 : w1.cell? ⟨w.heap.size, 0, none⟩ = some (.int .i64 nodes) := BX1.out.cell 0
    have z1 : w1.cell? ⟨w.heap.size, 1, none⟩ = some (.slice A n c) := BX1.out.cell 1
    cases ha : zs.all (rightE nodes)
    · have HE : Hid (checkG nodes zs = 150) := by
        rw [List.all_eq_false] at ha
        obtain ⟨x, hx, h⟩ := ha
        exact check_no (rg_edge hx (by simpa using h))
      clear ha
      go_wp2_with fail
      go_ret
      exact ⟨by rw [HE.out]; rfl, B1.out⟩
    · have HA := Lib.hid (List.all_eq_true.1 ha)
      have HOK : Hid (∀ p ∈ zs, okE p) := fun p hp => rightE_ok HM.out (HA.out p hp)
      clear ha
      have hsz1 : w.heap.size + 1 ≤ w1.heap.size := by have := BX1.out.lt; omega
      go_wp2_with fail
      clear z0 z1
      go_loopg [3] n (fun gg s3 wr => ∃ (k : Nat) (z : Int), n ≤ k + 1 + gg ∧ k ≤ n ∧ z = (k : Int) + 1 ∧ s3 = .int .i64 z ∧ Hid (∀ j x y, j < k → zs[j]? = some x → zs[j + 1]? = some y → plE x < plE y) ∧ Hid (Below w.heap.size w wr) ∧ Hid (Blk wr w.heap.size 24 #[.int .i64 nodes, .slice A n c]))
      case atStart => exact ⟨0, 1, by omega, by omega, rfl, rfl, fun j x y h => by omega, B1, BX1⟩
      case round =>
        clear B1 BX1 hsz1
        obtain ⟨k, z, hk, hkn, hz, rfl, HO, HB, HX⟩ := hrel
        have z0 : wr.cell? ⟨w.heap.size, 0, none⟩ = some (.int .i64 nodes) := HX.out.cell 0
        have z1 : wr.cell? ⟨w.heap.size, 1, none⟩ = some (.slice A n c) := HX.out.cell 1
        by_cases hlt : k + 1 < n
        · have hltI : z < (n : Int) := by omega
          obtain ⟨p, hp⟩ : ∃ p, zs[k]? = some p := ⟨zs[k]'(by rw [HL.out]; omega), List.getElem?_eq_getElem _⟩
          obtain ⟨q, hq⟩ : ∃ q, zs[k + 1]? = some q := ⟨zs[k + 1]'(by rw [HL.out]; omega), List.getElem?_eq_getElem _⟩
          obtain ⟨b, o, hA1, hb, g0, g1, g2⟩ := ed_at (HR.out _ HB.out) hp
          obtain ⟨b2, o2, hA2, hb2, x0, x1, x2⟩ := ed_at (HR.out _ HB.out) hq
          subst hA1
          injection hA2 with hA2
          injection hA2 with e1 e2 _
          subst e1; subst e2
          have HP := Lib.hid fun W => place_any p (HOK.out p (List.mem_of_getElem? hp)) W
          have HQ := Lib.hid fun W => place_any q (HOK.out q (List.mem_of_getElem? hq)) W
          have HPX := Lib.hid hp
          have HQX := Lib.hid hq
          have HK := Lib.hid (And.intro hk hkn)
          have hXb : w.heap.size < wr.heap.size := HX.out.lt
          have hbl : b < wr.heap.size := by have := HB.out.size; omega
          have J0 : Hid (Below wr.heap.size wr wr.drew) := (Below.refl _ _).drew
          have HSS : Hid (∀ W, Below wr.heap.size wr W → W.cell? ⟨w.heap.size, 0, none⟩ = some (.int .i64 nodes) ∧ W.cell? ⟨w.heap.size, 1, none⟩ = some (.slice (some ⟨b, o, none⟩) n c) ∧
              W.cell? ⟨b, o + k * 3, none⟩ = some (.int .i64 p.1) ∧ W.cell? ⟨b, o + k * 3 + 1, none⟩ = some (.int .i64 p.2.1) ∧ W.cell? ⟨b, o + k * 3 + 2, none⟩ = some (.int .i64 p.2.2) ∧
              W.cell? ⟨b, o + (k + 1) * 3, none⟩ = some (.int .i64 q.1) ∧ W.cell? ⟨b, o + (k + 1) * 3 + 1, none⟩ = some (.int .i64 q.2.1) ∧ W.cell? ⟨b, o + (k + 1) * 3 + 2, none⟩ = some (.int .i64 q.2.2)) :=
            fun W h => ⟨(h.cell (p := ⟨w.heap.size, 0, none⟩) hXb).trans z0, (h.cell (p := ⟨w.heap.size, 1, none⟩) hXb).trans z1, (h.cell (p := ⟨b, _, none⟩) hbl).trans g0, (h.cell (p := ⟨b, _, none⟩) hbl).trans g1, (h.cell (p := ⟨b, _, none⟩) hbl).trans g2, (h.cell (p := ⟨b, _, none⟩) hbl).trans x0, (h.cell (p := ⟨b, _, none⟩) hbl).trans x1, (h.cell (p := ⟨b, _, none⟩) hbl).trans x2⟩
          have hs1 : IntKind.i64.wrap (z - 1) = (k : Int) := by rw [IntKind.wrap_i64]; omega
          have hi0 : (0 : Int) ≤ (k : Int) := by omega
          have hi1 : (k : Int) < (n : Int) := by omega
          have hi2 : (0 : Int) ≤ z := by omega
          have hs2 : IntKind.i64.wrap (z + 1) = z + 1 := by rw [IntKind.wrap_i64]; omega
          have ht1 : z.toNat = k + 1 := by omega
          have HZ := Lib.hid hz
          clear hp hq hk hkn hz
          go_wp2_with fail
          clear z0 z1 g0 g1 g2 x0 x1 x2
          go_region_held3 (fun W => W.cell? ⟨w.heap.size, 0, none⟩ = some (.int .i64 nodes) ∧ W.cell? ⟨w.heap.size, 1, none⟩ = some (.slice (some ⟨b, o, none⟩) n c) ∧
              W.cell? ⟨b, o + k * 3, none⟩ = some (.int .i64 p.1) ∧ W.cell? ⟨b, o + k * 3 + 1, none⟩ = some (.int .i64 p.2.1) ∧ W.cell? ⟨b, o + k * 3 + 2, none⟩ = some (.int .i64 p.2.2) ∧
              W.cell? ⟨b, o + (k + 1) * 3, none⟩ = some (.int .i64 q.1) ∧ W.cell? ⟨b, o + (k + 1) * 3 + 1, none⟩ = some (.int .i64 q.2.1) ∧ W.cell? ⟨b, o + (k + 1) * 3 + 2, none⟩ = some (.int .i64 q.2.2)) (first | exact HSS.out _ J2.out | exact HSS.out _ J1.out | exact HSS.out _ J0.out | fail) (first
            | (have _t := J1; go_at_call 41; refine (HQ.out v1).mono ?_; rintro e v2 ⟨rfl, b⟩; have J2 : Hid (Below wr.heap.size wr v2) := J1.out.trans (b.mono J1.out.size); clear b)
            | (go_at_call 41; refine (HP.out wr.drew).mono ?_; rintro e v1 ⟨rfl, b⟩; have J1 : Hid (Below wr.heap.size wr v1) := J0.out.trans (b.mono J0.out.size); clear b)
            | fail)
          have HB2 : Hid (Below w.heap.size w v2) := HB.out.trans (J2.out.mono HB.out.size)
          have HX2 : Hid (Blk v2 w.heap.size 24 #[.int .i64 nodes, .slice (some ⟨b, o, none⟩) n c]) := HX.out.below J2.out hXb
          clear J0 J1 J2 HSS HB HX HP HQ
          clear hs1 hi0 hi1 ht1
          by_cases hpq : plE p < plE q
          · have hge : ¬ plE p ≥ plE q := by omega
            have HPQ := Lib.hid hpq
            clear hpq
            generalize hxp : plE p = xp at *
            generalize hxq : plE q = xq at *
            have HX1 := Lib.hid (And.intro hxp hxq)
            clear hxp hxq
            go_wp2_with fail
            go_roundg (gk - 1)
            case measure => have := HK.out; omega
            case rel =>
              refine ⟨k + 1, z + 1, by have := HK.out; omega, by omega, by have := HZ.out; omega, rfl, fun j x y hj hx hy => ?_, HB2, HX2⟩
              rcases Nat.lt_or_ge j k with h | h
              · exact HO.out j x y h hx hy
              · obtain rfl : j = k := by omega
                rw [HPX.out] at hx
                rw [HQX.out] at hy
                injection hx with hx
                injection hy with hy
                subst hx; subst hy
                rw [HX1.out.1, HX1.out.2]; exact HPQ.out
          · have hge : plE p ≥ plE q := by omega
            have HE := Lib.hid (check_no (rg_place (nodes := nodes) HPX.out HQX.out hge))
            clear hpq
            generalize plE p = xp at *
            generalize plE q = xq at *
            go_wp2_with fail
            go_ret
            exact ⟨by rw [HE.out]; rfl, HB2.out⟩
        · have hge : ¬ z < (n : Int) := by omega
          have HE : Hid (checkG nodes zs = 0) := check_yes (rg_places HM.out HA.out fun j x y hx hy => HO.out j x y (by
            have := (List.getElem?_eq_some_iff.1 hy).1
            have := HL.out
            omega) hx hy)
          clear hlt hz
          go_wp2_with fail
          go_ret
          exact ⟨by rw [HE.out]; rfl, HB.out⟩
end Go.Proofs.Ytaigpdpcliecpaa
namespace Go.Proofs.Ytaigpdpcliecpaa
open Go.RowKit

def askE (nodes : Int) (l : List Ed) (vs : List Int) : Int := if rightG nodes l = true then (if vs.all (nodeB nodes) = true then 0 else 2) else 150
theorem ask_graph {nodes : Int} {l : List Ed} {vs : List Int} (h : rightG nodes l = false) : askE nodes l vs = 150 := by unfold askE; rw [if_neg (by rw [h]; decide)]
theorem ask_arg {nodes : Int} {l : List Ed} {vs : List Int} (h : rightG nodes l = true) (hv : vs.all (nodeB nodes) = false) : askE nodes l vs = 2 := by unfold askE; rw [if_pos h, if_neg (by rw [hv]; decide)]
theorem ask_ok {nodes : Int} {l : List Ed} {vs : List Int} (h : rightG nodes l = true) (hv : vs.all (nodeB nodes) = true) : askE nodes l vs = 0 := by unfold askE; rw [if_pos h, if_pos hv]

theorem int_at {w : World} {B n k : Nat} {A : Option Addr} {v : Int} {vs : List Int} (h : Reads w B 1 A n (ints vs)) (hv : vs[k]? = some v) :
    ∃ b o, A = some ⟨b, o, none⟩ ∧ b < B ∧ w.cell? ⟨b, o + k, none⟩ = some (.int .i64 v) := by
  have hk := (List.getElem?_eq_some_iff.1 hv).1
  have hl := h.1
  rw [ints_length] at hl
  obtain ⟨b, o, hA, hb, hc⟩ := reads_plain h (by omega)
  exact ⟨b, o, hA, hb, hc k _ (by unfold ints; rw [List.getElem?_map, hv]; rfl)⟩
theorem ints_len {w : World} {B n : Nat} {A : Option Addr} {vs : List Int} (h : Reads w B 1 A n (ints vs)) : vs.length = n := by
  have := h.1; rw [ints_length] at this; omega

set_option maxRecDepth 100000 in
set_option maxHeartbeats 4000000 in
theorem asked_any (nodes : Int) (A A2 : Option Addr) (n c m c2 : Nat) (zs : List Ed) (vs : List Int) (hn : n ≤ 1000) (hm : m ≤ 1000) (w : World) (hR : Reads w w.heap.size 3 A n (cellsE zs)) (hV : Reads w w.heap.size 1 A2 m (ints vs)) :
    Calls Try.prog 42 #[.agg #[.int .i64 nodes, .slice A n c], .slice A2 m c2] w fun e w' => e = .returned (.int .i64 (askE nodes zs vs)) ∧ Below w.heap.size w w' := by
  obtain ⟨bx, b0⟩ := box_new w #[.int .i64 nodes, .slice A n c] 24
  have HLV := Lib.hid (ints_len hV)
  have HV := Lib.hid fun W (h : Below w.heap.size w W) => (hV.below h)
  have HC := Lib.hid (check_any nodes A n c zs hn _ ((hR.below b0).more b0.size))
  have BX := Lib.hid bx
  have B0 := Lib.hid b0
  have z0 := bx.cell 0
  have z1 := bx.cell 1
  clear hR hV bx b0
  cases hr : rightG nodes zs
  · have HE := Lib.hid (ask_graph (vs := vs) hr)
    rw [check_no hr] at HC
    clear hr
    go_enter Try.func42, Try.ntmps42
    go_wp2_with fail
    refine HC.out.mono ?_
    rintro e w1 ⟨rfl, b⟩
    have B1 : Hid (Below w.heap.size w w1) := B0.out.trans (b.mono B0.out.size)
    clear b z0 z1
    go_wp2_with fail
    go_ret
    exact ⟨by rw [HE.out]; rfl, B1.out⟩
  · have HRG := Lib.hid hr
    rw [check_yes hr] at HC
    clear hr
    go_enter Try.func42, Try.ntmps42
    go_wp2_with fail
    refine HC.out.mono ?_
    rintro e w1 ⟨rfl, b⟩
    have B1 : Hid (Below w.heap.size w w1) := B0.out.trans (b.mono B0.out.size)
    have BX1 := Lib.hid (BX.out.below b BX.out.lt)
    clear b z0 z1 B0 BX HC
    have z0 : w1.cell? ⟨w.heap.size, 0, none⟩ = some (.int .i64 nodes) := BX1.out.cell 0
    have z1 : w1.cell? ⟨w.heap.size, 1, none⟩ = some (.slice A n c) := BX1.out.cell 1
    go_wp2_with fail
    go_loopg [15] m (fun gg i wr => ∃ k : Nat, k + gg = m ∧ i = .int .i64 k ∧ wr = w1 ∧ Hid (∀ v ∈ vs.take k, nodeB nodes v = true))
    case atStart => exact ⟨0, by omega, rfl, rfl, fun _ h => by simp at h⟩
    case round =>
      obtain ⟨k, hk, rfl, rfl, ht⟩ := hrel
      cases gk with
      | succ g2 =>
        have hlt : (k : Int) < (m : Int) := by omega
        obtain ⟨v, hv⟩ : ∃ v, vs[k]? = some v := ⟨vs[k]'(by rw [HLV.out]; omega), List.getElem?_eq_getElem _⟩
        obtain ⟨b, o, rfl, hb, g0⟩ := int_at (HV.out _ B1.out) hv
        have HK := Lib.hid hk
        cases hnv : nodeB nodes v
        · have HE : Hid (askE nodes zs vs = 2) := ask_arg HRG.out (by rw [List.all_eq_false]; exact ⟨v, List.mem_of_getElem? hv, by rw [hnv]; decide⟩)
          have HN := Lib.hid fun W => node_any v nodes W
          rw [hnv] at HN
          clear hv hk hnv
          go_wp2_with fail
          refine (HN.out _).mono ?_
          rintro e w2 ⟨rfl, rfl⟩
          go_wp2_with fail
          go_ret
          exact ⟨by rw [HE.out]; rfl, B1.out⟩
        · have HN := Lib.hid fun W => node_any v nodes W
          rw [hnv] at HN
          have HT : Hid (∀ v ∈ vs.take (k + 1), nodeB nodes v = true) := by
            intro x hx
            rw [List.take_add_one, hv] at hx
            rcases List.mem_append.1 hx with hx | hx
            · exact ht.out x hx
            · simp at hx; subst hx; exact hnv
          clear hv hk hnv
          go_wp2_with fail
          refine (HN.out _).mono ?_
          rintro e w2 ⟨rfl, rfl⟩
          go_wp2_with fail
          go_roundg g2
          case measure => omega
          case rel => exact ⟨k + 1, by have := HK.out; omega, by go_num, rfl, HT⟩
      | zero =>
        have hge : ¬ (k : Int) < (m : Int) := by omega
        have HE : Hid (askE nodes zs vs = 0) := ask_ok HRG.out (by
          rw [List.all_eq_true]
          have := ht.out
          rwa [List.take_of_length_le (by rw [HLV.out]; omega)] at this)
        clear hk
        go_wp2_with fail
        go_ret
        exact ⟨by rw [HE.out]; rfl, B1.out⟩

set_option maxHeartbeats 1000000 in
theorem start1_any (p : Ed) (hp : okE p) (v : Int) (hv : 0 ≤ v ∧ v ≤ 1000) (B : Nat) (W : World) (hB : B < W.heap.size) (hc : W.cell? ⟨B, 0, none⟩ = some (.int .i64 v)) :
    Calls Try.prog 75 #[.agg #[.int .i64 p.1, .int .i64 p.2.1, .int .i64 p.2.2], .pointer (some ⟨B, 0, none⟩)] W fun e W' => e = .returned (.int .i64 (p.1 - v)) ∧ Below W.heap.size W W' := by
  have hc2 : (W.alloc (.cells #[.int .i64 p.1, .int .i64 p.2.1, .int .i64 p.2.2] 50)).cell? ⟨B, 0, none⟩ = some (.int .i64 v) := (World.cell?_alloc_lt W _ ⟨B, 0, none⟩ hB).trans hc
  have hw : IntKind.i64.wrap (p.1 - v) = p.1 - v := by rw [IntKind.wrap_i64]; unfold okE at hp; omega
  go_enter Try.func75, Try.ntmps75
  go_wp2_with fail
  go_ret
  exact ⟨rfl, (Below.refl _ _).alloc (Nat.le_refl _) _⟩

/-- Edges as they stand in a graph that may be. -/
structure InRow (l : List Ed) : Prop where
  ok : ∀ p ∈ l, okE p
  ord : l.Pairwise fun x y => x.1 ≤ y.1
theorem IsG.row {nodes : Int} {l : List Ed} (h : IsG nodes l) : InRow l := ⟨h.ok, from_le h.ok h.up⟩

set_option maxRecDepth 100000 in
set_option maxHeartbeats 4000000 in
theorem start_any (A : Option Addr) (n c : Nat) (zs : List Ed) (v : Int) (hv : 0 ≤ v ∧ v ≤ 1000) (hz : InRow zs) (hn : n ≤ 1000) (w : World) (hR : Reads w w.heap.size 3 A n (cellsE zs)) :
    Calls Try.prog 67 #[.slice A n c, .int .i64 v] w fun e w' => e = .returned (.int .i64 (startE zs v : Int)) ∧ Below w.heap.size w w' := by
  obtain ⟨bx, b0⟩ := box_new w #[.int .i64 v] 3
  have hl := reads_len hR
  have hj : startE zs v ≤ n := by have := start_le zs v; omega
  have HF := Lib.hid (find_start (.pointer (some ⟨w.heap.size, 0, none⟩)) A n c (startE zs v) zs (fun p => p.1 - v) (match zs[startE zs v]? with | some p => (p.1 - v == 0) | none => false) (by omega) _ ((hR.below b0).more b0.size) hj
    (fun i p hp hi => start_lo hz.ord v hp hi) (fun i p hp hi => start_hi hz.ord v hp hi) (fun _ p hp => by rw [hp]) (fun h => by rw [List.getElem?_eq_none (by omega)])
    (fun p hp W hW => start1_any p (hz.ok p hp) v hv w.heap.size W (Nat.lt_of_lt_of_le bx.lt hW.size) ((bx.below hW bx.lt).cell 0)))
  have B0 := Lib.hid b0
  clear hR bx b0
  generalize (match zs[startE zs v]? with | some p => (p.1 - v == 0) | none => false) = bb at *
  go_enter Try.func67, Try.ntmps67
  go_wp2_with fail
  refine HF.out.mono ?_
  rintro e w1 ⟨rfl, b⟩
  have B1 : Hid (Below w.heap.size w w1) := B0.out.trans (b.mono B0.out.size)
  clear b
  go_wp2_with fail
  go_ret
  exact ⟨rfl, B1.out⟩

theorem reads_part {w : World} {B n l h : Nat} {A : Option Addr} {xs : List Value} (hR : Reads w B 3 A n xs) (hl : l ≤ h) (hh : h ≤ n) : Reads w B 3 (if h = l then A else A.map (·.add (l * 3))) (h - l) ((xs.drop (l * 3)).take ((h - l) * 3)) := by
  by_cases e : h = l
  · subst e
    rw [if_pos rfl, Nat.sub_self]
    exact ⟨by simp, fun h => absurd h (by omega)⟩
  · rw [if_neg e]
    have := (hR.cut (k := l) (cap := n + 1) (by omega) (by omega))
    rw [if_neg (by omega)] at this
    exact reads_take this (by omega)

/-- What is cut out of a row: the edges from a node. -/
def CutAt (zs : List Ed) (v : Int) (A : Option Addr) : Option Addr := if startE zs (v + 1) = startE zs v then A else A.map (·.add (startE zs v * 3))
theorem cut_reads {w : World} {B n : Nat} {A : Option Addr} {zs : List Ed} (v : Int) (hz : InRow zs) (h : Reads w B 3 A n (cellsE zs)) : Reads w B 3 (CutAt zs v A) (startE zs (v + 1) - startE zs v) (cellsE (outE zs v)) := by
  have hl := reads_len h
  have h1 := start_mono zs (u := v) (v := v + 1) (by omega)
  have h2 := start_le zs (v + 1)
  have := reads_part h h1 (by omega)
  rw [← cellsE_drop, ← cellsE_take, out_cut hz.ord] at this
  exact this

theorem Own.row {B h n : Nat} {xs : List Ed} {w : World} (o : Own B h n xs w) (hn : n ≤ 1000000) : w.ownsRow B 50 3 (.slice (some ⟨h, 0, none⟩) n n) n (cellsE xs) := by
  refine ⟨by rw [cellsE_length, o.2.1], .inr ⟨h, n, _, rfl, o.1, o.2.2, Nat.le_refl _, by unfold maxLen; omega, by rw [List.size_toArray, cellsE_length, o.2.1], ?_⟩⟩
  rw [List.take_of_length_le (by rw [cellsE_length, o.2.1]; exact Nat.le_refl _)]

end Go.Proofs.Ytaigpdpcliecpaa
namespace Go.Proofs.Ytaigpdpcliecpaa
open Go.RowKit

theorem store2 {W : World} {X : Nat} {t : TypeId} {a b : Value} (h : Blk W X t #[a, b]) (u v : Value) : Blk ((W.setCell ⟨X, 0, none⟩ u).setCell ⟨X, 1, none⟩ v) X t #[u, v] := by
  have := (h.set_ 0 u).set_ 1 v
  simpa using this
theorem own_store {W : World} {base X k : Nat} {t e : TypeId} {size n : Nat} {v : Value} {xs : List Value} {cs : Array Value} (h : W.ownsRow base e size v n xs) (hb : Blk W X t cs) (hte : t ≠ e) (u : Value) : (W.setCell ⟨X, k, none⟩ u).ownsRow base e size v n xs := by
  refine h.kept (row := some X) (setCell_only (p := ⟨X, k, none⟩) (World.grownBy.refl W _) (.inl rfl) u) ?_
  rcases h.2 with ⟨rfl, _⟩ | ⟨g, cap, cur, rfl, _, hg, _⟩
  · exact .inl rfl
  · refine .inr fun e' => ?_
    have e2 : g = X := by simpa [Value.ownBlock] using e'
    subst e2
    unfold Blk at hb
    rw [hb] at hg
    injection hg with hg
    injection hg with _ h2
    exact hte h2
theorem own_store2 {W : World} {base X : Nat} {t e : TypeId} {size n : Nat} {v : Value} {xs : List Value} {a b : Value} (h : W.ownsRow base e size v n xs) (hb : Blk W X t #[a, b]) (hte : t ≠ e) (u u' : Value) : ((W.setCell ⟨X, 0, none⟩ u).setCell ⟨X, 1, none⟩ u').ownsRow base e size v n xs :=
  own_store (own_store h hb hte u) (hb.set_ 0 u) hte u'
theorem below_store2 {B : Nat} {w W : World} {X : Nat} (h : Below B w W) (hX : B ≤ X) (u v : Value) : Below B w ((W.setCell ⟨X, 0, none⟩ u).setCell ⟨X, 1, none⟩ v) :=
  (h.setCell (p := ⟨X, 0, none⟩) hX u).setCell (p := ⟨X, 1, none⟩) hX v

/-- A graph, and an error. -/
def GErr (nodes : Int) (ps : List Ed) (k : Int) (w : World) (e : Ending) (w' : World) : Prop :=
  ∃ (A : Option Addr) (c : Nat), e = .returned (.tuple #[.agg #[.int .i64 nodes, .slice A ps.length c], .int .i64 k]) ∧ w'.ownsRow w.heap.size 50 3 (.slice A ps.length c) ps.length (cellsE ps) ∧ ps.length ≤ c ∧ c ≤ 9223372036854775807 ∧ Below w.heap.size w w'
/-- A graph. -/
def GIs (nodes : Int) (ps : List Ed) (w : World) (e : Ending) (w' : World) : Prop :=
  ∃ (A : Option Addr) (c : Nat), e = .returned (.agg #[.int .i64 nodes, .slice A ps.length c]) ∧ w'.ownsRow w.heap.size 50 3 (.slice A ps.length c) ps.length (cellsE ps) ∧ ps.length ≤ c ∧ c ≤ 9223372036854775807 ∧ Below w.heap.size w w'
/-- Edges, and an error. -/
def RErr (ps : List Ed) (k : Int) (w : World) (e : Ending) (w' : World) : Prop :=
  ∃ (A : Option Addr) (c : Nat), e = .returned (.tuple #[.slice A ps.length c, .int .i64 k]) ∧ w'.ownsRow w.heap.size 50 3 (.slice A ps.length c) ps.length (cellsE ps) ∧ ps.length ≤ c ∧ c ≤ 9223372036854775807 ∧ Below w.heap.size w w'
theorem rows_row {ps : List Ed} {w w' : World} {e : Ending} (h : RowIs ps w e w') : ∃ (A : Option Addr) (c : Nat), e = .returned (.slice A ps.length c) ∧ w'.ownsRow w.heap.size 50 3 (.slice A ps.length c) ps.length (cellsE ps) ∧ ps.length ≤ c ∧ c ≤ 9223372036854775807 ∧ Below w.heap.size w w' := h
theorem reads_own {w : World} {A : Option Addr} {n c : Nat} {ps : List Ed} {base : Nat} (h : w.ownsRow base 50 3 (.slice A n c) n (cellsE ps)) : Reads w w.heap.size 3 A n (cellsE ps) := Reads.of_own h
theorem own_nil {w : World} {A : Option Addr} {n c : Nat} {xs : List Value} {base : Nat} {e : TypeId} {size : Nat} (h : w.ownsRow base e size (.slice A n c) n xs) : A = none → c = 0 := by
  rintro rfl
  rcases h.2 with ⟨hv, _⟩ | ⟨g, cap, cur, hv, _⟩
  · injection hv
  · injection hv with h1
    cases h1

set_option maxHeartbeats 1000000 in
theorem sorted_any (A : Option Addr) (n c : Nat) (zs : List Ed) (hok : ∀ p ∈ zs, okE p) (hn : n ≤ 1000) (w : World) (hR : Reads w w.heap.size 3 A n (cellsE zs)) :
    Calls Try.prog 51 #[.slice A n c] w (RowIs (sorE zs) w) := by
  have hl := reads_len hR
  have HS := Lib.hid (sort_any A n c zs hok (by omega) w hR)
  have HL := Lib.hid hl
  clear hR hl hok
  go_enter Try.func51, Try.ntmps51
  go_wp2_with fail
  refine HS.out.mono ?_
  rintro e w1 ⟨h, rfl, o, b⟩
  have HU := Lib.hid (uniq_any (some ⟨h, 0, none⟩) n n (srt ltE zs) (by omega) w1 o.reads)
  have B1 := Lib.hid b
  clear b o
  go_wp2_with fail
  refine HU.out.mono ?_
  rintro e w2 hx
  obtain ⟨A2, c2, rfl, h1, h2, h3, h4⟩ := rows_row hx
  have HF := Lib.hid (And.intro h1 (And.intro h2 (And.intro h3 h4)))
  clear h1 h2 h3 h4 hx HU
  go_wp2_with fail
  go_ret
  unfold RowIs sorE
  rw [HL.out]
  exact ⟨A2, c2, rfl, own_base HF.out.1 B1.out.size, HF.out.2.1, HF.out.2.2.1, B1.out.trans (HF.out.2.2.2.mono B1.out.size)⟩

theorem two_boxes (w : World) (a b : Array Value) (t0 t1 : TypeId) : ((w.alloc (.cells a t0)).alloc (.cells b t1)).heap.size = w.heap.size + 2 := by simp

set_option maxRecDepth 100000 in
set_option maxHeartbeats 2000000 in
theorem rsame_any (x y : Int) (A A2 : Option Addr) (n c m c2 : Nat) (zs ys : List Ed) (hn : n ≤ 1000) (w : World) (hR : Reads w w.heap.size 3 A n (cellsE zs)) (hR2 : Reads w w.heap.size 3 A2 m (cellsE ys)) :
    Calls Try.prog 16 #[.agg #[.int .i64 x, .slice A n c], .agg #[.int .i64 y, .slice A2 m c2]] w fun e w' => e = .returned (.bool (decide (x = y ∧ zs = ys))) ∧ Below w.heap.size w w' := by
  obtain ⟨k0, k1, b0⟩ := two_new w #[.int .i64 x, .slice A n c] #[.int .i64 y, .slice A2 m c2] 24 24
  have HQ := Lib.hid (rsameE_any A A2 n m c c2 zs ys (by omega) _ ((hR.below b0).more b0.size) ((hR2.below b0).more b0.size))
  have z0 := k0.cell 0
  have z1 := k0.cell 1
  have z2 := k1.cell 0
  have z3 := k1.cell 1
  have B0 := Lib.hid b0
  clear hR hR2 k0 k1 b0
  by_cases hxy : x = y
  · subst hxy
    have HD : Hid (decide (x = x ∧ zs = ys) = decide (zs = ys)) := by show _ = _; simp
    go_enter Try.func16, Try.ntmps16
    go_wp2_with fail
    refine HQ.out.mono ?_
    rintro e w1 ⟨rfl, b⟩
    have B1 : Hid (Below w.heap.size w w1) := B0.out.trans (b.mono B0.out.size)
    clear b z0 z1 z2 z3
    generalize decide (zs = ys) = bb at *
    go_wp2_with fail
    go_ret
    exact ⟨by rw [HD.out]; rfl, B1.out⟩
  · have hb : (x == y) = false := by simpa using hxy
    have HD : Hid (decide (x = y ∧ zs = ys) = false) := by show _ = _; simp [hxy]
    clear hxy
    go_enter Try.func16, Try.ntmps16
    go_wp2_with fail
    go_ret
    exact ⟨by rw [HD.out]; rfl, B0.out⟩

end Go.Proofs.Ytaigpdpcliecpaa
namespace Go.Proofs.Ytaigpdpcliecpaa
open Go.RowKit

/-- None is less than the one above it. -/
def HeapOk (xs : List Int) : Prop := ∀ i x y, 0 < i → xs[i]? = some x → xs[(i - 1) / 2]? = some y → y ≤ x
theorem HeapOk.nil : HeapOk [] := fun i x y _ h _ => by simp at h
theorem HeapOk.min {xs : List Int} (h : HeapOk xs) {x : Int} (hx : xs[0]? = some x) : ∀ (i : Nat) (y : Int), xs[i]? = some y → x ≤ y := by
  intro i
  induction i using Nat.strongRecOn with
  | _ i ih =>
    intro y hy
    rcases Nat.eq_zero_or_pos i with h0 | h0
    · subst h0
      rw [hx] at hy
      injection hy with hy
      omega
    · have hlt := (List.getElem?_eq_some_iff.1 hy).1
      obtain ⟨z, hz⟩ : ∃ z, xs[(i - 1) / 2]? = some z := ⟨_, List.getElem?_eq_getElem (by omega)⟩
      have h1 := ih ((i - 1) / 2) (by omega) z hz
      have h2 := h i y z h0 hy hz
      omega
theorem get_set_t {xs : List Int} {a i : Nat} {v : Int} (ha : a < xs.length) : (xs.set a v)[i]? = if i = a then some v else xs[i]? := by
  rw [List.getElem?_set]
  by_cases h : a = i
  · subst h
    simp [ha]
  · rw [if_neg h, if_neg (fun e => h e.symm)]
theorem swap_perm {xs : List Int} {a b : Nat} {x y : Int} (hx : xs[a]? = some x) (hy : xs[b]? = some y) : ((xs.set a y).set b x).Perm xs := by
  obtain ⟨ha, rfl⟩ := List.getElem?_eq_some_iff.1 hx
  obtain ⟨hb, rfl⟩ := List.getElem?_eq_some_iff.1 hy
  exact List.set_set_perm ha hb
/-- v rises: it is to stand at a. -/
structure Rise (base : List Int) (v : Int) (a : Nat) (xs : List Int) : Prop where
  lt : a < xs.length
  perm : (xs.set a v).Perm (base ++ [v])
  ok : ∀ i x y, 0 < i → i ≠ a → (xs.set a v)[i]? = some x → (xs.set a v)[(i - 1) / 2]? = some y → y ≤ x
  over : ∀ i x y, 0 < i → (i - 1) / 2 = a → 0 < a → (xs.set a v)[i]? = some x → (xs.set a v)[(a - 1) / 2]? = some y → y ≤ x
theorem Rise.start {base : List Int} (h : HeapOk base) (v : Int) : Rise base v base.length (base ++ [v]) := by
  have e : (base ++ [v]).set base.length v = base ++ [v] := by simp
  have hi : ∀ i x, i < base.length → (base ++ [v])[i]? = some x → base[i]? = some x := fun i x hi hx => by rwa [List.getElem?_append_left hi] at hx
  refine ⟨by simp, by rw [e], fun i x y h0 hne hx hy => ?_, fun i x y h0 hp _ hx _ => ?_⟩
  · rw [e] at hx hy
    have hlt := (List.getElem?_eq_some_iff.1 hx).1
    simp at hlt
    exact h i x y h0 (hi _ _ (by omega) hx) (hi _ _ (by omega) hy)
  · rw [e] at hx
    have hlt := (List.getElem?_eq_some_iff.1 hx).1
    simp at hlt
    omega
theorem Rise.next {base xs : List Int} {v y : Int} {a : Nat} (h : Rise base v a xs) (h0 : 0 < a) (hy : xs[(a - 1) / 2]? = some y) (hv : v < y) : Rise base v ((a - 1) / 2) (xs.set a y) := by
  have hlt := h.lt
  have hy' : (xs.set a v)[(a - 1) / 2]? = some y := by rw [get_set_t hlt, if_neg (by omega)]; exact hy
  have hv' : (xs.set a v)[a]? = some v := by rw [get_set_t hlt, if_pos rfl]
  have e : ((xs.set a v).set a y).set ((a - 1) / 2) v = (xs.set a y).set ((a - 1) / 2) v := by rw [List.set_set]
  have g : ∀ i, ((xs.set a y).set ((a - 1) / 2) v)[i]? = if i = (a - 1) / 2 then some v else if i = a then some y else (xs.set a v)[i]? := by
    intro i
    rw [get_set_t (by rw [List.length_set]; omega), get_set_t hlt]
    by_cases h1 : i = (a - 1) / 2
    · rw [if_pos h1, if_pos h1]
    · rw [if_neg h1, if_neg h1]
      by_cases h2 : i = a
      · rw [if_pos h2, if_pos h2]
      · rw [if_neg h2, if_neg h2, get_set_t hlt, if_neg h2]
  refine ⟨by rw [List.length_set]; omega, by rw [← e]; exact (swap_perm hv' hy').trans h.perm, fun i x z hi hne hx hz => ?_, fun i x z hi hp hp0 hx hz => ?_⟩
  · rw [g, if_neg hne] at hx
    rw [g] at hz
    by_cases h1 : i = a
    · subst h1
      rw [if_pos rfl] at hx
      rw [if_pos rfl] at hz
      injection hx with hx
      injection hz with hz
      omega
    · rw [if_neg h1] at hx
      by_cases h2 : (i - 1) / 2 = (a - 1) / 2
      · rw [if_pos h2] at hz
        injection hz with hz
        have := h.ok i x y hi h1 hx (by rw [h2]; exact hy')
        omega
      · rw [if_neg h2] at hz
        by_cases h3 : (i - 1) / 2 = a
        · rw [if_pos h3] at hz
          injection hz with hz
          have := h.over i x y hi h3 h0 hx hy'
          omega
        · rw [if_neg h3] at hz
          exact h.ok i x z hi h1 hx hz
  · rw [g, if_neg (by omega)] at hx
    rw [g, if_neg (by omega), if_neg (by omega)] at hz
    have h5 := h.ok ((a - 1) / 2) y z hp0 (by omega) hy' hz
    by_cases h1 : i = a
    · rw [if_pos h1] at hx
      injection hx with hx
      omega
    · rw [if_neg h1] at hx
      have := h.ok i x y hi h1 hx (by rw [hp]; exact hy')
      omega
theorem Rise.done {base xs : List Int} {v : Int} {a : Nat} (h : Rise base v a xs) (hd : a = 0 ∨ ∃ y, xs[(a - 1) / 2]? = some y ∧ y ≤ v) : HeapOk (xs.set a v) := by
  intro i x z hi hx hz
  by_cases h1 : i = a
  · subst h1
    rcases hd with hd | ⟨y, hy, hv⟩
    · omega
    · rw [get_set_t h.lt, if_pos rfl] at hx
      rw [get_set_t h.lt, if_neg (by omega), hy] at hz
      injection hx with hx
      injection hz with hz
      omega
  · exact h.ok i x z hi h1 hx hz

/-- One sinks: it stands at a. -/
structure Sink (xs : List Int) (a : Nat) : Prop where
  ok : ∀ i x y, 0 < i → (i - 1) / 2 ≠ a → xs[i]? = some x → xs[(i - 1) / 2]? = some y → y ≤ x
  over : ∀ i x y, 0 < i → (i - 1) / 2 = a → 0 < a → xs[i]? = some x → xs[(a - 1) / 2]? = some y → y ≤ x
/-- j is the least one of a and those below it, ahead of b. -/
structure LeastTo (xs : List Int) (a b j : Nat) : Prop where
  is_ : j = a ∨ (0 < j ∧ (j - 1) / 2 = a ∧ j < xs.length ∧ ∀ x y, xs[a]? = some x → xs[j]? = some y → y < x)
  all : ∀ i y z, 0 < i → i < b → (i - 1) / 2 = a → xs[j]? = some y → xs[i]? = some z → y ≤ z
theorem LeastTo.start (xs : List Int) (a : Nat) : LeastTo xs a (2 * a + 1) a := ⟨.inl rfl, fun i y z h0 h1 h2 => by omega⟩
theorem LeastTo.lt {xs : List Int} {a b j : Nat} (h : LeastTo xs a b j) (ha : a < xs.length) : j < xs.length := by
  rcases h.is_ with h | h
  · omega
  · exact h.2.2.1
theorem LeastTo.take_ {xs : List Int} {a b j : Nat} {x y : Int} (h : LeastTo xs a b j) (hb : b = 2 * a + 1 ∨ b = 2 * a + 2) (hx : xs[b]? = some x) (hy : xs[j]? = some y) (hl : x < y) : LeastTo xs a (b + 1) b := by
  have hlt := (List.getElem?_eq_some_iff.1 hx).1
  refine ⟨.inr ⟨by omega, by omega, hlt, fun u z hu hz => ?_⟩, fun i z u h0 h1 h2 hz hu => ?_⟩
  · rw [hx] at hz
    injection hz with hz
    rcases h.is_ with e | e
    · rw [e, hu] at hy
      injection hy with hy
      omega
    · have := e.2.2.2 u y hu hy
      omega
  · rw [hx] at hz
    injection hz with hz
    by_cases hi : i = b
    · subst hi
      rw [hx] at hu
      injection hu with hu
      omega
    · have := h.all i y u h0 (by omega) h2 hy hu
      omega
theorem LeastTo.skip {xs : List Int} {a b j : Nat} {x y : Int} (h : LeastTo xs a b j) (hx : xs[b]? = some x) (hy : xs[j]? = some y) (hl : ¬ x < y) : LeastTo xs a (b + 1) j :=
  ⟨h.is_, fun i z u h0 h1 h2 hz hu => by
    by_cases hi : i = b
    · subst hi
      rw [hx] at hu
      rw [hy] at hz
      injection hu with hu
      injection hz with hz
      omega
    · exact h.all i z u h0 (by omega) h2 hz hu⟩
theorem LeastTo.end_ {xs : List Int} {a b j : Nat} (h : LeastTo xs a b j) (hb : b = 2 * a + 3 ∨ xs.length ≤ b) : ∀ i y z, 0 < i → (i - 1) / 2 = a → xs[j]? = some y → xs[i]? = some z → y ≤ z := fun i y z h0 h2 hy hz => by
  have := (List.getElem?_eq_some_iff.1 hz).1
  exact h.all i y z h0 (by omega) h2 hy hz
/-- What least tells. -/
def LeastAt (xs : List Int) (a j : Nat) : Prop := ∃ b, LeastTo xs a b j ∧ (b = 2 * a + 3 ∨ xs.length ≤ b)
theorem Sink.done {xs : List Int} {a : Nat} (h : Sink xs a) (k : LeastAt xs a a) : HeapOk xs := by
  obtain ⟨b, k, hb⟩ := k
  intro i x y h0 hx hy
  by_cases h1 : (i - 1) / 2 = a
  · exact k.end_ hb i y x h0 h1 (by rw [← h1]; exact hy) hx
  · exact h.ok i x y h0 h1 hx hy
theorem Sink.next {xs : List Int} {a j : Nat} {x y : Int} (h : Sink xs a) (k : LeastAt xs a j) (hj : j ≠ a) (hx : xs[a]? = some x) (hy : xs[j]? = some y) : Sink ((xs.set a y).set j x) j := by
  obtain ⟨b, k, hb⟩ := k
  have hle := k.end_ hb
  rcases k.is_ with e | ⟨j0, jp, jl, jx⟩
  · exact absurd e hj
  have hxy := jx x y hx hy
  have ha := (List.getElem?_eq_some_iff.1 hx).1
  have g : ∀ i, ((xs.set a y).set j x)[i]? = if i = j then some x else if i = a then some y else xs[i]? := by
    intro i
    rw [get_set_t (by rw [List.length_set]; exact jl), get_set_t ha]
  refine ⟨fun i u z h0 h1 hu hz => ?_, fun i u z h0 h1 h2 hu hz => ?_⟩
  · rw [g] at hu hz
    rw [if_neg h1] at hz
    by_cases i1 : i = j
    · rw [if_pos i1] at hu
      subst i1
      rw [if_pos jp] at hz
      injection hu with hu
      injection hz with hz
      omega
    · rw [if_neg i1] at hu
      by_cases i2 : i = a
      · rw [if_pos i2] at hu
        injection hu with hu
        subst i2
        rw [if_neg (by omega)] at hz
        have := h.over j y z j0 jp h0 hy hz
        omega
      · rw [if_neg i2] at hu
        by_cases i3 : (i - 1) / 2 = a
        · rw [if_pos i3] at hz
          injection hz with hz
          have := hle i y u h0 i3 hy hu
          omega
        · rw [if_neg i3] at hz
          exact h.ok i u z h0 i3 hu hz
  · rw [g] at hu hz
    rw [if_neg (by omega), if_neg (by omega)] at hu
    rw [jp, if_neg (by omega), if_pos rfl] at hz
    injection hz with hz
    subst hz
    exact h.ok i u y h0 (by omega) hu (by rw [h1]; exact hy)
/-- What is left when the first one is taken, ahead of sinking. -/
def cutE (xs : List Int) : List Int := (xs.set 0 (xs.getD (xs.length - 1) 0)).take (xs.length - 1)
theorem cut_len (xs : List Int) : (cutE xs).length = xs.length - 1 := by
  unfold cutE
  rw [List.length_take, List.length_set]
  omega
theorem cut_get {xs : List Int} {i : Nat} {x : Int} (h0 : 0 < i) (h : (cutE xs)[i]? = some x) : xs[i]? = some x := by
  unfold cutE at h
  rw [List.getElem?_take] at h
  split at h
  · rw [List.getElem?_set_ne (by omega)] at h
    exact h
  · cases h
theorem cut_sink {xs : List Int} (h : HeapOk xs) : Sink (cutE xs) 0 :=
  ⟨fun i x y h0 h1 hx hy => h i x y h0 (cut_get h0 hx) (cut_get (by omega) hy), fun i x y _ _ h2 => absurd h2 (Nat.lt_irrefl 0)⟩
theorem cut_perm {xs : List Int} {x : Int} (hx : xs[0]? = some x) : xs.Perm (x :: cutE xs) := by
  match xs, hx with
  | a :: l, hx =>
    injection hx with hx
    subst hx
    refine List.Perm.cons a ?_
    unfold cutE
    rcases List.eq_nil_or_concat l with rfl | ⟨k, z, rfl⟩
    · simp
    · have e : (a :: (k.concat z)).getD ((a :: (k.concat z)).length - 1) 0 = z := by simp [List.getD_eq_getElem?_getD]
      rw [e]
      have e2 : ((a :: (k.concat z)).set 0 z).take ((a :: (k.concat z)).length - 1) = z :: k := by simp
      rw [e2]
      simp only [List.concat_eq_append]
      exact List.perm_append_comm
end Go.Proofs.Ytaigpdpcliecpaa
namespace Go.Proofs.Ytaigpdpcliecpaa
open Go.RowKit

/-- How many edges of a row lead to u. -/
def cntE (l : List Ed) (u : Int) : Nat := (l.filter fun p => decide (p.2.1 = u)).length
theorem cntE_append (a b : List Ed) (u : Int) : cntE (a ++ b) u = cntE a u + cntE b u := by simp [cntE]
theorem cntE_one (p : Ed) (u : Int) : cntE [p] u = if u = p.2.1 then 1 else 0 := by
  unfold cntE
  by_cases h : u = p.2.1
  · simp [h]
  · have : ¬ p.2.1 = u := fun e => h e.symm
    simp [h, this]
theorem cntE_prefix {a b : List Ed} (h : a <+: b) (u : Int) : cntE a u ≤ cntE b u := by
  obtain ⟨t, rfl⟩ := h
  rw [cntE_append]
  omega
theorem cntE_le (l : List Ed) (u : Int) : cntE l u ≤ l.length := List.length_filter_le _ _
theorem cntE_split (q r s : Ed → Bool) (h : ∀ p : Ed, (q p = true ↔ r p = true ∨ s p = true) ∧ ¬ (r p = true ∧ s p = true)) (u : Int) : ∀ zs : List Ed, cntE (zs.filter q) u = cntE (zs.filter r) u + cntE (zs.filter s) u
  | [] => rfl
  | p :: zs => by
    have ih := cntE_split q r s h u zs
    have hp := h p
    have hc : ∀ (t : Ed → Bool), cntE ((p :: zs).filter t) u = (if t p = true then cntE [p] u else 0) + cntE (zs.filter t) u := by
      intro t
      by_cases ht : t p = true
      · rw [List.filter_cons_of_pos ht, if_pos ht, ← cntE_append]
        rfl
      · rw [List.filter_cons_of_neg ht, if_neg ht, Nat.zero_add]
    rw [hc, hc, hc, ih]
    by_cases h1 : r p = true <;> by_cases h2 : s p = true
    · exact absurd ⟨h1, h2⟩ hp.2
    · rw [if_pos (hp.1.2 (.inl h1)), if_pos h1, if_neg h2]
      omega
    · rw [if_pos (hp.1.2 (.inr h2)), if_neg h1, if_pos h2]
      omega
    · rw [if_neg (fun e => (hp.1.1 e).elim h1 h2), if_neg h1, if_neg h2]
      omega
/-- The edges from the nodes below v. -/
def belE (zs : List Ed) (v : Int) : List Ed := zs.filter fun p => decide (p.1 < v)
theorem bel_next (zs : List Ed) (v u : Int) : cntE (belE zs (v + 1)) u = cntE (belE zs v) u + cntE (outE zs v) u :=
  cntE_split _ _ _ (fun p => by simp only [decide_eq_true_eq]; omega) u zs
theorem bel_all {zs : List Ed} {m : Nat} (hz : ∀ p ∈ zs, rightE (m : Int) p = true) : belE zs (m : Int) = zs := by
  unfold belE
  rw [List.filter_eq_self]
  intro p hp
  have := of_decide_eq_true (hz p hp)
  simp
  omega
theorem bel_none {zs : List Ed} {m : Nat} (hz : ∀ p ∈ zs, rightE (m : Int) p = true) : belE zs 0 = [] := by
  unfold belE
  rw [List.filter_eq_nil_iff]
  intro p hp
  have := of_decide_eq_true (hz p hp)
  simp
  omega
/-- The edges from nodes that are not taken. -/
def restE (zs : List Ed) (l : List Int) : List Ed := zs.filter fun p => decide (p.1 ∉ l)
theorem rest_nil (zs : List Ed) : restE zs [] = zs := by unfold restE; simp
theorem rest_next {l : List Int} {v : Int} (zs : List Ed) (hv : v ∉ l) (u : Int) : cntE (restE zs l) u = cntE (restE zs (l ++ [v])) u + cntE (outE zs v) u :=
  cntE_split _ _ _ (fun p => by
    simp only [decide_eq_true_eq, List.mem_append, List.mem_singleton]
    by_cases e : p.1 = v
    · subst e
      simp [hv]
    · simp [e]) u zs
theorem rest_free {zs : List Ed} {l : List Int} {u : Int} : cntE (restE zs l) u = 0 ↔ ∀ p ∈ zs, p.2.1 = u → p.1 ∈ l := by
  unfold cntE restE
  rw [List.length_eq_zero_iff, List.filter_eq_nil_iff]
  constructor
  · intro h p hp e
    by_cases hl : p.1 ∈ l
    · exact hl
    · exact absurd (decide_eq_true e) (h p (List.mem_filter.2 ⟨hp, decide_eq_true hl⟩))
  · intro h p hp
    obtain ⟨h1, h2⟩ := List.mem_filter.1 hp
    simp only [decide_eq_true_eq] at h2 ⊢
    exact fun e => h2 (h p h1 e)
/-- A row that says a number of each node. -/
def WtsIs (m : Nat) (f : Int → Nat) (ws : List Int) : Prop := ws.length = m ∧ ∀ u : Nat, u < m → ws[u]? = some ((f (u : Int) : Nat) : Int)
theorem WtsIs.set {m : Nat} {f g : Int → Nat} {ws : List Int} (h : WtsIs m f ws) {t : Nat} (ht : t < m) (hg : ∀ u : Nat, u < m → u ≠ t → g (u : Int) = f (u : Int)) : WtsIs m g (ws.set t ((g (t : Int) : Nat) : Int)) :=
  ⟨by rw [List.length_set]; exact h.1, fun u hu => by
    rw [get_set_t (by rw [h.1]; exact ht)]
    by_cases e : u = t
    · rw [if_pos e, e]
    · rw [if_neg e, hg u hu e]
      exact h.2 u hu⟩
theorem WtsIs.congr {m : Nat} {f g : Int → Nat} {ws : List Int} (h : WtsIs m f ws) (hg : ∀ u : Nat, u < m → g (u : Int) = f (u : Int)) : WtsIs m g ws := ⟨h.1, fun u hu => by rw [hg u hu]; exact h.2 u hu⟩
theorem WtsIs.zero (m : Nat) : WtsIs m (fun _ => 0) (List.replicate m 0) := ⟨List.length_replicate, fun u hu => by rw [List.getElem?_replicate, if_pos hu]; rfl⟩

/-- The heap has the nodes below k that are not taken, and to which no edge leads any more. -/
structure ReadyE (k : Nat) (ls : List Int) (f : Int → Nat) (xs : List Int) : Prop where
  once : xs.Nodup
  mem : ∀ u, u ∈ xs ↔ (0 ≤ u ∧ u < (k : Int)) ∧ u ∉ ls ∧ f u = 0
theorem ReadyE.start (ls : List Int) (f : Int → Nat) : ReadyE 0 ls f [] := ⟨List.nodup_nil, fun u => by simp; omega⟩
theorem ReadyE.perm {k : Nat} {ls : List Int} {f : Int → Nat} {xs ys : List Int} (h : ReadyE k ls f xs) (hp : ys.Perm xs) : ReadyE k ls f ys := ⟨hp.nodup_iff.2 h.once, fun u => by rw [hp.mem_iff, h.mem]⟩
theorem ReadyE.few {k : Nat} {ls : List Int} {f : Int → Nat} {xs : List Int} (h : ReadyE k ls f xs) : xs.length ≤ k := few_le h.once fun x hx => ((h.mem x).1 hx).1
theorem nodup_snoc {xs : List Int} {x : Int} (h : xs.Nodup) (hx : x ∉ xs) : (xs ++ [x]).Nodup := by
  rw [List.nodup_iff_pairwise_ne] at h ⊢
  exact List.pairwise_append.2 ⟨h, List.pairwise_singleton _ _, fun a ha b hb e => by rw [List.mem_singleton] at hb; rw [e, hb] at ha; exact hx ha⟩
theorem ReadyE.put {k : Nat} {ls : List Int} {f : Int → Nat} {xs ys : List Int} (h : ReadyE k ls f xs) (hk : (k : Int) ∉ ls) (hf : f (k : Int) = 0) (hp : ys.Perm (xs ++ [(k : Int)])) : ReadyE (k + 1) ls f ys := by
  refine ReadyE.perm ⟨nodup_snoc h.once fun hx => by have := ((h.mem _).1 hx).1; omega, fun u => ?_⟩ hp
  rw [List.mem_append, List.mem_singleton, h.mem]
  by_cases e : u = (k : Int)
  · subst e
    simp [hk, hf]
    omega
  · simp only [e, or_false]
    have : (0 ≤ u ∧ u < (k : Int)) ↔ (0 ≤ u ∧ u < ((k + 1 : Nat) : Int)) := by omega
    rw [this]
theorem ReadyE.skip {k : Nat} {ls : List Int} {f : Int → Nat} {xs : List Int} (h : ReadyE k ls f xs) (hf : f (k : Int) ≠ 0) : ReadyE (k + 1) ls f xs := by
  refine ⟨h.once, fun u => ?_⟩
  rw [h.mem]
  by_cases e : u = (k : Int)
  · subst e
    simp [hf]
  · have : (0 ≤ u ∧ u < (k : Int)) ↔ (0 ≤ u ∧ u < ((k + 1 : Nat) : Int)) := by omega
    rw [this]
theorem ReadyE.take {k : Nat} {ls : List Int} {f : Int → Nat} {xs ys : List Int} {x : Int} (h : ReadyE k ls f xs) (hp : xs.Perm (x :: ys)) : ReadyE k (ls ++ [x]) f ys := by
  have h1 := hp.nodup_iff.1 h.once
  rw [List.nodup_cons] at h1
  refine ⟨h1.2, fun u => ?_⟩
  have hm := hp.mem_iff (a := u)
  rw [h.mem, List.mem_cons] at hm
  rw [List.mem_append, List.mem_singleton]
  by_cases e : u = x
  · subst e
    simp [h1.1]
  · simp only [e, or_false, false_or] at hm ⊢
    exact hm.symm
theorem ReadyE.low {k : Nat} {ls : List Int} {f g : Int → Nat} {xs ys : List Int} {t : Int} (h : ReadyE k ls f xs) (h0 : 0 ≤ t ∧ t < (k : Int)) (hl : t ∉ ls) (hf : f t ≠ 0) (hg : ∀ u, u ≠ t → g u = f u) (h2 : (g t = 0 ∧ ys.Perm (xs ++ [t])) ∨ (g t ≠ 0 ∧ ys = xs)) : ReadyE k ls g ys := by
  have hn : t ∉ xs := fun hx => hf ((h.mem t).1 hx).2.2
  rcases h2 with ⟨h2, hp⟩ | ⟨h2, rfl⟩
  · refine ReadyE.perm ⟨nodup_snoc h.once hn, fun u => ?_⟩ hp
    rw [List.mem_append, List.mem_singleton, h.mem]
    by_cases e : u = t
    · subst e
      simp [h0, hl, h2]
    · simp only [e, or_false]
      rw [hg u e]
  · refine ⟨h.once, fun u => ?_⟩
    rw [h.mem]
    by_cases e : u = t
    · subst e
      simp [hf, h2]
    · rw [hg u e]
theorem ReadyE.congr {k : Nat} {ls : List Int} {f g : Int → Nat} {xs : List Int} (h : ReadyE k ls f xs) (hg : ∀ u, 0 ≤ u → u < (k : Int) → g u = f u) : ReadyE k ls g xs :=
  ⟨h.once, fun u => by
    rw [h.mem]
    exact and_congr_right fun h0 => by rw [hg u h0.1 h0.2]⟩
theorem ReadyE.next {zs : List Ed} {m : Nat} {l xs : List Int} {x : Int} (h : ReadyE m l (cntE (restE zs l)) xs) (hk : HeapOk xs) (hx : xs[0]? = some x) : NextT zs m l x := by
  have h1 := (h.mem x).1 (List.mem_of_getElem? hx)
  refine ⟨h1.1, freeB_iff.2 ⟨h1.2.1, rest_free.1 h1.2.2⟩, fun u h0 hu => ?_⟩
  cases hf : freeB zs l u
  · rfl
  · obtain ⟨h2, h3⟩ := freeB_iff.1 hf
    obtain ⟨i, hi⟩ := List.mem_iff_getElem?.1 ((h.mem u).2 ⟨⟨h0, by omega⟩, h2, rest_free.2 h3⟩)
    have := hk.min hx i u hi
    omega
theorem ReadyE.none_ {zs : List Ed} {m : Nat} {l : List Int} (h : ReadyE m l (cntE (restE zs l)) []) : NoneT zs m l := fun v h0 hv => by
  cases hf : freeB zs l v
  · rfl
  · obtain ⟨h2, h3⟩ := freeB_iff.1 hf
    have := (h.mem v).2 ⟨⟨h0, hv⟩, h2, rest_free.2 h3⟩
    simp at this
/-- What still leads to a node, when some edges out of v are taken away. -/
def leftF (zs : List Ed) (l : List Int) (vs : List Ed) (u : Int) : Nat := cntE (restE zs l) u - cntE vs u
theorem left_start (zs : List Ed) (l : List Int) (u : Int) : leftF zs l [] u = cntE (restE zs l) u := by simp [leftF, cntE]
theorem left_end {zs : List Ed} {l : List Int} {v : Int} (hv : v ∉ l) (u : Int) : leftF zs l (outE zs v) u = cntE (restE zs (l ++ [v])) u := by
  unfold leftF
  rw [rest_next zs hv]
  omega
theorem left_step {zs : List Ed} {l : List Int} {v : Int} {vs : List Ed} {p : Ed} (hv : v ∉ l) (hp : vs ++ [p] <+: outE zs v) : leftF zs l vs p.2.1 = leftF zs l (vs ++ [p]) p.2.1 + 1 ∧ ∀ u, u ≠ p.2.1 → leftF zs l (vs ++ [p]) u = leftF zs l vs u := by
  constructor
  · unfold leftF
    have h1 := cntE_prefix hp p.2.1
    have h2 := rest_next zs hv p.2.1
    rw [cntE_append, cntE_one, if_pos rfl] at h1 ⊢
    omega
  · intro u hu
    unfold leftF
    rw [cntE_append, cntE_one, if_neg hu, Nat.add_zero]
/-- An edge out of the node that was taken leads to one that is not taken. -/
theorem Kahn.target {zs : List Ed} {m : Nat} {l : List Int} {v : Int} {p : Ed} (hz : ∀ p ∈ zs, rightE (m : Int) p = true) (h : Kahn zs m l) (hv : v ∉ l) (hp : p ∈ outE zs v) : p ∈ zs ∧ (0 ≤ p.2.1 ∧ p.2.1 < (m : Int)) ∧ p.2.1 ∉ l ++ [v] := by
  obtain ⟨h1, h2⟩ := List.mem_filter.1 hp
  have h2 := of_decide_eq_true h2
  have hr := of_decide_eq_true (hz p h1)
  refine ⟨h1, hr.2.1, fun hm => ?_⟩
  rcases List.mem_append.1 hm with hm | hm
  · obtain ⟨i, hi⟩ := List.mem_iff_getElem?.1 hm
    have := List.mem_of_mem_take (h.ahead h1 hi)
    rw [h2] at this
    exact hv this
  · rw [List.mem_singleton] at hm
    exact hr.2.2.1 (h2.trans hm.symm)
end Go.Proofs.Ytaigpdpcliecpaa
namespace Go.Proofs.Ytaigpdpcliecpaa
open Go.RowKit

/-- How deep a row says that a node is. -/
def dE (D : List Int) (v : Int) : Int := D.getD v.toNat 0
structure DepthIs (zs : List Ed) (m : Nat) (D : List Int) : Prop where
  len : D.length = m
  lo : ∀ v, 0 ≤ dE D v
  up : ∀ p ∈ zs, dE D p.1 + 1 ≤ dE D p.2.1
  from_ : ∀ v, 0 ≤ v → v < (m : Int) → dE D v = 0 ∨ ∃ p ∈ zs, p.2.1 = v ∧ dE D v = dE D p.1 + 1
theorem dE_get {D : List Int} {v : Nat} (h : v < D.length) : D[v]? = some (dE D (v : Int)) := by
  unfold dE
  rw [Int.toNat_natCast, List.getD_eq_getElem?_getD, List.getElem?_eq_getElem h]
  rfl
theorem dE_at {D : List Int} {v : Int} (h0 : 0 ≤ v) (h : v < (D.length : Int)) : D[v.toNat]? = some (dE D v) := by
  have := dE_get (D := D) (v := v.toNat) (by omega)
  rwa [show ((v.toNat : Nat) : Int) = v by omega] at this
theorem dE_set {D : List Int} {u v : Int} {x : Int} (h0 : 0 ≤ u) (h : u < (D.length : Int)) (hv : 0 ≤ v) : dE (D.set u.toNat x) v = if v = u then x else dE D v := by
  unfold dE
  rw [List.getD_eq_getElem?_getD, List.getElem?_set]
  by_cases e : v = u
  · subst e
    rw [if_pos rfl, if_pos (by omega), if_pos rfl]
    rfl
  · rw [if_neg (by omega), if_neg e, List.getD_eq_getElem?_getD]
theorem dE_ext {D E : List Int} {m : Nat} (hD : D.length = m) (hE : E.length = m) (h : ∀ v, 0 ≤ v → v < (m : Int) → dE D v = dE E v) : D = E := by
  refine List.ext_getElem? fun i => ?_
  by_cases hi : i < m
  · rw [dE_get (by omega), dE_get (by omega), h i (by omega) (by omega)]
  · rw [List.getElem?_eq_none (by omega), List.getElem?_eq_none (by omega)]
theorem DepthIs.le {zs : List Ed} {m : Nat} {D E : List Int} (hz : ∀ p ∈ zs, rightE (m : Int) p = true) (h : DepthIs zs m D) (k : DepthIs zs m E) : ∀ (n : Nat) (v : Int), 0 ≤ v → v < (m : Int) → dE D v = (n : Int) → dE D v ≤ dE E v := by
  intro n
  induction n with
  | zero =>
    intro v _ _ e
    have := k.lo v
    omega
  | succ n ih =>
    intro v h0 hv e
    rcases h.from_ v h0 hv with e0 | ⟨p, hp, e1, e2⟩
    · omega
    · have hr := of_decide_eq_true (hz p hp)
      have h3 := ih p.1 hr.1.1 hr.1.2 (by omega)
      have h4 := k.up p hp
      rw [e1] at h4
      omega
theorem DepthIs.unique {zs : List Ed} {m : Nat} {D E : List Int} (hz : ∀ p ∈ zs, rightE (m : Int) p = true) (h : DepthIs zs m D) (k : DepthIs zs m E) : D = E :=
  dE_ext h.len k.len fun v h0 hv => by
    have a := h.le hz k (dE D v).toNat v h0 hv (by have := h.lo v; omega)
    have b := k.le hz h (dE E v).toNat v h0 hv (by have := k.lo v; omega)
    omega
/-- No node is deeper than it stands behind in an order. -/
theorem DepthIs.hi {zs : List Ed} {m : Nat} {D o : List Int} (h : DepthIs zs m D) (k : RightO zs m o) : ∀ (i : Nat) (x : Int), o[i]? = some x → dE D x ≤ (i : Int) := by
  intro i
  induction i using Nat.strongRecOn with
  | _ i ih =>
    intro x hx
    have he := k.ends x (List.mem_of_getElem? hx)
    rcases h.from_ x he.1 he.2 with e | ⟨p, hp, e1, e2⟩
    · omega
    · obtain ⟨j, hj, h2⟩ := mem_take (k.ahead p hp i (by rw [e1]; exact hx))
      have := ih j hj p.1 h2
      omega
theorem DepthIs.less {zs : List Ed} {m : Nat} {D o : List Int} (h : DepthIs zs m D) (k : RightO zs m o) {v : Int} (h0 : 0 ≤ v) (hv : v < (m : Int)) : dE D v < (m : Int) := by
  obtain ⟨i, hi⟩ := List.mem_iff_getElem?.1 (full_all k.once k.ends k.many h0 hv)
  have h1 := h.hi k i v hi
  have h2 := (List.getElem?_eq_some_iff.1 hi).1
  have := k.many
  omega

/-- Of some edges a row says what it is to say. -/
structure DepW (zs : List Ed) (m : Nat) (Q : Ed → Prop) (D : List Int) : Prop where
  len : D.length = m
  lo : ∀ v, 0 ≤ dE D v
  up : ∀ p ∈ zs, Q p → dE D p.1 + 1 ≤ dE D p.2.1
  from_ : ∀ v, 0 ≤ v → v < (m : Int) → dE D v = 0 ∨ ∃ p ∈ zs, Q p ∧ p.2.1 = v ∧ dE D v = dE D p.1 + 1
theorem dE_zero (m : Nat) (v : Int) : dE (List.replicate m 0) v = 0 := by
  unfold dE
  rw [List.getD_eq_getElem?_getD, List.getElem?_replicate]
  split <;> rfl
theorem DepW.start (zs : List Ed) (m : Nat) {Q : Ed → Prop} (hQ : ∀ p, ¬ Q p) : DepW zs m Q (List.replicate m 0) :=
  ⟨List.length_replicate, fun v => by rw [dE_zero]; exact Int.le_refl _, fun p _ h => absurd h (hQ p), fun v _ _ => .inl (dE_zero m v)⟩
theorem DepW.congr {zs : List Ed} {m : Nat} {Q R : Ed → Prop} {D : List Int} (h : DepW zs m Q D) (hQ : ∀ p ∈ zs, Q p ↔ R p) : DepW zs m R D :=
  ⟨h.len, h.lo, fun p hp hr => h.up p hp ((hQ p hp).2 hr), fun v h0 hv => (h.from_ v h0 hv).imp id fun ⟨p, hp, h1, h2⟩ => ⟨p, hp, (hQ p hp).1 h1, h2⟩⟩
theorem DepW.done {zs : List Ed} {m : Nat} {Q : Ed → Prop} {D : List Int} (h : DepW zs m Q D) (hQ : ∀ p ∈ zs, Q p) : DepthIs zs m D :=
  ⟨h.len, h.lo, fun p hp => h.up p hp (hQ p hp), fun v h0 hv => (h.from_ v h0 hv).imp id fun ⟨p, hp, _, h2⟩ => ⟨p, hp, h2⟩⟩
theorem DepW.next {zs : List Ed} {m : Nat} {Q : Ed → Prop} {D : List Int} (hz : ∀ p ∈ zs, rightE (m : Int) p = true) (h : DepW zs m Q D) {q : Ed} (hq : q ∈ zs) (hn : ∀ p ∈ zs, Q p → p.1 ≠ q.2.1) :
    DepW zs m (fun p => Q p ∨ p = q) (D.set q.2.1.toNat (max (dE D q.2.1) (dE D q.1 + 1))) := by
  have hr := of_decide_eq_true (hz q hq)
  have hl : q.2.1 < (D.length : Int) := by rw [h.len]; exact hr.2.1.2
  have g : ∀ v, 0 ≤ v → dE (D.set q.2.1.toNat (max (dE D q.2.1) (dE D q.1 + 1))) v = if v = q.2.1 then max (dE D q.2.1) (dE D q.1 + 1) else dE D v := fun v hv => dE_set hr.2.1.1 hl hv
  have gn : ∀ v, dE D v ≤ dE (D.set q.2.1.toNat (max (dE D q.2.1) (dE D q.1 + 1))) v := fun v => by
    rcases Int.lt_or_le v 0 with c | c
    · have e1 : ∀ E : List Int, dE E v = dE E 0 := fun E => by unfold dE; rw [show v.toNat = (0 : Int).toNat by omega]
      rw [e1, e1, g 0 (by omega)]
      split
      · rename_i h0
        rw [h0]
        omega
      · exact Int.le_refl _
    · rw [g v c]
      split
      · rename_i h0
        rw [h0]
        omega
      · exact Int.le_refl _
  refine ⟨by rw [List.length_set]; exact h.len, fun v => Int.le_trans (h.lo v) (gn v), fun p hp hQ => ?_, fun v h0 hv => ?_⟩
  · have hpr := of_decide_eq_true (hz p hp)
    rcases hQ with hQ | rfl
    · rw [g p.1 hpr.1.1, if_neg (hn p hp hQ)]
      exact Int.le_trans (h.up p hp hQ) (gn _)
    · rw [g p.1 hpr.1.1, if_neg hpr.2.2.1, g p.2.1 hpr.2.1.1, if_pos rfl]
      omega
  · rw [g v h0]
    split
    · rename_i e
      rcases Int.le_total (dE D q.2.1) (dE D q.1 + 1) with c | c
      · right
        refine ⟨q, hq, .inr rfl, e.symm, ?_⟩
        rw [g q.1 hr.1.1, if_neg hr.2.2.1]
        omega
      · rcases h.from_ q.2.1 hr.2.1.1 hr.2.1.2 with e0 | ⟨p, hp, hQ, e1, e2⟩
        · left
          omega
        · right
          have hpr := of_decide_eq_true (hz p hp)
          refine ⟨p, hp, .inl hQ, by rw [e1, e], ?_⟩
          rw [g p.1 hpr.1.1, if_neg (hn p hp hQ)]
          omega
    · rcases h.from_ v h0 hv with e0 | ⟨p, hp, hQ, e1, e2⟩
      · exact .inl e0
      · right
        have hpr := of_decide_eq_true (hz p hp)
        exact ⟨p, hp, .inl hQ, e1, by rw [g p.1 hpr.1.1, if_neg (hn p hp hQ)]; exact e2⟩

/-- Round by round, as the document has it: after k rounds, and some edges of the next one. -/
structure RoundK (zs : List Ed) (m : Nat) (D : List Int) (k j : Nat) (O : List Int) : Prop where
  len : O.length = m
  lo : ∀ v, 0 ≤ dE O v
  le : ∀ v, 0 ≤ v → v < (m : Int) → dE O v ≤ dE D v
  good : ∀ v, 0 ≤ v → v < (m : Int) → dE D v ≤ (k : Int) → dE O v = dE D v
  edges : ∀ p ∈ zs.take j, dE D p.1 ≤ (k : Int) → dE D p.1 + 1 ≤ dE O p.2.1
theorem RoundK.start {zs : List Ed} {m : Nat} {D : List Int} (h : DepthIs zs m D) : RoundK zs m D 0 0 (List.replicate m 0) :=
  ⟨List.length_replicate, fun v => by rw [dE_zero]; exact Int.le_refl _, fun v _ _ => by rw [dE_zero]; exact h.lo v, fun v _ _ e => by rw [dE_zero]; have := h.lo v; omega, fun p hp => by simp at hp⟩
theorem RoundK.skip {zs : List Ed} {m : Nat} {D O : List Int} {k j : Nat} {q : Ed} (hz : ∀ p ∈ zs, rightE (m : Int) p = true) (h : RoundK zs m D k j O) (hq : zs[j]? = some q) (hn : ¬ dE O q.2.1 < dE O q.1 + 1) : RoundK zs m D k (j + 1) O :=
  ⟨h.len, h.lo, h.le, h.good, fun p hp hk => by
    rw [List.take_add_one, hq] at hp
    rcases List.mem_append.1 hp with hp | hp
    · exact h.edges p hp hk
    · obtain rfl : p = q := by simpa using hp
      have hr := of_decide_eq_true (hz p (List.mem_of_getElem? hq))
      have := h.good p.1 hr.1.1 hr.1.2 hk
      omega⟩
theorem RoundK.raise {zs : List Ed} {m : Nat} {D O : List Int} {k j : Nat} {q : Ed} (hz : ∀ p ∈ zs, rightE (m : Int) p = true) (hD : DepthIs zs m D) (h : RoundK zs m D k j O) (hq : zs[j]? = some q) (hn : dE O q.2.1 < dE O q.1 + 1) : RoundK zs m D k (j + 1) (O.set q.2.1.toNat (dE O q.1 + 1)) := by
  have hr := of_decide_eq_true (hz q (List.mem_of_getElem? hq))
  have hl : q.2.1 < (O.length : Int) := by rw [h.len]; exact hr.2.1.2
  have g : ∀ v, 0 ≤ v → dE (O.set q.2.1.toNat (dE O q.1 + 1)) v = if v = q.2.1 then dE O q.1 + 1 else dE O v := fun v hv => dE_set hr.2.1.1 hl hv
  have hup := hD.up q (List.mem_of_getElem? hq)
  have hqle := h.le q.1 hr.1.1 hr.1.2
  have gn : ∀ v, 0 ≤ v → dE O v ≤ dE (O.set q.2.1.toNat (dE O q.1 + 1)) v := fun v c => by
    rw [g v c]
    split
    · rename_i h0
      rw [h0]
      omega
    · exact Int.le_refl _
  have gl : ∀ v, 0 ≤ v → v < (m : Int) → dE (O.set q.2.1.toNat (dE O q.1 + 1)) v ≤ dE D v := fun v c hv => by
    rw [g v c]
    split
    · rename_i h0
      rw [h0]
      omega
    · exact h.le v c hv
  refine ⟨by rw [List.length_set]; exact h.len, fun v => ?_, gl, fun v h0 hv hk => ?_, fun p hp hk => ?_⟩
  · rcases Int.lt_or_le v 0 with c | c
    · have e1 : ∀ E : List Int, dE E v = dE E 0 := fun E => by unfold dE; rw [show v.toNat = (0 : Int).toNat by omega]
      rw [e1]
      exact Int.le_trans (h.lo 0) (gn 0 (by omega))
    · exact Int.le_trans (h.lo v) (gn v c)
  · have h1 := h.good v h0 hv hk
    have h2 := gn v h0
    have h3 := gl v h0 hv
    omega
  · rw [List.take_add_one, hq] at hp
    rcases List.mem_append.1 hp with hp | hp
    · have hpr := of_decide_eq_true (hz p (List.mem_of_mem_take hp))
      exact Int.le_trans (h.edges p hp hk) (gn _ hpr.2.1.1)
    · obtain rfl : p = q := by simpa using hp
      have := h.good p.1 hr.1.1 hr.1.2 hk
      rw [g p.2.1 hr.2.1.1, if_pos rfl]
      omega
theorem RoundK.end_ {zs : List Ed} {m : Nat} {D O : List Int} {k : Nat} (hD : DepthIs zs m D) (h : RoundK zs m D k zs.length O) : RoundK zs m D (k + 1) 0 O :=
  ⟨h.len, h.lo, h.le, fun v h0 hv hk => by
    by_cases c : dE D v ≤ (k : Int)
    · exact h.good v h0 hv c
    · rcases hD.from_ v h0 hv with e | ⟨p, hp, e1, e2⟩
      · omega
      · have h1 := h.edges p (by rw [List.take_length]; exact hp) (by omega)
        rw [e1] at h1
        have := h.le v h0 hv
        omega, fun p hp => by simp at hp⟩
theorem RoundK.done {zs : List Ed} {m : Nat} {D O : List Int} (hD : DepthIs zs m D) (hm : ∀ v, 0 ≤ v → v < (m : Int) → dE D v ≤ (m : Int)) (h : RoundK zs m D m 0 O) : O = D :=
  dE_ext h.len hD.len fun v h0 hv => h.good v h0 hv (hm v h0 hv)
end Go.Proofs.Ytaigpdpcliecpaa
