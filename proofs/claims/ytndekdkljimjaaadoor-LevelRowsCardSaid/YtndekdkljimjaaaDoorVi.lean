/- The document's answers of layer level: All, Below, Of: contracts. -/
import Derived.Test.YtndekdkljimjaaaDoorVb
import Derived.Test.YtndekdkljimjaaaDoorVe
import Derived.Deep.LoopGhost
import Derived.Deep.Cut
import Derived.Maps.AppendAt
namespace Go.Proofs.YtndekdkljimjaaaDoor
open Go.RowKit

set_option maxRecDepth 100000 in
set_option maxHeartbeats 2000000 in
theorem rall_any (A : Option Addr) (n c : Nat) (xs : List Int) (hn : n ≤ 1000000) (w : World) (hR : Reads w w.heap.size 1 A n (ints xs)) :
    Calls Tryd.prog 23 #[.slice A n c] w fun e w' => e = .returned (.bool (xs.all levB)) ∧ w = w' := by
  have HR := Lib.hid hR
  have HLN := Lib.hid (ints_len hR)
  have HJ0 : Hid ((xs.take 0).all levB = true) := rfl
  clear hR
  go_enter Tryd.func23, Tryd.ntmps23
  go_wp2_with fail
  go_loop [7] (fun i => ∃ j : Nat, j ≤ n ∧ i = .int .i64 j ∧ Hid ((xs.take j).all levB = true)) (fun i => n - (intOf i).toNat)
  case atStart => exact ⟨0, by omega, rfl, HJ0⟩
  case round =>
    clear HJ0
    obtain ⟨j, hj, rfl, HJ⟩ := hrel
    by_cases hjn : j < n
    · have hjlt : (j : Int) < (n : Int) := by omega
      obtain ⟨v, hv⟩ : ∃ v, xs[j]? = some v := ⟨xs[j]'(by rw [HLN.out]; exact hjn), List.getElem?_eq_getElem _⟩
      obtain ⟨bb, oo, rfl, hbb, g0⟩ := int_at HR.out hv
      have HC := Lib.hid (rright_any v w)
      cases hlv : levB v
      · have HX : Hid (xs.all levB = false) := by
          show _ = _
          rw [← Bool.not_eq_true, List.all_eq_true]
          intro h
          rw [h v (List.mem_of_getElem? hv)] at hlv
          cases hlv
        rw [hlv] at HC
        clear hv hlv
        go_wp2_with fail
        refine HC.out.mono ?_
        rintro e w1 ⟨rfl, rfl⟩
        go_wp2_with fail
        go_ret
        exact ⟨by rw [HX.out]; rfl, rfl⟩
      · have HJ1 : Hid ((xs.take (j + 1)).all levB = true) := by
          show _ = _
          rw [List.take_add_one, hv, List.all_append, HJ.out]
          simp [hlv]
        rw [hlv] at HC
        clear hv hlv
        go_wp2_with fail
        refine HC.out.mono ?_
        rintro e w1 ⟨rfl, rfl⟩
        go_wp2_with fail
        go_round
        case rel => exact ⟨j + 1, by omega, by go_num, HJ1⟩
        case measure => simp [intOf]; omega
    · obtain rfl : j = n := by omega
      have HX : Hid (xs.all levB = true) := by
        have := HJ.out
        rwa [List.take_of_length_le (by rw [HLN.out]; exact Nat.le_refl _)] at this
      go_wp2_with fail
      go_ret
      exact ⟨by rw [HX.out]; rfl, rfl⟩

/-- Is each number at most the other one there? -/
def belowB (xs ys : List Int) : Bool := (List.zipWith (fun x y => decide (x ≤ y)) xs ys).all id
section
variable {xs ys : List Int} {j : Nat} {x y : Int}
theorem zip_at {α : Type} {f : Int → Int → α} (hx : xs[j]? = some x) (hy : ys[j]? = some y) : (List.zipWith f xs ys)[j]? = some (f x y) := by
  rw [List.getElem?_zipWith, hx, hy]
theorem below_no (hx : xs[j]? = some x) (hy : ys[j]? = some y) (h : y < x) : belowB xs ys = false := by
  unfold belowB
  rw [← Bool.not_eq_true, List.all_eq_true]
  intro h2
  have := h2 _ (List.mem_of_getElem? (zip_at (f := fun x y => decide (x ≤ y)) hx hy))
  simp at this
  omega
theorem below_yes (h : ∀ (j : Nat) (x y : Int), xs[j]? = some x → ys[j]? = some y → x ≤ y) : belowB xs ys = true := by
  unfold belowB
  rw [List.all_eq_true]
  intro b hb
  obtain ⟨j, hj, e⟩ := List.mem_iff_getElem.1 hb
  rw [List.length_zipWith] at hj
  rw [List.getElem_zipWith] at e
  have := h j _ _ (List.getElem?_eq_getElem (by omega)) (List.getElem?_eq_getElem (by omega))
  rw [← e]
  simpa using this
theorem belowB_iff : belowB xs ys = true ↔ ∀ (j : Nat) (x y : Int), xs[j]? = some x → ys[j]? = some y → x ≤ y := by
  constructor
  · intro h j x y hx hy
    rcases Int.lt_or_le y x with h2 | h2
    · rw [below_no hx hy h2] at h; cases h
    · exact h2
  · exact below_yes
end

set_option maxRecDepth 100000 in
set_option maxHeartbeats 4000000 in
theorem rbelow_any (A B : Option Addr) (n c d : Nat) (xs ys : List Int) (hn : n ≤ 1000000) (w : World) (h1 : Reads w w.heap.size 1 A n (ints xs)) (h2 : Reads w w.heap.size 1 B n (ints ys)) :
    Calls Tryd.prog 27 #[.slice A n c, .slice B n d] w fun e w' => e = .returned (.bool (belowB xs ys)) ∧ Below w.heap.size w w' := by
  have HX := Lib.hid h1
  have HY := Lib.hid h2
  have HLX := Lib.hid (ints_len h1)
  have HLY := Lib.hid (ints_len h2)
  have HJ0 : Hid (∀ i x y, i < 0 → xs[i]? = some x → ys[i]? = some y → x ≤ y) := fun i _ _ h _ _ => by omega
  clear h1 h2
  go_enter Tryd.func27, Tryd.ntmps27
  go_wp2_with fail
  go_loopw [8] (fun i wr => ∃ j : Nat, j ≤ n ∧ i = .int .i64 j ∧ Hid (∀ i x y, i < j → xs[i]? = some x → ys[i]? = some y → x ≤ y) ∧ Hid (Below w.heap.size w wr)) (fun i _ => n - (intOf i).toNat)
  case atStart => exact ⟨0, by omega, rfl, HJ0, Below.refl _ _⟩
  case round =>
    clear HJ0
    obtain ⟨j, hj, rfl, HJ, HB⟩ := hrel
    by_cases hjn : j < n
    · have hjlt : (j : Int) < (n : Int) := by omega
      obtain ⟨x, hx⟩ : ∃ x, xs[j]? = some x := ⟨xs[j]'(by rw [HLX.out]; exact hjn), List.getElem?_eq_getElem _⟩
      obtain ⟨y, hy⟩ : ∃ y, ys[j]? = some y := ⟨ys[j]'(by rw [HLY.out]; exact hjn), List.getElem?_eq_getElem _⟩
      obtain ⟨b1, o1, rfl, _, g1⟩ := int_at (HX.out.below HB.out) hx
      obtain ⟨b2, o2, rfl, _, g2⟩ := int_at (HY.out.below HB.out) hy
      by_cases hyx : y < x
      · have HE := Lib.hid (below_no hx hy hyx)
        have hd : decide (y < x) = true := decide_eq_true hyx
        have hd2 : x > y := hyx
        clear hx hy
        go_upto_region 4 with fail
        go_quiet (fail)
        go_wp2_with fail
        go_ret
        exact ⟨by rw [HE.out]; rfl, below_drewN HB.out _⟩
      · have HJ1 : Hid (∀ i x y, i < j + 1 → xs[i]? = some x → ys[i]? = some y → x ≤ y) := fun i x' y' hi hx' hy' => by
          rcases Nat.lt_or_ge i j with h | h
          · exact HJ.out i x' y' h hx' hy'
          · obtain rfl : i = j := by omega
            have e1 := hx.symm.trans hx'
            have e2 := hy.symm.trans hy'
            injection e1 with e1
            injection e2 with e2
            omega
        have hd : decide (y < x) = false := decide_eq_false hyx
        have hd2 : ¬ x > y := hyx
        clear hx hy
        go_upto_region 4 with fail
        go_quiet (fail)
        go_wp2_with fail
        go_roundw
        case rel => exact ⟨j + 1, by omega, by go_num, HJ1, below_drewN HB.out _⟩
        case measure => simp [intOf]; omega
    · obtain rfl : j = n := by omega
      have HE : Hid (belowB xs ys = true) := below_yes fun i x y hx hy => HJ.out i x y (by have := (List.getElem?_eq_some_iff.1 hx).1; have := HLX.out; omega) hx hy
      go_wp2_with fail
      go_ret
      exact ⟨by rw [HE.out]; rfl, HB.out⟩

/-- The one that is asked for of two numbers. -/
def pickB (g : Bool) (x y : Int) : Int := if decide (y < x) == g then x else y
theorem pick_max (x y : Int) : pickB true x y = max x y := by
  unfold pickB
  by_cases h : y < x
  · rw [if_pos (by simp [h])]; omega
  · rw [if_neg (by simp [h])]; omega
theorem pick_min (x y : Int) : pickB false x y = min x y := by
  unfold pickB
  by_cases h : y < x
  · rw [if_neg (by simp [h])]; omega
  · rw [if_pos (by simp [h])]; omega
theorem int9_info : (Tryd.prog.info? 3).map (fun i => (i.zero, i.size, i.bytes)) = some (some (.int .i64 0), 1, 8) := by kernel_rfl
theorem int_one (v : Int) : ∀ x ∈ [Value.int .i64 v], x.oneCell' = true := by intro x hx; simp at hx; subst hx; rfl
theorem own_block9 {w : World} {base : Nat} {e : TypeId} {v : Value} {n : Nat} {xs : List Value} (h : w.ownsRow base e 1 v n xs) : ∀ b, v.ownBlock = some b → base ≤ b := by
  intro b hb
  rcases h.2 with ⟨rfl, _⟩ | ⟨g, cap, cur, rfl, hg, _⟩
  · cases hb
  · have e : some g = some b := hb
    injection e with e
    omega

set_option maxRecDepth 100000 in
set_option maxHeartbeats 4000000 in
theorem rof_any (A B : Option Addr) (n c d : Nat) (xs ys : List Int) (gr : Bool) (hn : n ≤ 1000000) (w : World) (h1 : Reads w w.heap.size 1 A n (ints xs)) (h2 : Reads w w.heap.size 1 B n (ints ys)) :
    Calls Tryd.prog 28 #[.slice A n c, .slice B n d, .bool gr] w (CopyE (List.zipWith (pickB gr) xs ys) w) := by
  obtain ⟨i0, hi, hz0, hz1, hz2⟩ := info_parts int9_info
  have HX := Lib.hid h1
  have HY := Lib.hid h2
  have HLX := Lib.hid (ints_len h1)
  have HLY := Lib.hid (ints_len h2)
  obtain ⟨zs, hzs⟩ : ∃ zs, List.zipWith (pickB gr) xs ys = zs := ⟨_, rfl⟩
  have HZ := Lib.hid hzs
  clear h1 h2
  rw [hzs]
  clear hzs
  go_enter Tryd.func28, Tryd.ntmps28
  go_wp2_with fail
  go_loopw [7, 11] (fun v i wr => ∃ j : Nat, j ≤ n ∧ i = .int .i64 j ∧ Hid (wr.ownsRow w.heap.size 3 1 v j (ints (zs.take j))) ∧ Hid (Below w.heap.size w wr)) (fun _ i _ => n - (intOf i).toNat)
  case atStart => exact ⟨0, by omega, rfl, World.ownsRow_nil _ _ _ _, Below.refl _ _⟩
  case round =>
    obtain ⟨j, hj, rfl, HO, HB⟩ := hrel
    by_cases hjn : j < n
    · have hjlt : (j : Int) < (n : Int) := by omega
      obtain ⟨x, hx⟩ : ∃ x, xs[j]? = some x := ⟨xs[j]'(by rw [HLX.out]; exact hjn), List.getElem?_eq_getElem _⟩
      obtain ⟨y, hy⟩ : ∃ y, ys[j]? = some y := ⟨ys[j]'(by rw [HLY.out]; exact hjn), List.getElem?_eq_getElem _⟩
      have hb1 := HB.out.size
      have hz : zs.take (j + 1) = zs.take j ++ [pickB gr x y] := by
        rw [List.take_add_one, ← HZ.out, zip_at hx hy]; rfl
      obtain ⟨z, hpz⟩ : ∃ z, pickB gr x y = z := ⟨_, rfl⟩
      rw [hpz] at hz
      have HZT := Lib.hid hz
      have HPZ := Lib.hid hpz
      clear hz hpz
      obtain ⟨b1, o1, rfl, _, g1⟩ := int_at (HX.out.below HB.out) hx
      obtain ⟨b2, o2, rfl, _, g2⟩ := int_at (HY.out.below HB.out) hy
      have hd : ∃ t : Bool, decide (x > y) = t ∧ ((t == gr) = true ∧ z = x ∨ (t == gr) = false ∧ z = y) := by
        refine ⟨_, rfl, ?_⟩
        rw [← HPZ.out]
        unfold pickB
        show (decide (y < x) == gr) = true ∧ _ ∨ (decide (y < x) == gr) = false ∧ _
        cases h : (decide (y < x) == gr)
        · right; simp
        · left; simp
      obtain ⟨t, ht, htt⟩ := hd
      clear hx hy
      rcases htt with ⟨htg, rfl⟩ | ⟨htg, rfl⟩
      all_goals
        go_upto_region 5 with fail
        go_quiet (fail)
        have HB2 := Lib.hid (below_drewN HB.out nq)
        have HO2 : Hid ((wr.drewN nq).ownsRow w.heap.size 3 1 _ j (ints (zs.take j))) := HO.out
        have g1' : (wr.drewN nq).cell? _ = _ := g1
        have g2' : (wr.drewN nq).cell? _ = _ := g2
        clear HB HO g1 g2 hb1
        generalize wr.drewN nq = w5 at *
        have hb1 := HB2.out.size
        go_wp2_with (at_builtin; refine wpList_append_own _ rfl _ _ 22 rfl w.heap.size 3 i0 _ 1 8 Tryd.underlying22 hi hz0 hz1 hz2 rfl (by decide) _ _ _ rfl (HO2.out.alloc _) ⟨w5.heap.size, 0, none⟩ 1 1 [_] rfl rfl (cell_one_new _ _ _) (int_one _) (by unfold maxLen; omega) (by omega) (by simp; omega) ?_; intro v' w6 hown' hgrow _)
        have HN : Hid (w6.ownsRow w.heap.size 3 1 v' (j + 1) (ints (zs.take (j + 1)))) := by rw [HZT.out, ints_append]; exact hown'
        have HBN : Hid (Below w.heap.size w w6) := (HB2.out.alloc hb1 _).grown hgrow (by simp; omega) (own_block9 HO2.out)
        clear hown' hgrow
        go_wp2_with fail
        go_roundw
        case rel => exact ⟨j + 1, by omega, by go_num, HN, HBN⟩
        case measure => simp [intOf]; omega
    · obtain rfl : j = n := by omega
      have HE : Hid (zs.take j = zs) := List.take_of_length_le (by rw [← HZ.out, List.length_zipWith, HLX.out, HLY.out]; omega)
      rw [HE.out] at HO
      obtain ⟨A5, c5, rfl, _, _⟩ := own_form2 HO.out
      go_wp2_with fail
      go_ret
      exact ⟨A5, j, c5, rfl, HO.out, HB.out⟩
end Go.Proofs.YtndekdkljimjaaaDoor
