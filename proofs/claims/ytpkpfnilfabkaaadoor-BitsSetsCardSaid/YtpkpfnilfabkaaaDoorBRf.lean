/- Layer bits, the document's answers: Some: contract. -/
import Derived.Test.YtpkpfnilfabkaaaDoorBRb
namespace Go.Proofs.YtpkpfnilfabkaaaDoor
open Go.RowKit Go.Shelf
attribute [local go_sem] Oper.semAt_some

/-- A list that a call gathers. -/
structure GotIs (w : World) (l : List Nat) (v : Value) (wr : World) : Prop where
  own : wr.ownsRow w.heap.size 3 1 v l.length (ints (intsN l))
  below : Below w.heap.size w wr
theorem GotIs.cast {w wr : World} {l l' : List Nat} {v : Value} (h : GotIs w l v wr) (e : l' = l) : GotIs w l' v wr := e ▸ h
theorem GotIs.more {w wr w2 : World} {l : List Nat} {v v' : Value} {o : Obj} {x : Nat} (h : GotIs w l v wr) (hown : w2.ownsRow w.heap.size 3 1 v' (l.length + 1) (ints (intsN l) ++ [.int .i64 (x : Int)])) (hg : (wr.alloc o).grownBy w2 v.ownBlock) : GotIs w (l ++ [x]) v' w2 :=
  ⟨by rw [intsN_snoc, List.length_append]; exact hown, (h.below.alloc h.below.size o).grown hg (by simp; have := h.below.size; omega) (own_block1 h.own)⟩
theorem filter_snoc {l : List Nat} {k x : Nat} {p : Nat → Bool} (h : l.take (k + 1) = l.take k ++ [x]) : (p x = true → (l.take (k + 1)).filter p = (l.take k).filter p ++ [x]) ∧ (p x = false → (l.take (k + 1)).filter p = (l.take k).filter p) := by
  refine ⟨fun hp => ?_, fun hp => ?_⟩ <;> rw [h, List.filter_append] <;> simp [hp]

set_option maxRecDepth 100000 in
set_option maxHeartbeats 4000000 in
theorem rsome_any (A : Option Addr) (n c : Nat) (l : List Nat) (B : Option Addr) (m d : Nat) (lb : List Int) (t : Bool) (hn : n ≤ 100000) (hm : m ≤ 100000) (w : World) (hA : RI w w.heap.size A n (intsN l)) (hB : RI w w.heap.size B m lb) :
    Calls Tryd.prog 30 #[.slice A n c, .slice B m d, .bool t] w (ListOk (l.filter fun x : Nat => decide ((x : Int) ∈ lb) == t) w) := by
  obtain ⟨i0, hi, hz0, hz1, hz2⟩ := info_parts i64_info
  have hln : l.length = n := by have := hA.len; rwa [intsN_len] at this
  have HL := Lib.hid hln
  have HR := Lib.hid fun W (h : Below w.heap.size w W) => hA.below h
  have HHAS := Lib.hid fun W (h : Below w.heap.size w W) z => rhas_any B m d lb z (by omega) W ((hB.below h).more h.size)
  have HFL : Hid (∀ k, ((l.take k).filter fun x : Nat => decide ((x : Int) ∈ lb) == t).length ≤ k) := fun k => Nat.le_trans (List.length_filter_le _ _) (by rw [List.length_take]; omega)
  clear hA hB hln
  go_enter Tryd.func30, Tryd.ntmps30
  go_wp2_with fail
  go_loopw [7, 12] (fun v i wr => ∃ k : Nat, k ≤ n ∧ i = .int .i64 k ∧ Hid (GotIs w ((l.take k).filter fun x : Nat => decide ((x : Int) ∈ lb) == t) v wr)) (fun _ i _ => n - (intOf i).toNat)
  case atStart => exact ⟨0, Nat.zero_le _, rfl, ⟨World.ownsRow_nil _ _ _ _, Below.refl _ _⟩⟩
  case round =>
    obtain ⟨k, hk, rfl, HN⟩ := hrel
    by_cases hlt : k < n
    · obtain ⟨b, o, rfl, hb, hc⟩ := (HR.out _ HN.out.below).at_ hlt
      have hkl : k < l.length := by rw [HL.out]; exact hlt
      rw [intsN_getD hkl] at hc
      have HSN := Lib.hid fun p => filter_snoc (p := p) (take_snoc' (d := 0) hkl)
      clear hkl
      generalize l.getD k 0 = x at *
      have HC := Lib.hid (HHAS.out _ HN.out.below (x : Int))
      have HY := Lib.hid (HSN.out fun x : Nat => decide ((x : Int) ∈ lb) == t)
      have hfl := HFL.out k
      obtain ⟨fl, hfe⟩ : ∃ q, ((l.take k).filter fun x : Nat => decide ((x : Int) ∈ lb) == t) = q := ⟨_, rfl⟩
      rw [hfe] at HN HY hfl
      clear hfe HSN
      cases t with
      | true =>
        rcases Bool.eq_false_or_eq_true (decide ((x : Int) ∈ lb)) with hp | hp
        · have HX : Hid ((l.take (k + 1)).filter (fun x : Nat => decide ((x : Int) ∈ lb) == true) = fl ++ [x]) := HY.out.1 (by show (decide ((x : Int) ∈ lb) == true) = true; rw [hp]; rfl)
          rw [hp] at HC
          clear hp HY
          go_wp2_with fail
          refine HC.out.mono ?_
          rintro e w1 ⟨rfl, rfl⟩
          have OW2 := Lib.hid (HN.out.own.alloc (.cells #[.int .i64 (x : Int)] 3))
          have hs1 := HN.out.below.size
          go_wp2_with (at_builtin; refine wpList_append_own _ rfl (.tmp 21) (.tmp 23) 28 rfl w.heap.size 3 i0 _ 1 8 Tryd.underlying28 hi hz0 hz1 hz2 rfl (by decide) _ _ _ rfl OW2.out ⟨w1.heap.size, 0, none⟩ 1 1 [.int .i64 (x : Int)] rfl rfl (cell_one_new _ _ _) (by simp [Value.oneCell']) (by unfold maxLen; omega) (by omega) (by simp; omega) ?_; intro v' w2 hown' hgrow _)
          have HN2 := Lib.hid ((HN.out.more hown' hgrow).cast HX.out)
          clear hown' hgrow OW2 HN HX
          go_wp2_with fail
          go_roundw
          case rel => exact ⟨k + 1, by omega, by go_num, HN2⟩
          case measure => simp [intOf]; omega
        · have HX : Hid ((l.take (k + 1)).filter (fun x : Nat => decide ((x : Int) ∈ lb) == true) = fl) := HY.out.2 (by show (decide ((x : Int) ∈ lb) == true) = false; rw [hp]; rfl)
          rw [hp] at HC
          have HN2 := Lib.hid (HN.out.cast HX.out)
          clear hp HY HN HX
          go_wp2_with fail
          refine HC.out.mono ?_
          rintro e w1 ⟨rfl, rfl⟩
          go_wp2_with fail
          go_roundw
          case rel => exact ⟨k + 1, by omega, by go_num, HN2⟩
          case measure => simp [intOf]; omega
      | false =>
        rcases Bool.eq_false_or_eq_true (decide ((x : Int) ∈ lb)) with hp | hp
        · have HX : Hid ((l.take (k + 1)).filter (fun x : Nat => decide ((x : Int) ∈ lb) == false) = fl) := HY.out.2 (by show (decide ((x : Int) ∈ lb) == false) = false; rw [hp]; rfl)
          rw [hp] at HC
          have HN2 := Lib.hid (HN.out.cast HX.out)
          clear hp HY HN HX
          go_wp2_with fail
          refine HC.out.mono ?_
          rintro e w1 ⟨rfl, rfl⟩
          go_wp2_with fail
          go_roundw
          case rel => exact ⟨k + 1, by omega, by go_num, HN2⟩
          case measure => simp [intOf]; omega
        · have HX : Hid ((l.take (k + 1)).filter (fun x : Nat => decide ((x : Int) ∈ lb) == false) = fl ++ [x]) := HY.out.1 (by show (decide ((x : Int) ∈ lb) == false) = true; rw [hp]; rfl)
          rw [hp] at HC
          clear hp HY
          go_wp2_with fail
          refine HC.out.mono ?_
          rintro e w1 ⟨rfl, rfl⟩
          have OW2 := Lib.hid (HN.out.own.alloc (.cells #[.int .i64 (x : Int)] 3))
          have hs1 := HN.out.below.size
          go_wp2_with (at_builtin; refine wpList_append_own _ rfl (.tmp 21) (.tmp 23) 28 rfl w.heap.size 3 i0 _ 1 8 Tryd.underlying28 hi hz0 hz1 hz2 rfl (by decide) _ _ _ rfl OW2.out ⟨w1.heap.size, 0, none⟩ 1 1 [.int .i64 (x : Int)] rfl rfl (cell_one_new _ _ _) (by simp [Value.oneCell']) (by unfold maxLen; omega) (by omega) (by simp; omega) ?_; intro v' w2 hown' hgrow _)
          have HN2 := Lib.hid ((HN.out.more hown' hgrow).cast HX.out)
          clear hown' hgrow OW2 HN HX
          go_wp2_with fail
          go_roundw
          case rel => exact ⟨k + 1, by omega, by go_num, HN2⟩
          case measure => simp [intOf]; omega
    · obtain rfl : k = n := by omega
      have HE : Hid (l.take k = l) := List.take_of_length_le (by rw [HL.out]; exact Nat.le_refl _)
      rw [HE.out] at HN
      go_wp2_with fail
      go_ret
      exact ⟨_, rfl, HN.out.own, HN.out.below⟩
end Go.Proofs.YtpkpfnilfabkaaaDoor
