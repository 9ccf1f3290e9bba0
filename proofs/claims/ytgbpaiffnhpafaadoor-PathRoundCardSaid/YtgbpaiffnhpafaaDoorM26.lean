/- Layer path: Is: its contract. -/
import Derived.StillTailTactics
import Derived.Test.YtgbpaiffnhpafaaDoorM17
import Derived.Test.YtgbpaiffnhpafaaDoorM13
import Derived.Test.YtgbpaiffnhpafaaDoorM24
import Derived.Test.YtgbpaiffnhpafaaDoorM25
import Derived.Test.YtgbpaiffnhpafaaDoorM20
-- holds: YtgbpaiffnhpafaaDoorPs YtgbpaiffnhpafaaDoorPt
namespace Go.Proofs.YtgbpaiffnhpafaaDoor
open Go.RowKit Go.Shelf

/-- An edge leads from each to the next one. -/
def chainB (zs : List Ed) : List Int → Bool
  | x :: y :: l => edB zs x y && chainB zs (y :: l)
  | _ => true
theorem chainB_iff {zs : List Ed} : ∀ {l : List Int}, chainB zs l = true ↔ ∀ (i : Nat) x y, l[i]? = some x → l[i + 1]? = some y → EdR zs x y
  | [] => ⟨fun _ i x y h => by simp at h, fun _ => rfl⟩
  | [a] => ⟨fun _ i x y _ h => by simp at h, fun _ => rfl⟩
  | a :: b :: l => by
    unfold chainB
    rw [Bool.and_eq_true, edB_iff, chainB_iff (l := b :: l)]
    constructor
    · rintro ⟨h1, h2⟩ i x y hx hy
      cases i with
      | zero => simp at hx hy; subst hx; subst hy; exact h1
      | succ i => exact h2 i x y (by simpa using hx) (by simpa using hy)
    · intro h
      exact ⟨h 0 a b rfl rfl, fun i x y hx hy => h (i + 1) x y (by simpa using hx) (by simpa using hy)⟩
theorem row_at {w : World} {B n k : Nat} {A : Option Addr} {vs : List Int} {v : Int} (h : Reads w B 1 A n (ints vs)) (hv : vs[k]? = some v) : ∃ b o, A = some ⟨b, o, none⟩ ∧ b < B ∧ w.cell? ⟨b, o + k, none⟩ = some (.int .i64 v) := by
  have hl := ints_len h
  have hk := (List.getElem?_eq_some_iff.1 hv).1
  obtain ⟨b, o, e, hb, hc⟩ := reads_plain h (by omega)
  refine ⟨b, o, e, hb, hc k _ ?_⟩
  unfold ints
  rw [List.getElem?_map, hv]
  rfl

set_option maxRecDepth 100000 in
set_option maxHeartbeats 4000000 in
theorem follow8_any (B : Nat) (A : Option Addr) (n c : Nat) (Sa : Option Addr) (sc m : Nat) (zs : List Ed) (hg : IsG (m : Int) zs) (hn : n ≤ 1000) (A2 : Option Addr) (k c2 : Nat) (l : List Int) (hl : ∀ x ∈ l, 0 ≤ x ∧ x < (m : Int)) (hk : k ≤ 1000000) (w : World) (hP : PwAt B A n c Sa sc m zs w) (hB : B ≤ w.heap.size) (hL : Reads w w.heap.size 1 A2 k (ints l)) :
    Calls Tryd.prog 54 #[.agg #[.slice A n c, .slice Sa (m + 1) sc], .slice A2 k c2] w fun e w' => e = .returned (.bool (chainB zs l)) ∧ Below w.heap.size w w' := by
  have hmn := hg.nodes
  have b0 : Below w.heap.size w (w.alloc (.cells #[.slice A n c, .slice Sa (m + 1) sc] 69)) := (Below.refl _ _).alloc (Nat.le_refl _) _
  have HLL := Lib.hid (ints_len hL)
  have HL := Lib.hid hl
  have HG := Lib.hid hg
  have HM : Hid (m ≤ 300) := by show _ ≤ _; omega
  have KW := Lib.hid (Blk.new w 69 #[.slice A n c, .slice Sa (m + 1) sc])
  have HP := Lib.hid (hP.on (b0.mono hB))
  have HR := Lib.hid ((hL.below b0).more b0.size)
  have B0 := Lib.hid b0
  have HB : Hid (B ≤ (w.alloc (.cells #[.slice A n c, .slice Sa (m + 1) sc] 69)).heap.size) := Nat.le_trans hB b0.size
  clear hP hB hL hl hg hmn b0
  go_enter Tryd.func54, Tryd.ntmps54
  go_upto_region 1 with fail
  generalize w.alloc (.cells #[.slice A n c, .slice Sa (m + 1) sc] 69) = W0 at *
  go_wp2_with fail
  go_loopg [5] k (fun gg s5 wr => ∃ i : Nat, s5 = .int .i64 ((i + 1 : Nat) : Int) ∧ k ≤ i + 1 + gg ∧ i ≤ k ∧ Hid (chainB zs (l.take (i + 1)) = true) ∧ Hid (Below W0.heap.size W0 wr))
  case atStart =>
    refine ⟨0, rfl, by omega, by omega, ?_, Below.refl _ _⟩
    show _ = _
    cases l with
    | nil => rfl
    | cons a l => rfl
  case round =>
    obtain ⟨i, rfl, hgk, hik, HCH, HBW⟩ := hrel
    have B1 : Hid (Below w.heap.size w wr) := B0.out.trans (HBW.out.mono B0.out.size)
    obtain ⟨i1, hi1⟩ : ∃ i1, i + 1 = i1 := ⟨_, rfl⟩
    have HGK := Lib.hid hgk
    have HI1 := Lib.hid hi1
    rw [hi1]
    by_cases hlt : i1 < k
    · have hlt2 : (i1 : Int) < (k : Int) := by omega
      obtain ⟨x, hx⟩ : ∃ x, l[i]? = some x := ⟨l[i]'(by rw [HLL.out]; omega), List.getElem?_eq_getElem _⟩
      obtain ⟨y, hy⟩ : ∃ y, l[i1]? = some y := ⟨l[i1]'(by rw [HLL.out]; omega), List.getElem?_eq_getElem _⟩
      obtain ⟨b, o, rfl, hb, c0⟩ := row_at (HR.out.below HBW.out) hx
      obtain ⟨b', o', e, _, c1⟩ := row_at (HR.out.below HBW.out) hy
      injection e with e
      injection e with e1 e2
      subst e1; subst e2
      have hxm := HL.out x (List.mem_of_getElem? hx)
      have hym := HL.out y (List.mem_of_getElem? hy)
      obtain ⟨u, rfl⟩ : ∃ u : Nat, x = (u : Int) := ⟨x.toNat, by omega⟩
      have HCN : Hid (chainB zs (l.take (i1 + 1)) = edB zs (u : Int) y) := by
        show _ = _
        have h1 := chainB_iff.1 HCH.out
        rw [hi1] at h1
        rw [Bool.eq_iff_iff, chainB_iff, edB_iff]
        constructor
        · intro h
          exact h i (u : Int) y (by rw [List.getElem?_take, if_pos (by omega)]; exact hx) (by rw [List.getElem?_take, if_pos (by omega), hi1]; exact hy)
        · intro h j p q hp hq
          rw [List.getElem?_take] at hp hq
          by_cases hj : j + 1 < i1 + 1
          · rw [if_pos hj] at hq
            rw [if_pos (by omega)] at hp
            by_cases hj2 : j + 1 < i1
            · exact h1 j p q (by rw [List.getElem?_take, if_pos (by omega)]; exact hp) (by rw [List.getElem?_take, if_pos (by omega)]; exact hq)
            · obtain rfl : j = i := by omega
              rw [hi1, hy] at hq
              rw [hx] at hp
              injection hp with hp
              injection hq with hq
              subst hp; subst hq
              exact h
          · rw [if_neg hj] at hq
            cases hq
      have HCB : Hid (edB zs (u : Int) y = false → chainB zs l = false) := by
        intro h
        rw [← Bool.not_eq_true, chainB_iff]
        intro hc
        have := edB_iff.2 (hc i (u : Int) y hx (by rw [hi1]; exact hy))
        rw [h] at this
        cases this
      have HLD := Lib.hid (leads8_any B A n c Sa sc m zs HG.out hn u y (by omega) ⟨by omega, by have := HM.out; omega⟩ wr.drew (HP.out.on ((HBW.out.drew).mono HB.out)) (by have := HBW.out.size; have := HB.out; show _ ≤ wr.heap.size; omega))
      have z0 : wr.cell? ⟨w.heap.size, 0, none⟩ = some (.slice A n c) := (KW.out.below HBW.out KW.out.lt).cell 0
      have z1 : wr.cell? ⟨w.heap.size, 1, none⟩ = some (.slice Sa (m + 1) sc) := (KW.out.below HBW.out KW.out.lt).cell 1
      have hw1 : IntKind.i64.wrap ((i1 : Int) - 1) = (i : Int) := by rw [IntKind.wrap_i64]; omega
      have hii : (i : Int) < (k : Int) := by omega
      clear hx hy hxm hym hgk hik hi1 hlt hb
      go_upto_region 4 with fail
      go_still_tail 10, (by kernel_rfl)
      change wpList _ _ _ _ _ wr.drew
      have HD : Hid (Below W0.heap.size W0 wr.drew) := HBW.out.drew
      have HDD : Hid (Below w.heap.size w wr.drew) := B1.out.drew
      clear c0 c1 z0 z1
      generalize wr.drew = wd at *
      cases hed : edB zs (u : Int) y
      · rw [hed] at HLD
        have HE := Lib.hid (HCB.out hed)
        clear hed
        go_wp2_with fail
        refine HLD.out.mono ?_
        rintro e w3 ⟨rfl, b3⟩
        have B3 : Hid (Below w.heap.size w w3) := HDD.out.trans (b3.mono HDD.out.size)
        clear b3
        go_wp2_with fail
        go_ret
        exact ⟨by rw [HE.out]; rfl, B3.out⟩
      · rw [hed] at HLD
        have HC3 : Hid (chainB zs (l.take (i1 + 1)) = true) := HCN.out.trans hed
        clear hed
        go_wp2_with fail
        refine HLD.out.mono ?_
        rintro e w3 ⟨rfl, b3⟩
        have B3 : Hid (Below W0.heap.size W0 w3) := HD.out.trans (b3.mono HD.out.size)
        clear b3
        go_wp2_with fail
        go_roundg (gk - 1)
        case measure => have := HGK.out; have := HI1.out; omega
        case rel => exact ⟨i1, by go_num, by have := HGK.out; have := HI1.out; omega, by omega, HC3, B3⟩
    · have hge : ¬ (i1 : Int) < (k : Int) := by omega
      have HE : Hid (chainB zs l = true) := by
        have := HCH.out
        rwa [List.take_of_length_le (by rw [HLL.out]; omega)] at this
      clear hgk hik hi1 hlt
      go_wp2_with fail
      go_ret
      exact ⟨by rw [HE.out]; rfl, B1.out⟩
end Go.Proofs.YtgbpaiffnhpafaaDoor
namespace Go.Proofs.YtgbpaiffnhpafaaDoor
open Go.RowKit Go.Shelf

theorem sub_len : ∀ {T l : List Int}, T.Nodup → (∀ x ∈ T, x ∈ l) → T.length ≤ l.length
  | [], _, _, _ => Nat.zero_le _
  | x :: T, l, hn, h => by
    obtain ⟨h1, h2⟩ := List.nodup_cons.1 hn
    have hx := h x (.head _)
    have := sub_len (T := T) (l := l.erase x) h2 fun y hy => (List.mem_erase_of_ne (fun e : y = x => h1 (e ▸ hy))).2 (h y (.tail _ hy))
    rw [List.length_erase_of_mem hx] at this
    have := List.length_pos_of_mem hx
    simp
    omega
theorem dup_short : ∀ {l : List Int}, ¬ l.Nodup → ∃ l' : List Int, l'.length < l.length ∧ ∀ x ∈ l, x ∈ l'
  | [], h => absurd List.nodup_nil h
  | a :: l, h => by
    by_cases ha : a ∈ l
    · exact ⟨l, by simp, fun x hx => by
        rcases List.mem_cons.1 hx with rfl | hx
        · exact ha
        · exact hx⟩
    · have h2 : ¬ l.Nodup := fun h2 => h (List.nodup_cons.2 ⟨ha, h2⟩)
      obtain ⟨l', h3, h4⟩ := dup_short h2
      exact ⟨a :: l', by simp; omega, fun x hx => by
        rcases List.mem_cons.1 hx with rfl | hx
        · exact .head _
        · exact .tail _ (h4 x hx)⟩
section
variable {l : List Int} (hl : ∀ x ∈ l, 0 ≤ x ∧ x < 10000)
include hl
theorem mayL_of : Bit.mayL l := fun x hx => by
  have := hl x hx
  unfold Bit.mayB
  simp
  omega
theorem ofF_in : Bit.inW (Bit.setW (Bit.ofF l)) = Bit.ofF l := funext fun n => Bit.in_set (fun _ hn => Bit.of_in (mayL_of hl) hn) n
theorem mem_nums {x : Int} : x ∈ (Bit.numsF (Bit.ofF l)).map (fun n : Nat => (n : Int)) ↔ x ∈ l := by
  rw [List.mem_map]
  constructor
  · rintro ⟨n, hn, rfl⟩
    have := (List.mem_filter.1 hn).2
    exact of_decide_eq_true this
  · intro hx
    have := hl x hx
    refine ⟨x.toNat, List.mem_filter.2 ⟨List.mem_range.2 (by omega), decide_eq_true ?_⟩, by omega⟩
    rw [Int.toNat_of_nonneg this.1]
    exact hx
omit hl in
theorem nums_once : ((Bit.numsF (Bit.ofF l)).map (fun n : Nat => (n : Int))).Nodup := by
  have h := Bit.nums_sorted (Bit.ofF l)
  rw [List.nodup_iff_pairwise_ne, List.pairwise_map]
  exact h.imp fun h e => by omega
theorem nums_count : (Bit.numsF (Bit.ofF l)).length = l.length ↔ l.Nodup := by
  constructor
  · intro h
    apply Classical.byContradiction
    intro hn
    obtain ⟨l', h1, h2⟩ := dup_short hn
    have := sub_len (nums_once (l := l)) fun x hx => h2 x ((mem_nums hl).1 hx)
    rw [List.length_map] at this
    omega
  · intro hn
    have h1 := sub_len (nums_once (l := l)) fun x hx => (mem_nums hl).1 hx
    have h2 := sub_len hn fun x hx => (mem_nums hl).2 hx
    rw [List.length_map] at h1 h2
    omega
theorem nums_least (hne : l ≠ []) : Bit.someN (Bit.numsF (Bit.ofF l)) = true ∧ ((Bit.firstN (Bit.numsF (Bit.ofF l)) : Nat) : Int) ∈ l ∧ ∀ x ∈ l, ((Bit.firstN (Bit.numsF (Bit.ofF l)) : Nat) : Int) ≤ x := by
  obtain ⟨x, hx⟩ := List.exists_mem_of_ne_nil _ hne
  have hm := (mem_nums hl).2 hx
  have hs := Bit.nums_sorted (Bit.ofF l)
  have hmem := fun y => mem_nums (x := y) hl
  revert hm hs hmem
  cases Bit.numsF (Bit.ofF l) with
  | nil => intro hm; simp at hm
  | cons a r =>
    intro _ hs hmem
    refine ⟨rfl, (hmem _).1 (by simp [Bit.firstN]), fun y hy => ?_⟩
    have := (hmem y).2 hy
    obtain ⟨n, hn, rfl⟩ := List.mem_map.1 this
    rcases List.mem_cons.1 hn with rfl | hn
    · simp [Bit.firstN]
    · have := (List.pairwise_cons.1 hs).1 n hn
      simp [Bit.firstN]
      omega
end
theorem nums_empty : Bit.someN (Bit.numsF (Bit.ofF [])) = false := by
  have : Bit.numsF (Bit.ofF []) = [] := by
    unfold Bit.numsF
    rw [List.filter_eq_nil_iff]
    intro n _
    simp [Bit.ofF]
  rw [this]
  rfl

/-- Whether a row is a way, or a cycle. -/
def IsIs (z : Int) (zs : List Ed) (l : List Int) (round : Bool) (w : World) (e : Ending) (w' : World) : Prop :=
  ∃ b : Bool, e = .returned (.bool b) ∧ Below w.heap.size w w' ∧ (b = true ↔ rightG z zs = true ∧ IsP zs z.toNat l round)
theorem IsP.way {zs : List Ed} {m : Nat} {l : List Int} {round : Bool} (h : IsP zs m l round) : IsW zs m l := by
  unfold IsP at h
  split at h
  · exact h.way
  · exact h

set_option maxRecDepth 100000 in
set_option maxHeartbeats 4000000 in
theorem is8_err (z : Int) (A A2 : Option Addr) (n c k c2 : Nat) (ek : Int) (round : Bool) (hk : (ek != 0) = true) (w : World) (hbeg : ∀ W, Below w.heap.size w W → Calls Tryd.prog 37 #[.agg #[.int .i64 z, .slice A n c], .slice A2 k c2] W (BegNo ek W)) :
    Calls Tryd.prog 24 #[.agg #[.int .i64 z, .slice A n c], .slice A2 k c2, .bool round] w fun e w' => e = .returned (.bool false) ∧ Below w.heap.size w w' := by
  obtain ⟨k0, b0⟩ := box_new w #[.int .i64 z, .slice A n c] 24
  have HB := Lib.hid (hbeg _ b0)
  have B0 := Lib.hid b0
  have x0 := k0.cell 0
  have x1 := k0.cell 1
  clear b0 hbeg k0
  go_enter Tryd.func24, Tryd.ntmps24
  go_wp2_with fail
  refine HB.out.mono ?_
  rintro e w2 ⟨rfl, b2⟩
  have B2 : Hid (Below w.heap.size w w2) := B0.out.trans (b2.mono B0.out.size)
  have B3 := Lib.hid (B2.out.alloc B2.out.size (.cells #[.slice none 0 0, .slice none 0 0] 69))
  clear b2 B0 x0 x1 B2
  go_wp2_with fail
  go_ret
  exact ⟨rfl, B3.out⟩

set_option maxRecDepth 100000 in
set_option maxHeartbeats 8000000 in
theorem is8_ok (m : Nat) (A A2 : Option Addr) (n c k c2 : Nat) (zs : List Ed) (l : List Int) (round : Bool) (hg : IsG (m : Int) zs) (hn : n ≤ 1000) (hnc : n ≤ c) (hk : k ≤ 100000) (hl : ∀ x ∈ l, 0 ≤ x ∧ x < (m : Int)) (w : World) (hT : Bit.Tab w) (hR : Reads w w.heap.size 3 A n (cellsE zs)) (hL : Reads w w.heap.size 1 A2 k (ints l)) :
    Calls Tryd.prog 24 #[.agg #[.int .i64 (m : Int), .slice A n c], .slice A2 k c2, .bool round] w fun e w' => ∃ b : Bool, e = .returned (.bool b) ∧ Below w.heap.size w w' ∧ (b = true ↔ IsP zs m l round) := by
  have hmn := hg.nodes
  have hl9 : ∀ x ∈ l, 0 ≤ x ∧ x < 10000 := fun x hx => by have := hl x hx; omega
  obtain ⟨k0, b0⟩ := box_new w #[.int .i64 (m : Int), .slice A n c] 24
  have HB := Lib.hid (begun_ok m A A2 n c k c2 zs l hg hn hnc (by omega) (by rw [List.all_eq_true]; intro x hx; exact decide_eq_true (hl x hx)) _ ((hR.below b0).more b0.size) ((hL.below b0).more b0.size))
  have B0 := Lib.hid b0
  have HG := Lib.hid hg
  have HL := Lib.hid hl
  have HL9 := Lib.hid hl9
  have HT := Lib.hid fun W (h : Below w.heap.size w W) => hT.on h
  have HR := Lib.hid fun W (h : Below w.heap.size w W) => ((hL.below h).more h.size)
  have HLL := Lib.hid (ints_len hL)
  have HM : Hid (m ≤ 300) := by show _ ≤ _; omega
  have x0 := k0.cell 0
  have x1 := k0.cell 1
  have HOF := Lib.hid fun W (h : Below w.heap.size w W) => Bit.of_yes A2 k c2 l (mayL_of hl9) (by omega) W ((hL.below h).more h.size)
  clear b0 k0 hR hL hg hl hl9 hT hmn hnc
  go_enter Tryd.func24, Tryd.ntmps24
  go_wp2_with fail
  refine HB.out.mono ?_
  rintro e w2 ⟨Sa, sc, rfl, hp2, b2⟩
  have hb3 := (Below.refl w2.heap.size w2).alloc (Nat.le_refl _) (.cells #[.slice A n c, .slice Sa (m + 1) sc] 69)
  have B3 : Hid (Below w.heap.size w (w2.alloc (.cells #[.slice A n c, .slice Sa (m + 1) sc] 69))) := B0.out.trans ((b2.mono B0.out.size).trans (hb3.mono (Nat.le_trans B0.out.size b2.size)))
  have KW := Lib.hid (Blk.new w2 69 #[.slice A n c, .slice Sa (m + 1) sc])
  have HP := Lib.hid (hp2.on hb3)
  clear b2 hb3 hp2 B0 HB x0 x1
  go_upto_region 2 with fail
  generalize w2.alloc (.cells #[.slice A n c, .slice Sa (m + 1) sc] 69) = w3 at *
  go_wp2_with fail
  refine (HOF.out w3 B3.out).mono ?_
  rintro e w4 ⟨Ab, nb, cb, rfl, how, b4⟩
  have hb5 := (Below.refl w4.heap.size w4).alloc (Nat.le_refl _) (.cells #[.slice Ab nb cb] 84)
  have B5 : Hid (Below w.heap.size w (w4.alloc (.cells #[.slice Ab nb cb] 84))) := B3.out.trans ((b4.mono B3.out.size).trans (hb5.mono (Nat.le_trans B3.out.size b4.size)))
  have B35 : Hid (Below w3.heap.size w3 (w4.alloc (.cells #[.slice Ab nb cb] 84))) := b4.trans (hb5.mono b4.size)
  have KB := Lib.hid (Blk.new w4 84 #[.slice Ab nb cb])
  have HW := Lib.hid (how.below hb5).reads
  have hnb : nb ≤ 157 := by
    have h1 := (how.below hb5).reads.len
    have h2 := Bit.set_len (Bit.ofF l)
    omega
  clear b4 hb5 how HOF
  go_upto_region 5 with fail
  generalize w4.alloc (.cells #[.slice Ab nb cb] 84) = w5 at *
  have c0 := KB.out.cell 0
  have HCT := Lib.hid (Bit.count_any Ab nb cb (Bit.setW (Bit.ofF l)) (Bit.can_set _).1 (by omega) w5 HW.out)
  rw [ofF_in HL9.out] at HCT
  have HCN := Lib.hid (nums_count HL9.out)
  by_cases hnd : l.Nodup
  · have hcb : (((Bit.numsF (Bit.ofF l)).length : Int) != (k : Int)) = false := by
      have h1 := HCN.out.2 hnd
      have h2 := HLL.out
      simp
      omega
    have HND := Lib.hid hnd
    have HFO := Lib.hid fun W (h : Below w5.heap.size w5 W) => follow8_any w2.heap.size A n c Sa sc m zs HG.out hn A2 k c2 l HL.out (by omega) W (HP.out.on ((B35.out.trans (h.mono B35.out.size)).mono (by have := KW.out.lt; omega))) (by have := KW.out.lt; have := B35.out.size; have := h.size; omega) (HR.out W (B5.out.trans (h.mono B5.out.size)))
    have HNX := Lib.hid fun W (h : Below w5.heap.size w5 W) => Bit.next_any Ab nb cb 0 0 rfl (by omega) (Bit.setW (Bit.ofF l)) (Bit.can_set _).1 (by omega) W (HT.out W (B5.out.trans (h.mono B5.out.size))) ((HW.out.below h).more h.size)
    rw [Bit.rem_nums, ofF_in HL9.out] at HNX
    generalize (Bit.numsF (Bit.ofF l)).length = cnt at *
    clear hnd HCN
    go_wp2_with fail
    refine HCT.out.mono ?_
    rintro e w6 ⟨rfl, b6⟩
    have B6 := Lib.hid b6
    have kw := (KW.out.below (B35.out.trans (b6.mono B35.out.size)) KW.out.lt)
    have z0 := kw.cell 0
    have z1 := kw.cell 1
    clear b6 HCT c0 kw
    have HFF := Lib.hid (HFO.out w6 B6.out)
    clear HFO
    cases hch : chainB zs l
    · rw [hch] at HFF
      have HNO : Hid (¬ IsP zs m l round) := fun h => by
        have := chainB_iff.2 h.way.on
        rw [hch] at this
        cases this
      clear hch HNX
      go_wp2_with fail
      refine HFF.out.mono ?_
      rintro e w7 ⟨rfl, b7⟩
      have B7 : Hid (Below w.heap.size w w7) := B5.out.trans ((B6.out.trans (b7.mono B6.out.size)).mono B5.out.size)
      clear b7
      go_wp2_with fail
      go_ret
      exact ⟨false, rfl, B7.out, (fun h => by cases h), fun h => absurd h HNO.out⟩
    · rw [hch] at HFF
      have HCH := Lib.hid (chainB_iff.1 hch)
      clear hch
      go_wp2_with fail
      refine HFF.out.mono ?_
      rintro e w7 ⟨rfl, b7⟩
      have B67 : Hid (Below w5.heap.size w5 w7) := B6.out.trans (b7.mono B6.out.size)
      have B7 : Hid (Below w.heap.size w w7) := B5.out.trans (B67.out.mono B5.out.size)
      have c7 := (KB.out.below B67.out KB.out.lt).cell 0
      have HN7 := Lib.hid (HNX.out w7 B67.out)
      clear b7 HNX HFF z0 z1 B6
      go_wp2_with fail
      refine HN7.out.mono ?_
      rintro e w8 ⟨rfl, b8⟩
      have B8 : Hid (Below w.heap.size w w8) := B7.out.trans (b8.mono B7.out.size)
      have B58 : Hid (Below w5.heap.size w5 w8) := B67.out.trans (b8.mono B67.out.size)
      clear b8 HN7 c7
      cases l with
      | nil =>
        rw [nums_empty]
        have HNO : Hid (¬ IsP zs m [] round) := fun h => h.way.any rfl
        generalize Bit.firstN (Bit.numsF (Bit.ofF [])) = fn at *
        go_upto_region 8 with fail
        go_quiet (fail)
        have B9 := Lib.hid (below_drewN B8.out nq)
        go_wp2_with fail
        go_ret
        exact ⟨false, rfl, B9.out, (fun h => by cases h), fun h => absurd h HNO.out⟩
      | cons a r =>
        have hls := nums_least HL9.out (List.cons_ne_nil a r)
        have HLS := Lib.hid hls.2
        rw [hls.1]
        clear hls
        have HWY : Hid (IsW zs m (a :: r)) := ⟨List.cons_ne_nil a r, HND.out, HL.out, HCH.out⟩
        obtain ⟨fn, hfn⟩ : ∃ fn, Bit.firstN (Bit.numsF (Bit.ofF (a :: r))) = fn := ⟨_, rfl⟩
        rw [hfn] at HLS ⊢
        clear hfn
        cases round with
        | false =>
          go_upto_region 8 with fail
          go_quiet (fail)
          have B9 := Lib.hid (below_drewN B8.out nq)
          go_wp2_with fail
          go_ret
          exact ⟨true, rfl, B9.out, fun _ => HWY.out, fun _ => rfl⟩
        | true =>
          obtain ⟨b, o, rfl, _, a0⟩ := row_at (k := 0) (HR.out w8 B8.out) rfl
          rw [Nat.add_zero] at a0
          have HKL := HLL.out
          have hk0 : (0 : Int) < (k : Int) := by simp at HKL; omega
          by_cases ha : a = (fn : Int)
          · have ha2 : (a == (fn : Int)) = true := by simp [ha]
            obtain ⟨k1, hk1⟩ : ∃ k1, k = k1 + 1 := ⟨k - 1, by omega⟩
            have hlast : (a :: r)[k1]? = some (endO (a :: r)) := by
              unfold endO
              rw [List.getLastD_eq_getLast?, List.getLast?_eq_getElem?, HKL, hk1, Nat.add_sub_cancel]
              rw [List.getElem?_eq_getElem (by omega)]
              rfl
            obtain ⟨b', o', e, _, a1⟩ := row_at (HR.out w8 B8.out) hlast
            injection e with e
            injection e with e1 e2
            subst e1; subst e2
            have hen := HL.out _ (List.mem_of_getElem? hlast)
            have hfm := HL.out a (.head _)
            obtain ⟨v, hv⟩ : ∃ v : Nat, endO (a :: r) = (v : Int) := ⟨(endO (a :: r)).toNat, by omega⟩
            have HV := Lib.hid hv
            rw [hv] at a1
            have HLD := Lib.hid (leads8_any w2.heap.size A n c Sa sc m zs HG.out hn v (fn : Int) (by omega) ⟨by omega, by have := HM.out; omega⟩ w8.drew (HP.out.on (((B35.out.trans (B58.out.mono B35.out.size)).drew).mono (by have := KW.out.lt; omega))) (by have := KW.out.lt; have := B35.out.size; have := B58.out.size; show _ ≤ w8.heap.size; omega))
            have kw := KW.out.below (B35.out.trans (B58.out.mono B35.out.size)) KW.out.lt
            have z0 := kw.cell 0
            have z1 := kw.cell 1
            have hw1 : IntKind.i64.wrap ((k : Int) - 1) = (k1 : Int) := by rw [IntKind.wrap_i64]; omega
            have hk10 : (0 : Int) ≤ (k1 : Int) := by omega
            have hk11 : (k1 : Int) < (k : Int) := by omega
            have hk12 : k1 < k := by omega
            have hkn : 0 < k := by omega
            have HA := Lib.hid ha
            have HRS : Hid (edB zs (v : Int) (fn : Int) = true ↔ IsP zs m (a :: r) true) := by
              show _ ↔ IsC zs m (a :: r)
              rw [edB_iff, ← HV.out]
              have e : (fn : Int) = a := HA.out.symm
              rw [e]
              constructor
              · intro h
                refine ⟨HWY.out, ?_, fun x hx => by have := HLS.out.2 x hx; show a ≤ x; omega, h⟩
                cases r with
                | nil => exact absurd h (EdR.irr HG.out.all a)
                | cons x r => simp
              · intro h
                exact h.back
            generalize edB zs (v : Int) (fn : Int) = bb at *
            clear hen hfm hlast hv ha HKL kw hk1
            go_upto_region 8 with fail
            go_still_tail 19, (by kernel_rfl)
            change wpList _ _ _ _ _ w8.drew
            have HD : Hid (Below w.heap.size w w8.drew) := B8.out.drew
            clear a0 a1 z0 z1
            generalize w8.drew = wd at *
            go_wp2_with fail
            refine HLD.out.mono ?_
            rintro e w9 ⟨rfl, b9⟩
            have B9 : Hid (Below w.heap.size w w9) := HD.out.trans (b9.mono HD.out.size)
            clear b9
            go_wp2_with fail
            go_ret
            exact ⟨bb, rfl, B9.out, HRS.out⟩
          · have ha2 : (a == (fn : Int)) = false := by simp [ha]
            have HNO : Hid (¬ IsP zs m (a :: r) true) := fun h => by
              have h1 : IsC zs m (a :: r) := h
              have h2 : a ≤ (fn : Int) := h1.least _ HLS.out.1
              have h3 := HLS.out.2 a (.head _)
              exact ha (by omega)
            clear HKL
            go_upto_region 8 with fail
            go_quiet (fail)
            have B9 := Lib.hid (below_drewN B8.out nq)
            go_wp2_with fail
            go_ret
            exact ⟨false, rfl, B9.out, (fun h => by cases h), fun h => absurd h HNO.out⟩
  · have hcb : (((Bit.numsF (Bit.ofF l)).length : Int) != (k : Int)) = true := by
      have h1 : ¬ _ := fun h => hnd (HCN.out.1 h)
      have h2 := HLL.out
      simp
      omega
    have HNO : Hid (¬ IsP zs m l round) := fun h => hnd h.way.once
    generalize (Bit.numsF (Bit.ofF l)).length = cnt at *
    clear hnd HCN
    go_wp2_with fail
    refine HCT.out.mono ?_
    rintro e w6 ⟨rfl, b6⟩
    have B6 : Hid (Below w.heap.size w w6) := B5.out.trans (b6.mono B5.out.size)
    clear b6 c0
    go_wp2_with fail
    go_ret
    exact ⟨false, rfl, B6.out, (fun h => by cases h), fun h => absurd h HNO.out⟩

theorem is8_any (g : GV) (A2 : Option Addr) (k c2 : Nat) (l : List Int) (round : Bool) (hn : g.n ≤ 1000) (hk : k ≤ 100000) (w : World) (hT : Bit.Tab w) (hR : g.ok w) (hL : Reads w w.heap.size 1 A2 k (ints l)) :
    Calls Tryd.prog 24 #[.agg #[.int .i64 g.z, .slice g.A g.n g.c], .slice A2 k c2, .bool round] w (IsIs g.z g.es l round w) := by
  cases hg : rightG g.z g.es
  · refine (is8_err g.z g.A A2 g.n g.c k c2 150 round rfl w fun W hb => begun_graph g.z g.A A2 g.n g.c k c2 g.es hg hn W ((hR.1.below hb).more hb.size)).mono ?_
    rintro e w' ⟨rfl, b⟩
    exact ⟨false, rfl, b, (fun h => by cases h), fun h => by rw [hg] at h; cases h.1⟩
  · have hgg := rightG_iff.1 hg
    have hmn := hgg.nodes
    obtain ⟨m, hm⟩ : ∃ m : Nat, g.z = (m : Int) := ⟨g.z.toNat, by omega⟩
    have hmt : g.z.toNat = m := by omega
    rw [hm] at hgg
    cases ha : l.all (nodeB (m : Int))
    · rw [hm]
      refine (is8_err (m : Int) g.A A2 g.n g.c k c2 2 round rfl w fun W hb => begun_arg m g.A A2 g.n g.c k c2 g.es l hgg hn (by omega) ha W ((hR.1.below hb).more hb.size) ((hL.below hb).more hb.size)).mono ?_
      rintro e w' ⟨rfl, b⟩
      refine ⟨false, rfl, b, (fun h => by cases h), fun h => ?_⟩
      have : l.all (nodeB (m : Int)) = true := by
        rw [List.all_eq_true]
        intro x hx
        have := h.2.way.ends x hx
        rw [Int.toNat_natCast] at this
        exact decide_eq_true this
      rw [ha] at this
      cases this
    · have hl : ∀ x ∈ l, 0 ≤ x ∧ x < (m : Int) := fun x hx => of_decide_eq_true (List.all_eq_true.1 ha x hx)
      have := is8_ok m g.A A2 g.n g.c k c2 g.es l round hgg hn hR.2.1 hk hl w hT hR.1 hL
      rw [hm]
      refine this.mono ?_
      rintro e w' ⟨b, rfl, hb, hi⟩
      refine ⟨b, rfl, hb, hi.trans ?_⟩
      rw [Int.toNat_natCast]
      exact ⟨fun h => ⟨rightG_iff.2 hgg, h⟩, fun h => h.2⟩
end Go.Proofs.YtgbpaiffnhpafaaDoor
