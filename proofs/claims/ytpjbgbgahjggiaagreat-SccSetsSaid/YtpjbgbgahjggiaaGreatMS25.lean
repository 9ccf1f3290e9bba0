/- Layer bits, the document's answers: Of: contract. -/
import Derived.Test.YtpjbgbgahjggiaaGreatMS20
import Derived.Test.YtpjbgbgahjggiaaGreatMS24
import Derived.StillTailTactics
import Derived.Deep.LoopGhost
import Derived.Maps.AppendAt
import Derived.Test.YtpjbgbgahjggiaaGreatWords
-- holds: YtpjbgbgahjggiaaGreatEr YtpjbgbgahjggiaaGreatERa YtpjbgbgahjggiaaGreatEs YtpjbgbgahjggiaaGreatEv YtpjbgbgahjggiaaGreatERb YtpjbgbgahjggiaaGreatERe
namespace Go.Proofs.YtpjbgbgahjggiaaGreat.Bit
open Go.RowKit

theorem OW.less_n {base n : Nat} {w : World} {A : Option Addr} {ws : List Nat} (h : OW base w A n ws) : ws.length = n := h.1
/-- A set that has been handed back. -/
def GotSet (ws : List Nat) (w : World) (e : Ending) (w' : World) : Prop :=
  ∃ s : SV, e = .returned (.agg #[.slice s.A s.n s.c]) ∧ s.ws = ws ∧ s.ok w' w'.heap.size ∧ OW w.heap.size w' s.A s.n s.ws ∧ Below w.heap.size w w'
def GotErr (ws : List Nat) (k : Int) (w : World) (e : Ending) (w' : World) : Prop :=
  ∃ s : SV, e = .returned (.tuple #[.agg #[.slice s.A s.n s.c], .int .i64 k]) ∧ s.ws = ws ∧ s.ok w' w'.heap.size ∧ OW w.heap.size w' s.A s.n s.ws ∧ Below w.heap.size w w'
theorem got_of {ws : List Nat} {w w' : World} {e : Ending} (h64 : W64 ws) (hl : ws.length ≤ 100000) (h : SetOk ws w e w') : GotSet ws w e w' := by
  obtain ⟨A, n, c, he, ho, hb⟩ := h
  have hn := ho.1
  exact ⟨⟨A, n, c, ws⟩, he, rfl, ⟨ho.reads, h64, by show n ≤ _; omega⟩, ho, hb⟩
theorem gotErr_of {ws : List Nat} {k : Int} {w w' : World} {e : Ending} (h64 : W64 ws) (hl : ws.length ≤ 100000) (h : SetErr ws k w e w') : GotErr ws k w e w' := by
  obtain ⟨A, n, c, he, ho, hb⟩ := h
  have hn := ho.1
  exact ⟨⟨A, n, c, ws⟩, he, rfl, ⟨ho.reads, h64, by show n ≤ _; omega⟩, ho, hb⟩
theorem setW_le (f : Nat → Bool) : (setW f).length ≤ 100000 := Nat.le_trans (set_len f) (by decide)

section
variable (s t : SV) (w : World)
end

/-- own: a copy of the first words. -/
theorem w_slice_h (A : Option Addr) (len cap h : Nat) (hh : h ≤ cap) (W : World) :
    (Instr.slice 36 (.slice A len cap) none (some (.int .i64 (h : Int))) none).run Tryz.prog W = .ok (.slice A h cap) W := by
  have e0 : Value.slice (if cap = 0 then A else A.map (·.add (0 * 1))) (h - 0) (cap - 0) = .slice A h cap := by
    have : (if cap = 0 then A else A.map (·.add (0 * 1))) = A := by
      split
      · rfl
      · cases A <;> simp [Addr.add]
    rw [this, Nat.sub_zero, Nat.sub_zero]
  rw [run_slice_h W 36 A len cap (show Tryz.prog.underlying 36 = some (.slice (Tryz.prog.elem 36)) by kernel_rfl) .i64 h (by omega) (by omega), elem_size]
  exact congrArg (fun v => Result.ok v W) e0
theorem OW.of_own {w : World} {base n c : Nat} {A : Option Addr} {ws : List Nat} (h : w.ownsRow base 74 1 (.slice A n c) n (wcells ws)) : OW base w A n ws := by
  have hl : ws.length = n := by have := h.1; rw [wcells_length] at this; omega
  refine ⟨hl, fun hn => ?_⟩
  rcases h.2 with ⟨hv, h0⟩ | ⟨g, cap, cur, hv, hb, hh, hnc, hcm, hsz, htk⟩
  · omega
  · injection hv with hA _ _
    refine ⟨g, cur, hA, hb, hh, fun j u hu => ?_⟩
    rw [← htk, List.getElem?_take] at hu
    split at hu
    · rw [Array.getElem?_toList] at hu; exact hu
    · cases hu

theorem SV.ok.more {w : World} {B B' : Nat} {s : SV} (h : s.ok w B) (hB : B ≤ B') : s.ok w B' := ⟨h.1.more hB, h.2.1, h.2.2⟩
theorem SV.ok.on {w w' : World} {s : SV} (h : s.ok w w.heap.size) (hb : Below w.heap.size w w') : s.ok w' w'.heap.size := (h.below hb).more hb.size
end Go.Proofs.YtpjbgbgahjggiaaGreat.Bit
namespace Go.Proofs.YtpjbgbgahjggiaaGreat.Bit
open Go.RowKit

theorem rhas_any (A : Option Addr) (n c : Nat) (l : List Int) (z : Int) (hn : n ≤ 1000000) (w : World) (hR : RI w w.heap.size A n l) : Calls Tryz.prog 35 #[.slice A n c, .int .i64 z] w fun e w' => e = .returned (.bool (decide (z ∈ l))) ∧ w' = w := by
  have HR := Lib.hid hR
  have HL := Lib.hid hR.len
  clear hR
  go_enter Tryz.func35, Tryz.ntmps35
  go_wp2_with fail
  go_loop [9] (fun i => ∃ k : Nat, k ≤ n ∧ i = .int .i64 k ∧ Hid (¬ z ∈ l.take k)) (fun i => n - (intOf i).toNat)
  case atStart => exact ⟨0, Nat.zero_le _, rfl, by show ¬ _; simp⟩
  case round =>
    obtain ⟨k, hk, rfl, HN⟩ := hrel
    by_cases hlt : k < n
    · obtain ⟨b, o, rfl, hb, hc⟩ := HR.out.at_ hlt
      have hkl : k < l.length := by rw [HL.out]; exact hlt
      have HM := Lib.hid (getD_mem' hkl)
      have HT := Lib.hid (take_snoc' (d := (0 : Int)) hkl)
      generalize l.getD k 0 = y at *
      by_cases hy : y = z
      · have hq : (y == z) = true := by simpa using hy
        have HX : Hid (decide (z ∈ l) = true) := decide_eq_true (by rw [← hy]; exact HM.out)
        clear hy
        go_wp2_with fail
        go_ret
        exact ⟨by rw [HX.out]; rfl, rfl⟩
      · have hq : (y == z) = false := by simpa using hy
        have HN2 : Hid (¬ z ∈ l.take (k + 1)) := by
          show ¬ _
          rw [HT.out]
          simp only [List.mem_append, List.mem_singleton, not_or]
          exact ⟨HN.out, fun e => hy e.symm⟩
        clear hy
        go_wp2_with fail
        go_round
        case rel => exact ⟨k + 1, by omega, by go_num, HN2⟩
        case measure => simp [intOf]; omega
    · obtain rfl : k = n := by omega
      have HX : Hid (decide (z ∈ l) = false) := decide_eq_false (by
        have := HN.out
        rw [List.take_of_length_le (by rw [HL.out]; exact Nat.le_refl _)] at this
        exact this)
      go_wp2_with fail
      go_ret
      exact ⟨by rw [HX.out]; rfl, rfl⟩

set_option maxRecDepth 100000 in
set_option maxHeartbeats 2000000 in
theorem rsame_any (A B : Option Addr) (n c m d : Nat) (xs ys : List Nat) (hn : n ≤ 1000000) (hm : m ≤ 1000000) (w : World) (hA : RW w w.heap.size A n xs) (hB : RW w w.heap.size B m ys) :
    Calls Tryz.prog 16 #[.agg #[.slice A n c], .agg #[.slice B m d]] w fun e w' => e = .returned (.bool (decide (xs = ys))) ∧ Below w.heap.size w w' := by
  have HL := Lib.hid hA.len
  have HL2 := Lib.hid hB.len
  obtain ⟨q0, q1, hsz, hb0⟩ := two_boxes w (.slice A n c) (.slice B m d) 38 38
  have HA := Lib.hid (hA.below hb0)
  have HB := Lib.hid (hB.below hb0)
  clear hA hB
  clear hsz
  by_cases hnm : n = m
  · subst hnm
    go_enter Tryz.func16, Tryz.ntmps16
    go_wp2_with fail
    generalize (w.alloc (.cells #[.slice A n c] 38)).alloc (.cells #[.slice B n d] 38) = W0 at *
    go_loop [17] (fun i => ∃ k : Nat, k ≤ n ∧ i = .int .i64 k ∧ Hid (xs.take k = ys.take k)) (fun i => n - (intOf i).toNat)
    case atStart => exact ⟨0, Nat.zero_le _, rfl, rfl⟩
    case round =>
      obtain ⟨k, hk, rfl, HT⟩ := hrel
      by_cases hlt : k < n
      · obtain ⟨b, o, rfl, hb, hc⟩ := HA.out.at_ hlt
        obtain ⟨b2, o2, rfl, hb2, hc2⟩ := HB.out.at_ hlt
        have H1 := Lib.hid (take_snoc' (d := 0) (show k < xs.length by rw [HL.out]; omega))
        have H2 := Lib.hid (take_snoc' (d := 0) (show k < ys.length by rw [HL2.out]; omega))
        have HNE := Lib.hid (@take_ne _ xs ys k (0 : Nat))
        generalize xs.getD k 0 = x at *
        generalize ys.getD k 0 = y at *
        by_cases hxy : x = y
        · subst hxy
          go_wp2_with fail
          go_round
          case rel => exact ⟨k + 1, by omega, by go_num, by show _ = _; rw [H1.out, H2.out, HT.out]⟩
          case measure => simp [intOf]; omega
        · have hq : (((x : Nat) : Int) != ((y : Nat) : Int)) = true := by simp; omega
          have HX : Hid (decide (xs = ys) = false) := decide_eq_false (HNE.out hxy)
          clear hxy
          go_wp2_with fail
          go_ret
          exact ⟨by rw [HX.out]; rfl, hb0⟩
      · obtain rfl : k = n := by omega
        have HX : Hid (decide (xs = ys) = true) := decide_eq_true (by
          have := HT.out
          rw [List.take_of_length_le (by rw [HL.out]; exact Nat.le_refl _), List.take_of_length_le (by rw [HL2.out]; exact Nat.le_refl _)] at this
          exact this)
        go_wp2_with fail
        go_ret
        exact ⟨by rw [HX.out]; rfl, hb0⟩
  · have hq : (((n : Int) != (m : Int)) = true) := by simp; omega
    have HX : Hid (decide (xs = ys) = false) := decide_eq_false fun e => hnm (by rw [← HL.out, ← HL2.out, e])
    go_enter Tryz.func16, Tryz.ntmps16
    go_wp2_with fail
    go_ret
    exact ⟨by rw [HX.out]; rfl, hb0⟩
end Go.Proofs.YtpjbgbgahjggiaaGreat.Bit
namespace Go.Proofs.YtpjbgbgahjggiaaGreat.Bit
open Go.RowKit

theorem k1 : setW (ofF [3, 64, 3]) = [8, 1] := by decide +kernel
theorem k2 : numsF (inW [8, 1]) = [3, 64] := by decide +kernel
theorem k3 : remS (effW [8, 1]) 4 = [64] := by decide +kernel
theorem k4 : checkE [1, 0] = 140 := by decide +kernel
theorem k5 : mayL [3, 64, 3] := by unfold mayL; decide
theorem k6 : ¬ mayL [10000] := by unfold mayL; decide

/-- A row of numbers, of words, laid by the call. -/
theorem built_i (w : World) (zs : List Int) : RI (w.alloc (.cells (ints zs).toArray 3)) (w.alloc (.cells (ints zs).toArray 3)).heap.size (some ⟨w.heap.size, 0, none⟩) zs.length zs :=
  ⟨by rw [ints_length]; omega, fun _ => ⟨_, rfl, by show w.heap.size < _; simp, fun j u hu => by
    rw [Go.WideShapes.add_plain, (Blk.new w 3 (ints zs).toArray).cell, Nat.zero_add, List.getElem?_toArray]; exact hu⟩⟩
theorem built_u (w : World) (ws : List Nat) : RW (w.alloc (.cells (wcells ws).toArray 74)) (w.alloc (.cells (wcells ws).toArray 74)).heap.size (some ⟨w.heap.size, 0, none⟩) ws.length ws :=
  ⟨by rw [wcells_length]; omega, fun _ => ⟨_, rfl, by show w.heap.size < _; simp, fun j u hu => by
    rw [Go.WideShapes.add_plain, (Blk.new w 74 (wcells ws).toArray).cell, Nat.zero_add, List.getElem?_toArray]; exact hu⟩⟩
theorem one_more (w : World) (o : Obj) : Below w.heap.size w (w.alloc o) := (Below.refl _ _).alloc (Nat.le_refl _) _

theorem at_g {W : World} {g : Nat} (hg : W.heap.size = g) (zs : List Int) : RI (W.alloc (.cells (ints zs).toArray 3)) (W.alloc (.cells (ints zs).toArray 3)).heap.size (some ⟨g, 0, none⟩) zs.length zs := by
  subst hg; exact built_i W zs
theorem at_gu {W : World} {g : Nat} (hg : W.heap.size = g) (ws : List Nat) : RW (W.alloc (.cells (wcells ws).toArray 74)) (W.alloc (.cells (wcells ws).toArray 74)).heap.size (some ⟨g, 0, none⟩) ws.length ws := by
  subst hg; exact built_u W ws

end Go.Proofs.YtpjbgbgahjggiaaGreat.Bit
namespace Go.Proofs.YtpjbgbgahjggiaaGreat.Bit
open Go.RowKit

theorem mem_intsN {l : List Nat} {n : Nat} : ((n : Int) ∈ intsN l) ↔ n ∈ l := by
  unfold intsN
  rw [List.mem_map]
  exact ⟨fun ⟨a, ha, e⟩ => by have : a = n := by omega
                              rwa [← this], fun h => ⟨n, h, rfl⟩⟩
theorem ofF_intsN (l : List Nat) (n : Nat) : ofF (intsN l) n = decide (n ∈ l) := by
  unfold ofF
  exact decide_eq_decide.2 mem_intsN
theorem may_intsN {l : List Nat} (h : ∀ n ∈ l, n < 10000) : mayL (intsN l) := by
  intro z hz
  unfold intsN at hz
  obtain ⟨n, hn, rfl⟩ := List.mem_map.1 hz
  have := h n hn
  unfold mayB; simp; omega
theorem ofF_nums (xs : List Nat) : setW (ofF (intsN (numsF (inW xs)))) = setW (inW xs) := set_congr fun n hn => by
  rw [ofF_intsN]
  cases hb : inW xs n with
  | false =>
    refine decide_eq_false fun h => ?_
    have := (mem_nums.1 h).2
    rw [hb] at this; cases this
  | true => exact decide_eq_true (mem_nums.2 ⟨hn, hb⟩)
theorem intsN_getD {l : List Nat} {k : Nat} (h : k < l.length) : (intsN l).getD k 0 = ((l.getD k 0 : Nat) : Int) := by
  unfold intsN
  rw [List.getD_eq_getElem?_getD, List.getElem?_map, List.getD_eq_getElem?_getD, List.getElem?_eq_getElem h]
  rfl
theorem intsN_len (l : List Nat) : (intsN l).length = l.length := by unfold intsN; simp
/-- What comes behind the k-th number. -/
theorem drop_from {l : List Nat} (hs : l.Pairwise (· < ·)) {k : Nat} (hk : k < l.length) : (l.filter fun n => decide (l.getD k 0 + 1 ≤ n)) = l.drop (k + 1) := by
  have e0 : l.getD k 0 = l[k] := by rw [List.getD_eq_getElem?_getD, List.getElem?_eq_getElem hk]; rfl
  rw [e0]
  have e1 : (l.filter fun n => decide (l[k] + 1 ≤ n)) = (l.take (k + 1)).filter (fun n => decide (l[k] + 1 ≤ n)) ++ (l.drop (k + 1)).filter (fun n => decide (l[k] + 1 ≤ n)) := by
    rw [← List.filter_append, List.take_append_drop]
  rw [e1]
  have h1 : (l.take (k + 1)).filter (fun n => decide (l[k] + 1 ≤ n)) = [] := List.filter_eq_nil_iff.2 fun n hn => by
    obtain ⟨i, hi, rfl⟩ := List.getElem_of_mem hn
    rw [List.length_take] at hi
    rw [List.getElem_take]
    rcases Nat.lt_or_ge i k with h | h
    · have := List.pairwise_iff_getElem.1 hs i k (by omega) hk h
      simp; omega
    · have : i = k := by omega
      subst this; simp
  have h2 : (l.drop (k + 1)).filter (fun n => decide (l[k] + 1 ≤ n)) = l.drop (k + 1) := List.filter_eq_self.2 fun n hn => by
    obtain ⟨i, hi, rfl⟩ := List.getElem_of_mem hn
    rw [List.length_drop] at hi
    rw [List.getElem_drop]
    have := List.pairwise_iff_getElem.1 hs k (k + 1 + i) hk (by omega) (by omega)
    simp; omega
  rw [h1, h2, List.nil_append]
theorem first_drop {l : List Nat} {k : Nat} (hk : k < l.length) : firstN (l.drop k) = l.getD k 0 ∧ someN (l.drop k) = true := by
  rw [List.drop_eq_getElem_cons hk, List.getD_eq_getElem?_getD, List.getElem?_eq_getElem hk]
  exact ⟨rfl, rfl⟩
theorem first_none {l : List Nat} {k : Nat} (hk : l.length ≤ k) : firstN (l.drop k) = 0 ∧ someN (l.drop k) = false := by
  rw [List.drop_of_length_le hk]
  exact ⟨rfl, rfl⟩

/-- Numbers that rise. -/
def Rises (zs : List Int) : Prop := zs.Pairwise (· < ·)
theorem rises_intsN {l : List Nat} (h : l.Pairwise (· < ·)) : Rises (intsN l) := by
  unfold Rises intsN
  rw [List.pairwise_map]
  exact h.imp fun {a b} hab => by omega

end Go.Proofs.YtpjbgbgahjggiaaGreat.Bit
namespace Go.Proofs.YtpjbgbgahjggiaaGreat.Bit
open Go.RowKit Go.Shelf
attribute [local go_sem] Oper.semAt_some

/-- The numbers of words under a bound, rising. -/
def upW (ws : List Nat) (m : Nat) : List Nat := (List.range m).filter (hasW ws)
theorem up_no {ws : List Nat} {m : Nat} (h : hasW ws m = false) : upW ws (m + 1) = upW ws m := by
  unfold upW; rw [List.range_succ, List.filter_append]; simp [h]
theorem up_yes {ws : List Nat} {m : Nat} (h : hasW ws m = true) : upW ws (m + 1) = upW ws m ++ [m] := by
  unfold upW; rw [List.range_succ, List.filter_append]; simp [h]
theorem up_len (ws : List Nat) (m : Nat) : (upW ws m).length ≤ m := by
  unfold upW
  exact Nat.le_trans (List.length_filter_le _ _) (by simp)
theorem up_none {ws : List Nat} {m : Nat} : ∀ k, (∀ j, j < k → hasW ws (m + j) = false) → upW ws (m + k) = upW ws m
  | 0, _ => rfl
  | k + 1, h => by
    rw [← Nat.add_assoc, up_no (h k (by omega)), up_none k fun j hj => h j (by omega)]
theorem own_block1 {w : World} {base : Nat} {e : TypeId} {v : Value} {n : Nat} {xs : List Value} (h : w.ownsRow base e 1 v n xs) : ∀ b, v.ownBlock = some b → base ≤ b := by
  intro b hb
  rcases h.2 with ⟨rfl, _⟩ | ⟨g, cap, cur, rfl, hg, _⟩
  · cases hb
  · have e : some g = some b := hb
    injection e with e
    omega

/-- What 'numbers' has gathered. -/
structure NumIs (w : World) (ws : List Nat) (m : Nat) (v : Value) (wr : World) : Prop where
  own : wr.ownsRow w.heap.size 3 1 v (upW ws m).length (ints (intsN (upW ws m)))
  below : Below w.heap.size w wr

theorem NumIs.skip {w wr : World} {ws : List Nat} {m : Nat} {v : Value} (h : NumIs w ws m v wr) (hm : hasW ws m = false) : NumIs w ws (m + 1) v wr := ⟨by rw [up_no hm]; exact h.own, h.below⟩
theorem NumIs.cast {w wr : World} {ws : List Nat} {m m' : Nat} {v : Value} (e : m = m') (h : NumIs w ws m v wr) : NumIs w ws m' v wr := e ▸ h

end Go.Proofs.YtpjbgbgahjggiaaGreat.Bit
namespace Go.Proofs.YtpjbgbgahjggiaaGreat.Bit
open Go.RowKit Go.Shelf
attribute [local go_sem] Oper.semAt_some

/-- A row in a box, while it grows. -/
structure RowIs (w : World) (N : Nat) (A : Option Addr) (c : Nat) (wr : World) : Prop where
  box : Blk wr (w.heap.size + 1) 38 #[.slice A N c]
  own : wr.ownsRow (w.heap.size + 2) 74 1 (.slice A N c) N (wcells (List.replicate N 0))
  ret : Blk wr w.heap.size 38 #[.slice none 0 0]
  below : Below w.heap.size w wr
/-- Words in a box, while they are filled. -/
structure PutIs (w : World) (N : Nat) (A : Option Addr) (c : Nat) (ws : List Nat) (wr : World) : Prop where
  box : Blk wr (w.heap.size + 1) 38 #[.slice A N c]
  own : OW (w.heap.size + 2) wr A N ws
  ret : Blk wr w.heap.size 38 #[.slice none 0 0]
  below : Below w.heap.size w wr
theorem PutIs.put {w wr : World} {N c i x : Nat} {A : Option Addr} {ws ws' : List Nat} (h : PutIs w N A c ws wr) (hi : i < N) (hw : ws.set i x = ws') :
    ∃ g u, A = some ⟨g, 0, none⟩ ∧ wr.cell? ⟨g, i, none⟩ = some u ∧ wr.frozen? ⟨g, i, none⟩ = false ∧ PutIs w N A c ws' (wr.setCell ⟨g, i, none⟩ (.int .u64 (x : Int))) := by
  have hl := h.own.1
  obtain ⟨g, cs, rfl, hg, hb, hc⟩ := h.own.2 (by omega)
  have hcell : ∃ u, cs[i]? = some u := ⟨_, hc i _ (wcells_at (by omega))⟩
  obtain ⟨u, hu⟩ := hcell
  refine ⟨g, u, rfl, by rw [hb.cell]; exact hu, hb.frozen i, h.box.far (p := ⟨g, i, none⟩) (by show w.heap.size + 1 ≠ g; omega) _, ⟨by rw [← hw]; simp [hl], fun _ => ⟨g, _, rfl, hg, hb.set_ i _, fun j v hv => ?_⟩⟩, h.ret.far (p := ⟨g, i, none⟩) (by show w.heap.size ≠ g; omega) _, h.below.setCell (p := ⟨g, i, none⟩) (by show w.heap.size ≤ g; omega) _⟩
  have hi2 : i < cs.size := by
    rcases Nat.lt_or_ge i cs.size with h1 | h1
    · exact h1
    · rw [Array.getElem?_eq_none h1] at hu; cases hu
  rw [← hw, ← wcells_set, List.getElem?_set] at hv
  rw [Array.getElem?_setIfInBounds]
  by_cases e : i = j
  · rw [if_pos e] at hv
    rw [if_pos e, if_pos hi2]
    split at hv
    · exact hv
    · cases hv
  · rw [if_neg e] at hv
    rw [if_neg e]
    exact hc j v hv
theorem RowIs.grow {w wr w2 : World} {N c c3 : Nat} {A A3 : Option Addr} {o : Obj} (h : RowIs w N A c wr) (hown : w2.ownsRow (w.heap.size + 2) 74 1 (.slice A3 (N + 1) c3) (N + 1) (wcells (List.replicate N 0) ++ [.int .u64 0])) (hg : (wr.alloc o).grownBy w2 (Value.slice A N c).ownBlock) :
    w2.cell? ⟨w.heap.size + 1, 0, none⟩ = some (.slice A N c) ∧ w2.frozen? ⟨w.heap.size + 1, 0, none⟩ = false ∧ RowIs w (N + 1) A3 c3 (w2.setCell ⟨w.heap.size + 1, 0, none⟩ (.slice A3 (N + 1) c3)) := by
  have hne : ∀ b, b < w.heap.size + 2 → some b ≠ (Value.slice A N c).ownBlock := fun b hb e => by have := own_block1 h.own _ e.symm; omega
  have b1 := (h.box.alloc o).grown hg fun e => hne _ (by omega) e
  have b2 := (h.ret.alloc o).grown hg fun e => hne _ (by omega) e
  have b3 : Below w.heap.size w w2 := (h.below.alloc h.below.size o).grown hg (by simp; have := h.below.size; omega) (fun b e => by have := own_block1 h.own _ e; omega)
  refine ⟨b1.cell 0, b1.frozen 0, b1.set_ 0 _, ?_, b2.far (p := ⟨w.heap.size + 1, 0, none⟩) (by show w.heap.size ≠ w.heap.size + 1; omega) _, b3.setCell (p := ⟨w.heap.size + 1, 0, none⟩) (by show w.heap.size ≤ w.heap.size + 1; omega) _⟩
  have := hown.kept (grownBy_setCell' w2 (w.heap.size + 1) (.slice A3 (N + 1) c3)) (.inr fun e => by have := own_block1 hown _ e; omega)
  rwa [show wcells (List.replicate N 0) ++ [.int .u64 0] = wcells (List.replicate (N + 1) 0) by rw [wcells_zero, wcells_zero, List.replicate_succ']] at this
theorem RowIs.put {w wr : World} {N c : Nat} {A : Option Addr} {ws : List Nat} (h : RowIs w N A c wr) (e : ws = List.replicate N 0) : PutIs w N A c ws wr := ⟨h.box, by rw [e]; exact OW.of_own h.own, h.ret, h.below⟩

set_option maxRecDepth 100000 in
set_option maxHeartbeats 4000000 in
theorem rof_any (A : Option Addr) (n c : Nat) (l : List Int) (hl : mayL l) (hn : n ≤ 100000) (w : World) (hA : RI w w.heap.size A n l) :
    Calls Tryz.prog 17 #[.slice A n c] w (SetOk (setW (ofF l)) w) := by
  obtain ⟨i0, hi, hz0, hz1, hz2⟩ := info_parts u64_info
  have HL := Lib.hid hl
  have HLN := Lib.hid hA.len
  have HR := Lib.hid fun W (h : Below w.heap.size w W) => hA.below h
  have hR0 : Hid (RowIs w 0 none 0 ((w.alloc (.cells #[.slice none 0 0] 38)).alloc (.cells #[.slice none 0 0] 38))) := by
    have b1 := Blk.new (w.alloc (.cells #[.slice none 0 0] 38)) 38 #[.slice none 0 0]
    rw [World.size_alloc] at b1
    exact ⟨b1, World.ownsRow_nil _ _ _ _, (Blk.new w _ _).alloc _, (one_more w _).trans ((one_more _ _).mono (by simp))⟩
  have HHAS := Lib.hid fun W (h : Below w.heap.size w W) z => rhas_any A n c l z (by omega) W ((hA.below h).more h.size)
  clear hA hl
  go_enter Tryz.func17, Tryz.ntmps17
  go_wp2_with fail
  go_loopw [11] (fun i wr => ∃ (k N : Nat) (A1 : Option Addr) (c1 : Nat), k ≤ n ∧ i = .int .i64 k ∧ N ≤ 157 ∧ Hid (TopIs l k N) ∧ Hid (RowIs w N A1 c1 wr)) (fun i _ => n - (intOf i).toNat)
  case atStart => exact ⟨0, 0, none, 0, Nat.zero_le _, rfl, by omega, top_start l, hR0⟩
  case round =>
    clear hR0
    obtain ⟨k, N, A1, c1, hk, rfl, hN, HT, HW⟩ := hrel
    by_cases hlt : k < n
    · obtain ⟨b, o, rfl, hb, hc⟩ := (HR.out _ HW.out.below).at_ hlt
      have hkl : k < l.length := by rw [HLN.out]; exact hlt
      obtain ⟨m, hz, hm⟩ := may_nat (HL.out _ (getD_mem' hkl))
      have HST := Lib.hid fun M => top_step (M := M) HT.out hkl hz
      rw [hz] at hc
      clear hz hkl HT
      go_wp2_with fail
      go_loopg [15] (m / 64 + 1) (fun gg _ wr => ∃ (M : Nat) (A2 : Option Addr) (c2 : Nat), N ≤ M ∧ M ≤ 157 ∧ m / 64 + 1 ≤ M + gg ∧ (M = N ∨ M ≤ m / 64 + 1) ∧ Hid (RowIs w M A2 c2 wr))
      case atStart => exact ⟨N, A1, c1, Nat.le_refl _, hN, by omega, .inl rfl, HW⟩
      case round =>
        clear HW
        obtain ⟨M, A2, c2, h1, h2, h3, h4, HW⟩ := hrel
        have c0 := HW.out.box.cell 0
        have d4 : IntKind.i64.wrap ((m : Int) / 64) = (m : Int) / 64 := IntWalk.i64_in _ (by omega)
        by_cases hMm : M ≤ m / 64
        · have hq : decide ((M : Int) ≤ (m : Int) / 64) = true := by simp; omega
          have OW2 := Lib.hid (HW.out.own.alloc (.cells #[.int .u64 0] 74))
          have hs1 := HW.out.below.size
          have HW0 := Lib.hid HW
          clear HW
          go_wp2_with (at_builtin; refine wpList_append_own _ rfl (.tmp 22) (.tmp 23) 36 rfl (w.heap.size + 2) 74 i0 _ 1 8 Tryz.underlying36 hi hz0 hz1 hz2 rfl (by decide) _ _ _ rfl OW2.out ⟨wr.heap.size, 0, none⟩ 1 1 [.int .u64 0] rfl rfl (cell_one_new _ _ _) (by simp [Value.oneCell']) (by unfold maxLen; omega) (by omega) (by have := HW0.out.out.box.lt; simp; omega) ?_; intro v' w2 hown' hgrow _; obtain ⟨A3, c3, rfl, _, _⟩ := own_form1 hown'; obtain ⟨g0, g1, HW3⟩ := HW0.out.out.grow hown' hgrow; have HW4 := Lib.hid HW3; clear hown' hgrow HW3)
          clear HW0 OW2
          go_wp2_with fail
          go_roundg (m / 64 - M)
          case measure => omega
          case rel => exact ⟨M + 1, A3, c3, by omega, by omega, by omega, .inr (by omega), HW4⟩
        · have hq : decide ((M : Int) ≤ (m : Int) / 64) = false := by simp; omega
          have HT2 := Lib.hid (HST.out M h1 (by omega) (by omega))
          go_wp2_with fail
          go_roundw
          case rel => exact ⟨k + 1, M, A2, c2, by omega, by go_num, by omega, HT2, HW⟩
          case measure => simp [intOf]; omega
    · obtain rfl : k = n := by omega
      have HT2 := Lib.hid HT.out
      rw [← HLN.out] at HT2
      have HFS := Lib.hid (fill_set HT2.out HL.out)
      have HP0 := Lib.hid (HW.out.put (part_zero l N))
      have c0 := HW.out.box.cell 0
      clear HT HT2
      go_wp2_with fail
      go_loopw [30] (fun i wr => ∃ j : Nat, j ≤ N ∧ i = .int .i64 j ∧ Hid (PutIs w N A1 c1 (partW l N j) wr)) (fun i _ => N - (intOf i).toNat)
      case atStart => exact ⟨0, Nat.zero_le _, rfl, HP0⟩
      case round =>
        clear HP0 HW c0
        obtain ⟨j, hj, rfl, HP⟩ := hrel
        have c0 := HP.out.box.cell 0
        by_cases hjl : j < N
        · have HH := Lib.hid (HHAS.out _ HP.out.below)
          have HPUT := Lib.hid fun x hx => HP.out.put (i := j) (x := x) hjl (part_set hjl hx)
          go_wp2_with fail
          go_loop [7, 33] (fun y i => ∃ (q x : Nat), q ≤ 64 ∧ i = .int .i64 q ∧ y = .int .u64 (x : Int) ∧ Hid (x = 2 ^ (64 - q) * bitsF (fun k => ofF l (64 * j + k)) q)) (fun _ i => 64 - (intOf i).toNat)
          case atStart => exact ⟨0, 0, by omega, rfl, rfl, by show _ = _; simp [bitsF]⟩
          case round =>
            obtain ⟨q, x, hq, rfl, rfl, HX⟩ := hrel
            have hx := word_lt hq HX.out
            by_cases hql : q < 64
            · have HST := Lib.hid (word_step hql HX.out)
              have x1 : IntKind.i64.wrap (64 * (j : Int)) = 64 * (j : Int) := IntWalk.i64_in _ (by omega)
              have x2 : IntKind.i64.wrap (64 * (j : Int) + (q : Int)) = 64 * (j : Int) + (q : Int) := IntWalk.i64_in _ (by omega)
              have HC := Lib.hid (HH.out (64 * (j : Int) + (q : Int)))
              have hm : decide ((64 * (j : Int) + (q : Int)) ∈ l) = ofF l (64 * j + q) := by unfold ofF; push_cast; rfl
              rw [hm] at HC
              clear hm
              rcases Bool.eq_false_or_eq_true (ofF l (64 * j + q)) with hb | hb
              · rw [hb] at HC
                have HN : Hid (x / 2 + 9223372036854775808 = 2 ^ (64 - (q + 1)) * bitsF (fun k => ofF l (64 * j + k)) (q + 1)) := by
                  have := HST.out
                  rwa [if_pos hb] at this
                have x3 : IntKind.u64.wrap ((x : Int) / 2 + 9223372036854775808) = ((x / 2 + 9223372036854775808 : Nat) : Int) := by
                  rw [IntKind.wrap_u64]; omega
                clear hb
                go_wp2_with fail
                refine HC.out.mono ?_
                rintro e w1 ⟨rfl, rfl⟩
                go_wp2_with fail
                go_round
                case rel => exact ⟨q + 1, x / 2 + 9223372036854775808, by omega, by go_num, by go_num, HN⟩
                case measure => simp [intOf]; omega
              · rw [hb] at HC
                have HN : Hid (x / 2 = 2 ^ (64 - (q + 1)) * bitsF (fun k => ofF l (64 * j + k)) (q + 1)) := by
                  have := HST.out
                  rwa [if_neg (by rw [hb]; decide), Nat.add_zero] at this
                clear hb
                go_wp2_with fail
                refine HC.out.mono ?_
                rintro e w1 ⟨rfl, rfl⟩
                go_wp2_with fail
                go_round
                case rel => exact ⟨q + 1, x / 2, by omega, by go_num, by go_num, HN⟩
                case measure => simp [intOf]; omega
            · obtain rfl : q = 64 := by omega
              have hxe : bitsF (fun k => ofF l (64 * j + k)) 64 = x := by have := HX.out; rw [this]; simp
              obtain ⟨g, u, rfl, hc1, hf1, HP2⟩ := HPUT.out x hxe
              have HP3 := Lib.hid HP2
              clear HP2 HPUT HX hxe
              go_wp2_with fail
              go_roundw
              case rel => exact ⟨j + 1, by omega, by go_num, HP3⟩
              case measure => simp [intOf]; omega
        · obtain rfl : j = N := by omega
          have zc := HP.out.ret.cell 0
          have zf := HP.out.ret.frozen 0
          have hz := World.cell?_setCell_same' wr ⟨w.heap.size, 0, none⟩ (.slice A1 j c1) (by rw [zc]; rfl)
          have HE := Lib.hid (set_end (c := c1) (HP.out.own.less (by omega)) HP.out.ret HP.out.below (Nat.le_refl _) ((part_end l j).trans HFS.out))
          clear HP
          go_wp2_with fail
          exact bodyPost_ret (v := .agg #[.slice A1 j c1]) (by simp [results, Tryz.results17, go_sem, hz]) rfl HE.out
end Go.Proofs.YtpjbgbgahjggiaaGreat.Bit
