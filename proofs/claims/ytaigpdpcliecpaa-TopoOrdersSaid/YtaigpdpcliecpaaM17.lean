/- The laws of layer topo: edges asked by the laws' closures: contracts. -/
import Derived.Sort.LoopGhostIn
import Derived.Test.YtaigpdpcliecpaaM14
import Derived.Test.YtaigpdpcliecpaaM16
import Derived.Scope
import Derived.Shelf.RegionOpen
import Derived.Test.YtaigpdpcliecpaaM11
import Derived.Test.YtaigpdpcliecpaaM10
import Derived.Test.YtaigpdpcliecpaaM7
import Derived.Maps.OwnSet
import Derived.Maps.Own
import Derived.Maps.Keyed
import Derived.Maps.Views
-- holds: YtaigpdpcliecpaaTn YtaigpdpcliecpaaTo YtaigpdpcliecpaaTp YtaigpdpcliecpaaTq YtaigpdpcliecpaaTr YtaigpdpcliecpaaTs YtaigpdpcliecpaaTu YtaigpdpcliecpaaTv YtaigpdpcliecpaaTx YtaigpdpcliecpaaTy
namespace Go.Proofs.Ytaigpdpcliecpaa
open Go.RowKit Go.Shelf
attribute [local go_sem] Oper.semAt_some

/-- Which nodes a row has. -/
def goneL (m : Nat) (vs : List Int) : List Bool := (List.range m).map fun u : Nat => decide ((u : Int) ∈ vs)
theorem goneL_len (m : Nat) (vs : List Int) : (goneL m vs).length = m := by simp [goneL]
theorem goneL_nil (m : Nat) : goneL m [] = List.replicate m false := by
  unfold goneL
  refine List.ext_getElem (by simp) fun i h1 h2 => by simp
theorem goneL_get {m u : Nat} (vs : List Int) (h : u < m) : (goneL m vs)[u]? = some (decide ((u : Int) ∈ vs)) := by simp [goneL, h]
theorem goneL_set {m t : Nat} (vs : List Int) (h : t < m) : (goneL m vs).set t true = goneL m (vs ++ [(t : Int)]) := by
  refine List.ext_getElem? fun i => ?_
  by_cases hi : i < m
  · rw [goneL_get _ hi, List.getElem?_set]
    by_cases e : t = i
    · subst e
      simp [goneL_len, h]
    · rw [if_neg e, goneL_get _ hi]
      congr 1
      rw [decide_eq_decide, List.mem_append, List.mem_singleton]
      constructor
      · exact .inl
      · rintro (h | h)
        · exact h
        · omega
  · rw [List.getElem?_eq_none (by rw [List.length_set, goneL_len]; omega), List.getElem?_eq_none (by rw [goneL_len]; omega)]
theorem left_next (k : Nat) (vs : List Int) : leftE (k + 1) vs = if (k : Int) ∈ vs then leftE k vs else leftE k vs ++ [(k : Int)] := by
  unfold leftE allN
  rw [List.range_succ, List.map_append, List.filter_append]
  by_cases h : (k : Int) ∈ vs <;> simp [h]

/-- What Left gives. -/
def LeftIs (zs : List Ed) (m : Nat) (w : World) (e : Ending) (w' : World) : Prop :=
  ∃ (l : List Int) (A : Option Addr) (c : Nat), KahnAll zs m l ∧ e = .returned (.tuple #[.slice A (leftE m l).length c, .int .i64 0]) ∧ w'.ownsRow w.heap.size 3 1 (.slice A (leftE m l).length c) (leftE m l).length (ints (leftE m l)) ∧ (leftE m l).length ≤ c ∧ c ≤ 9223372036854775807 ∧ Below w.heap.size w w'

set_option maxRecDepth 100000 in
set_option maxHeartbeats 8000000 in
theorem left7_ok (m : Nat) (A : Option Addr) (n c : Nat) (zs : List Ed) (hg : IsG (m : Int) zs) (hn : n ≤ 1000) (hnc : n ≤ c) (w : World) (hR : Reads w w.heap.size 3 A n (cellsE zs)) :
    Calls Try.prog 11 #[.agg #[.int .i64 (m : Int), .slice A n c]] w (LeftIs zs m w) := by
  obtain ⟨i0, hi, hz0, hz1, hz2⟩ := info_parts int_info
  obtain ⟨bx, b0⟩ := box_new w #[.int .i64 (m : Int), .slice A n c] 24
  have HS := Lib.hid (taken_ok m A n c zs hg hn hnc _ ((hR.below b0).more b0.size))
  have hm := hg.nodes
  have HM : Hid (m ≤ 300) := by show _ ≤ _; omega
  have BX := Lib.hid bx
  have B0 := Lib.hid b0
  have z0 := bx.cell 0
  have z1 := bx.cell 1
  have hmk : ∀ X, (Instr.makeSlice 62 (.int .i64 (m : Int)) (.int .i64 (m : Int))).run Try.prog X = .ok (.slice (some ⟨X.heap.size, 0, none⟩) m m) (X.alloc (.cells (bools (List.replicate m false)).toArray 4)) := fun X => bool_make m (m : Int) rfl (by omega) X
  clear hR bx b0 hg hm
  refine (callsIn_wide (n := 6)).1 (callsIn_of_wp_marks Try.func11 rfl trivial ?_ rfl)
  simp only [Try.ntmps11, List.size_toArray, List.length_cons, List.length_nil, Nat.reduceAdd, Nat.reduceSub, Array.replicate_succ, Array.replicate_zero, List.push_toArray, List.append_toArray, List.nil_append, List.cons_append]
  gi_upto_region 1 with fail
  generalize w.alloc (.cells #[.int .i64 (m : Int), .slice A n c] 24) = W0 at *
  gi_wp2_with fail
  refine ⟨trivial, (callsIn_wide.2 HS.out).mono ?_⟩
  rintro e w1 ⟨lb, rfl, hseq, h4⟩
  have BX1 := Lib.hid (BX.out.below h4 BX.out.lt)
  have B1 : Hid (Below w.heap.size w w1) := B0.out.trans (h4.mono B0.out.size)
  have HSEQ := Lib.hid (hseq 5 (by omega))
  have z0 := BX1.out.cell 0
  clear hseq h4 HS BX z1
  gi_upto_region 5 with fail
  have hb1 : Below w1.heap.size w1 (w1.alloc (.cells (bools (List.replicate m false)).toArray 4)) := (Below.refl _ _).alloc (Nat.le_refl _) _
  have hb2 : Below w1.heap.size w1 ((w1.alloc (.cells (bools (List.replicate m false)).toArray 4)).alloc (.cells #[.slice (some ⟨w1.heap.size, 0, none⟩) m m] 62)) := hb1.alloc hb1.size _
  have kp := (Blk.new w1 4 (bools (List.replicate m false)).toArray).alloc (.cells #[.slice (some ⟨w1.heap.size, 0, none⟩) m m] 62)
  have kb := Blk.new (w1.alloc (.cells (bools (List.replicate m false)).toArray 4)) 62 #[.slice (some ⟨w1.heap.size, 0, none⟩) m m]
  rw [World.size_alloc] at kb
  have KP := Lib.hid kp
  have KB := Lib.hid kb
  have HB2 := Lib.hid hb2
  have BX2 := Lib.hid (BX1.out.below hb2 BX1.out.lt)
  clear hb1 hb2 kp kb z0 BX1 hmk
  generalize (w1.alloc (.cells (bools (List.replicate m false)).toArray 4)).alloc (.cells #[.slice (some ⟨w1.heap.size, 0, none⟩) m m] 62) = W2 at *
  have HWP : Hid (w.heap.size ≤ w1.heap.size ∧ w1.heap.size + 1 < W2.heap.size) := ⟨B1.out.size, KB.out.lt⟩
  have HB3 : Hid (Below w.heap.size w W2) := B1.out.trans (HB2.out.mono B1.out.size)
  gi_wp2_with fail
  refine range_val none (by omega) (gf := 52) (lb := lb) rfl eg_taken HSEQ.out (Keep.of_below HB2.out) (fun k h => by have := HWP.out; omega) 22 7 rfl
    (fun vs C X => C = (fun k => k = w1.heap.size) ∧ Blk X w1.heap.size 4 (bools (goneL m vs)).toArray ∧ Blk X (w1.heap.size + 1) 62 #[.slice (some ⟨w1.heap.size, 0, none⟩) m m] ∧ Blk X w.heap.size 24 #[.int .i64 (m : Int), .slice A n c] ∧ Below w.heap.size w X)
    (fun _ => False) (fun k => k = w1.heap.size) ?hC0 ?h0 ?hI (fun _ _ h _ => h) ?assign ?body ?done ?stop
  case hC0 =>
    rintro k rfl
    have := HWP.out
    omega
  case h0 => exact ⟨rfl, by rw [goneL_nil]; exact KP.out, KB.out, BX2.out, HB3.out⟩
  case hI =>
    rintro vs C X Y ⟨rfl, h1, h2, h3, h4⟩ hk
    exact ⟨rfl, hk.blk h1 (.inr rfl), hk.blk h2 (.inl HWP.out.2), hk.blk h3 (.inl (by have := HWP.out; omega)), h4.trans (hk.below h4.size fun j hj => .inl (by have := HWP.out; omega))⟩
  case assign =>
    intro l v W K hK
    simp only [List.setIfInBounds_toArray, List.set_cons_zero, List.set_cons_succ] at hK ⊢
    gi_wp2_with fail
    exact hK
  case body =>
    rintro l vs v C X ⟨rfl, h1, h2, h3, h4⟩ hok _ hsz
    have hv := hok.ends v (by simp)
    obtain ⟨t, rfl⟩ : ∃ t : Nat, v = (t : Int) := ⟨v.toNat, by omega⟩
    have htm : t < m := by omega
    have htl : (t : Int) < (m : Int) := by omega
    have y0 := h2.cell 0
    have y1 : X.cell? ⟨w1.heap.size, t, none⟩ = some (.bool (decide ((t : Int) ∈ vs))) := by
      rw [h1.cell, List.getElem?_toArray]
      exact bools_get (goneL_get vs htm)
    have y2 := h1.frozen t
    have HN : Hid (Blk (X.setCell ⟨w1.heap.size, t, none⟩ (.bool true)) w1.heap.size 4 (bools (goneL m (vs ++ [(t : Int)]))).toArray) := by
      have := h1.set_ t (.bool true)
      rw [List.setIfInBounds_toArray, bools_set, goneL_set vs htm] at this
      exact this
    have H2 := Lib.hid (h2.far (p := ⟨w1.heap.size, t, none⟩) (by show w1.heap.size + 1 ≠ w1.heap.size; omega) (.bool true))
    have H3 := Lib.hid (h3.far (p := ⟨w1.heap.size, t, none⟩) (Blk.ne_ h3 h1 (by decide)) (.bool true))
    have H4 := Lib.hid (h4.setCell (p := ⟨w1.heap.size, t, none⟩) HWP.out.1 (.bool true))
    have HL := Lib.hid h1.lt
    clear h1 h2 h3 h4 hok hsz
    simp only [List.setIfInBounds_toArray, List.set_cons_zero, List.set_cons_succ]
    gi_wp2_with fail
    refine .inl ⟨fun k => k = w1.heap.size, ?_, (Keep.refl _ X).set (.inr fun h => h rfl) _ _, rfl, rfl, HN.out, H2.out, H3.out, H4.out⟩
    rintro k rfl
    exact ⟨by rw [World.size_setCell]; exact HL.out, .inl rfl⟩
  case done =>
    rintro vs C D X hD hall ⟨rfl, h1, h2, h3, h4⟩ hdef
    have HALL := Lib.hid hall
    have HDL : Hid (W2.heap.size ≤ D) := hD
    have K1 := Lib.hid h1
    have K2 := Lib.hid h2
    have K3 := Lib.hid h3
    have J0 := Lib.hid (Below.refl X.heap.size X)
    have BB := Lib.hid h4
    have z0 := h3.cell 0
    have HD : Hid (∀ Y, Below X.heap.size X Y → Y.heap[D]? = some (.deferred (some []))) := fun Y h => (h.block D (Array.getElem?_eq_some_iff.1 hdef).1).trans hdef
    clear hall h1 h2 h3 h4 hdef hD KP KB HB2 BX2 HB3
    gi_wp2_with fail
    clear z0
    gi_loopg [8, 28] m (fun gg s8 s28 wr => ∃ (k : Nat) (A3 : Option Addr) (c3 : Nat), s28 = .int .i64 k ∧ s8 = .slice A3 (leftE k vs).length c3 ∧ k + gg = m ∧ Hid (wr.ownsRow X.heap.size 3 1 (.slice A3 (leftE k vs).length c3) (leftE k vs).length (ints (leftE k vs))) ∧ Hid (Below X.heap.size X wr))
    case atStart => exact ⟨0, none, 0, rfl, rfl, by omega, World.ownsRow_nil _ _ _ _, J0⟩
    case round =>
      clear J0
      obtain ⟨k, A3, c3, rfl, rfl, hkg, HO, J⟩ := hrel
      cases gk with
      | zero =>
        have hge : ¬ (k : Int) < (m : Int) := by omega
        obtain rfl : k = m := by omega
        have HDD := Lib.hid (HD.out _ J.out)
        have hDl : D < wr.heap.size := (Array.getElem?_eq_some_iff.1 HDD.out).1
        have hkp : Keep (fun j => j ≠ D) wr (wr.putObj D (.deferred none)) := (Keep.refl _ wr).put (.inr fun h => h rfl) _
        have HE : Hid (LeftIs zs k w (.returned (.tuple #[.slice A3 (leftE k vs).length c3, .int .i64 0])) (wr.putObj D (.deferred none))) := by
          obtain ⟨A4, c4, e, h5, h6⟩ := own_form2 HO.out
          injection e with _ _ e
          subst e
          have hDx : D < X.heap.size := by
            have h1 := HD.out X (Below.refl _ _)
            exact (Array.getElem?_eq_some_iff.1 h1).1
          refine ⟨vs, A3, c3, HALL.out, rfl, own_base (hkp.own HO.out fun g hg e => by have := (own_in HO.out hg).1; omega) BB.out.size, h5, h6, ?_⟩
          have hbl : Below w.heap.size w wr := BB.out.trans (J.out.mono BB.out.size)
          refine hbl.trans (hkp.below hbl.size fun j hj e => ?_)
          have h1 := HWP.out
          have h2 := HDL.out
          omega
        clear hkg
        gi_wp2_with fail
        refine ⟨by simp, .inl ⟨_, _, rfl, run_takeDeferred HDD.out, ?_⟩⟩
        exact ⟨.tuple #[.slice A3 (leftE k vs).length c3, .int .i64 0], by simp [results, Try.results11, go_sem], HE.out⟩
      | succ g2 =>
        have hlt : (k : Int) < (m : Int) := by omega
        have hkm : k < m := by omega
        have HI : Hid (k + 1 + g2 = m) := by show _ = _; omega
        have y0 := (K2.out.below J.out K2.out.lt).cell 0
        have y1 : wr.cell? ⟨w1.heap.size, k, none⟩ = some (.bool (decide ((k : Int) ∈ vs))) := by
          rw [(K1.out.below J.out K1.out.lt).cell, List.getElem?_toArray]
          exact bools_get (goneL_get vs hkm)
        have hln : (leftE k vs).length ≤ 300 := by have h1 := left_len k vs; have h2 := HM.out; omega
        have HNX := Lib.hid (left_next k vs)
        have HXW : Hid (X.heap.size ≤ wr.heap.size) := J.out.size
        have hk9 : k ≤ 300 := by have := HM.out; omega
        clear hkg hkm
        by_cases hv : (k : Int) ∈ vs
        · rw [decide_eq_true hv] at y1
          have hnx : leftE (k + 1) vs = leftE k vs := by rw [HNX.out, if_pos hv]
          have HN := Lib.hid hnx
          clear hv hnx HNX
          gi_wp2_with fail
          gi_roundg g2
          case measure => omega
          case rel => exact ⟨k + 1, A3, c3, by go_num, by rw [HN.out], HI.out, by rw [HN.out]; exact HO, J⟩
        · rw [decide_eq_false hv] at y1
          have hnx : leftE (k + 1) vs = leftE k vs ++ [(k : Int)] := by rw [HNX.out, if_neg hv]
          have HN := Lib.hid hnx
          have HNL : Hid ((leftE (k + 1) vs).length = (leftE k vs).length + 1) := by rw [hnx]; simp [Hid]
          clear hv hnx HNX
          gi_wp2_with (gi_at_builtin; refine wpListIn_append_own_at _ rfl _ _ 27 rfl X.heap.size 3 i0 _ 1 8 Try.underlying27 hi hz0 hz1 hz2 rfl (by decide) (.slice A3 (leftE k vs).length c3) (leftE k vs).length _ rfl (HO.out.alloc _) ⟨wr.heap.size, 0, none⟩ 1 1 [.int .i64 (k : Int)] rfl rfl (cell_one_new _ _ _) (by intro q hq; simp at hq; subst hq; rfl) (by unfold maxLen; omega) (by omega) (by have := HXW.out; simp; omega) ?_; intro v5 w5 hown5 hgrow5 _ _; obtain ⟨A5, c5, rfl, _, _⟩ := own_form2 hown5)
          have HO5 : Hid (w5.ownsRow X.heap.size 3 1 (.slice A5 ((leftE k vs).length + 1) c5) ((leftE k vs).length + 1) (ints (leftE (k + 1) vs))) := by
            rw [HN.out, show ints (leftE k vs ++ [(k : Int)]) = ints (leftE k vs) ++ [.int .i64 (k : Int)] by simp [ints]]
            exact hown5
          have HJ5 : Hid (Below X.heap.size X w5) := (J.out.alloc J.out.size _).grown hgrow5 (Nat.le_trans HXW.out (by simp)) fun g hg => (own_in HO.out hg).1
          gi_roundg g2
          case measure => omega
          case rel => exact ⟨k + 1, A5, c5, by go_num, by rw [HNL.out], HI.out, by rw [HNL.out]; exact HO5, HJ5⟩
  case stop =>
    intro D W hD h
    exact h.elim
end Go.Proofs.Ytaigpdpcliecpaa
namespace Go.Proofs.Ytaigpdpcliecpaa
open Go.RowKit Go.Shelf
attribute [local go_sem] Oper.semAt_some

theorem scope7 {n : Nat} {P : Program} {c : Code} {Q : Exit → Act → World → Prop} {a : Act} {w : World} (h : c.wpIn Fence.wide n P (Exit.noGoto Q) a w) : (Code.scope c).wpIn Fence.wide n P Q a w := wpIn_wide.2 (wp_scope_straight (wpIn_wide.1 h))
theorem arr68 (T : Array Value) (hs : T.size = 68) : ∃ u : Nat → Value, T = #[u 0, u 1, u 2, u 3, u 4, u 5, u 6, u 7, u 8, u 9, u 10, u 11, u 12, u 13, u 14, u 15, u 16, u 17, u 18, u 19, u 20, u 21, u 22, u 23, u 24, u 25, u 26, u 27, u 28, u 29, u 30, u 31, u 32, u 33, u 34, u 35, u 36, u 37, u 38, u 39, u 40, u 41, u 42, u 43, u 44, u 45, u 46, u 47, u 48, u 49, u 50, u 51, u 52, u 53, u 54, u 55, u 56, u 57, u 58, u 59, u 60, u 61, u 62, u 63, u 64, u 65, u 66, u 67] := by
  refine ⟨fun k => T.getD k undef, ?_⟩
  have e : (#[T.getD 0 undef, T.getD 1 undef, T.getD 2 undef, T.getD 3 undef, T.getD 4 undef, T.getD 5 undef, T.getD 6 undef, T.getD 7 undef, T.getD 8 undef, T.getD 9 undef, T.getD 10 undef, T.getD 11 undef, T.getD 12 undef, T.getD 13 undef, T.getD 14 undef, T.getD 15 undef, T.getD 16 undef, T.getD 17 undef, T.getD 18 undef, T.getD 19 undef, T.getD 20 undef, T.getD 21 undef, T.getD 22 undef, T.getD 23 undef, T.getD 24 undef, T.getD 25 undef, T.getD 26 undef, T.getD 27 undef, T.getD 28 undef, T.getD 29 undef, T.getD 30 undef, T.getD 31 undef, T.getD 32 undef, T.getD 33 undef, T.getD 34 undef, T.getD 35 undef, T.getD 36 undef, T.getD 37 undef, T.getD 38 undef, T.getD 39 undef, T.getD 40 undef, T.getD 41 undef, T.getD 42 undef, T.getD 43 undef, T.getD 44 undef, T.getD 45 undef, T.getD 46 undef, T.getD 47 undef, T.getD 48 undef, T.getD 49 undef, T.getD 50 undef, T.getD 51 undef, T.getD 52 undef, T.getD 53 undef, T.getD 54 undef, T.getD 55 undef, T.getD 56 undef, T.getD 57 undef, T.getD 58 undef, T.getD 59 undef, T.getD 60 undef, T.getD 61 undef, T.getD 62 undef, T.getD 63 undef, T.getD 64 undef, T.getD 65 undef, T.getD 66 undef, T.getD 67 undef] : Array Value) = ((List.range 68).map fun k => T.getD k undef).toArray := rfl
  refine Array.ext (by simp [hs]) fun i h1 h2 => ?_
  simp only [e]
  simp [Array.getD, h1]
theorem packR {T : Array Value} {ds : List Deferred} {Ds : List Nat} {R : Prop} {v1 v2 v5 v7 v8 v29 v30 v31 : Value} (hR : R) (hs : T.size = 68) (h1 : T[1]? = some v1) (h2 : T[2]? = some v2) (h5 : T[5]? = some v5) (h7 : T[7]? = some v7) (h8 : T[8]? = some v8) (h29 : T[29]? = some v29) (h30 : T[30]? = some v30) (h31 : T[31]? = some v31) (hd : ds = Ds.map mkMark) :
    ∃ u : Nat → Value, R ∧ ({ tmps := T, defers := ds } : Act) = { tmps := #[u 0, v1, v2, u 3, u 4, v5, u 6, v7, v8, u 9, u 10, u 11, u 12, u 13, u 14, u 15, u 16, u 17, u 18, u 19, u 20, u 21, u 22, u 23, u 24, u 25, u 26, u 27, u 28, v29, v30, v31, u 32, u 33, u 34, u 35, u 36, u 37, u 38, u 39, u 40, u 41, u 42, u 43, u 44, u 45, u 46, u 47, u 48, u 49, u 50, u 51, u 52, u 53, u 54, u 55, u 56, u 57, u 58, u 59, u 60, u 61, u 62, u 63, u 64, u 65, u 66, u 67], defers := Ds.map mkMark } := by
  obtain ⟨u, hu⟩ := arr68 T hs
  have e1 : u 1 = v1 := by rw [hu] at h1; exact Option.some.inj h1
  have e2 : u 2 = v2 := by rw [hu] at h2; exact Option.some.inj h2
  have e5 : u 5 = v5 := by rw [hu] at h5; exact Option.some.inj h5
  have e7 : u 7 = v7 := by rw [hu] at h7; exact Option.some.inj h7
  have e8 : u 8 = v8 := by rw [hu] at h8; exact Option.some.inj h8
  have e29 : u 29 = v29 := by rw [hu] at h29; exact Option.some.inj h29
  have e30 : u 30 = v30 := by rw [hu] at h30; exact Option.some.inj h30
  have e31 : u 31 = v31 := by rw [hu] at h31; exact Option.some.inj h31
  exact ⟨u, hR, by rw [hu, hd, e1, e2, e5, e7, e8, e29, e30, e31]⟩

/-- The search goes on: so far all is as it is to be. -/
def FineTo (zs : List Ed) (m : Nat) (o : List Int) (i : Nat) : Prop := ∀ j x, j < i → o[j]? = some x → (0 ≤ x ∧ x < (m : Int)) ∧ x ∉ o.take j ∧ ∀ p ∈ zs, p.1 = x → p.2.1 ∉ o.take (j + 1)
theorem fine_all {zs : List Ed} {m : Nat} {o : List Int} (hz : ∀ p ∈ zs, rightE (m : Int) p = true) (hl : o.length = m) (h : FineTo zs m o m) : RightO zs m o :=
  (rightO_search hz hl).2 fun j x hx => h j x (by have := (List.getElem?_eq_some_iff.1 hx).1; omega) hx
theorem fine_not {zs : List Ed} {m : Nat} {o : List Int} (hz : ∀ p ∈ zs, rightE (m : Int) p = true) (hl : o.length = m) {i : Nat} {x : Int} (hx : o[i]? = some x) (h : ¬ ((0 ≤ x ∧ x < (m : Int)) ∧ x ∉ o.take i ∧ ∀ p ∈ zs, p.1 = x → p.2.1 ∉ o.take (i + 1))) : ¬ RightO zs m o :=
  fun hr => h ((rightO_search hz hl).1 hr i x hx)
theorem fine_next {zs : List Ed} {m : Nat} {o : List Int} {i : Nat} {x : Int} (h : FineTo zs m o i) (hx : o[i]? = some x) (hi : (0 ≤ x ∧ x < (m : Int)) ∧ x ∉ o.take i ∧ ∀ p ∈ zs, p.1 = x → p.2.1 ∉ o.take (i + 1)) : FineTo zs m o (i + 1) := fun j y hj hy => by
  by_cases e : j = i
  · subst e
    rw [hx] at hy
    injection hy with hy
    subst hy
    exact hi
  · exact h j y (by omega) hy
theorem take_next {o : List Int} {i : Nat} {x : Int} (hx : o[i]? = some x) : o.take (i + 1) = o.take i ++ [x] := by rw [List.take_add_one, hx]; rfl
/-- Some of the edges lead to what was met; none does. -/
def MetIn (vs : List Ed) (l : List Int) : Prop := ∃ p ∈ vs, p.2.1 ∈ l
def NoneIn (vs : List Ed) (l : List Int) : Prop := ∀ p ∈ vs, p.2.1 ∉ l
/-- What Right gives. -/
def RightIs (zs : List Ed) (m : Nat) (o : List Int) (w : World) (e : Ending) (w' : World) : Prop := ∃ b : Bool, e = .returned (.bool b) ∧ (b = true ↔ RightO zs m o) ∧ Below w.heap.size w w'

set_option maxRecDepth 100000 in
set_option maxHeartbeats 4000000 in
theorem right7_no (nodes : Int) (A : Option Addr) (n c : Nat) (zs : List Ed) (hg : rightG nodes zs = false) (Ao : Option Addr) (no co : Nat) (hn : n ≤ 1000) (w : World) (hR : Reads w w.heap.size 3 A n (cellsE zs)) :
    Calls Try.prog 19 #[.agg #[.int .i64 nodes, .slice A n c], .slice Ao no co] w fun e w' => e = .returned (.bool false) ∧ Below w.heap.size w w' := by
  obtain ⟨bx, b0⟩ := box_new w #[.int .i64 nodes, .slice A n c] 24
  have HS := Lib.hid (leaving7_no nodes A n c zs hg hn _ ((hR.below b0).more b0.size))
  have B0 := Lib.hid b0
  have z0 := bx.cell 0
  have z1 := bx.cell 1
  clear hR bx b0 hg
  refine (callsIn_wide (n := 6)).1 (callsIn_of_wp_marks Try.func19 rfl trivial ?_ rfl)
  simp only [Try.ntmps19, List.size_toArray, List.length_cons, List.length_nil, Nat.reduceAdd, Nat.reduceSub, Array.replicate_succ, Array.replicate_zero, List.push_toArray, List.append_toArray, List.nil_append, List.cons_append]
  gi_wp2_with fail
  refine scope7 ?_
  generalize w.alloc (.cells #[.int .i64 nodes, .slice A n c] 24) = W0 at *
  gi_wp2_with fail
  refine ⟨trivial, (callsIn_wide.2 HS.out).mono ?_⟩
  rintro e w1 ⟨rfl, h4⟩
  have B2 : Hid (Below w.heap.size w w1) := B0.out.trans (h4.mono B0.out.size)
  clear h4 z0 z1 HS B0
  gi_wp2_with fail
  refine ⟨.bool false, by simp [results, Try.results19, go_sem], rfl, B2.out⟩

set_option maxRecDepth 100000 in
set_option maxHeartbeats 8000000 in
theorem right7_ok (m : Nat) (A : Option Addr) (n c : Nat) (zs : List Ed) (hg : IsG (m : Int) zs) (Ao : Option Addr) (no co : Nat) (o : List Int) (hn : n ≤ 1000) (hnc : n ≤ c) (w : World) (hR : Reads w w.heap.size 3 A n (cellsE zs)) (hO : Reads w w.heap.size 1 Ao no (ints o)) :
    Calls Try.prog 19 #[.agg #[.int .i64 (m : Int), .slice A n c], .slice Ao no co] w (RightIs zs m o w) := by
  obtain ⟨bx, b0⟩ := box_new w #[.int .i64 (m : Int), .slice A n c] 24
  have HS := Lib.hid (leaving7_ok m A n c zs hg hn hnc _ ((hR.below b0).more b0.size))
  have hm := hg.nodes
  have HM : Hid (m ≤ 300) := by show _ ≤ _; omega
  have HOL : Hid (o.length = no) := ints_len hO
  have HG := Lib.hid hg
  have HO := Lib.hid fun X (h : Below w.heap.size w X) => hO.below h
  have BX := Lib.hid bx
  have B0 := Lib.hid b0
  have z0 := bx.cell 0
  have z1 := bx.cell 1
  have hmk : ∀ X, (Instr.makeSlice 62 (.int .i64 (m : Int)) (.int .i64 (m : Int))).run Try.prog X = .ok (.slice (some ⟨X.heap.size, 0, none⟩) m m) (X.alloc (.cells (bools (List.replicate m false)).toArray 4)) := fun X => bool_make m (m : Int) rfl (by omega) X
  have HZ : Hid (zs.length ≤ 1000) := by have := reads_len hR; show _ ≤ _; omega
  clear hR bx b0 hg hm hO
  refine (callsIn_wide (n := 6)).1 (callsIn_of_wp_marks Try.func19 rfl trivial ?_ rfl)
  simp only [Try.ntmps19, List.size_toArray, List.length_cons, List.length_nil, Nat.reduceAdd, Nat.reduceSub, Array.replicate_succ, Array.replicate_zero, List.push_toArray, List.append_toArray, List.nil_append, List.cons_append]
  gi_wp2_with fail
  refine scope7 ?_
  generalize w.alloc (.cells #[.int .i64 (m : Int), .slice A n c] 24) = W0 at *
  gi_wp2_with fail
  refine ⟨trivial, (callsIn_wide.2 HS.out).mono ?_⟩
  rintro e w1 ⟨Lg, Ls, A2, n2, c2, Sa, sc, rfl, hL, hn2, h4⟩
  have BX1 := Lib.hid (BX.out.below h4 BX.out.lt)
  have B1 : Hid (Below w.heap.size w w1) := B0.out.trans (h4.mono B0.out.size)
  have HL := Lib.hid hL
  have z0 := BX1.out.cell 0
  clear hL h4 HS BX z1 B0
  by_cases hno : no = m
  · subst hno
    have hq : (((no : Nat) : Int) != ((no : Nat) : Int)) = false := by simp
    gi_upto_region 5 with fail
    have hb1 : Below w1.heap.size w1 (w1.alloc (.cells (bools (List.replicate no false)).toArray 4)) := (Below.refl _ _).alloc (Nat.le_refl _) _
    have hb2 : Below w1.heap.size w1 ((w1.alloc (.cells (bools (List.replicate no false)).toArray 4)).alloc (.cells #[.slice (some ⟨w1.heap.size, 0, none⟩) no no] 62)) := hb1.alloc hb1.size _
    have kp := (Blk.new w1 4 (bools (List.replicate no false)).toArray).alloc (.cells #[.slice (some ⟨w1.heap.size, 0, none⟩) no no] 62)
    have kb := Blk.new (w1.alloc (.cells (bools (List.replicate no false)).toArray 4)) 62 #[.slice (some ⟨w1.heap.size, 0, none⟩) no no]
    rw [World.size_alloc] at kb
    have KP : Hid (Blk ((w1.alloc (.cells (bools (List.replicate no false)).toArray 4)).alloc (.cells #[.slice (some ⟨w1.heap.size, 0, none⟩) no no] 62)) w1.heap.size 4 (bools (goneL no (o.take 0))).toArray) := by rw [List.take_zero, goneL_nil]; exact kp
    have KB := Lib.hid kb
    have BX2 := Lib.hid (BX1.out.below hb2 BX1.out.lt)
    have HL2 := Lib.hid (HL.out.on hb2)
    have B2 : Hid (Below w.heap.size w ((w1.alloc (.cells (bools (List.replicate no false)).toArray 4)).alloc (.cells #[.slice (some ⟨w1.heap.size, 0, none⟩) no no] 62))) := B1.out.trans (hb2.mono B1.out.size)
    have HSZ : Hid (w.heap.size ≤ w1.heap.size) := B1.out.size
    clear hb1 hb2 kp kb z0 BX1 hmk HL B1 hq
    generalize (w1.alloc (.cells (bools (List.replicate no false)).toArray 4)).alloc (.cells #[.slice (some ⟨w1.heap.size, 0, none⟩) no no] 62) = W2 at *
    obtain ⟨BW, hBW⟩ : ∃ BW, BW = w1.heap.size + 1 := ⟨_, rfl⟩
    have KB : Hid (Blk W2 BW 62 #[.slice (some ⟨w1.heap.size, 0, none⟩) no no]) := by rw [hBW]; exact KB
    rw [← hBW]
    clear hBW
    obtain ⟨P, hP⟩ : ∃ P, P = w1.heap.size := ⟨_, rfl⟩
    have KP : Hid (Blk W2 P 4 (bools (goneL no (o.take 0))).toArray) := by rw [hP]; exact KP
    have KB : Hid (Blk W2 BW 62 #[.slice (some ⟨P, 0, none⟩) no no]) := by rw [hP]; exact KB
    have HPW : Hid (w.heap.size ≤ P ∧ P = w1.heap.size) := by rw [hP]; exact ⟨HSZ.out, rfl⟩
    have HSW : Hid (w1.heap.size ≤ W2.heap.size) := by have := KP.out.lt; have := HPW.out.2; show _ ≤ _; omega
    have HXP : Hid (w.heap.size ≠ P ∧ BW ≠ P) := ⟨Blk.ne_ BX2.out KP.out (by decide), Blk.ne_ KB.out KP.out (by decide)⟩
    clear hP HSZ
    have K0 : Hid (Keep (fun k => k ≠ P) W2 W2) := Keep.refl _ _
    have M0 : Hid (MarksAt W2.heap.size (fun _ => False) [] W2) := MarksAt.nil _ _ _
    have HF0 : Hid (FineTo zs no o 0) := fun j x hj => absurd hj (Nat.not_lt_zero j)
    gi_wp2_with fail
    refine wpIn_label ?_
    gi_wp2_with fail
    refine wpIn_loop_ghost_k (fun gg a w3 => ∃ (Ds : List Nat) (i : Nat) (u : Nat → Value), (i + gg = no ∧ Hid (FineTo zs no o i) ∧ Hid (Blk w3 P 4 (bools (goneL no (o.take i))).toArray) ∧ Hid (Keep (fun k => k ≠ P) W2 w3) ∧ Hid (MarksAt W2.heap.size (fun _ => False) Ds w3)) ∧ a = { tmps := #[u 0, .slice Ao no co, .pointer (some ⟨w.heap.size, 0, none⟩), u 3, u 4, .func (.func 56) #[] #[.pointer (some ⟨Lg, 0, none⟩), .pointer (some ⟨Ls, 0, none⟩)], u 6, .pointer (some ⟨BW, 0, none⟩), .int .i64 (i : Int), u 9, u 10, u 11, u 12, u 13, u 14, u 15, u 16, u 17, u 18, u 19, u 20, u 21, u 22, u 23, u 24, u 25, u 26, u 27, u 28, .slice Ao no co, .int .i64 (no : Int), .int .i64 (i : Int), u 32, u 33, u 34, u 35, u 36, u 37, u 38, u 39, u 40, u 41, u 42, u 43, u 44, u 45, u 46, u 47, u 48, u 49, u 50, u 51, u 52, u 53, u 54, u 55, u 56, u 57, u 58, u 59, u 60, u 61, u 62, u 63, u 64, u 65, u 66, u 67], defers := Ds.map mkMark }) no ?start1 ?round1
    case start1 =>
      exact ⟨[], 0, packR ⟨by omega, HF0, KP, K0, M0⟩ rfl rfl rfl rfl rfl rfl rfl rfl rfl rfl⟩
    case round1 =>
      clear K0 M0 HF0 KP
      intro gk _ wr hinv
      obtain ⟨Ds, i, u, ⟨hig, HF, KP, KK, MK⟩, ha⟩ := hinv
      subst ha
      intro _ _ _ _
      have HBL : Hid (∀ X, Keep (fun k => k ≠ P) W2 X → Below w.heap.size w X) := fun X h => B2.out.trans (h.below B2.out.size fun j hj e => by have := HPW.out.1; omega)
      have HLV : Hid (∀ X, Keep (fun k => k ≠ P) W2 X → LvAt w1.heap.size Lg Ls A2 n2 c2 Sa sc no zs X) := fun X h => HL2.out.on (h.below (by have := HL2.out.lt; have := BX2.out.lt; have := KB.out.lt; have := HSW.out; omega) fun j hj e => by have := HPW.out.2; omega)
      have z0 := (KK.out.blk BX2.out HXP.out.1).cell 0
      have y0 := (KK.out.blk KB.out HXP.out.2).cell 0
      cases gk with
      | zero =>
        obtain rfl : i = no := by omega
        have hge : ¬ (i : Int) < (i : Int) := by omega
        have hq : (((i : Nat) : Int) == ((i : Nat) : Int)) = true := by simp
        have HE : Hid (RightO zs i o) := fine_all HG.out.all HOL.out HF.out
        have HB := Lib.hid (HBL.out _ KK.out)
        clear hig HF KP HBL HLV
        gi_wp2_with fail
        refine leaves_marks (Ds) _ MK.out fun w' hk => ?_
        refine ⟨.bool true, by simp [results, Try.results19, go_sem], true, rfl, ⟨fun _ => HE.out, fun _ => rfl⟩, ?_⟩
        exact (HB.out).trans (hk.below (HB.out).size fun j hj hD => by have := ((MK.out).all j hD).1; have := B2.out.size; omega)
      | succ g2 =>
        have hlt : (i : Int) < (no : Int) := by omega
        have hin : i < no := by omega
        have HI : Hid (i + 1 + g2 = no) := by show _ = _; omega
        have hne : (((i : Nat) : Int) == ((no : Nat) : Int)) = false := by simp; omega
        obtain ⟨x, hx⟩ : ∃ x, o[i]? = some x := ⟨_, List.getElem?_eq_getElem (by have := HOL.out; omega)⟩
        obtain ⟨b1, o1, hb1, hb2, hb3⟩ := reads_plain (HO.out _ (HBL.out _ KK.out)) (by omega)
        subst hb1
        have x0 := hb3 i (.int .i64 x) (by unfold ints; rw [List.getElem?_map, hx]; rfl)
        have HX := Lib.hid hx
        clear hb2 hb3 hx hig
        by_cases hx1 : x < 0
        · have HE : Hid (¬ RightO zs no o) := fine_not HG.out.all HOL.out HX.out fun h => by omega
          have HB := Lib.hid (HBL.out _ KK.out)
          clear HF KP HBL HLV hin HX
          gi_wp2_with fail
          refine leaves_marks (Ds) _ MK.out fun w' hk => ?_
          refine ⟨.bool false, by simp [results, Try.results19, go_sem], false, rfl, ⟨fun e => (by cases e), fun e => absurd e HE.out⟩, ?_⟩
          exact (HB.out).trans (hk.below (HB.out).size fun j hj hD => by have := ((MK.out).all j hD).1; have := B2.out.size; omega)
        · by_cases hx2 : x < (no : Int)
          · obtain ⟨t, rfl⟩ : ∃ t : Nat, x = (t : Int) := ⟨x.toNat, by omega⟩
            have htn : t < no := by omega
            have hx3 : ¬ (t : Int) ≥ (no : Int) := by omega
            have y1 : wr.cell? ⟨P, t, none⟩ = some (.bool (decide ((t : Int) ∈ o.take i))) := by
              rw [KP.out.cell, List.getElem?_toArray]
              exact bools_get (goneL_get _ htn)
            by_cases hmt : (t : Int) ∈ o.take i
            · rw [decide_eq_true hmt] at y1
              have HE : Hid (¬ RightO zs no o) := fine_not HG.out.all HOL.out HX.out fun h => h.2.1 hmt
              have HB := Lib.hid (HBL.out _ KK.out)
              clear HF KP HBL HLV hin HX hmt
              gi_wp2_with fail
              refine leaves_marks (Ds) _ MK.out fun w' hk => ?_
              refine ⟨.bool false, by simp [results, Try.results19, go_sem], false, rfl, ⟨fun e => (by cases e), fun e => absurd e HE.out⟩, ?_⟩
              exact (HB.out).trans (hk.below (HB.out).size fun j hj hD => by have := ((MK.out).all j hD).1; have := B2.out.size; omega)
            · rw [decide_eq_false hmt] at y1
              have y2 := KP.out.frozen t
              have HT : Hid ((t : Int) ∉ o.take i ∧ t < no) := ⟨hmt, htn⟩
              have KPN : Hid (Blk (wr.setCell ⟨P, t, none⟩ (.bool true)) P 4 (bools (goneL no (o.take (i + 1)))).toArray) := by
                have := KP.out.set_ t (.bool true)
                rw [List.setIfInBounds_toArray, bools_set, goneL_set _ htn, ← take_next HX.out] at this
                exact this
              have KKN : Hid (Keep (fun k => k ≠ P) W2 (wr.setCell ⟨P, t, none⟩ (.bool true))) := KK.out.set (.inr fun h => h rfl) _ _
              have MKN : Hid (MarksAt W2.heap.size (fun _ => False) Ds (wr.setCell ⟨P, t, none⟩ (.bool true))) := MK.out.keep ((Keep.refl (fun k => k ≠ P) wr).set (.inr fun h => h rfl) _ _) fun D hD => MK.out.ne KP.out hD
              clear KP KK MK hmt htn hin
              gi_upto_region 10 with fail
              clear y0 y1 y2 z0
              generalize wr.setCell ⟨P, t, none⟩ (.bool true) = wa at *
              have HO1 := Lib.hid (out1_any w1.heap.size Lg Ls A2 n2 c2 Sa sc no zs t HG.out.row HM.out HT.out.2 wa (HLV.out _ KKN.out) (by have := KKN.out.size; have := HSW.out; omega))
              gi_wp2_with fail
              refine ⟨trivial, (callsIn_wide.2 HO1.out).mono ?_⟩
              rintro e wx ⟨Bx, Av, cv, rfl, hbx, hxl, hrv, hbw⟩
              have KX : Hid (Keep (fun k => k ≠ P) W2 wx) := KKN.out.trans (Keep.of_all _ hbw)
              have KPX := Lib.hid (KPN.out.below hbw KPN.out.lt)
              have MX : Hid (MarksAt W2.heap.size (fun _ => False) Ds wx) := MKN.out.keep (Keep.of_all (fun _ => True) hbw) fun _ _ => trivial
              have hs1 : w1.heap.size ≤ wx.heap.size := by have := KX.out.size; have := HSW.out; omega
              have HSEQ := Lib.hid (values_ones 5 w1.heap.size Bx (outE zs (t : Int)).length cv Av (outE zs (t : Int)) (by have := HZ.out; unfold outE; have := List.length_filter_le (fun p : Ed => decide (p.1 = (t : Int))) zs; omega) wx hbx hrv hs1)
              have HBX : Hid (Bx < wx.heap.size ∧ w1.heap.size ≤ wx.heap.size) := ⟨hbx.lt, hs1⟩
              have KBX := Lib.hid (KX.out.blk KB.out HXP.out.2)
              have JX := Lib.hid (Below.refl wx.heap.size wx)
              clear hbx hxl hrv hbw hs1 KKN KPN MKN HO1
              gi_wp2_with fail
              refine range_box (some 0) (by omega) (gf := 61) (lb := #[.pointer (some ⟨Bx, 0, none⟩)]) rfl eg_values7 HSEQ.out (Keep.refl _ _) (fun k hk => by have := HBX.out; rcases hk with rfl | hk <;> omega) cellsE1 50 55 11 rfl
                (fun vs C X => C = (fun _ => False) ∧ Below wx.heap.size wx X ∧ NoneIn vs (o.take (i + 1))) (fun X => Below wx.heap.size wx X ∧ MetIn (outE zs (t : Int)) (o.take (i + 1))) (fun _ => False) (fun _ h => h.elim) ⟨rfl, JX.out, fun _ h => by simp at h⟩ ?hI ?hIx ?assign ?body ?done ?stop
              case hI =>
                rintro vs C X Y ⟨rfl, h1, h2⟩ hk
                exact ⟨rfl, h1.trans (hk.below h1.size fun j hj => .inl hj), h2⟩
              case hIx =>
                rintro X Y ⟨h1, h2⟩ hk
                exact ⟨h1.trans (hk.below h1.size fun j hj => hj), h2⟩
              case assign =>
                intro l2 p Y K hK
                simp only [List.setIfInBounds_toArray, List.set_cons_zero, List.set_cons_succ] at hK ⊢
                unfold valE at hK ⊢
                unfold cellsE1 at hK
                gi_wp2_with fail
                exact hK
              case body =>
                rintro l2 vs p C Bp X ⟨rfl, hbl, hvs⟩ hpre _ hsz hBp hbp
                have hpz : p ∈ outE zs (t : Int) := List.IsPrefix.subset hpre (by simp)
                have hr := of_decide_eq_true (HG.out.all p (List.mem_filter.1 hpz).1)
                obtain ⟨s, hs⟩ : ∃ s : Nat, p.2.1 = (s : Int) := ⟨p.2.1.toNat, by omega⟩
                have hsn : s < no := by omega
                have hsl : (s : Int) < (no : Int) := by omega
                have y0 := (KBX.out.below hbl KBX.out.lt).cell 0
                have y1 : X.cell? ⟨P, s, none⟩ = some (.bool (decide ((s : Int) ∈ o.take (i + 1)))) := by
                  rw [(KPX.out.below hbl KPX.out.lt).cell, List.getElem?_toArray]
                  exact bools_get (goneL_get _ hsn)
                have e1 : X.cell? ⟨Bp, 1, none⟩ = some (.int .i64 (s : Int)) := by rw [← hs]; exact hbp.cell 1
                have HBL2 := Lib.hid hbl
                have HVS := Lib.hid hvs
                have HPZ := Lib.hid hpz
                have HPS := Lib.hid hs
                clear hpre hsz hBp hbp hpz hr hs hsn hbl hvs
                simp only [List.setIfInBounds_toArray, List.set_cons_zero, List.set_cons_succ]
                unfold valE
                by_cases hms : (s : Int) ∈ o.take (i + 1)
                · rw [decide_eq_true hms] at y1
                  have HMS := Lib.hid hms
                  clear hms
                  gi_wp2_with fail
                  exact .inr ⟨rfl, Keep.refl _ _, HBL2.out, p, HPZ.out, by rw [HPS.out]; exact HMS.out⟩
                · rw [decide_eq_false hms] at y1
                  have HMS := Lib.hid hms
                  clear hms
                  gi_wp2_with fail
                  refine .inl ⟨fun _ => False, fun _ h => h.elim, Keep.refl _ _, rfl, rfl, HBL2.out, fun q hq => ?_⟩
                  rcases List.mem_append.1 hq with hq | hq
                  · exact HVS.out q hq
                  · rw [List.mem_singleton] at hq
                    rw [hq, HPS.out]
                    exact HMS.out
              case done =>
                rintro vs C D X hD rfl ⟨rfl, hbl, hvs⟩ hdef
                have HF2 : Hid (FineTo zs no o (i + 1)) := fine_next HF.out HX.out ⟨by have := HT.out.2; omega, HT.out.1, fun p hp e => hvs p (List.mem_filter.2 ⟨hp, by simpa using e⟩)⟩
                have KP2 := Lib.hid (KPX.out.below hbl KPX.out.lt)
                have KK2 : Hid (Keep (fun k => k ≠ P) W2 X) := KX.out.trans (Keep.of_all _ hbl)
                have MK2 : Hid (MarksAt W2.heap.size (fun _ => False) (D :: Ds) X) := (MX.out.keep (Keep.of_all (fun _ => True) hbl) fun _ _ => trivial).cons (Nat.le_trans KX.out.size hD) id hdef fun h => by have := MX.out.lt h; omega
                have hi9 : i ≤ 300 := by have := HI.out; have := HM.out; omega
                clear hbl hvs hdef hD
                gi_wp2_with fail
                refine Handed.intro g2 ?measure ?_
                rotate_left
                first | gi_step | go_step
                exact ⟨D :: Ds, i + 1, packR ⟨HI.out, HF2, KP2, KK2, MK2⟩ rfl rfl rfl rfl rfl rfl rfl rfl rfl rfl⟩
                case measure => omega
              case stop =>
                rintro D X hD ⟨hbl, p, hp, hmp⟩ hdef
                have HE : Hid (¬ RightO zs no o) := fine_not HG.out.all HOL.out HX.out fun h => h.2.2 p (List.mem_filter.1 hp).1 (of_decide_eq_true (List.mem_filter.1 hp).2) hmp
                have KK2 : Hid (Keep (fun k => k ≠ P) W2 X) := KX.out.trans (Keep.of_all _ hbl)
                have MK2 : Hid (MarksAt W2.heap.size (fun _ => False) (D :: Ds) X) := (MX.out.keep (Keep.of_all (fun _ => True) hbl) fun _ _ => trivial).cons (Nat.le_trans KX.out.size hD) id hdef fun h => by have := MX.out.lt h; omega
                have HB := Lib.hid (HBL.out _ KK2.out)
                have z0 := (KK2.out.blk BX2.out HXP.out.1).cell 0
                clear hbl hp hmp hdef hD
                show Code.wpIn _ _ _ (Code.exit 0) _ _ _
                gi_wp2_with fail
                refine leaves_marks (D :: Ds) _ MK2.out fun w' hk => ?_
                refine ⟨.bool false, by simp [results, Try.results19, go_sem], false, rfl, ⟨fun e => (by cases e), fun e => absurd e HE.out⟩, ?_⟩
                exact (HB.out).trans (hk.below (HB.out).size fun j hj hD => by have := ((MK2.out).all j hD).1; have := B2.out.size; omega)
          · have hx3 : x ≥ (no : Int) := by omega
            have HE : Hid (¬ RightO zs no o) := fine_not HG.out.all HOL.out HX.out fun h => by omega
            have HB := Lib.hid (HBL.out _ KK.out)
            clear HF KP HBL HLV hin HX
            gi_wp2_with fail
            refine leaves_marks (Ds) _ MK.out fun w' hk => ?_
            refine ⟨.bool false, by simp [results, Try.results19, go_sem], false, rfl, ⟨fun e => (by cases e), fun e => absurd e HE.out⟩, ?_⟩
            exact (HB.out).trans (hk.below (HB.out).size fun j hj hD => by have := ((MK.out).all j hD).1; have := B2.out.size; omega)
  · have hq : (((no : Nat) : Int) != ((m : Nat) : Int)) = true := by simp; omega
    have HE : Hid (¬ RightO zs m o) := fun h => hno (by rw [← HOL.out]; exact h.many)
    clear hno hmk
    gi_wp2_with fail
    exact ⟨.bool false, by simp [results, Try.results19, go_sem], false, rfl, ⟨fun e => (by cases e), fun e => absurd e HE.out⟩, B1.out⟩
end Go.Proofs.Ytaigpdpcliecpaa
namespace Go.Proofs.Ytaigpdpcliecpaa
open Go.RowKit Go.Shelf
attribute [local go_sem] Oper.semAt_some

theorem arr64 (T : Array Value) (hs : T.size = 64) : ∃ u : Nat → Value, T = #[u 0, u 1, u 2, u 3, u 4, u 5, u 6, u 7, u 8, u 9, u 10, u 11, u 12, u 13, u 14, u 15, u 16, u 17, u 18, u 19, u 20, u 21, u 22, u 23, u 24, u 25, u 26, u 27, u 28, u 29, u 30, u 31, u 32, u 33, u 34, u 35, u 36, u 37, u 38, u 39, u 40, u 41, u 42, u 43, u 44, u 45, u 46, u 47, u 48, u 49, u 50, u 51, u 52, u 53, u 54, u 55, u 56, u 57, u 58, u 59, u 60, u 61, u 62, u 63] := by
  refine ⟨fun k => T.getD k undef, ?_⟩
  have e : (#[T.getD 0 undef, T.getD 1 undef, T.getD 2 undef, T.getD 3 undef, T.getD 4 undef, T.getD 5 undef, T.getD 6 undef, T.getD 7 undef, T.getD 8 undef, T.getD 9 undef, T.getD 10 undef, T.getD 11 undef, T.getD 12 undef, T.getD 13 undef, T.getD 14 undef, T.getD 15 undef, T.getD 16 undef, T.getD 17 undef, T.getD 18 undef, T.getD 19 undef, T.getD 20 undef, T.getD 21 undef, T.getD 22 undef, T.getD 23 undef, T.getD 24 undef, T.getD 25 undef, T.getD 26 undef, T.getD 27 undef, T.getD 28 undef, T.getD 29 undef, T.getD 30 undef, T.getD 31 undef, T.getD 32 undef, T.getD 33 undef, T.getD 34 undef, T.getD 35 undef, T.getD 36 undef, T.getD 37 undef, T.getD 38 undef, T.getD 39 undef, T.getD 40 undef, T.getD 41 undef, T.getD 42 undef, T.getD 43 undef, T.getD 44 undef, T.getD 45 undef, T.getD 46 undef, T.getD 47 undef, T.getD 48 undef, T.getD 49 undef, T.getD 50 undef, T.getD 51 undef, T.getD 52 undef, T.getD 53 undef, T.getD 54 undef, T.getD 55 undef, T.getD 56 undef, T.getD 57 undef, T.getD 58 undef, T.getD 59 undef, T.getD 60 undef, T.getD 61 undef, T.getD 62 undef, T.getD 63 undef] : Array Value) = ((List.range 64).map fun k => T.getD k undef).toArray := rfl
  refine Array.ext (by simp [hs]) fun i h1 h2 => ?_
  simp only [e]
  simp [Array.getD, h1]
theorem packD {T : Array Value} {ds : List Deferred} {Ds : List Nat} {R : Prop} {v5 v9 v37 v38 v39 : Value} (hR : R) (hs : T.size = 64) (h5 : T[5]? = some v5) (h9 : T[9]? = some v9) (h37 : T[37]? = some v37) (h38 : T[38]? = some v38) (h39 : T[39]? = some v39) (hd : ds = Ds.map mkMark) :
    ∃ u : Nat → Value, R ∧ ({ tmps := T, defers := ds } : Act) = { tmps := #[u 0, u 1, u 2, u 3, u 4, v5, u 6, u 7, u 8, v9, u 10, u 11, u 12, u 13, u 14, u 15, u 16, u 17, u 18, u 19, u 20, u 21, u 22, u 23, u 24, u 25, u 26, u 27, u 28, u 29, u 30, u 31, u 32, u 33, u 34, u 35, u 36, v37, v38, v39, u 40, u 41, u 42, u 43, u 44, u 45, u 46, u 47, u 48, u 49, u 50, u 51, u 52, u 53, u 54, u 55, u 56, u 57, u 58, u 59, u 60, u 61, u 62, u 63], defers := Ds.map mkMark } := by
  obtain ⟨u, hu⟩ := arr64 T hs
  have e5 : u 5 = v5 := by rw [hu] at h5; exact Option.some.inj h5
  have e9 : u 9 = v9 := by rw [hu] at h9; exact Option.some.inj h9
  have e37 : u 37 = v37 := by rw [hu] at h37; exact Option.some.inj h37
  have e38 : u 38 = v38 := by rw [hu] at h38; exact Option.some.inj h38
  have e39 : u 39 = v39 := by rw [hu] at h39; exact Option.some.inj h39
  exact ⟨u, hR, by rw [hu, hd, e5, e9, e37, e38, e39]⟩

theorem depth_source {zs : List Ed} {m i : Nat} {o : List Int} {v : Int} (hz : ∀ p ∈ zs, rightE (m : Int) p = true) (h : RightO zs m o) (hv : o[i]? = some v) {p : Ed} (hp : p ∈ outE zs v) : ∀ q ∈ zs, (q.1 ∈ o.take i ∨ q ∈ outE zs v) → q.1 ≠ p.2.1 := by
  obtain ⟨hp1, hp2⟩ := List.mem_filter.1 hp
  have hp2 := of_decide_eq_true hp2
  intro q hq hs e
  rcases hs with hs | hs
  · rw [e] at hs
    obtain ⟨j, hj, h1⟩ := mem_take hs
    obtain ⟨k, hk, h2⟩ := mem_take (h.ahead p hp1 j h1)
    rw [hp2] at h2
    exact nodup_take h.once hv (take_mem (by omega) h2)
  · have h1 := of_decide_eq_true (List.mem_filter.1 hs).2
    have h2 := of_decide_eq_true (hz p hp1)
    exact h2.2.2.1 (by rw [hp2, ← h1, e])
/-- What Depth gives. -/
def DeepIs (zs : List Ed) (m : Nat) (w : World) (e : Ending) (w' : World) : Prop :=
  ∃ (l : List Int), KahnAll zs m l ∧ Below w.heap.size w w' ∧ ((l.length < m ∧ e = .returned (.tuple #[.slice none 0 0, .bool false, .int .i64 0])) ∨
    (l.length = m ∧ ∃ (D : List Int) (A : Option Addr) (c : Nat), DepthIs zs m D ∧ e = .returned (.tuple #[.slice A D.length c, .bool true, .int .i64 0]) ∧ w'.ownsRow w.heap.size 3 1 (.slice A D.length c) D.length (ints D) ∧ D.length ≤ c ∧ c ≤ 9223372036854775807))

set_option maxRecDepth 100000 in
set_option maxHeartbeats 4000000 in
theorem left7_no (nodes : Int) (A : Option Addr) (n c : Nat) (zs : List Ed) (hg : rightG nodes zs = false) (hn : n ≤ 1000) (w : World) (hR : Reads w w.heap.size 3 A n (cellsE zs)) :
    Calls Try.prog 11 #[.agg #[.int .i64 nodes, .slice A n c]] w fun e w' => e = .returned (.tuple #[.slice none 0 0, .int .i64 150]) ∧ Below w.heap.size w w' := by
  obtain ⟨bx, b0⟩ := box_new w #[.int .i64 nodes, .slice A n c] 24
  have HS := Lib.hid (taken_no nodes A n c zs hg hn _ ((hR.below b0).more b0.size))
  have B0 := Lib.hid b0
  have z0 := bx.cell 0
  have z1 := bx.cell 1
  clear hR bx b0 hg
  refine (callsIn_wide (n := 6)).1 (callsIn_of_wp_marks Try.func11 rfl trivial ?_ rfl)
  simp only [Try.ntmps11, List.size_toArray, List.length_cons, List.length_nil, Nat.reduceAdd, Nat.reduceSub, Array.replicate_succ, Array.replicate_zero, List.push_toArray, List.append_toArray, List.nil_append, List.cons_append]
  gi_upto_region 1 with fail
  generalize w.alloc (.cells #[.int .i64 nodes, .slice A n c] 24) = W0 at *
  gi_wp2_with fail
  refine ⟨trivial, (callsIn_wide.2 HS.out).mono ?_⟩
  rintro e w1 ⟨rfl, h4⟩
  have B2 : Hid (Below w.heap.size w w1) := B0.out.trans (h4.mono B0.out.size)
  clear h4 z0 z1 HS B0
  gi_wp2_with fail
  exact ⟨.tuple #[.slice none 0 0, .int .i64 150], by simp [results, Try.results11, go_sem], rfl, B2.out⟩

set_option maxRecDepth 100000 in
set_option maxHeartbeats 4000000 in
theorem depth7_no (nodes : Int) (A : Option Addr) (n c : Nat) (zs : List Ed) (hg : rightG nodes zs = false) (hn : n ≤ 1000) (w : World) (hR : Reads w w.heap.size 3 A n (cellsE zs)) :
    Calls Try.prog 12 #[.agg #[.int .i64 nodes, .slice A n c]] w fun e w' => e = .returned (.tuple #[.slice none 0 0, .bool false, .int .i64 150]) ∧ Below w.heap.size w w' := by
  obtain ⟨bx, b0⟩ := box_new w #[.int .i64 nodes, .slice A n c] 24
  have HS := Lib.hid (leaving7_no nodes A n c zs hg hn _ ((hR.below b0).more b0.size))
  have B0 := Lib.hid b0
  have z0 := bx.cell 0
  have z1 := bx.cell 1
  clear hR bx b0 hg
  refine (callsIn_wide (n := 6)).1 (callsIn_of_wp_marks Try.func12 rfl trivial ?_ rfl)
  simp only [Try.ntmps12, List.size_toArray, List.length_cons, List.length_nil, Nat.reduceAdd, Nat.reduceSub, Array.replicate_succ, Array.replicate_zero, List.push_toArray, List.append_toArray, List.nil_append, List.cons_append]
  gi_upto_region 1 with fail
  generalize w.alloc (.cells #[.int .i64 nodes, .slice A n c] 24) = W0 at *
  gi_wp2_with fail
  refine ⟨trivial, (callsIn_wide.2 HS.out).mono ?_⟩
  rintro e w1 ⟨rfl, h4⟩
  have B2 : Hid (Below w.heap.size w w1) := B0.out.trans (h4.mono B0.out.size)
  clear h4 z0 z1 HS B0
  gi_wp2_with fail
  exact ⟨.tuple #[.slice none 0 0, .bool false, .int .i64 150], by simp [results, Try.results12, go_sem], rfl, B2.out⟩

set_option maxRecDepth 100000 in
set_option maxHeartbeats 1600000 in
theorem depth7_ok (m : Nat) (A : Option Addr) (n c : Nat) (zs : List Ed) (hg : IsG (m : Int) zs) (hn : n ≤ 1000) (hnc : n ≤ c) (w : World) (hR : Reads w w.heap.size 3 A n (cellsE zs)) :
    Calls Try.prog 12 #[.agg #[.int .i64 (m : Int), .slice A n c]] w (DeepIs zs m w) := by
  obtain ⟨bx, b0⟩ := box_new w #[.int .i64 (m : Int), .slice A n c] 24
  have HS := Lib.hid (leaving7_ok m A n c zs hg hn hnc _ ((hR.below b0).more b0.size))
  have hm := hg.nodes
  have HM : Hid (m ≤ 300) := by show _ ≤ _; omega
  have HG := Lib.hid hg
  have HR := Lib.hid fun X (h : Below w.heap.size w X) => hR.below h
  have HORD := Lib.hid fun (X : World) (h : Below w.heap.size w X) => order7_ok m A n c zs hg hn hnc X ((hR.below h).more h.size)
  have BX := Lib.hid bx
  have B0 := Lib.hid b0
  have z0 := bx.cell 0
  have z1 := bx.cell 1
  have hmk : ∀ X, (Instr.makeSlice 27 (.int .i64 (m : Int)) (.int .i64 (m : Int))).run Try.prog X = .ok (.slice (some ⟨X.heap.size, 0, none⟩) m m) (X.alloc (.cells (ints (List.replicate m 0)).toArray 3)) := fun X => int_make m (m : Int) rfl (by omega) X
  have HZ : Hid (zs.length ≤ 1000) := by have := reads_len hR; show _ ≤ _; omega
  clear hR bx b0 hg hm
  refine (callsIn_wide (n := 6)).1 (callsIn_of_wp_marks Try.func12 rfl trivial ?_ rfl)
  simp only [Try.ntmps12, List.size_toArray, List.length_cons, List.length_nil, Nat.reduceAdd, Nat.reduceSub, Array.replicate_succ, Array.replicate_zero, List.push_toArray, List.append_toArray, List.nil_append, List.cons_append]
  gi_upto_region 1 with fail
  generalize w.alloc (.cells #[.int .i64 (m : Int), .slice A n c] 24) = W0 at *
  gi_wp2_with fail
  refine ⟨trivial, (callsIn_wide.2 HS.out).mono ?_⟩
  rintro e w1 ⟨Lg, Ls, A2, n2, c2, Sa, sc, rfl, hL, hn2, h4⟩
  have BX1 := Lib.hid (BX.out.below h4 BX.out.lt)
  have B1 : Hid (Below w.heap.size w w1) := B0.out.trans (h4.mono B0.out.size)
  have HL := Lib.hid hL
  have HO1 := Lib.hid (HORD.out w1 B1.out)
  have z0 := BX1.out.cell 0
  have z1 := BX1.out.cell 1
  clear hL h4 HS BX B0 HORD
  gi_wp2_with fail
  refine ⟨trivial, (callsIn_wide.2 HO1.out).mono ?_⟩
  rintro e w2 ⟨o, hall, hb, hor⟩
  have BX2 := Lib.hid (BX1.out.below hb BX1.out.lt)
  have B2 : Hid (Below w.heap.size w w2) := B1.out.trans (hb.mono B1.out.size)
  have HL2 := Lib.hid (HL.out.on hb)
  have HS12 : Hid (w1.heap.size ≤ w2.heap.size ∧ w.heap.size ≤ w1.heap.size) := ⟨hb.size, B1.out.size⟩
  have HALL := Lib.hid hall
  have z0 := BX2.out.cell 0
  clear hb BX1 B1 HL HO1 z1 hall
  rcases hor with ⟨hlen, rfl⟩ | ⟨hlen, Ao, co, rfl, ho, _, _⟩
  · have HLEN := Lib.hid hlen
    clear hlen hmk
    gi_wp2_with fail
    exact ⟨.tuple #[.slice none 0 0, .bool false, .int .i64 0], by simp [results, Try.results12, go_sem], o, HALL.out, B2.out, .inl ⟨HLEN.out, rfl⟩⟩
  · have HLEN := Lib.hid hlen
    have HOR := Lib.hid fun X (h : Below w2.heap.size w2 X) => (Reads.of_own ho).below h
    have HRO : Hid (RightO zs m o) := HALL.out.right hlen
    clear hlen ho
    gi_upto_region 8 with fail
    have hb1 : Below w2.heap.size w2 (w2.alloc (.cells (ints (List.replicate m 0)).toArray 3)) := (Below.refl _ _).alloc (Nat.le_refl _) _
    have hb2 : Below w2.heap.size w2 ((w2.alloc (.cells (ints (List.replicate m 0)).toArray 3)).alloc (.cells #[.slice (some ⟨w2.heap.size, 0, none⟩) m m] 27)) := hb1.alloc hb1.size _
    have kp := (Blk.new w2 3 (ints (List.replicate m 0)).toArray).alloc (.cells #[.slice (some ⟨w2.heap.size, 0, none⟩) m m] 27)
    have kb := Blk.new (w2.alloc (.cells (ints (List.replicate m 0)).toArray 3)) 27 #[.slice (some ⟨w2.heap.size, 0, none⟩) m m]
    rw [World.size_alloc] at kb
    have KP := Lib.hid kp
    have KB := Lib.hid kb
    have BX3 := Lib.hid (BX2.out.below hb2 BX2.out.lt)
    have HB2 := Lib.hid hb2
    have B3 : Hid (Below w.heap.size w ((w2.alloc (.cells (ints (List.replicate m 0)).toArray 3)).alloc (.cells #[.slice (some ⟨w2.heap.size, 0, none⟩) m m] 27))) := B2.out.trans (hb2.mono B2.out.size)
    have HL3 := Lib.hid (HL2.out.on (hb2.mono HS12.out.1))
    clear hb1 hb2 kp kb z0 hmk BX2
    generalize (w2.alloc (.cells (ints (List.replicate m 0)).toArray 3)).alloc (.cells #[.slice (some ⟨w2.heap.size, 0, none⟩) m m] 27) = W2 at *
    obtain ⟨P, hP⟩ : ∃ P, P = w2.heap.size := ⟨_, rfl⟩
    obtain ⟨BW, hBW⟩ : ∃ BW, BW = w2.heap.size + 1 := ⟨_, rfl⟩
    rw [← hBW]
    have KP : Hid (Blk W2 P 3 (ints (List.replicate m 0)).toArray) := by rw [hP]; exact KP
    have KB : Hid (Blk W2 BW 27 #[.slice (some ⟨P, 0, none⟩) m m]) := by rw [hP, hBW]; exact KB
    have HPW : Hid (P = w2.heap.size ∧ P < W2.heap.size) := ⟨hP, KP.out.lt⟩
    have HXP : Hid (BW ≠ P) := Blk.ne_ KB.out KP.out (by decide)
    have HP0 : Hid (P < W2.heap.size) := KP.out.lt
    clear hP hBW
    have K0 : Hid (Keep (fun k => k ≠ P) W2 W2) := Keep.refl _ _
    have M0 : Hid (MarksAt W2.heap.size (fun _ => False) [] W2) := MarksAt.nil _ _ _
    have HD0 : Hid (DepW zs m (fun p => p.1 ∈ o.take 0) (List.replicate m 0)) := DepW.start zs m fun p h => by simp at h
    have HH0 : Hid (∀ v, dE (List.replicate m 0) v ≤ ((0 : Nat) : Int)) := fun v => by rw [dE_zero]; exact Int.le_refl _
    gi_wp2_with fail
    refine wpIn_loop_ghost_k (fun gg a w3 => ∃ (Ds : List Nat) (i : Nat) (D : List Int) (u : Nat → Value), (i + gg = m ∧ Hid (DepW zs m (fun p => p.1 ∈ o.take i) D) ∧ Hid (∀ v, dE D v ≤ (i : Int)) ∧ Hid (Blk w3 P 3 (ints D).toArray) ∧ Hid (Keep (fun k => k ≠ P) W2 w3) ∧ Hid (MarksAt W2.heap.size (fun _ => False) Ds w3)) ∧ a = { tmps := #[u 0, u 1, u 2, u 3, u 4, .func (.func 56) #[] #[.pointer (some ⟨Lg, 0, none⟩), .pointer (some ⟨Ls, 0, none⟩)], u 6, u 7, u 8, .pointer (some ⟨BW, 0, none⟩), u 10, u 11, u 12, u 13, u 14, u 15, u 16, u 17, u 18, u 19, u 20, u 21, u 22, u 23, u 24, u 25, u 26, u 27, u 28, u 29, u 30, u 31, u 32, u 33, u 34, u 35, u 36, .slice Ao o.length co, .int .i64 (o.length : Int), .int .i64 (i : Int), u 40, u 41, u 42, u 43, u 44, u 45, u 46, u 47, u 48, u 49, u 50, u 51, u 52, u 53, u 54, u 55, u 56, u 57, u 58, u 59, u 60, u 61, u 62, u 63], defers := Ds.map mkMark }) m ?start1 ?round1
    case start1 =>
      exact ⟨[], 0, List.replicate m 0, packD ⟨by omega, HD0, HH0, KP, K0, M0⟩ rfl rfl rfl rfl rfl rfl rfl⟩
    case round1 =>
      clear K0 M0 HD0 HH0
      clear KP
      clear KP
      intro gk _ wr hinv
      obtain ⟨Ds, i, D, u, ⟨hig, HD, HH, KP, KK, MK⟩, ha⟩ := hinv
      subst ha
      intro _ _ _ _
      have HBL : Hid (∀ X, Keep (fun k => k ≠ P) W2 X → Below w.heap.size w X ∧ Below w2.heap.size w2 X) := fun X h => ⟨B3.out.trans (h.below B3.out.size fun j hj e => by have := HPW.out.1; have := B2.out.size; omega), HB2.out.trans (h.below HB2.out.size fun j hj e => by have := HPW.out.1; omega)⟩
      have HLV : Hid (∀ X, Keep (fun k => k ≠ P) W2 X → LvAt w1.heap.size Lg Ls A2 n2 c2 Sa sc m zs X) := fun X h => HL3.out.on (h.below (by have := HS12.out; have := HB2.out.size; omega) fun j hj e => by have := HPW.out.1; have := HS12.out; omega)
      have y0 := (KK.out.blk KB.out HXP.out).cell 0
      have hol := HLEN.out
      cases gk with
      | zero =>
        obtain rfl : i = m := by omega
        have hge : ¬ (i : Int) < (o.length : Int) := by omega
        have HB := Lib.hid (HBL.out _ KK.out).1
        have HE : Hid (DepthIs zs i D) := HD.out.done fun p hp => by
          rw [List.take_of_length_le (by omega)]
          have hr := of_decide_eq_true (HG.out.all p hp)
          exact full_all HRO.out.once HRO.out.ends HRO.out.many hr.1.1 hr.1.2
        have HDL : Hid (D.length = i) := HE.out.len
        clear hig HD HH HBL HLV hol
        gi_wp2_with fail
        refine leaves_marks Ds wr MK.out fun w' hk => ?_
        refine ⟨.tuple #[.slice (some ⟨P, 0, none⟩) i i, .bool true, .int .i64 0], by simp [results, Try.results12, go_sem], o, HALL.out, ?_, .inr ⟨HLEN.out, D, some ⟨P, 0, none⟩, i, HE.out, by rw [HDL.out], ?_, by rw [HDL.out]; exact Nat.le_refl _, by have := HM.out; omega⟩⟩
        · exact HB.out.trans (hk.below HB.out.size fun j hj hD => by have := (MK.out.all j hD).1; have := B3.out.size; omega)
        · rw [HDL.out]
          refine blk_own1 (by have := HPW.out.1; have := B2.out.size; omega) (hk.blk KP.out fun hD => MK.out.ne KP.out hD rfl) (by rw [ints_length, HDL.out]) (by have := HM.out; omega)
      | succ g2 =>
        have hlt : (i : Int) < (o.length : Int) := by omega
        have HI : Hid (i + 1 + g2 = m) := by show _ = _; omega
        obtain ⟨x, hx⟩ : ∃ x, o[i]? = some x := ⟨_, List.getElem?_eq_getElem (by omega)⟩
        have hxe := HRO.out.ends x (List.mem_of_getElem? hx)
        obtain ⟨t, rfl⟩ : ∃ t : Nat, x = (t : Int) := ⟨x.toNat, by omega⟩
        have htm : t < m := by omega
        obtain ⟨b1, o1, hb1, hb2, hb3⟩ := reads_plain (HOR.out _ (HBL.out _ KK.out).2) (by omega)
        subst hb1
        have x0 := hb3 i (.int .i64 (t : Int)) (by unfold ints; rw [List.getElem?_map, hx]; rfl)
        have HX := Lib.hid hx
        have HT : Hid (t < m) := htm
        have hba : Below wr.heap.size wr (wr.alloc (.cells #[.int .i64 (t : Int)] 3)) := (Below.refl _ _).alloc (Nat.le_refl _) _
        have KBV := Lib.hid (Blk.new wr 3 #[.int .i64 (t : Int)])
        have KKN : Hid (Keep (fun k => k ≠ P) W2 (wr.alloc (.cells #[.int .i64 (t : Int)] 3))) := KK.out.alloc _
        have KPN := Lib.hid (KP.out.below hba KP.out.lt)
        have MKN : Hid (MarksAt W2.heap.size (fun _ => False) Ds (wr.alloc (.cells #[.int .i64 (t : Int)] 3))) := MK.out.keep (Keep.of_all (fun _ => True) hba) fun _ _ => trivial
        have HBP : Hid (wr.heap.size ≠ P) := Ne.symm (Nat.ne_of_lt KP.out.lt)
        clear hb2 hb3 hx hxe htm hba hig hol
        gi_upto_region 11 with fail
        clear x0 y0 KK KP MK
        generalize wr.alloc (.cells #[.int .i64 (t : Int)] 3) = wa at *
        generalize wr.heap.size = BV at *
        have v0 := KBV.out.cell 0
        have HO1 := Lib.hid (out1_any w1.heap.size Lg Ls A2 n2 c2 Sa sc m zs t HG.out.row HM.out HT.out wa (HLV.out _ KKN.out) (by have := KKN.out.size; have := HS12.out; have := HB2.out.size; omega))
        gi_wp2_with fail
        refine ⟨trivial, (callsIn_wide.2 HO1.out).mono ?_⟩
        rintro e wx ⟨Bx, Av, cv, rfl, hbx, hxl, hrv, hbw⟩
        have KX : Hid (Keep (fun k => k ≠ P) W2 wx) := KKN.out.trans (Keep.of_all _ hbw)
        have KPX := Lib.hid (KPN.out.below hbw KPN.out.lt)
        have KVX := Lib.hid (KBV.out.below hbw KBV.out.lt)
        have MX : Hid (MarksAt W2.heap.size (fun _ => False) Ds wx) := MKN.out.keep (Keep.of_all (fun _ => True) hbw) fun _ _ => trivial
        have hs1 : w1.heap.size ≤ wx.heap.size := by have := KX.out.size; have := HS12.out; have := HB2.out.size; omega
        have HSEQ := Lib.hid (values_ones 5 w1.heap.size Bx (outE zs (t : Int)).length cv Av (outE zs (t : Int)) (by have := HZ.out; unfold outE; have := List.length_filter_le (fun p : Ed => decide (p.1 = (t : Int))) zs; omega) wx hbx hrv hs1)
        have HBX : Hid (Bx < wx.heap.size ∧ w1.heap.size ≤ wx.heap.size ∧ P ≠ Bx ∧ ¬ P < w1.heap.size) := ⟨hbx.lt, hs1, (by have := KPN.out.lt; omega), by have := HPW.out.1; have := HS12.out; omega⟩
        have KBX := Lib.hid (KX.out.blk KB.out HXP.out)
        have JX : Hid (Keep (fun k => k ≠ P) wx wx) := Keep.refl _ _
        clear hbx hxl hrv hbw hs1 KKN KPN MKN HO1 KBV v0
        gi_wp2_with fail
        refine range_box none (by omega) (gf := 61) (lb := #[.pointer (some ⟨Bx, 0, none⟩)]) rfl eg_values7 HSEQ.out (Keep.refl _ _) (fun k hk => by have := HBX.out; rcases hk with rfl | hk <;> omega) cellsE1 50 46 12 rfl
          (fun vs C X => C = (fun k => k = P) ∧ ∃ E, vs <+: outE zs (t : Int) ∧ DepW zs m (fun p => p.1 ∈ o.take i ∨ p ∈ vs) E ∧ (∀ v, dE E v ≤ (i : Int) + 1) ∧ dE E (t : Int) ≤ (i : Int) ∧ Blk X P 3 (ints E).toArray ∧ Keep (fun k => k ≠ P) wx X) (fun _ => False) (fun k => k = P) ?hC0 ?h0 ?hI (fun _ _ h _ => h) ?assign ?body ?done ?stop
        case hC0 =>
          rintro k rfl
          exact ⟨fun h => h.elim HBX.out.2.2.1 HBX.out.2.2.2, KPX.out.lt⟩
        case h0 => exact ⟨rfl, D, List.nil_prefix, HD.out.congr fun p _ => by simp, fun v => by have := HH.out v; omega, HH.out _, KPX.out, JX.out⟩
        case hI =>
          rintro vs C X Y ⟨rfl, E, h1, h2, h3, h4, h5, h6⟩ hk
          exact ⟨rfl, E, h1, h2, h3, h4, hk.blk h5 (.inr rfl), h6.then_ (hk.mono fun k _ h => .inl h.1)⟩
        case assign =>
          intro l2 p Y K hK
          simp only [List.setIfInBounds_toArray, List.set_cons_zero, List.set_cons_succ] at hK ⊢
          unfold valE at hK ⊢
          unfold cellsE1 at hK
          gi_wp2_with fail
          exact hK
        case body =>
          rintro l2 vs p C Bp X ⟨rfl, E, _, hdw, hdh, hdt, hbl, hkp⟩ hpre _ hsz hBp hbp
          have hpz : p ∈ outE zs (t : Int) := List.IsPrefix.subset hpre (by simp)
          have hpz1 := (List.mem_filter.1 hpz).1
          have hpv : p.1 = (t : Int) := of_decide_eq_true (List.mem_filter.1 hpz).2
          have hr := of_decide_eq_true (HG.out.all p hpz1)
          obtain ⟨s, hs⟩ : ∃ s : Nat, p.2.1 = (s : Int) := ⟨p.2.1.toNat, by omega⟩
          have hsm : s < m := by omega
          have hsl : (s : Int) < (m : Int) := by omega
          have htl : (t : Int) < (m : Int) := by have := HT.out; omega
          have hEl := hdw.len
          have hE1 := dE_get (D := E) (v := s) (by omega)
          have hE2 := dE_get (D := E) (v := t) (by have := HT.out; omega)
          have hcell : ∀ (j : Nat) (y : Int), E[j]? = some y → X.cell? ⟨P, j, none⟩ = some (.int .i64 y) := fun j y hy => by
            rw [hbl.cell, List.getElem?_toArray]
            unfold ints
            rw [List.getElem?_map, hy]
            rfl
          have hne : p.1 ≠ p.2.1 := hr.2.2.1
          have hnx := hdw.next HG.out.all hpz1 (fun q hq hQ => depth_source HG.out.all HRO.out HX.out hpz q hq (hQ.imp id fun h => List.IsPrefix.subset hpre (by simp [h])))
          have hts : ¬ (t : Int) = p.2.1 := fun e => hne (hpv.trans e)
          rw [hs] at hnx hts
          rw [hpv] at hnx
          have hlo := hdw.lo (t : Int)
          have hi9 : i ≤ 300 := by have := HI.out; have := HM.out; omega
          obtain ⟨a, ha⟩ : ∃ a, dE E (s : Int) = a := ⟨_, rfl⟩
          obtain ⟨b, hb⟩ : ∃ b, dE E (t : Int) = b := ⟨_, rfl⟩
          obtain ⟨b1, hb1⟩ : ∃ b1, b + 1 = b1 := ⟨_, rfl⟩
          obtain ⟨mx, hmx⟩ : ∃ mx, max a b1 = mx := ⟨_, rfl⟩
          have hah := hdh (s : Int)
          rw [ha] at hE1 hnx hah
          rw [hb] at hE2 hnx hlo hdt
          rw [hb1, hmx] at hnx
          have hw1 : IntKind.i64.wrap (b + 1) = b1 := by rw [IntKind.wrap_i64]; omega
          have hw2 : wrap64 (b + 1) = b1 := by unfold wrap64; omega
          have c1 := hcell _ _ hE1
          have c2 := hcell _ _ hE2
          have c3 := hbl.frozen s
          have y0 := (hkp.blk KBX.out HXP.out).cell 0
          have v0 := (hkp.blk KVX.out HBP.out).cell 0
          have e1 : X.cell? ⟨Bp, 1, none⟩ = some (.int .i64 (s : Int)) := by rw [← hs]; exact hbp.cell 1
          have HNX : Hid (DepW zs m (fun q => q.1 ∈ o.take i ∨ q ∈ vs ++ [p]) (E.set s mx)) := by
            rw [Int.toNat_natCast] at hnx
            exact hnx.congr fun q _ => by simp [or_assoc]
          have HHX : Hid (∀ v, dE (E.set s mx) v ≤ (i : Int) + 1) := fun v => by
            rcases Int.lt_or_le v 0 with hv | hv
            · have e1 : ∀ Z : List Int, dE Z v = dE Z 0 := fun Z => by unfold dE; rw [show v.toNat = (0 : Int).toNat by omega]
              rw [e1]
              have := dE_set (D := E) (u := (s : Int)) (v := 0) (x := mx) (by omega) (by omega) (by omega)
              rw [Int.toNat_natCast] at this
              rw [this]
              split
              · omega
              · exact hdh 0
            · have := dE_set (D := E) (u := (s : Int)) (v := v) (x := mx) (by omega) (by omega) hv
              rw [Int.toNat_natCast] at this
              rw [this]
              split
              · omega
              · exact hdh v
          have HTX : Hid (dE (E.set s mx) (t : Int) ≤ (i : Int)) := by
            have := dE_set (D := E) (u := (s : Int)) (v := (t : Int)) (x := mx) (by omega) (by omega) (by omega)
            rw [Int.toNat_natCast] at this
            show _ ≤ _
            rw [this, if_neg hts, hb]
            exact hdt
          have HBN : Hid (Blk (X.setCell ⟨P, s, none⟩ (.int .i64 mx)) P 3 (ints (E.set s mx)).toArray) := by
            have := hbl.set_ s (.int .i64 mx)
            rw [List.setIfInBounds_toArray, ints_set] at this
            exact this
          have HKN : Hid (Keep (fun k => k ≠ P) wx (X.setCell ⟨P, s, none⟩ (.int .i64 mx))) := hkp.set (.inr fun h => h rfl) _ _
          have HPRE := Lib.hid hpre
          have HPL : Hid (P < X.heap.size) := hbl.lt
          have hk1 : Keep (fun k => ¬ (k = P)) X (X.setCell ⟨P, s, none⟩ (.int .i64 mx)) := (Keep.refl _ X).set (.inr fun h => h rfl) _ _
          have HK1 := Lib.hid hk1.drew
          clear hpz hpz1 hpv hr hs hsm hEl hE1 hE2 hcell hne hnx hts hlo hah ha hb hdw hdh hdt hbl hkp hpre hsz hBp hbp hi9 hb1 hk1
          simp only [List.setIfInBounds_toArray, List.set_cons_zero, List.set_cons_succ]
          unfold valE
          gi_upto_region 13 with fail
          refine still_round 14 (by kernel_rfl) (by kernel_rfl) (by kernel_rfl) ?_
          simp only [List.take_succ_cons, List.take_zero, List.drop_succ_cons, List.drop_zero]
          repeat still_step
          try refine wpStill_nil ?_
          go_wp2_with fail
          refine .inl ⟨fun k => k = P, ?_, HK1.out, rfl, rfl, _, HPRE.out, HNX.out, HHX.out, HTX.out, HBN.out.drew, HKN.out.drew⟩
          rintro k rfl
          refine ⟨?_, .inl rfl⟩
          have := HPL.out
          show _ < (X.setCell _ _).heap.size
          rw [World.size_setCell]
          exact this
        case done =>
          rintro vs C D2 X hD rfl ⟨rfl, E, _, hdw, hdh, hdt, hbl, hkp⟩ hdef
          have HD2 : Hid (DepW zs m (fun p => p.1 ∈ o.take (i + 1)) E) := hdw.congr fun p hp => by
            rw [take_next HX.out, List.mem_append, List.mem_singleton]
            refine or_congr_right ?_
            unfold outE
            rw [List.mem_filter, decide_eq_true_eq]
            exact ⟨fun h => h.2, fun h => ⟨hp, h⟩⟩
          have HH2 : Hid (∀ v, dE E v ≤ ((i + 1 : Nat) : Int)) := fun v => by have := hdh v; omega
          have KP2 := Lib.hid hbl
          have KK2 : Hid (Keep (fun k => k ≠ P) W2 X) := KX.out.trans hkp
          have MK2 : Hid (MarksAt W2.heap.size (fun _ => False) (D2 :: Ds) X) := (MX.out.keep hkp fun F hF => MX.out.ne KPX.out hF).cons (Nat.le_trans KX.out.size hD) id hdef fun h => by have := MX.out.lt h; omega
          have hi9 : i ≤ 300 := by have := HI.out; have := HM.out; omega
          clear hdw hdh hdt hbl hkp hdef hD
          gi_wp2_with fail
          refine Handed.intro g2 ?measure ?_
          rotate_left
          first | gi_step | go_step
          exact ⟨D2 :: Ds, i + 1, E, packD ⟨HI.out, HD2, HH2, KP2, KK2, MK2⟩ rfl rfl rfl rfl rfl rfl rfl⟩
          case measure => omega
        case stop =>
          intro D2 X hD h
          exact h.elim
end Go.Proofs.Ytaigpdpcliecpaa
namespace Go.Proofs.Ytaigpdpcliecpaa
open Go.RowKit Go.Shelf

theorem free_next {zs : List Ed} {l : List Int} {v : Int} {i : Nat} {p : Ed} (hp : zs[i]? = some p) : freeB (zs.take (i + 1)) l v = (freeB (zs.take i) l v && (decide (p.2.1 ≠ v) || decide (p.1 ∈ l))) := by
  unfold freeB
  rw [List.take_add_one, hp, List.all_append]
  simp [Bool.and_assoc]
set_option maxRecDepth 100000 in
set_option maxHeartbeats 4000000 in
theorem next7_any (m : Nat) (A : Option Addr) (n c : Nat) (zs : List Ed) (hz : ∀ p ∈ zs, rightE (m : Int) p = true) (hm : m ≤ 300) (Ag : Option Addr) (cg : Nat) (l : List Int) (hn : n ≤ 1000) (w : World) (hR : Reads w w.heap.size 3 A n (cellsE zs)) (hG : Reads w w.heap.size 1 Ag m (bools (goneL m l))) :
    Calls Try.prog 36 #[.agg #[.int .i64 (m : Int), .slice A n c], .slice Ag m cg] w fun e w' => ∃ x : Int, e = .returned (.int .i64 x) ∧ ((x = -1 ∧ NoneT zs m l) ∨ NextT zs m l x) ∧ Below w.heap.size w w' := by
  obtain ⟨bx, b0⟩ := box_new w #[.int .i64 (m : Int), .slice A n c] 24
  have HL := Lib.hid (reads_len hR)
  have HR := Lib.hid fun W (h : Below w.heap.size w W) => (hR.below h)
  have HGG := Lib.hid fun W (h : Below w.heap.size w W) => (hG.below h)
  have HZ := Lib.hid hz
  have BX := Lib.hid fun W (h : Below (w.alloc (.cells #[.int .i64 (m : Int), .slice A n c] 24)).heap.size (w.alloc (.cells #[.int .i64 (m : Int), .slice A n c] 24)) W) => bx.below h bx.lt
  have z0 := bx.cell 0
  have z1 := bx.cell 1
  have B0 := Lib.hid b0
  clear hR hG bx b0 hz
  go_enter Try.func36, Try.ntmps36
  go_wp2_with fail
  generalize w.alloc (.cells #[.int .i64 (m : Int), .slice A n c] 24) = W0 at *
  clear z0 z1
  go_loopg [11] m (fun gg s11 wr => ∃ v : Nat, s11 = .int .i64 v ∧ v + gg = m ∧ Hid (∀ u : Int, 0 ≤ u → u < (v : Int) → freeB zs l u = false) ∧ Hid (Below W0.heap.size W0 wr))
  case atStart => exact ⟨0, rfl, by omega, fun u h0 h1 => by omega, Below.refl _ _⟩
  case round =>
    obtain ⟨v, rfl, hvg, HF, HB⟩ := hrel
    cases gk with
    | zero =>
      have hge : ¬ (v : Int) < (m : Int) := by omega
      obtain rfl : v = m := by omega
      have HE : Hid (NoneT zs v l) := fun u h0 h1 => HF.out u h0 h1
      clear hvg HF
      go_wp2_with fail
      go_ret
      exact ⟨-1, rfl, .inl ⟨rfl, HE.out⟩, B0.out.trans (HB.out.mono B0.out.size)⟩
    | succ g2 =>
      have hlt : (v : Int) < (m : Int) := by omega
      have hvm : v < m := by omega
      have HI : Hid (v + 1 + g2 = m ∧ v < m) := by show _ ∧ _; omega
      obtain ⟨b1, o1, hb1, _, hb3⟩ := reads_plain (HGG.out _ (B0.out.trans (HB.out.mono B0.out.size))) (by omega)
      subst hb1
      have y1 : wr.cell? ⟨b1, o1 + v, none⟩ = some (.bool (decide ((v : Int) ∈ l))) := hb3 v _ (bools_get (goneL_get l hvm))
      have z1 := (BX.out _ HB.out).cell 1
      have HFB : Hid (freeB (zs.take 0) l (v : Int) = (!decide ((v : Int) ∈ l))) := by unfold freeB; simp [Hid]
      clear hvg hvm hb3
      go_wp2_with fail
      rw [← HFB.out]
      clear y1 z1
      go_loopg [6, 22] n (fun gg s6 s22 wx => ∃ (i : Nat), s22 = .int .i64 i ∧ s6 = .bool (freeB (zs.take i) l (v : Int)) ∧ i + gg = n ∧ Hid (Below W0.heap.size W0 wx))
      case atStart => exact ⟨0, rfl, rfl, by omega, HB⟩
      case round =>
        clear HB
        obtain ⟨i, rfl, rfl, hig, HB⟩ := hrel
        rename World => wx
        cases gk with
        | zero =>
          have hge : ¬ (i : Int) < (n : Int) := by omega
          have hall : freeB (zs.take i) l (v : Int) = freeB zs l (v : Int) := by rw [List.take_of_length_le (by rw [HL.out]; omega)]
          rw [hall]
          clear hig hall
          cases hf : freeB zs l (v : Int)
          · have HF2 : Hid (∀ u : Int, 0 ≤ u → u < ((v + 1 : Nat) : Int) → freeB zs l u = false) := fun u h0 h1 => by
              rcases Int.lt_or_eq_of_le (show u ≤ (v : Int) by omega) with h | h
              · exact HF.out u h0 h
              · rw [h]; exact hf
            have hv9 : v ≤ 300 := by have := HI.out; omega
            clear hf
            go_wp2_with fail
            go_roundg g2
            case measure => omega
            case rel => exact ⟨v + 1, by go_num, HI.out.1, HF2, HB⟩
          · have HE : Hid (NextT zs m l (v : Int)) := ⟨by have := HI.out; omega, hf, HF.out⟩
            clear hf
            go_wp2_with fail
            go_ret
            exact ⟨(v : Int), rfl, .inr HE.out, B0.out.trans (HB.out.mono B0.out.size)⟩
        | succ g3 =>
          have hlt : (i : Int) < (n : Int) := by omega
          obtain ⟨p, hp⟩ : ∃ p, zs[i]? = some p := ⟨zs[i]'(by rw [HL.out]; omega), List.getElem?_eq_getElem _⟩
          obtain ⟨b, o, rfl, hb, g0, g1, gk2⟩ := ed_at (HR.out _ (B0.out.trans (HB.out.mono B0.out.size))) hp
          have hr := of_decide_eq_true (HZ.out p (List.mem_of_getElem? hp))
          obtain ⟨s, hs⟩ : ∃ s : Nat, p.1 = (s : Int) := ⟨p.1.toNat, by omega⟩
          have hsm : s < m := by omega
          have hsl : (s : Int) < (m : Int) := by omega
          obtain ⟨b2, o2, hb2, _, hb4⟩ := reads_plain (HGG.out _ (B0.out.trans (HB.out.mono B0.out.size))) (by omega)
          have hb2' : b1 = b2 ∧ o1 = o2 := by injection hb2 with e; injection e with e1 e2; exact ⟨e1, e2⟩
          obtain ⟨rfl, rfl⟩ := hb2'
          have y1 : wx.cell? ⟨b1, o1 + s, none⟩ = some (.bool (decide ((s : Int) ∈ l))) := hb4 s _ (bools_get (goneL_get l hsm))
          have HIG : Hid (i + 1 + g3 = n) := by show _ = _; omega
          have HX := Lib.hid (Blk.new wx 50 #[.int .i64 p.1, .int .i64 p.2.1, .int .i64 p.2.2])
          have HB1 := Lib.hid (HB.out.alloc HB.out.size (.cells #[.int .i64 p.1, .int .i64 p.2.1, .int .i64 p.2.2] 50))
          have y2 : (wx.alloc (.cells #[.int .i64 p.1, .int .i64 p.2.1, .int .i64 p.2.2] 50)).cell? ⟨b1, o1 + s, none⟩ = some (.bool (decide ((s : Int) ∈ l))) := (World.cell?_alloc_lt wx _ ⟨b1, o1 + s, none⟩ (World.block_lt_of_cell? wx _ y1)).trans y1
          have HNX := Lib.hid (free_next (l := l) (v := (v : Int)) hp)
          obtain ⟨X, hX⟩ : ∃ X, wx.heap.size = X := ⟨_, rfl⟩
          rw [hX] at HX
          have hi9 : i ≤ 1000 := by omega
          have HS := Lib.hid hs
          clear hig hb4 hb2 hp hr hsm hs
          go_upto_region 8 with fail
          clear g0 g1 gk2 hX HB y1
          generalize wx.alloc (.cells #[.int .i64 p.1, .int .i64 p.2.1, .int .i64 p.2.2] 50) = wy at *
          have z0 : wy.cell? ⟨X, 0, none⟩ = some (.int .i64 (s : Int)) := by rw [← HS.out]; exact HX.out.cell 0
          have z1 : wy.cell? ⟨X, 1, none⟩ = some (.int .i64 p.2.1) := HX.out.cell 1
          by_cases ht : p.2.1 = (v : Int)
          · have ht2 : (p.2.1 == (v : Int)) = true := by simp [ht]
            by_cases hl : (s : Int) ∈ l
            · rw [decide_eq_true hl] at y2
              have HN : Hid (freeB (zs.take (i + 1)) l (v : Int) = freeB (zs.take i) l (v : Int)) := by show _ = _; rw [HNX.out, HS.out]; simp [hl]
              clear hl
              go_wp2_with fail
              go_roundg g3
              case measure => omega
              case rel => exact ⟨i + 1, by go_num, by rw [HN.out], HIG.out, HB1⟩
            · rw [decide_eq_false hl] at y2
              have HN : Hid (freeB (zs.take (i + 1)) l (v : Int) = false) := by show _ = _; rw [HNX.out, HS.out]; simp [hl, ht]
              clear hl
              go_wp2_with fail
              go_roundg g3
              case measure => omega
              case rel => exact ⟨i + 1, by go_num, by rw [HN.out], HIG.out, HB1⟩
          · have ht2 : (p.2.1 == (v : Int)) = false := by simp [ht]
            have HN : Hid (freeB (zs.take (i + 1)) l (v : Int) = freeB (zs.take i) l (v : Int)) := by show _ = _; rw [HNX.out]; simp [ht]
            clear ht
            go_wp2_with fail
            go_roundg g3
            case measure => omega
            case rel => exact ⟨i + 1, by go_num, by rw [HN.out], HIG.out, HB1⟩
end Go.Proofs.Ytaigpdpcliecpaa
namespace Go.Proofs.Ytaigpdpcliecpaa
open Go.RowKit Go.Shelf

/-- What the document's Order gives: what is taken, and what is left. -/
def ROrderIs (zs : List Ed) (m : Nat) (w : World) (e : Ending) (w' : World) : Prop :=
  ∃ (l : List Int) (A A2 : Option Addr) (c c2 : Nat), KahnAll zs m l ∧ e = .returned (.tuple #[.slice A l.length c, .slice A2 (leftE m l).length c2]) ∧ Reads w' w'.heap.size 1 A l.length (ints l) ∧ Reads w' w'.heap.size 1 A2 (leftE m l).length (ints (leftE m l)) ∧ Below w.heap.size w w'

set_option maxRecDepth 100000 in
set_option maxHeartbeats 4000000 in
theorem rorder7_any (m : Nat) (A : Option Addr) (n c : Nat) (zs : List Ed) (hg : IsG (m : Int) zs) (hn : n ≤ 1000) (w : World) (hR : Reads w w.heap.size 3 A n (cellsE zs)) :
    Calls Try.prog 14 #[.agg #[.int .i64 (m : Int), .slice A n c]] w (ROrderIs zs m w) := by
  obtain ⟨i0, hi, hz0, hz1, hz2⟩ := info_parts int_info
  obtain ⟨bx, b0⟩ := box_new w #[.int .i64 (m : Int), .slice A n c] 24
  have hm := hg.nodes
  have HM : Hid (m ≤ 300) := by show _ ≤ _; omega
  have HNX := Lib.hid fun (l : List Int) (P : Nat) (X : World) (h : Below w.heap.size w X) (hb : Blk X P 4 (bools (goneL m l)).toArray) => next7_any m A n c zs hg.all (by omega) (some ⟨P, 0, none⟩) m l hn X ((hR.below h).more h.size)
    ⟨by rw [bools_length, goneL_len, Nat.mul_one], fun _ => ⟨_, rfl, hb.lt, fun j u hu => by rw [Go.WideShapes.add_plain, Nat.zero_add, hb.cell, ← hu, ← List.getElem?_toArray]⟩⟩
  have BX := Lib.hid bx
  have z0 := bx.cell 0
  have z1 := bx.cell 1
  have B0 := Lib.hid b0
  have hmk : ∀ X, (Instr.makeSlice 62 (.int .i64 (m : Int)) (.int .i64 (m : Int))).run Try.prog X = .ok (.slice (some ⟨X.heap.size, 0, none⟩) m m) (X.alloc (.cells (bools (List.replicate m false)).toArray 4)) := fun X => bool_make m (m : Int) rfl (by omega) X
  clear hR bx b0 hg hm
  go_enter Try.func14, Try.ntmps14
  go_upto_region 2 with fail
  generalize w.alloc (.cells #[.int .i64 (m : Int), .slice A n c] 24) = W0 at *
  go_upto_region 3 with fail
  have hb1 : Below W0.heap.size W0 (W0.alloc (.cells (bools (List.replicate m false)).toArray 4)) := (Below.refl _ _).alloc (Nat.le_refl _) _
  have KP : Hid (Blk (W0.alloc (.cells (bools (List.replicate m false)).toArray 4)) W0.heap.size 4 (bools (goneL m [])).toArray) := by rw [goneL_nil]; exact Blk.new W0 _ _
  have B1 : Hid (Below w.heap.size w (W0.alloc (.cells (bools (List.replicate m false)).toArray 4))) := B0.out.trans (hb1.mono B0.out.size)
  have BX1 := Lib.hid (BX.out.below hb1 BX.out.lt)
  have HP0 : Hid (w.heap.size ≤ W0.heap.size) := B0.out.size
  clear hb1 z0 z1 hmk BX B0
  generalize W0.alloc (.cells (bools (List.replicate m false)).toArray 4) = W1 at *
  generalize W0.heap.size = P at *
  have z0 := BX1.out.cell 0
  have z1 := BX1.out.cell 1
  have HN0 := Lib.hid (HNX.out [] P W1 B1.out KP.out)
  have HPL : Hid (P < W1.heap.size ∧ w.heap.size ≠ P) := ⟨KP.out.lt, Blk.ne_ BX1.out KP.out (by decide)⟩
  go_wp2_with fail
  refine HN0.out.mono ?_
  rintro e w1 ⟨x, rfl, hx, hb⟩
  have KP1 := Lib.hid (KP.out.below hb KP.out.lt)
  have BX2 := Lib.hid (BX1.out.below hb BX1.out.lt)
  have B2 : Hid (Below w.heap.size w w1) := B1.out.trans (hb.mono B1.out.size)
  have HX0 := Lib.hid hx
  have HK0 : Hid (Kahn zs m []) := Kahn.nil _ _
  have HP1 : Hid (P < w1.heap.size) := KP1.out.lt
  clear hx hb KP BX1 B1 z0 z1 HN0
  go_wp2_with fail
  go_loopg [4, 7] m (fun gg s4 s7 wr => ∃ (l : List Int) (x : Int) (A' : Option Addr) (c' : Nat), s4 = .slice A' l.length c' ∧ s7 = .int .i64 x ∧ l.length + gg = m ∧ Hid (Kahn zs m l) ∧ Hid ((x = -1 ∧ NoneT zs m l) ∨ NextT zs m l x) ∧ Hid (Blk wr P 4 (bools (goneL m l)).toArray) ∧ Hid (Blk wr w.heap.size 24 #[.int .i64 (m : Int), .slice A n c]) ∧
    Hid (wr.ownsRow w1.heap.size 3 1 (.slice A' l.length c') l.length (ints l)) ∧ Hid (Below w.heap.size w wr) ∧ Hid (w1.heap.size ≤ wr.heap.size))
  case atStart => exact ⟨[], x, none, 0, rfl, rfl, by simp, HK0, HX0, KP1, BX2, World.ownsRow_nil _ _ _ _, B2, Nat.le_refl _⟩
  case round =>
    clear KP1 BX2 B2 HX0 HK0
    obtain ⟨l, x, A', c', rfl, rfl, hlg, HK, HX, KP, BX, HO, HB, HW⟩ := hrel
    rcases HX.out with ⟨rfl, hno⟩ | hnx
    · have HALL : Hid (KahnAll zs m l) := ⟨HK.out, hno⟩
      have J0 := Lib.hid (Below.refl wr.heap.size wr)
      have hgl := goneL_len m l
      clear hno hlg HX HK
      go_wp2_with fail
      rename World => X0
      go_loopg [5, 29] m (fun gg s5 s29 wr => ∃ (k : Nat) (A3 : Option Addr) (c3 : Nat), s29 = .int .i64 k ∧ s5 = .slice A3 (leftE k l).length c3 ∧ k + gg = m ∧ Hid (wr.ownsRow X0.heap.size 3 1 (.slice A3 (leftE k l).length c3) (leftE k l).length (ints (leftE k l))) ∧ Hid (Below X0.heap.size X0 wr))
      case atStart => exact ⟨0, none, 0, rfl, rfl, by omega, World.ownsRow_nil _ _ _ _, J0⟩
      case round =>
        clear J0
        obtain ⟨k, A3, c3, rfl, rfl, hkg, HO3, J⟩ := hrel
        cases gk with
        | zero =>
          have hge : ¬ (k : Int) < (m : Int) := by omega
          obtain rfl : k = m := by omega
          have HE : Hid (ROrderIs zs k w (.returned (.tuple #[.slice A' l.length c', .slice A3 (leftE k l).length c3])) wr) :=
            ⟨l, A', A3, c', c3, HALL.out, rfl, ((Reads.of_own HO.out).below J.out).more J.out.size, Reads.of_own HO3.out, HB.out.trans (J.out.mono HB.out.size)⟩
          clear hkg
          go_wp2_with fail
          go_ret2
          exact HE.out
        | succ g2 =>
          have hlt : (k : Int) < (m : Int) := by omega
          have hkm : k < m := by omega
          have HI : Hid (k + 1 + g2 = m) := by show _ = _; omega
          have y1 : wr.cell? ⟨P, k, none⟩ = some (.bool (decide ((k : Int) ∈ l))) := by
            rw [(KP.out.below J.out KP.out.lt).cell, List.getElem?_toArray]
            exact bools_get (goneL_get l hkm)
          have hln : (leftE k l).length ≤ 300 := by have h1 := left_len k l; have h2 := HM.out; omega
          have HNXT := Lib.hid (left_next k l)
          have HXW : Hid (X0.heap.size ≤ wr.heap.size) := J.out.size
          have hk9 : k ≤ 300 := by have := HM.out; omega
          clear hkg hkm
          by_cases hv : (k : Int) ∈ l
          · rw [decide_eq_true hv] at y1
            have hnx : leftE (k + 1) l = leftE k l := by rw [HNXT.out, if_pos hv]
            have HN := Lib.hid hnx
            clear hv hnx HNXT
            go_wp2_with fail
            go_roundg g2
            case measure => omega
            case rel => exact ⟨k + 1, A3, c3, by go_num, by rw [HN.out], HI.out, by rw [HN.out]; exact HO3, J⟩
          · rw [decide_eq_false hv] at y1
            have hnx : leftE (k + 1) l = leftE k l ++ [(k : Int)] := by rw [HNXT.out, if_neg hv]
            have HN := Lib.hid hnx
            have HNL : Hid ((leftE (k + 1) l).length = (leftE k l).length + 1) := by rw [hnx]; simp [Hid]
            clear hv hnx HNXT
            go_wp2_with (at_builtin; refine wpList_append_own_at _ rfl _ _ 27 rfl X0.heap.size 3 i0 _ 1 8 Try.underlying27 hi hz0 hz1 hz2 rfl (by decide) (.slice A3 (leftE k l).length c3) (leftE k l).length _ rfl (HO3.out.alloc _) ⟨wr.heap.size, 0, none⟩ 1 1 [.int .i64 (k : Int)] rfl rfl (cell_one_new _ _ _) (by intro q hq; simp at hq; subst hq; rfl) (by unfold maxLen; omega) (by omega) (by have := HXW.out; simp; omega) ?_; intro v5 w5 hown5 hgrow5 _ _; obtain ⟨A5, c5, rfl, _, _⟩ := own_form2 hown5)
            have HO5 : Hid (w5.ownsRow X0.heap.size 3 1 (.slice A5 ((leftE k l).length + 1) c5) ((leftE k l).length + 1) (ints (leftE (k + 1) l))) := by
              rw [HN.out, show ints (leftE k l ++ [(k : Int)]) = ints (leftE k l) ++ [.int .i64 (k : Int)] by simp [ints]]
              exact hown5
            have HJ5 : Hid (Below X0.heap.size X0 w5) := (J.out.alloc J.out.size _).grown hgrow5 (Nat.le_trans HXW.out (by simp)) fun g hg => (own_in HO3.out hg).1
            go_roundg g2
            case measure => omega
            case rel => exact ⟨k + 1, A5, c5, by go_num, by rw [HNL.out], HI.out, by rw [HNL.out]; exact HO5, HJ5⟩
    · have hll := hnx.less HK.out
      obtain ⟨g2, hg2⟩ : ∃ g2, gk = g2 + 1 := ⟨gk - 1, by omega⟩
      subst hg2
      obtain ⟨t, rfl⟩ : ∃ t : Nat, x = (t : Int) := ⟨x.toNat, by have := hnx.1; omega⟩
      have htm : t < m := by have := hnx.1.2; omega
      have htl : (t : Int) < (m : Int) := by omega
      have ht0 : (0 : Int) ≤ (t : Int) := by omega
      have HKN := Lib.hid (HK.out.more hnx)
      have HI : Hid ((l ++ [(t : Int)]).length + g2 = m) := by show _ = _; simp; omega
      have hl9 : l.length ≤ 300 := by have := HM.out; omega
      obtain ⟨u0, hu0⟩ : ∃ u, (bools (goneL m l))[t]? = some u := ⟨_, bools_get (goneL_get l htm)⟩
      have y0 : wr.cell? ⟨P, t, none⟩ = some u0 := by rw [KP.out.cell, List.getElem?_toArray]; exact hu0
      have y1 := KP.out.frozen t
      have hkp : Keep (fun k => k ≠ P) wr (wr.setCell ⟨P, t, none⟩ (.bool true)) := (Keep.refl _ wr).set (.inr fun h => h rfl) _ _
      have KP2 : Hid (Blk (wr.setCell ⟨P, t, none⟩ (.bool true)) P 4 (bools (goneL m (l ++ [(t : Int)]))).toArray) := by
        have := KP.out.set_ t (.bool true)
        rw [List.setIfInBounds_toArray, bools_set, goneL_set l htm] at this
        exact this
      have BX2 := Lib.hid (hkp.blk BX.out HPL.out.2)
      have HO2 := Lib.hid (hkp.own HO.out fun g hg e => by have h1 := (own_in HO.out hg).1; have h2 := HP1.out; omega)
      have HB2 : Hid (Below w.heap.size w (wr.setCell ⟨P, t, none⟩ (.bool true))) := HB.out.trans (hkp.below HB.out.size fun j hj e => by have := HP0.out; omega)
      have HW2 : Hid (w1.heap.size ≤ (wr.setCell ⟨P, t, none⟩ (.bool true)).heap.size) := by have := HW.out; show _ ≤ _; rw [World.size_setCell]; exact this
      clear hnx hll hlg hu0 hkp htm HX HK KP BX HO HB HW
      go_upto_region 7 with fail
      clear y0 y1
      generalize wr.setCell ⟨P, t, none⟩ (.bool true) = wa at *
      go_upto_region 5 with (at_builtin; refine wpList_append_own_at _ rfl _ _ 27 rfl w1.heap.size 3 i0 _ 1 8 Try.underlying27 hi hz0 hz1 hz2 rfl (by decide) (.slice A' l.length c') l.length _ rfl (HO2.out.alloc _) ⟨wa.heap.size, 0, none⟩ 1 1 [.int .i64 (t : Int)] rfl rfl (cell_one_new _ _ _) (by intro q hq; simp at hq; subst hq; rfl) (by unfold maxLen; omega) (by omega) (by have := HW2.out; simp; omega) ?_; intro v5 w5 hown5 hgrow5 _ _; obtain ⟨A5, c5, rfl, _, _⟩ := own_form2 hown5)
      have HO5 : Hid (w5.ownsRow w1.heap.size 3 1 (.slice A5 (l.length + 1) c5) (l.length + 1) (ints (l ++ [(t : Int)]))) := by
        rw [show ints (l ++ [(t : Int)]) = ints l ++ [.int .i64 (t : Int)] by simp [ints]]
        exact hown5
      have hown_ne : ∀ g, (Value.slice A' l.length c').ownBlock = some g → w1.heap.size ≤ g := fun g hg => (own_in HO2.out hg).1
      have KP5 := Lib.hid ((KP2.out.alloc _).grown hgrow5 (fun e => by have := hown_ne P (by first | exact e | exact e.symm); have := HP1.out; omega))
      have BX5 := Lib.hid ((BX2.out.alloc _).grown hgrow5 (fun e => by have h1 := hown_ne _ (by first | exact e | exact e.symm); have h2 := HP1.out; have h3 := HP0.out; omega))
      have HB5 : Hid (Below w.heap.size w w5) := (HB2.out.alloc HB2.out.size _).grown hgrow5 (Nat.le_trans HB2.out.size (by simp)) fun g hg => by have h1 := hown_ne g hg; have h2 := HP1.out; have h3 := HP0.out; omega
      have HW5 : Hid (w1.heap.size ≤ w5.heap.size) := by have h1 := hgrow5.size; have h2 := HW2.out; simp at h1; show _ ≤ _; omega
      clear hown5 hgrow5 hown_ne KP2 BX2 HO2 HB2 HW2
      have z0 := BX5.out.cell 0
      have z1 := BX5.out.cell 1
      have HN := Lib.hid (HNX.out (l ++ [(t : Int)]) P w5 HB5.out KP5.out)
      go_wp2_with fail
      refine HN.out.mono ?_
      rintro e w6 ⟨x6, rfl, hx6, hb6⟩
      have KP6 := Lib.hid (KP5.out.below hb6 KP5.out.lt)
      have BX6 := Lib.hid (BX5.out.below hb6 BX5.out.lt)
      have HO6 := Lib.hid (own_on HO5.out hb6)
      have HB6 : Hid (Below w.heap.size w w6) := HB5.out.trans (hb6.mono HB5.out.size)
      have HW6 : Hid (w1.heap.size ≤ w6.heap.size) := Nat.le_trans HW5.out hb6.size
      have HX6 := Lib.hid hx6
      have HLL : Hid ((l ++ [(t : Int)]).length = l.length + 1) := by simp [Hid]
      clear hx6 hb6 KP5 BX5 HO5 HB5 HW5 z0 z1 HN
      go_wp2_with fail
      go_roundg g2
      case measure => omega
      case rel => exact ⟨l ++ [(t : Int)], x6, A5, c5, by rw [HLL.out], rfl, HI.out, HKN, HX6, KP6, BX6, by rw [HLL.out]; exact HO6, HB6, HW6⟩
end Go.Proofs.Ytaigpdpcliecpaa
namespace Go.Proofs.Ytaigpdpcliecpaa
open Go.RowKit Go.Shelf

/-- Numbers that can be read. -/
def RDepthIs (D : List Int) (w : World) (e : Ending) (w' : World) : Prop := ∃ (A2 : Option Addr) (c2 : Nat), e = .returned (.slice A2 D.length c2) ∧ Reads w' w'.heap.size 1 A2 D.length (ints D) ∧ Below w.heap.size w w'

set_option maxRecDepth 100000 in
set_option maxHeartbeats 4000000 in
theorem rdepth7_any (m : Nat) (A : Option Addr) (n c : Nat) (zs : List Ed) (hg : IsG (m : Int) zs) (D : List Int) (hD : DepthIs zs m D) (hDm : ∀ v, 0 ≤ v → v < (m : Int) → dE D v ≤ (m : Int)) (hn : n ≤ 1000) (w : World) (hR : Reads w w.heap.size 3 A n (cellsE zs)) :
    Calls Try.prog 17 #[.agg #[.int .i64 (m : Int), .slice A n c]] w (RDepthIs D w) := by
  obtain ⟨bx, b0⟩ := box_new w #[.int .i64 (m : Int), .slice A n c] 24
  have hm := hg.nodes
  have HM : Hid (m ≤ 300) := by show _ ≤ _; omega
  have HL := Lib.hid (reads_len hR)
  have HR := Lib.hid fun W (h : Below w.heap.size w W) => (hR.below h)
  have HG := Lib.hid hg
  have HD := Lib.hid hD
  have HDM := Lib.hid hDm
  have BX := Lib.hid bx
  have z0 := bx.cell 0
  have z1 := bx.cell 1
  have B0 := Lib.hid b0
  have hmk : ∀ X, (Instr.makeSlice 27 (.int .i64 (m : Int)) (.int .i64 (m : Int))).run Try.prog X = .ok (.slice (some ⟨X.heap.size, 0, none⟩) m m) (X.alloc (.cells (ints (List.replicate m 0)).toArray 3)) := fun X => int_make m (m : Int) rfl (by omega) X
  clear hR bx b0 hg hD hDm hm
  go_enter Try.func17, Try.ntmps17
  go_upto_region 1 with fail
  generalize w.alloc (.cells #[.int .i64 (m : Int), .slice A n c] 24) = W0 at *
  go_upto_region 2 with fail
  have hb1 : Below W0.heap.size W0 (W0.alloc (.cells (ints (List.replicate m 0)).toArray 3)) := (Below.refl _ _).alloc (Nat.le_refl _) _
  have KP := Lib.hid (Blk.new W0 3 (ints (List.replicate m 0)).toArray)
  have B1 : Hid (Below w.heap.size w (W0.alloc (.cells (ints (List.replicate m 0)).toArray 3))) := B0.out.trans (hb1.mono B0.out.size)
  have BX1 := Lib.hid (BX.out.below hb1 BX.out.lt)
  have HP0 : Hid (w.heap.size ≤ W0.heap.size) := B0.out.size
  clear hb1 z0 z1 hmk BX B0
  generalize W0.alloc (.cells (ints (List.replicate m 0)).toArray 3) = W1 at *
  generalize W0.heap.size = P at *
  have z0 := BX1.out.cell 0
  have HPL : Hid (P < W1.heap.size ∧ w.heap.size ≠ P) := ⟨KP.out.lt, Blk.ne_ BX1.out KP.out (by decide)⟩
  have HK0 : Hid (RoundK zs m D 0 0 (List.replicate m 0)) := RoundK.start HD.out
  go_wp2_with fail
  clear z0
  go_loopg [11] m (fun gg s11 wr => ∃ (k : Nat) (O : List Int), s11 = .int .i64 k ∧ k + gg = m ∧ Hid (RoundK zs m D k 0 O) ∧ Hid (Blk wr P 3 (ints O).toArray) ∧ Hid (Blk wr w.heap.size 24 #[.int .i64 (m : Int), .slice A n c]) ∧ Hid (Below w.heap.size w wr))
  case atStart => exact ⟨0, _, rfl, by omega, HK0, KP, BX1, B1⟩
  case round =>
    clear HK0 KP BX1 B1
    obtain ⟨k, O, rfl, hkg, HK, KP, BX, HB⟩ := hrel
    cases gk with
    | zero =>
      have hge : ¬ (k : Int) < (m : Int) := by omega
      obtain rfl : k = m := by omega
      have hO : O = D := HK.out.done HD.out HDM.out
      subst hO
      have HOL : Hid (O.length = k) := HK.out.len
      have HE : Hid (Reads wr wr.heap.size 1 (some ⟨P, 0, none⟩) k (ints O)) := by
        refine ⟨by rw [ints_length, HOL.out, Nat.mul_one], fun _ => ⟨_, rfl, KP.out.lt, fun j u hu => ?_⟩⟩
        rw [Go.WideShapes.add_plain, Nat.zero_add, KP.out.cell, ← hu, ← List.getElem?_toArray]
      have HE2 : Hid (RDepthIs O w (.returned (.slice (some ⟨P, 0, none⟩) k k)) wr) := ⟨some ⟨P, 0, none⟩, k, by rw [HOL.out], by rw [HOL.out]; exact HE.out, HB.out⟩
      clear hkg HK
      go_wp2_with fail
      go_ret
      exact HE2.out
    | succ g2 =>
      have hlt : (k : Int) < (m : Int) := by omega
      have HI : Hid (k + 1 + g2 = m) := by show _ = _; omega
      have hk9 : k ≤ 300 := by have := HM.out; omega
      have z1 := BX.out.cell 1
      clear hkg
      go_wp2_with fail
      clear z1
      go_loopg [16] n (fun gg s16 wx => ∃ (j : Nat) (O : List Int), s16 = .int .i64 j ∧ j + gg = n ∧ Hid (RoundK zs m D k j O) ∧ Hid (Blk wx P 3 (ints O).toArray) ∧ Hid (Blk wx w.heap.size 24 #[.int .i64 (m : Int), .slice A n c]) ∧ Hid (Below w.heap.size w wx))
      case atStart => exact ⟨0, O, rfl, by omega, HK, KP, BX, HB⟩
      case round =>
        clear HK KP BX HB O
        obtain ⟨j, O, rfl, hjg, HK, KP, BX, HB⟩ := hrel
        rename World => wx
        cases gk with
        | zero =>
          have hge : ¬ (j : Int) < (n : Int) := by omega
          have HK2 : Hid (RoundK zs m D (k + 1) 0 O) := RoundK.end_ HD.out (by have := HK.out; rwa [show j = zs.length by rw [HL.out]; omega] at this)
          clear hjg HK
          go_wp2_with fail
          go_roundg g2
          case measure => omega
          case rel => exact ⟨k + 1, O, by go_num, HI.out, HK2, KP, BX, HB⟩
        | succ g3 =>
          have hlt : (j : Int) < (n : Int) := by omega
          obtain ⟨p, hp⟩ : ∃ p, zs[j]? = some p := ⟨zs[j]'(by rw [HL.out]; omega), List.getElem?_eq_getElem _⟩
          obtain ⟨b, o, rfl, hb, g0, g1, gk2⟩ := ed_at (HR.out _ HB.out) hp
          have hr := of_decide_eq_true (HG.out.all p (List.mem_of_getElem? hp))
          obtain ⟨s, hs⟩ : ∃ s : Nat, p.1 = (s : Int) := ⟨p.1.toNat, by omega⟩
          obtain ⟨t, ht⟩ : ∃ t : Nat, p.2.1 = (t : Int) := ⟨p.2.1.toNat, by omega⟩
          have hsm : s < m := by omega
          have htm : t < m := by omega
          have hsl : (s : Int) < (m : Int) := by omega
          have htl : (t : Int) < (m : Int) := by omega
          have hOl := HK.out.len
          have hE1 := dE_get (D := O) (v := s) (by omega)
          have hE2 := dE_get (D := O) (v := t) (by omega)
          have hcell : ∀ (j : Nat) (y : Int), O[j]? = some y → wx.cell? ⟨P, j, none⟩ = some (.int .i64 y) := fun j y hy => by
            rw [KP.out.cell, List.getElem?_toArray]
            unfold ints
            rw [List.getElem?_map, hy]
            rfl
          have c1 := hcell _ _ hE1
          have c2 := hcell _ _ hE2
          have hlo := HK.out.lo (s : Int)
          have hhi := HK.out.le (s : Int) (by omega) (by omega)
          have hdm := HDM.out (s : Int) (by omega) (by omega)
          have HSK : Hid (¬ dE O (t : Int) < dE O (s : Int) + 1 → RoundK zs m D k (j + 1) O) := fun h => HK.out.skip HG.out.all hp (by rw [hs, ht]; exact h)
          have HRS : Hid (dE O (t : Int) < dE O (s : Int) + 1 → RoundK zs m D k (j + 1) (O.set t (dE O (s : Int) + 1))) := fun h => by
            have := HK.out.raise HG.out.all HD.out hp (by rw [hs, ht]; exact h)
            rwa [hs, ht, Int.toNat_natCast] at this
          have HX := Lib.hid (Blk.new wx 50 #[.int .i64 p.1, .int .i64 p.2.1, .int .i64 p.2.2])
          have hba : Below wx.heap.size wx (wx.alloc (.cells #[.int .i64 p.1, .int .i64 p.2.1, .int .i64 p.2.2] 50)) := (Below.refl _ _).alloc (Nat.le_refl _) _
          have KP1 := Lib.hid (KP.out.below hba KP.out.lt)
          have BX1 := Lib.hid (BX.out.below hba BX.out.lt)
          have HB1 : Hid (Below w.heap.size w (wx.alloc (.cells #[.int .i64 p.1, .int .i64 p.2.1, .int .i64 p.2.2] 50))) := HB.out.trans (hba.mono HB.out.size)
          have c1' : (wx.alloc (.cells #[.int .i64 p.1, .int .i64 p.2.1, .int .i64 p.2.2] 50)).cell? ⟨P, s, none⟩ = some (.int .i64 (dE O (s : Int))) := (World.cell?_alloc_lt wx _ ⟨P, s, none⟩ (World.block_lt_of_cell? wx _ c1)).trans c1
          have c2' : (wx.alloc (.cells #[.int .i64 p.1, .int .i64 p.2.1, .int .i64 p.2.2] 50)).cell? ⟨P, t, none⟩ = some (.int .i64 (dE O (t : Int))) := (World.cell?_alloc_lt wx _ ⟨P, t, none⟩ (World.block_lt_of_cell? wx _ c2)).trans c2
          obtain ⟨X, hX⟩ : ∃ X, wx.heap.size = X := ⟨_, rfl⟩
          rw [hX] at HX
          have HS := Lib.hid (And.intro hs ht)
          have HJG : Hid (j + 1 + g3 = n) := by show _ = _; omega
          have hj9 : j ≤ 1000 := by omega
          obtain ⟨a, ha⟩ : ∃ a, dE O (s : Int) = a := ⟨_, rfl⟩
          obtain ⟨bb, hbb⟩ : ∃ bb, dE O (t : Int) = bb := ⟨_, rfl⟩
          obtain ⟨a1, ha1⟩ : ∃ a1, a + 1 = a1 := ⟨_, rfl⟩
          rw [ha] at HSK HRS c1' hlo hhi
          rw [hbb] at HSK HRS c2'
          rw [ha1] at HSK HRS
          have hm3 := HM.out
          have hw1 : IntKind.i64.wrap (a + 1) = a1 := by rw [IntKind.wrap_i64]; omega
          have hw2 : wrap64 (a + 1) = a1 := by unfold wrap64; omega
          clear hm3 hjg hp hr hs ht hsm htm hOl hE1 hE2 hcell c1 c2 hlo hhi hdm hba ha hbb ha1 HK KP BX
          go_upto_region 7 with fail
          clear g0 g1 gk2 hX HB
          generalize wx.alloc (.cells #[.int .i64 p.1, .int .i64 p.2.1, .int .i64 p.2.2] 50) = wy at *
          have z0 : wy.cell? ⟨X, 0, none⟩ = some (.int .i64 (s : Int)) := by rw [← HS.out.1]; exact HX.out.cell 0
          have z1 : wy.cell? ⟨X, 1, none⟩ = some (.int .i64 (t : Int)) := by rw [← HS.out.2]; exact HX.out.cell 1
          go_quiet (fail)
          have KP2 := Lib.hid (KP1.out.drewN nq)
          have BX2 := Lib.hid (BX1.out.drewN nq)
          have HB2 := Lib.hid (below_drewN HB1.out nq)
          have z0 : (wy.drewN nq).cell? ⟨X, 0, none⟩ = some (.int .i64 (s : Int)) := z0
          have z1 : (wy.drewN nq).cell? ⟨X, 1, none⟩ = some (.int .i64 (t : Int)) := z1
          have c1' : (wy.drewN nq).cell? ⟨P, s, none⟩ = some (.int .i64 a) := c1'
          have c2' : (wy.drewN nq).cell? ⟨P, t, none⟩ = some (.int .i64 bb) := c2'
          clear KP1 BX1 HB1 HX
          generalize wy.drewN nq = wz at *
          by_cases hxy : bb < a1
          · have HK2 := Lib.hid (HRS.out hxy)
            have f1 := KP2.out.frozen t
            have KPN : Hid (Blk (wz.setCell ⟨P, t, none⟩ (.int .i64 a1)) P 3 (ints (O.set t a1)).toArray) := by
              have := KP2.out.set_ t (.int .i64 a1)
              rw [List.setIfInBounds_toArray, ints_set] at this
              exact this
            have BXN := Lib.hid (BX2.out.far (p := ⟨P, t, none⟩) HPL.out.2 (.int .i64 a1))
            have HBN := Lib.hid (HB2.out.setCell (p := ⟨P, t, none⟩) HP0.out (.int .i64 a1))
            clear HSK HRS KP2 BX2 HB2
            go_upto_region 8 with fail
            go_region
            have KPM : Hid (Blk (wz.setCell ⟨P, t, none⟩ (.int .i64 a1)).drew P 3 (ints (O.set t a1)).toArray) := KPN.out.drew
            have BXM := Lib.hid BXN.out.drew
            have HBM := Lib.hid HBN.out.drew
            clear z0 z1 c1' c2' f1 KPN BXN HBN hxy
            generalize (wz.setCell ⟨P, t, none⟩ (.int .i64 a1)).drew = wq at *
            go_wp2_with fail
            go_roundg g3
            case measure => omega
            case rel => exact ⟨j + 1, O.set t a1, by go_num, HJG.out, HK2, KPM, BXM, HBM⟩
          · have HK2 := Lib.hid (HSK.out hxy)
            clear HSK HRS
            go_wp2_with fail
            go_roundg g3
            case measure => omega
            case rel => exact ⟨j + 1, O, by go_num, HJG.out, HK2, KP2, BX2, HB2⟩
/-- Whether an order is right, by the document. -/
theorem count_next {o : List Int} {i : Nat} {x v : Int} (hx : o[i]? = some x) : (o.take (i + 1)).count v = (o.take i).count v + if x = v then 1 else 0 := by
  rw [List.take_add_one, hx]
  simp [List.count_append, List.count_cons, beq_iff_eq]
def AheadE (o : List Int) (p : Ed) : Prop := ∀ i, o[i]? = some p.2.1 → p.1 ∈ o.take i

set_option maxRecDepth 100000 in
set_option maxHeartbeats 4000000 in
theorem rright7_any (m : Nat) (A : Option Addr) (n c : Nat) (zs : List Ed) (hg : IsG (m : Int) zs) (Ao : Option Addr) (no co : Nat) (o : List Int) (hno : no ≤ 1000) (hn : n ≤ 1000) (w : World) (hR : Reads w w.heap.size 3 A n (cellsE zs)) (hO : Reads w w.heap.size 1 Ao no (ints o)) :
    Calls Try.prog 20 #[.agg #[.int .i64 (m : Int), .slice A n c], .slice Ao no co] w (RightIs zs m o w) := by
  obtain ⟨bx, b0⟩ := box_new w #[.int .i64 (m : Int), .slice A n c] 24
  have hm := hg.nodes
  have HM : Hid (m ≤ 300) := by show _ ≤ _; omega
  have HL := Lib.hid (reads_len hR)
  have HOL : Hid (o.length = no) := ints_len hO
  have HR := Lib.hid fun W (h : Below w.heap.size w W) => (hR.below h)
  have HO := Lib.hid fun W (h : Below w.heap.size w W) => (hO.below h)
  have BX := Lib.hid bx
  have z0 := bx.cell 0
  have z1 := bx.cell 1
  have B0 := Lib.hid b0
  have J0 := Lib.hid (Below.refl (w.alloc (.cells #[.int .i64 (m : Int), .slice A n c] 24)).heap.size (w.alloc (.cells #[.int .i64 (m : Int), .slice A n c] 24)))
  clear hR bx b0 hg hm hO
  go_enter Try.func20, Try.ntmps20
  go_upto_region 1 with fail
  generalize w.alloc (.cells #[.int .i64 (m : Int), .slice A n c] 24) = W0 at *
  have HBW : Hid (∀ X, Below W0.heap.size W0 X → Below w.heap.size w X) := fun X h => B0.out.trans (h.mono B0.out.size)
  go_wp2_with fail
  clear z0 z1
  go_loopg [16] m (fun gg s16 wr => ∃ v : Nat, s16 = .int .i64 v ∧ v + gg = m ∧ Hid (∀ u : Int, 0 ≤ u → u < (v : Int) → o.count u = 1) ∧ Hid (Below W0.heap.size W0 wr))
  case atStart => exact ⟨0, rfl, by omega, fun u h0 h1 => by omega, J0⟩
  case round =>
    clear J0
    obtain ⟨v, rfl, hvg, HF, J⟩ := hrel
    cases gk with
    | succ g2 =>
      have hlt : (v : Int) < (m : Int) := by omega
      have HI : Hid (v + 1 + g2 = m) := by show _ = _; omega
      have hv9 : v ≤ 300 := by have := HM.out; omega
      clear hvg
      go_wp2_with fail
      go_loopg [6, 21] no (fun gg s6 s21 wx => ∃ (i many : Nat), s21 = .int .i64 i ∧ s6 = .int .i64 many ∧ i + gg = no ∧ Hid (many = (o.take i).count (v : Int)) ∧ many ≤ i ∧ Hid (Below W0.heap.size W0 wx))
      case atStart => exact ⟨0, 0, rfl, rfl, by omega, by simp [Hid], Nat.le_refl _, J⟩
      case round =>
        clear J
        obtain ⟨i, many, rfl, rfl, hig, HC, hmi, J⟩ := hrel
        rename World => wx
        cases gk with
        | zero =>
          have hge : ¬ (i : Int) < (no : Int) := by omega
          have HC2 : Hid (many = o.count (v : Int)) := by have := HC.out; rwa [List.take_of_length_le (by rw [HOL.out]; omega)] at this
          clear HC
          by_cases h1 : many = 1
          · subst h1
            have hb : (((1 : Nat) : Int) != 1) = false := by decide
            have HF2 : Hid (∀ u : Int, 0 ≤ u → u < ((v + 1 : Nat) : Int) → o.count u = 1) := fun u h0 h1 => by
              rcases Int.lt_or_eq_of_le (show u ≤ (v : Int) by omega) with h | h
              · exact HF.out u h0 h
              · rw [h]; exact HC2.out.symm
            clear hig hmi
            go_wp2_with fail
            go_roundg g2
            case measure => omega
            case rel => exact ⟨v + 1, by go_num, HI.out, HF2, J⟩
          · have hb : ((many : Int) != 1) = true := by simp; omega
            have hb2 : ¬ (many : Int) = 1 := by omega
            have HE : Hid (¬ RightO zs m o) := fun h => h1 (HC2.out.trans ((rightO_counts.1 h).1 (v : Int) (by omega) (by have := HI.out; omega)))
            clear hig hmi h1
            go_wp2_with fail
            go_ret
            exact ⟨false, rfl, ⟨fun e => (by cases e), fun e => absurd e HE.out⟩, HBW.out _ J.out⟩
        | succ g3 =>
          have hlt : (i : Int) < (no : Int) := by omega
          obtain ⟨x, hx⟩ : ∃ x, o[i]? = some x := ⟨_, List.getElem?_eq_getElem (by have := HOL.out; omega)⟩
          obtain ⟨b1, o1, hb1, _, hb3⟩ := reads_plain (HO.out _ (HBW.out _ J.out)) (by omega)
          subst hb1
          have x0 := hb3 i (.int .i64 x) (by unfold ints; rw [List.getElem?_map, hx]; rfl)
          have HCN := Lib.hid (count_next (v := (v : Int)) hx)
          have HIG : Hid (i + 1 + g3 = no) := by show _ = _; omega
          have hi9 : i ≤ 1000 := by omega
          clear hb3 hx hig
          by_cases hxv : x = (v : Int)
          · have hb : (x == (v : Int)) = true := by simp [hxv]
            have HC2 : Hid (many + 1 = (o.take (i + 1)).count (v : Int)) := by have := HCN.out; rw [if_pos hxv] at this; have := HC.out; show _ = _; omega
            clear HC HCN hxv
            go_wp2_with fail
            go_roundg g3
            case measure => omega
            case rel => exact ⟨i + 1, many + 1, by go_num, by go_num, HIG.out, HC2, by omega, J⟩
          · have hb : (x == (v : Int)) = false := by simp [hxv]
            have HC2 : Hid (many = (o.take (i + 1)).count (v : Int)) := by have := HCN.out; rw [if_neg hxv] at this; have := HC.out; show _ = _; omega
            clear HC HCN
            go_wp2_with fail
            go_roundg g3
            case measure => omega
            case rel => exact ⟨i + 1, many, by go_num, rfl, HIG.out, HC2, by omega, J⟩
    | zero =>
      have hge : ¬ (v : Int) < (m : Int) := by omega
      obtain rfl : v = m := by omega
      have HCO : Hid (∀ u : Int, 0 ≤ u → u < (v : Int) → o.count u = 1) := HF
      have z1 := (BX.out.below J.out BX.out.lt).cell 1
      clear hvg HF
      go_wp2_with fail
      clear z1
      go_loopg [37] n (fun gg s37 wr => ∃ j : Nat, s37 = .int .i64 j ∧ j + gg = n ∧ Hid (∀ p ∈ zs.take j, AheadE o p) ∧ Hid (Below W0.heap.size W0 wr))
      case atStart => exact ⟨0, rfl, by omega, fun p hp => by simp at hp, J⟩
      case round =>
        clear J
        obtain ⟨j, rfl, hjg, HA, J⟩ := hrel
        cases gk with
        | zero =>
          have hge : ¬ (j : Int) < (n : Int) := by omega
          have z0 := (BX.out.below J.out BX.out.lt).cell 0
          have HA2 : Hid (∀ p ∈ zs, AheadE o p) := by have := HA.out; rwa [List.take_of_length_le (by rw [HL.out]; omega)] at this
          have HE : Hid (RightIs zs v o w (.returned (.bool ((no : Int) == (v : Int)))) wr) := by
            refine ⟨_, rfl, ?_, HBW.out _ J.out⟩
            rw [rightO_counts, beq_iff_eq]
            constructor
            · intro h
              exact ⟨HCO.out, by rw [HOL.out]; omega, HA2.out⟩
            · rintro ⟨_, h, _⟩
              rw [HOL.out] at h
              omega
          clear hjg HA
          go_wp2_with fail
          go_ret
          exact HE.out
        | succ g2 =>
          have hlt : (j : Int) < (n : Int) := by omega
          obtain ⟨p, hp⟩ : ∃ p, zs[j]? = some p := ⟨zs[j]'(by rw [HL.out]; omega), List.getElem?_eq_getElem _⟩
          obtain ⟨b, ob, rfl, hb, g0, g1, gk2⟩ := ed_at (HR.out _ (HBW.out _ J.out)) hp
          have hba : Below wr.heap.size wr (wr.alloc (.cells #[.int .i64 p.1, .int .i64 p.2.1, .int .i64 p.2.2] 50)) := (Below.refl _ _).alloc (Nat.le_refl _) _
          have HX := Lib.hid (Blk.new wr 50 #[.int .i64 p.1, .int .i64 p.2.1, .int .i64 p.2.2])
          have J1 : Hid (Below W0.heap.size W0 (wr.alloc (.cells #[.int .i64 p.1, .int .i64 p.2.1, .int .i64 p.2.2] 50))) := J.out.trans (hba.mono J.out.size)
          have HTK : Hid (zs.take (j + 1) = zs.take j ++ [p]) := by show _ = _; rw [List.take_add_one, hp]; rfl
          have HPM : Hid (p ∈ zs) := List.mem_of_getElem? hp
          obtain ⟨X, hX⟩ : ∃ X, wr.heap.size = X := ⟨_, rfl⟩
          rw [hX] at HX
          have HJG : Hid (j + 1 + g2 = n) := by show _ = _; omega
          have hj9 : j ≤ 1000 := by omega
          clear hjg hp hba
          go_upto_region 18 with fail
          clear g0 g1 gk2 hX J
          generalize wr.alloc (.cells #[.int .i64 p.1, .int .i64 p.2.1, .int .i64 p.2.2] 50) = wy at *
          have K0 := Lib.hid (Below.refl wy.heap.size wy)
          have hb0 : (false : Bool) = decide (p.1 ∈ o.take 0) := by simp
          go_wp2_with fail
          rw [hb0]
          clear hb0
          go_loopg [11, 43] no (fun gg s11 s43 wx => ∃ (i : Nat), s43 = .int .i64 i ∧ s11 = .bool (decide (p.1 ∈ o.take i)) ∧ i + gg = no ∧ Hid (∀ i', i' < i → o[i']? = some p.2.1 → p.1 ∈ o.take i') ∧ Hid (Below wy.heap.size wy wx))
          case atStart => exact ⟨0, rfl, rfl, by omega, fun i' h => absurd h (Nat.not_lt_zero _), K0⟩
          case round =>
            clear K0
            obtain ⟨i, rfl, rfl, hig, HB, K⟩ := hrel
            rename World => wx
            cases gk with
            | zero =>
              have hge : ¬ (i : Int) < (no : Int) := by omega
              have HA2 : Hid (∀ q ∈ zs.take (j + 1), AheadE o q) := fun q hq => by
                rw [HTK.out] at hq
                rcases List.mem_append.1 hq with hq | hq
                · exact HA.out q hq
                · rw [List.mem_singleton] at hq
                  subst hq
                  intro i' hi'
                  exact HB.out i' (by have := (List.getElem?_eq_some_iff.1 hi').1; have := HOL.out; omega) hi'
              have J2 : Hid (Below W0.heap.size W0 wx) := J1.out.trans (K.out.mono J1.out.size)
              clear hig HB
              go_wp2_with fail
              go_roundg g2
              case measure => omega
              case rel => exact ⟨j + 1, by go_num, HJG.out, HA2, J2⟩
            | succ g3 =>
              have hlt : (i : Int) < (no : Int) := by omega
              obtain ⟨x, hx⟩ : ∃ x, o[i]? = some x := ⟨_, List.getElem?_eq_getElem (by have := HOL.out; omega)⟩
              obtain ⟨b1, o1, hb1, _, hb3⟩ := reads_plain (HO.out _ (HBW.out _ (J1.out.trans (K.out.mono J1.out.size)))) (by omega)
              subst hb1
              have x0 := hb3 i (.int .i64 x) (by unfold ints; rw [List.getElem?_map, hx]; rfl)
              have HX1 := Lib.hid hx
              have y0 : wx.cell? ⟨X, 0, none⟩ = some (.int .i64 p.1) := (HX.out.below K.out HX.out.lt).cell 0
              have y1 : wx.cell? ⟨X, 1, none⟩ = some (.int .i64 p.2.1) := (HX.out.below K.out HX.out.lt).cell 1
              have HIG : Hid (i + 1 + g3 = no) := by show _ = _; omega
              have hi9 : i ≤ 1000 := by omega
              have HTN := Lib.hid (take_next hx)
              clear hb3 hx hig
              by_cases hbe : p.1 ∈ o.take i
              · have hd : decide (p.1 ∈ o.take i) = true := by simp [hbe]
                have hd2 : decide (p.1 ∈ o.take (i + 1)) = true := by rw [HTN.out]; simp [hbe]
                have HB2 : Hid (∀ i', i' < i + 1 → o[i']? = some p.2.1 → p.1 ∈ o.take i') := fun i' h1 h2 => by
                  rcases Nat.lt_or_eq_of_le (Nat.le_of_lt_succ h1) with h | h
                  · exact HB.out i' h h2
                  · rw [h]; exact hbe
                have HD2 := Lib.hid hd2
                rw [hd]
                clear hbe hd hd2 HTN
                cases hxt : (x == p.2.1)
                · go_wp2_with fail
                  go_roundg g3
                  case measure => omega
                  case rel => exact ⟨i + 1, by go_num, by rw [HD2.out], HIG.out, HB2, K⟩
                · go_wp2_with fail
                  go_roundg g3
                  case measure => omega
                  case rel => exact ⟨i + 1, by go_num, by rw [HD2.out], HIG.out, HB2, K⟩
              · have hd : decide (p.1 ∈ o.take i) = false := by simp [hbe]
                rw [hd]
                by_cases hxt : x = p.2.1
                · have hb : (x == p.2.1) = true := by simp [hxt]
                  have HE : Hid (¬ RightO zs v o) := fun h => hbe (h.ahead p HPM.out i (by rw [HX1.out, hxt]))
                  have J2 : Hid (Below W0.heap.size W0 wx) := J1.out.trans (K.out.mono J1.out.size)
                  clear hbe hxt hd HTN
                  go_wp2_with fail
                  go_ret
                  exact ⟨false, rfl, ⟨fun e => (by cases e), fun e => absurd e HE.out⟩, HBW.out _ J2.out⟩
                · have hb : (x == p.2.1) = false := by simp [hxt]
                  have HB2 : Hid (∀ i', i' < i + 1 → o[i']? = some p.2.1 → p.1 ∈ o.take i') := fun i' h1 h2 => by
                    rcases Nat.lt_or_eq_of_le (Nat.le_of_lt_succ h1) with h | h
                    · exact HB.out i' h h2
                    · rw [h, HX1.out] at h2
                      injection h2 with h2
                      exact absurd h2 hxt
                  have HD2 : Hid (decide (p.1 ∈ o.take (i + 1)) = (x == p.1)) := by
                    show _ = _
                    rw [HTN.out, Bool.eq_iff_iff, decide_eq_true_eq, beq_iff_eq, List.mem_append, List.mem_singleton]
                    exact ⟨fun h => h.elim (fun h => absurd h hbe) (fun h => h.symm), fun h => .inr h.symm⟩
                  clear hbe hxt hd HTN
                  go_wp2_with fail
                  go_roundg g3
                  case measure => omega
                  case rel => exact ⟨i + 1, by go_num, by rw [HD2.out], HIG.out, HB2, K⟩
end Go.Proofs.Ytaigpdpcliecpaa
namespace Go.Proofs.Ytaigpdpcliecpaa
open Go.RowKit Go.Shelf

theorem GV.nat {g : GV} (hr : rightG g.z g.es = true) : ((g.z.toNat : Nat) : Int) = g.z ∧ g.z.toNat ≤ 300 ∧ IsG ((g.z.toNat : Nat) : Int) g.es := by
  have hgg := rightG_iff.1 hr
  have hzz := hgg.nodes
  have e : ((g.z.toNat : Nat) : Int) = g.z := by omega
  exact ⟨e, by omega, by rw [e]; exact hgg⟩
section
variable (g : GV) (w : World) (hn : g.n ≤ 1000) (hr : rightG g.z g.es = true) (ok : g.ok w)
include hn hr ok
theorem order7_at : Calls Try.prog 10 #[.agg #[.int .i64 g.z, .slice g.A g.n g.c]] w (OrderIs g.es g.z.toNat w) := by
  have h := order7_ok g.z.toNat g.A g.n g.c g.es (GV.nat hr).2.2 hn ok.2.1 w ok.1
  rwa [(GV.nat hr).1] at h
theorem left7_at : Calls Try.prog 11 #[.agg #[.int .i64 g.z, .slice g.A g.n g.c]] w (LeftIs g.es g.z.toNat w) := by
  have h := left7_ok g.z.toNat g.A g.n g.c g.es (GV.nat hr).2.2 hn ok.2.1 w ok.1
  rwa [(GV.nat hr).1] at h
theorem depth7_at : Calls Try.prog 12 #[.agg #[.int .i64 g.z, .slice g.A g.n g.c]] w (DeepIs g.es g.z.toNat w) := by
  have h := depth7_ok g.z.toNat g.A g.n g.c g.es (GV.nat hr).2.2 hn ok.2.1 w ok.1
  rwa [(GV.nat hr).1] at h
theorem right7_at (Ao : Option Addr) (no co : Nat) (o : List Int) (hO : Reads w w.heap.size 1 Ao no (ints o)) : Calls Try.prog 19 #[.agg #[.int .i64 g.z, .slice g.A g.n g.c], .slice Ao no co] w (RightIs g.es g.z.toNat o w) := by
  have h := right7_ok g.z.toNat g.A g.n g.c g.es (GV.nat hr).2.2 Ao no co o hn ok.2.1 w ok.1 hO
  rwa [(GV.nat hr).1] at h
theorem rorder7_at : Calls Try.prog 14 #[.agg #[.int .i64 g.z, .slice g.A g.n g.c]] w (ROrderIs g.es g.z.toNat w) := by
  have h := rorder7_any g.z.toNat g.A g.n g.c g.es (GV.nat hr).2.2 hn w ok.1
  rwa [(GV.nat hr).1] at h
theorem rdepth7_at (D o : List Int) (hD : DepthIs g.es g.z.toNat D) (ho : RightO g.es g.z.toNat o) : Calls Try.prog 17 #[.agg #[.int .i64 g.z, .slice g.A g.n g.c]] w (RDepthIs D w) := by
  have h := rdepth7_any g.z.toNat g.A g.n g.c g.es (GV.nat hr).2.2 D hD (fun v h0 hv => Int.le_of_lt (hD.less ho h0 hv)) hn w ok.1
  rwa [(GV.nat hr).1] at h
theorem rright7_at (Ao : Option Addr) (no co : Nat) (o : List Int) (hno : no ≤ 1000) (hO : Reads w w.heap.size 1 Ao no (ints o)) : Calls Try.prog 20 #[.agg #[.int .i64 g.z, .slice g.A g.n g.c], .slice Ao no co] w (RightIs g.es g.z.toNat o w) := by
  have h := rright7_any g.z.toNat g.A g.n g.c g.es (GV.nat hr).2.2 Ao no co o hno hn w ok.1 hO
  rwa [(GV.nat hr).1] at h
end

/-- The chapter's graph. -/
def small7 : List Ed := [(2, 0, 0), (3, 1, 0)]
def small7A : Array Value := #[.int .i64 2, .int .i64 0, .int .i64 0, .int .i64 3, .int .i64 1, .int .i64 0]
theorem small7_reads (w : World) : Reads (w.alloc (.cells small7A 50)) (w.alloc (.cells small7A 50)).heap.size 3 (some ⟨w.heap.size, 0, none⟩) 2 (cellsE small7) :=
  ⟨rfl, fun _ => ⟨_, rfl, by simp, fun j u hu => by
    rw [Go.WideShapes.add_plain, Nat.zero_add, (Blk.new w 50 small7A).cell, ← hu, ← List.getElem?_toArray]
    rfl⟩⟩
theorem small7_right : rightG 4 small7 = true := by decide
theorem small7_kahn : KahnAll small7 4 [2, 0, 3, 1] := by
  refine ⟨fun i x hx => ?_, fun v h0 hv => ?_⟩
  · match i, hx with
    | 0, hx =>
      injection hx with hx; subst hx
      refine ⟨by decide, by decide, fun u h0 hu => ?_⟩
      obtain rfl | rfl : u = 0 ∨ u = 1 := by omega
      · decide
      · decide
    | 1, hx =>
      injection hx with hx; subst hx
      exact ⟨by decide, by decide, fun u h0 hu => by omega⟩
    | 2, hx =>
      injection hx with hx; subst hx
      refine ⟨by decide, by decide, fun u h0 hu => ?_⟩
      obtain rfl | rfl | rfl : u = 0 ∨ u = 1 ∨ u = 2 := by omega
      · decide
      · decide
      · decide
    | 3, hx =>
      injection hx with hx; subst hx
      refine ⟨by decide, by decide, fun u h0 hu => ?_⟩
      obtain rfl : u = 0 := by omega
      decide
  · obtain rfl | rfl | rfl | rfl : v = 0 ∨ v = 1 ∨ v = 2 ∨ v = 3 := by omega
    · decide
    · decide
    · decide
    · decide
theorem small7_deep : DepthIs small7 4 [1, 1, 0, 0] := by
  refine ⟨rfl, fun v => ?_, by decide, fun v h0 hv => ?_⟩
  · unfold dE
    match v.toNat with
    | 0 => decide
    | 1 => decide
    | 2 => decide
    | 3 => decide
    | k + 4 => exact Int.le_refl _
  · obtain rfl | rfl | rfl | rfl : v = 0 ∨ v = 1 ∨ v = 2 ∨ v = 3 := by omega
    · exact .inr (by decide)
    · exact .inr (by decide)
    · exact .inl (by decide)
    · exact .inl (by decide)
theorem order7_small {w w' : World} {e : Ending} (h : OrderIs small7 4 w e w') : ∃ (A : Option Addr) (c : Nat), e = .returned (.tuple #[.slice A 4 c, .bool true, .int .i64 0]) ∧ Reads w' w'.heap.size 1 A 4 (ints [2, 0, 3, 1]) ∧ Below w.heap.size w w' := by
  obtain ⟨l, hk, b, h⟩ := h
  obtain rfl := hk.unique small7_kahn
  rcases h with ⟨h, _⟩ | ⟨_, A, c, rfl, ho, _, _⟩
  · exact absurd h (by decide)
  · exact ⟨A, c, rfl, Reads.of_own ho, b⟩
theorem deep7_small {w w' : World} {e : Ending} (h : DeepIs small7 4 w e w') : ∃ (A : Option Addr) (c : Nat), e = .returned (.tuple #[.slice A 4 c, .bool true, .int .i64 0]) ∧ Reads w' w'.heap.size 1 A 4 (ints [1, 1, 0, 0]) ∧ Below w.heap.size w w' := by
  obtain ⟨l, hk, b, h⟩ := h
  obtain rfl := hk.unique small7_kahn
  rcases h with ⟨h, _⟩ | ⟨_, D, A, c, hD, rfl, ho, _, _⟩
  · exact absurd h (by decide)
  · obtain rfl := hD.unique (rightG_iff.1 small7_right).all small7_deep
    exact ⟨A, c, rfl, Reads.of_own ho, b⟩
theorem right7_small {w w' : World} {e : Ending} (h : RightIs small7 4 [2, 0, 3, 1] w e w') : e = .returned (.bool true) ∧ Below w.heap.size w w' := by
  obtain ⟨b, rfl, hb, h⟩ := h
  rw [hb.2 (small7_kahn.right rfl)]
  exact ⟨rfl, h⟩
end Go.Proofs.Ytaigpdpcliecpaa
namespace Go.Proofs.Ytaigpdpcliecpaa
open Go.RowKit Go.Shelf

set_option maxRecDepth 100000 in
set_option maxHeartbeats 4000000 in
theorem wakes7_any (w : World) : Calls Try.prog 8 #[] w fun e w' => e = .returned (.bool true) ∧ Below w.heap.size w w' := by
  have bb : Below w.heap.size w (w.alloc (.cells small7A 50)) := (Below.refl _ _).alloc (Nat.le_refl _) _
  have E1 := Lib.hid ((Env.start w).on bb)
  have S1 : Hid (GV.ok ⟨4, some ⟨w.heap.size, 0, none⟩, 2, 2, small7⟩ (w.alloc (.cells small7A 50))) := ⟨small7_reads w, Nat.le_refl _, (show (2 : Nat) ≤ 9223372036854775807 by decide), fun e => by cases e⟩
  have E3 := Lib.hid (E1.out.add S1.out)
  rw [World.size_alloc] at E3
  clear bb E1 S1
  unfold small7A at *
  go_enter Try.func8, Try.ntmps8
  go_upto_region 2 with fail
  generalize ((w.alloc _).alloc _) = w1 at *
  generalize w.heap.size + 1 = X at *
  generalize (some ⟨w.heap.size, 0, none⟩ : Option Addr) = A at *
  have E1 := E3
  clear E3
  obtain ⟨g, hg⟩ : ∃ g : GV, (⟨4, A, 2, 2, small7⟩ : GV) = g := ⟨_, rfl⟩
  rw [hg] at E1
  have HG : Hid (g.z = 4 ∧ g.es = small7 ∧ g.n = 2) := by subst hg; exact ⟨rfl, rfl, rfl⟩
  have HN : Hid (g.n ≤ 1000) := by show _ ≤ _; rw [HG.out.2.2]; decide
  have HR : Hid (rightG g.z g.es = true) := by show _ = _; rw [HG.out.1, HG.out.2.1]; exact small7_right
  have HO : Hid (∀ W, g.ok W → Calls Try.prog 10 #[.agg #[.int .i64 g.z, .slice g.A g.n g.c]] W (OrderIs small7 4 W)) := fun W ok => by
    have h := order7_at g W HN.out HR.out ok
    rwa [HG.out.2.1, show g.z.toNat = 4 by rw [HG.out.1]; rfl] at h
  have HD : Hid (∀ W, g.ok W → Calls Try.prog 12 #[.agg #[.int .i64 g.z, .slice g.A g.n g.c]] W (DeepIs small7 4 W)) := fun W ok => by
    have h := depth7_at g W HN.out HR.out ok
    rwa [HG.out.2.1, show g.z.toNat = 4 by rw [HG.out.1]; rfl] at h
  have HW : Hid (∀ W Ao co, g.ok W → Reads W W.heap.size 1 Ao 4 (ints [2, 0, 3, 1]) → Calls Try.prog 19 #[.agg #[.int .i64 g.z, .slice g.A g.n g.c], .slice Ao 4 co] W (RightIs small7 4 [2, 0, 3, 1] W)) := fun W Ao co ok hO => by
    have h := right7_at g W HN.out HR.out ok Ao 4 co _ hO
    rwa [HG.out.2.1, show g.z.toNat = 4 by rw [HG.out.1]; rfl] at h
  have z0 := E1.out.c0 (.head _)
  have z1 := E1.out.c1 (.head _)
  clear hg HG HN HR
  go_wp2_with fail
  refine (HO.out _ (E1.out.ok (.head _))).mono ?_
  rintro e w2 hx
  obtain ⟨Ao, co, rfl, hro, b⟩ := order7_small hx
  have E2 := Lib.hid (E1.out.on b)
  have R2 := Lib.hid hro
  clear hx hro b E1 z0 z1 HO
  have z0 := E2.out.c0 (.head _)
  have z1 := E2.out.c1 (.head _)
  go_wp2_with fail
  refine (HD.out _ (E2.out.ok (.head _))).mono ?_
  rintro e w3 hx
  obtain ⟨Ad, cd, rfl, hrd, b⟩ := deep7_small hx
  have E3 := Lib.hid (E2.out.on b)
  have R3 : Hid (Reads w3 w3.heap.size 1 Ao 4 (ints [2, 0, 3, 1])) := (R2.out.below b).more b.size
  have D3 := Lib.hid hrd
  clear hx hrd b E2 R2 z0 z1 HD
  go_wp2_with fail
  have bb : Below w3.heap.size w3 (w3.alloc (.cells #[.int .i64 2, .int .i64 0, .int .i64 3, .int .i64 1] 3)) := (Below.refl _ _).alloc (Nat.le_refl _) _
  have E4 := Lib.hid (E3.out.on bb)
  have R4 := Lib.hid ((R3.out.below bb).more bb.size)
  have D4 := Lib.hid ((D3.out.below bb).more bb.size)
  have L4 := Lib.hid (int_lit w3 [2, 0, 3, 1] 3 _ rfl)
  clear bb E3 R3 D3
  refine (eqi_any Ao (some ⟨w3.heap.size, 0, none⟩) 4 4 co 4 [2, 0, 3, 1] [2, 0, 3, 1] (by omega) (by omega) _ R4.out L4.out).mono ?_
  rintro e w5 ⟨rfl, b⟩
  have E5 := Lib.hid (E4.out.on b)
  have R5 := Lib.hid ((R4.out.below b).more b.size)
  have D5 := Lib.hid ((D4.out.below b).more b.size)
  clear b E4 R4 D4 L4
  go_wp2_with fail
  have bb : Below w5.heap.size w5 (w5.alloc (.cells #[.int .i64 1, .int .i64 1, .int .i64 0, .int .i64 0] 3)) := (Below.refl _ _).alloc (Nat.le_refl _) _
  have E6 := Lib.hid (E5.out.on bb)
  have R6 := Lib.hid ((R5.out.below bb).more bb.size)
  have D6 := Lib.hid ((D5.out.below bb).more bb.size)
  have L6 := Lib.hid (int_lit w5 [1, 1, 0, 0] 3 _ rfl)
  clear bb E5 R5 D5
  refine (eqi_any Ad (some ⟨w5.heap.size, 0, none⟩) 4 4 cd 4 [1, 1, 0, 0] [1, 1, 0, 0] (by omega) (by omega) _ D6.out L6.out).mono ?_
  rintro e w7 ⟨rfl, b⟩
  have E7 := Lib.hid (E6.out.on b)
  have R7 := Lib.hid ((R6.out.below b).more b.size)
  clear b E6 R6 D6 L6
  have z0 := E7.out.c0 (.head _)
  have z1 := E7.out.c1 (.head _)
  go_wp2_with fail
  refine (HW.out _ Ao co (E7.out.ok (.head _)) R7.out).mono ?_
  rintro e w8 hx
  obtain ⟨rfl, b⟩ := right7_small hx
  have E8 := Lib.hid (E7.out.on b)
  clear hx b E7 R7 z0 z1 HW
  go_wp2_with fail
  go_ret
  exact ⟨rfl, E8.out.below⟩
end Go.Proofs.Ytaigpdpcliecpaa
namespace Go.Proofs.Ytaigpdpcliecpaa
open Go.RowKit Go.Shelf

/-- A copy, in memory of its own. -/
def CopyI (xs : List Int) (w : World) (e : Ending) (w' : World) : Prop :=
  ∃ (A : Option Addr) (c : Nat), e = .returned (.slice A xs.length c) ∧ Reads w' w'.heap.size 1 A xs.length (ints xs) ∧ Below w.heap.size w w'
theorem clone7_any (A : Option Addr) (n c : Nat) (zs : List Int) (hn : n ≤ 1000000) (w : World) (hR : Reads w w.heap.size 1 A n (ints zs)) :
    Calls Try.prog 18 #[.slice A n c] w (CopyI zs w) := by
  have hl := ints_len hR
  rcases Nat.eq_zero_or_pos n with h | h
  · subst h
    obtain rfl : zs = [] := List.eq_nil_of_length_eq_zero hl
    cases A with
    | none =>
      refine (Try.slices_Clone_int_nil 0 c w).mono ?_
      rintro e w' ⟨rfl, rfl⟩
      exact ⟨none, 0, rfl, Reads.none_, Below.refl _ _⟩
    | some ad =>
      refine (Try.slices_Clone_int_zero ad c w).mono ?_
      rintro e w' ⟨v', rfl, ho, _, hb⟩
      obtain ⟨A', c', rfl, h1, h2⟩ := own_form2 ho
      exact ⟨A', c', rfl, Reads.of_own ho, hb⟩
  · obtain ⟨b, o, rfl, hb, hc⟩ := reads_plain hR h
    refine (Try.slices_Clone_int b o n c zs w (by omega) (by omega) (ints_get hc)).mono ?_
    rintro e w' ⟨v', rfl, ho, _, hb⟩
    rw [List.take_of_length_le (by omega)] at ho
    obtain ⟨A', c', rfl, h1, h2⟩ := own_form2 ho
    subst hl
    exact ⟨A', c', rfl, Reads.of_own ho, hb⟩

/-- How two numbers stand. -/
def cmp7 (a b : Int) : Int := if a < b then -1 else if b < a then 1 else 0
theorem cmp7_same (a : Int) : cmp7 a a = 0 := by unfold cmp7; rw [if_neg (Int.lt_irrefl a), if_neg (Int.lt_irrefl a)]
theorem cmp7_less {a b : Int} (h : a < b) : cmp7 a b = -1 := by unfold cmp7; rw [if_pos h]
set_option maxHeartbeats 400000 in
theorem compare7_int (a b : Int) (w : World) : Calls Try.prog 38 #[.int .i64 a, .int .i64 b] w fun e w' => e = .returned (.int .i64 (cmp7 a b)) ∧ w = w' := by
  have hn : ∀ (x : Int) (w : World), Calls Try.prog 57 #[.int .i64 x] w fun e w' => e = .returned (.bool false) ∧ w = w' := by
    intro x w
    go_enter Try.func57, Try.ntmps57
    go_wp2_with fail
    go_ret
    exact ⟨by simp, rfl⟩
  have H := Lib.hid hn
  clear hn
  rcases Int.lt_trichotomy a b with h | h | h
  · have hb : ¬ b < a := by omega
    have HR : Hid (cmp7 a b = -1) := by unfold cmp7; rw [if_pos h]; exact rfl
    go_enter Try.func38, Try.ntmps38
    go_wp2_with fail
    refine (H.out _ _).mono ?_
    rintro e w1 ⟨rfl, rfl⟩
    go_wp2_with fail
    refine (H.out _ _).mono ?_
    rintro e w1 ⟨rfl, rfl⟩
    go_wp2_with fail
    go_ret
    exact ⟨by rw [HR.out]; rfl, rfl⟩
  · subst h
    have hb : ¬ a < a := by omega
    have HR : Hid (cmp7 a a = 0) := by unfold cmp7; rw [if_neg hb, if_neg hb]; exact rfl
    go_enter Try.func38, Try.ntmps38
    go_wp2_with fail
    refine (H.out _ _).mono ?_
    rintro e w1 ⟨rfl, rfl⟩
    go_wp2_with fail
    refine (H.out _ _).mono ?_
    rintro e w1 ⟨rfl, rfl⟩
    go_wp2_with fail
    go_ret
    exact ⟨by rw [HR.out]; rfl, rfl⟩
  · have hb : ¬ a < b := by omega
    have HR : Hid (cmp7 a b = 1) := by unfold cmp7; rw [if_neg hb, if_pos h]; exact rfl
    go_enter Try.func38, Try.ntmps38
    go_wp2_with fail
    refine (H.out _ _).mono ?_
    rintro e w1 ⟨rfl, rfl⟩
    go_wp2_with fail
    refine (H.out _ _).mono ?_
    rintro e w1 ⟨rfl, rfl⟩
    go_wp2_with fail
    go_ret
    exact ⟨by rw [HR.out]; rfl, rfl⟩

/-- What the comparison of two rows of one length gives, where the first is not greater. -/
def NotMore (w : World) (e : Ending) (w' : World) : Prop := ∃ r : Int, e = .returned (.int .i64 r) ∧ decide (r ≤ 0) = true ∧ Below w.heap.size w w'
set_option maxRecDepth 100000 in
set_option maxHeartbeats 2000000 in
theorem compare7_any (A A2 : Option Addr) (n c c2 : Nat) (xs ys : List Int) (hn : n ≤ 1000000) (hle : ∀ (i : Nat) (x y : Int), xs.take i = ys.take i → xs[i]? = some x → ys[i]? = some y → x ≤ y) (w : World) (hR : Reads w w.heap.size 1 A n (ints xs)) (hR2 : Reads w w.heap.size 1 A2 n (ints ys)) :
    Calls Try.prog 21 #[.slice A n c, .slice A2 n c2] w (NotMore w) := by
  have HR := Lib.hid hR
  have HR2 := Lib.hid hR2
  have HL := Lib.hid (ints_len hR)
  have HL2 := Lib.hid (ints_len hR2)
  have HLE := Lib.hid hle
  clear hR hR2 hle
  go_enter Try.func21, Try.ntmps21
  go_wp2_with fail
  go_loopg [11] n (fun gg i wr => ∃ k : Nat, k + gg = n ∧ i = .int .i64 k ∧ Hid (xs.take k = ys.take k) ∧ Hid (Below w.heap.size w wr))
  case atStart => exact ⟨0, by omega, rfl, by simp [Hid], Below.refl _ _⟩
  case round =>
    obtain ⟨k, hk, rfl, ht, bk⟩ := hrel
    cases gk with
    | succ g2 =>
      have hlt : (k : Int) < (n : Int) := by omega
      have hge : ¬ (k : Int) ≥ (n : Int) := by omega
      obtain ⟨p, hp⟩ : ∃ p, xs[k]? = some p := ⟨xs[k]'(by rw [HL.out]; omega), List.getElem?_eq_getElem _⟩
      obtain ⟨q, hq⟩ : ∃ q, ys[k]? = some q := ⟨ys[k]'(by rw [HL2.out]; omega), List.getElem?_eq_getElem _⟩
      obtain ⟨b, o, rfl, hb, g0⟩ := int_at (HR.out.below bk.out) hp
      obtain ⟨b2, o2, rfl, hb2, x0⟩ := int_at (HR2.out.below bk.out) hq
      have hpq := HLE.out k p q ht.out hp hq
      have HK := Lib.hid hk
      rcases Int.lt_or_eq_of_le hpq with h | h
      · have HC := Lib.hid fun W => compare7_int p q W
        rw [cmp7_less h] at HC
        clear hp hq hk hpq h ht
        go_wp2_with fail
        refine (HC.out _).mono ?_
        rintro e w1 ⟨rfl, rfl⟩
        go_wp2_with fail
        go_ret
        exact ⟨-1, rfl, rfl, bk.out⟩
      · subst h
        have HC := Lib.hid fun W => compare7_int p p W
        rw [cmp7_same p] at HC
        have HT : Hid (xs.take (k + 1) = ys.take (k + 1)) := by
          show _ = _
          rw [List.take_add_one, List.take_add_one, ht.out, hp, hq]
        clear hp hq hk hpq ht
        go_wp2_with fail
        refine (HC.out _).mono ?_
        rintro e w1 ⟨rfl, rfl⟩
        go_wp2_with fail
        go_roundg g2
        case measure => omega
        case rel => exact ⟨k + 1, by have := HK.out; omega, by go_num, HT, bk⟩
    | zero =>
      have hge : ¬ (k : Int) < (n : Int) := by omega
      have hnn : ¬ (n : Int) < (n : Int) := by omega
      clear hk ht
      go_wp2_with fail
      go_ret
      exact ⟨0, rfl, rfl, bk.out⟩

theorem compare7_two (A A2 : Option Addr) (n m c c2 : Nat) (xs ys : List Int) (hnm : n = m) (hn : n ≤ 1000000) (hle : ∀ (i : Nat) (x y : Int), xs.take i = ys.take i → xs[i]? = some x → ys[i]? = some y → x ≤ y) (w : World) (hR : Reads w w.heap.size 1 A n (ints xs)) (hR2 : Reads w w.heap.size 1 A2 m (ints ys)) :
    Calls Try.prog 21 #[.slice A n c, .slice A2 m c2] w (NotMore w) := by
  subst hnm
  exact compare7_any A A2 n c c2 xs ys hn hle w hR hR2

/-- A row of one's own, turned round. -/
def TurnedIs (B : Nat) (A : Option Addr) (n : Nat) (xs : List Int) (w : World) (e : Ending) (w' : World) : Prop :=
  e = .returned (.tuple #[]) ∧ Reads w' w'.heap.size 1 A n (ints xs.reverse) ∧ Below B w w'
theorem below_cells7 {B b : Nat} {a : World} (hb : B ≤ b) : ∀ (vs : List Value) (o : Nat) (w : World), Below B a w → Below B a (w.setCells b o vs)
  | [], _, _, h => h
  | v :: r, o, _, h => below_cells7 hb r (o + 1) _ (h.setCell (p := ⟨b, o, none⟩) hb v)
theorem size_cells7 (b : Nat) : ∀ (vs : List Value) (o : Nat) (w : World), (w.setCells b o vs).heap.size = w.heap.size
  | [], _, _ => rfl
  | _ :: r, _, _ => by rw [World.setCells, size_cells7 b r, World.size_setCell]
theorem reverse7_any (B : Nat) (A : Option Addr) (n c : Nat) (xs : List Int) (hn : n ≤ 1000000) (w : World) (ho : w.ownsRow B 3 1 (.slice A n c) n (ints xs)) :
    Calls Try.prog 28 #[.slice A n c] w (TurnedIs B A n xs w) := by
  have hR := Reads.of_own ho
  have hl := ints_len hR
  rcases Nat.eq_zero_or_pos n with h | h
  · subst h
    obtain rfl : xs = [] := List.eq_nil_of_length_eq_zero hl
    refine (Try.slices_Reverse_int_empty A c w).mono ?_
    rintro e w' ⟨rfl, rfl⟩
    exact ⟨rfl, hR, Below.refl _ _⟩
  · obtain ⟨b, o, rfl, hb, hc⟩ := reads_plain hR h
    have hown := own_in ho (g := b) (by simp [Value.ownBlock])
    have ho0 : o = 0 := by
      rcases ho.2 with ⟨_, e2⟩ | ⟨g, cap, cur, e1, _⟩
      · omega
      · injection e1 with e1
        injection e1 with e1
        injection e1 with _ e1 _
    subst ho0
    refine (Try.slices_Reverse_int_cells b 0 n c xs w (by omega) (by omega) (ints_get hc) (fun j _ => by rw [Nat.zero_add]; exact ho.frozenAt j)).mono ?_
    rintro e w' ⟨rfl, q, rfl⟩
    have hlen : ((xs.take n).reverse.map (Value.int .i64)).length = n := by simp; omega
    refine ⟨rfl, ⟨by rw [ints_length, List.length_reverse]; omega, fun _ => ⟨_, rfl, by rw [size_cells7]; exact hb, fun j u hu => ?_⟩⟩, below_cells7 hown.1 _ _ _ (below_drewN (Below.refl _ _) _)⟩
    have hj : j < n := by
      have := (List.getElem?_eq_some_iff.1 hu).1
      rw [ints_length, List.length_reverse] at this
      omega
    rw [Go.WideShapes.add_plain]
    refine (World.cell?_setCells_in b _ 0 (w.drewN q) (fun i hi => by
      rw [hlen] at hi
      have := hc i _ (show (ints xs)[i]? = some ((ints xs)[i]'(by rw [ints_length]; omega)) from List.getElem?_eq_getElem _)
      show (w.cell? _).isSome = true
      rw [this]
      rfl) j (by rw [hlen]; exact hj)).trans ?_
    rw [← hu, ← List.getElem?_eq_getElem]
    unfold ints
    rw [List.take_of_length_le (by omega)]
end Go.Proofs.Ytaigpdpcliecpaa
namespace Go.Proofs.Ytaigpdpcliecpaa
open Go.RowKit Go.Shelf
open Go.Maps (Keyed IsMap atKey_put_same atKey_put_other int_keyed keyOf_int_mk)

/-- Where the first one lies that is as asked; none: -1. -/
def IdxE (zs : List Ed) (q : Ed → Bool) (w : World) (e : Ending) (w' : World) : Prop := ∃ r : Int, e = .returned (.int .i64 r) ∧ decide (r ≥ 0) = zs.any q ∧ Below w.heap.size w w'

set_option maxRecDepth 100000 in
set_option maxHeartbeats 2000000 in
theorem index7l_any (Bc : Nat) (q : Ed → Bool) (A : Option Addr) (n c : Nat) (zs : List Ed) (hn : n ≤ 1000000) (w : World) (hR : Reads w w.heap.size 3 A n (cellsE zs))
    (hq : ∀ p ∈ zs, ∀ W, Below w.heap.size w W → Calls Try.prog 25 #[.agg #[.int .i64 p.1, .int .i64 p.2.1, .int .i64 p.2.2], .pointer (some ⟨Bc, 0, none⟩)] W fun e W' => e = .returned (.bool (q p)) ∧ Below W.heap.size W W') :
    Calls Try.prog 46 #[.slice A n c, .func (.func 25) #[] #[.pointer (some ⟨Bc, 0, none⟩)]] w (IdxE zs q w) := by
  have HR := Lib.hid hR
  have HL := Lib.hid (reads_len hR)
  have HQ := Lib.hid hq
  clear hR hq
  go_enter Try.func46, Try.ntmps46
  go_wp2_with fail
  go_loopg [8] n (fun gg i wr => ∃ k : Nat, k + gg = n ∧ i = .int .i64 k ∧ Hid ((zs.take k).any q = false) ∧ Hid (Below w.heap.size w wr))
  case atStart => exact ⟨0, by omega, rfl, by simp [Hid], Below.refl _ _⟩
  case round =>
    obtain ⟨k, hk, rfl, ht, bk⟩ := hrel
    cases gk with
    | succ g2 =>
      have hlt : (k : Int) < (n : Int) := by omega
      obtain ⟨p, hp⟩ : ∃ p, zs[k]? = some p := ⟨zs[k]'(by rw [HL.out]; omega), List.getElem?_eq_getElem _⟩
      obtain ⟨b, o, rfl, hb, g0, g1, g3⟩ := ed_at (HR.out.below bk.out) hp
      have HC := Lib.hid (HQ.out p (List.mem_of_getElem? hp) wr bk.out)
      have HK := Lib.hid hk
      cases hb2 : q p
      · rw [hb2] at HC
        have HT : Hid ((zs.take (k + 1)).any q = false) := by
          show _ = _
          rw [List.take_add_one, hp, List.any_append, ht.out]
          simp [hb2]
        clear hp hk ht hb2
        go_wp2_with fail
        refine HC.out.mono ?_
        rintro e w1 ⟨rfl, b1⟩
        have B1 : Hid (Below w.heap.size w w1) := bk.out.trans (b1.mono bk.out.size)
        clear b1 g0 g1 g3 HC
        go_wp2_with fail
        go_roundg g2
        case measure => omega
        case rel => exact ⟨k + 1, by have := HK.out; omega, by go_num, HT, B1⟩
      · rw [hb2] at HC
        have HT : Hid (decide ((k : Int) ≥ 0) = zs.any q) := by
          show _ = _
          rw [decide_eq_true (by omega), List.any_eq_true.2 ⟨p, List.mem_of_getElem? hp, hb2⟩]
        clear hp hk ht hb2
        go_wp2_with fail
        refine HC.out.mono ?_
        rintro e w1 ⟨rfl, b1⟩
        have B1 : Hid (Below w.heap.size w w1) := bk.out.trans (b1.mono bk.out.size)
        clear b1 g0 g1 g3 HC
        go_wp2_with fail
        go_ret
        exact ⟨(k : Int), rfl, HT.out, B1.out⟩
    | zero =>
      have hge : ¬ (k : Int) < (n : Int) := by omega
      have HT : Hid (decide ((-1 : Int) ≥ 0) = zs.any q) := by
        show _ = _
        have h := ht.out
        rw [List.take_of_length_le (by rw [HL.out]; omega)] at h
        rw [h]
        rfl
      clear hk ht
      go_wp2_with fail
      go_ret
      exact ⟨-1, rfl, HT.out, bk.out⟩
theorem contains7l_any (Bc : Nat) (q : Ed → Bool) (A : Option Addr) (n c : Nat) (zs : List Ed) (hn : n ≤ 1000000) (w : World) (hR : Reads w w.heap.size 3 A n (cellsE zs))
    (hq : ∀ p ∈ zs, ∀ W, Below w.heap.size w W → Calls Try.prog 25 #[.agg #[.int .i64 p.1, .int .i64 p.2.1, .int .i64 p.2.2], .pointer (some ⟨Bc, 0, none⟩)] W fun e W' => e = .returned (.bool (q p)) ∧ Below W.heap.size W W') :
    Calls Try.prog 24 #[.slice A n c, .func (.func 25) #[] #[.pointer (some ⟨Bc, 0, none⟩)]] w fun e w' => e = .returned (.bool (zs.any q)) ∧ Below w.heap.size w w' := by
  have HI := Lib.hid (index7l_any Bc q A n c zs hn w hR hq)
  clear hR hq
  go_enter Try.func24, Try.ntmps24
  go_wp2_with fail
  refine HI.out.mono ?_
  rintro e w1 ⟨r, rfl, hr, b⟩
  have HB := Lib.hid b
  have HRX := Lib.hid hr
  clear b HI hr
  go_wp2_with fail
  go_ret
  exact ⟨by rw [← HRX.out]; rfl, HB.out⟩

set_option maxRecDepth 100000 in
set_option maxHeartbeats 2000000 in
theorem index7d_any (Bv Bd : Nat) (q : Ed → Bool) (A : Option Addr) (n c : Nat) (zs : List Ed) (hn : n ≤ 1000000) (w : World) (hR : Reads w w.heap.size 3 A n (cellsE zs))
    (hq : ∀ p ∈ zs, ∀ W, Below w.heap.size w W → Calls Try.prog 27 #[.agg #[.int .i64 p.1, .int .i64 p.2.1, .int .i64 p.2.2], .pointer (some ⟨Bv, 0, none⟩), .pointer (some ⟨Bd, 0, none⟩)] W fun e W' => e = .returned (.bool (q p)) ∧ Below W.heap.size W W') :
    Calls Try.prog 46 #[.slice A n c, .func (.func 27) #[] #[.pointer (some ⟨Bv, 0, none⟩), .pointer (some ⟨Bd, 0, none⟩)]] w (IdxE zs q w) := by
  have HR := Lib.hid hR
  have HL := Lib.hid (reads_len hR)
  have HQ := Lib.hid hq
  clear hR hq
  go_enter Try.func46, Try.ntmps46
  go_wp2_with fail
  go_loopg [8] n (fun gg i wr => ∃ k : Nat, k + gg = n ∧ i = .int .i64 k ∧ Hid ((zs.take k).any q = false) ∧ Hid (Below w.heap.size w wr))
  case atStart => exact ⟨0, by omega, rfl, by simp [Hid], Below.refl _ _⟩
  case round =>
    obtain ⟨k, hk, rfl, ht, bk⟩ := hrel
    cases gk with
    | succ g2 =>
      have hlt : (k : Int) < (n : Int) := by omega
      obtain ⟨p, hp⟩ : ∃ p, zs[k]? = some p := ⟨zs[k]'(by rw [HL.out]; omega), List.getElem?_eq_getElem _⟩
      obtain ⟨b, o, rfl, hb, g0, g1, g3⟩ := ed_at (HR.out.below bk.out) hp
      have HC := Lib.hid (HQ.out p (List.mem_of_getElem? hp) wr bk.out)
      have HK := Lib.hid hk
      cases hb2 : q p
      · rw [hb2] at HC
        have HT : Hid ((zs.take (k + 1)).any q = false) := by
          show _ = _
          rw [List.take_add_one, hp, List.any_append, ht.out]
          simp [hb2]
        clear hp hk ht hb2
        go_wp2_with fail
        refine HC.out.mono ?_
        rintro e w1 ⟨rfl, b1⟩
        have B1 : Hid (Below w.heap.size w w1) := bk.out.trans (b1.mono bk.out.size)
        clear b1 g0 g1 g3 HC
        go_wp2_with fail
        go_roundg g2
        case measure => omega
        case rel => exact ⟨k + 1, by have := HK.out; omega, by go_num, HT, B1⟩
      · rw [hb2] at HC
        have HT : Hid (decide ((k : Int) ≥ 0) = zs.any q) := by
          show _ = _
          rw [decide_eq_true (by omega), List.any_eq_true.2 ⟨p, List.mem_of_getElem? hp, hb2⟩]
        clear hp hk ht hb2
        go_wp2_with fail
        refine HC.out.mono ?_
        rintro e w1 ⟨rfl, b1⟩
        have B1 : Hid (Below w.heap.size w w1) := bk.out.trans (b1.mono bk.out.size)
        clear b1 g0 g1 g3 HC
        go_wp2_with fail
        go_ret
        exact ⟨(k : Int), rfl, HT.out, B1.out⟩
    | zero =>
      have hge : ¬ (k : Int) < (n : Int) := by omega
      have HT : Hid (decide ((-1 : Int) ≥ 0) = zs.any q) := by
        show _ = _
        have h := ht.out
        rw [List.take_of_length_le (by rw [HL.out]; omega)] at h
        rw [h]
        rfl
      clear hk ht
      go_wp2_with fail
      go_ret
      exact ⟨-1, rfl, HT.out, bk.out⟩
theorem contains7d_any (Bv Bd : Nat) (q : Ed → Bool) (A : Option Addr) (n c : Nat) (zs : List Ed) (hn : n ≤ 1000000) (w : World) (hR : Reads w w.heap.size 3 A n (cellsE zs))
    (hq : ∀ p ∈ zs, ∀ W, Below w.heap.size w W → Calls Try.prog 27 #[.agg #[.int .i64 p.1, .int .i64 p.2.1, .int .i64 p.2.2], .pointer (some ⟨Bv, 0, none⟩), .pointer (some ⟨Bd, 0, none⟩)] W fun e W' => e = .returned (.bool (q p)) ∧ Below W.heap.size W W') :
    Calls Try.prog 24 #[.slice A n c, .func (.func 27) #[] #[.pointer (some ⟨Bv, 0, none⟩), .pointer (some ⟨Bd, 0, none⟩)]] w fun e w' => e = .returned (.bool (zs.any q)) ∧ Below w.heap.size w w' := by
  have HI := Lib.hid (index7d_any Bv Bd q A n c zs hn w hR hq)
  clear hR hq
  go_enter Try.func24, Try.ntmps24
  go_wp2_with fail
  refine HI.out.mono ?_
  rintro e w1 ⟨r, rfl, hr, b⟩
  have HB := Lib.hid b
  have HRX := Lib.hid hr
  clear b HI hr
  go_wp2_with fail
  go_ret
  exact ⟨by rw [← HRX.out]; rfl, HB.out⟩

/-- What a map tells of numbers. -/
def SeenT (D : DataW Unit) (S : Int → Bool) : Prop := ∀ v : Int, D.atKey (.int .i64 v) (.lit (.bool false)) = .lit (.bool (S v))
def addT (S : Int → Bool) (v : Int) : Int → Bool := fun u => S u || u == v
theorem seenT_none : SeenT (.map []) (fun _ => false) := fun _ => rfl
theorem SeenT.put {D : DataW Unit} {S : Int → Bool} (h : SeenT D S) (hD : IsMap D) (v : Int) : SeenT (D.put (.int .i64 v) (.lit (.bool true))) (addT S v) := fun u => by
  by_cases e : u = v
  · subst e
    rw [atKey_put_same hD (show WideAt.IsKeyLit (.int .i64 u) from trivial)]
    simp [addT]
  · rw [atKey_put_other (fun e2 => e (by injection e2)), h u]
    simp [addT, e]
section
variable {P : Program} {w : World} {t k e : TypeId} {b n : Nat} {D : DataW Unit}
theorem lookT_b (h : w.ownsMap P k (plainElem P e) b n D) (K : Keyed P k) (ht : P.underlying t = some (.map k e)) (he : P.underlying e = some .bool) (hz : (zeroValue e).run P w = .ok (.bool false) w)
    {key : Value} {kl : Lit} (hkey : keyOf P k key = some kl) {c : Bool} (hat : D.atKey kl (.lit (.bool false)) = .lit (.bool c)) : (Instr.lookup t (.map (some b)) key false).run P w = .ok (.bool c) w := by
  obtain ⟨v, ps, hrun, hv⟩ := h.lookup K ht hz (plainElem_bool he false) hkey
  rw [hat] at hv
  unfold plainElem at hv
  rw [he] at hv
  cases v <;> simp at hv
  obtain ⟨rfl, _⟩ := hv
  exact hrun
end
theorem zeroBoolT (W : World) : (zeroValue 4).run Try.prog W = .ok (.bool false) W := by kernel_rfl
set_option maxRecDepth 100000 in
set_option maxHeartbeats 2000000 in
theorem left1_any (p : Ed) (hp : (0 : Int) ≤ p.1 ∧ p.1 < 300) (S : Int → Bool) (D : DataW Unit) (Bc Bm q : Nat) (W : World) (hB : Blk W Bc 45 #[.map (some Bm)]) (hM : W.ownsMap (H := Unit) Try.prog 3 (plainElem Try.prog 4) Bm q D) (hS : SeenT D S) :
    Calls Try.prog 25 #[.agg #[.int .i64 p.1, .int .i64 p.2.1, .int .i64 p.2.2], .pointer (some ⟨Bc, 0, none⟩)] W fun e W' => e = .returned (.bool (S p.1)) ∧ Below W.heap.size W W' := by
  obtain ⟨p1, p2, p3⟩ := p
  simp only at hp
  have b0 : Below W.heap.size W (W.alloc (.cells #[.int .i64 p1, .int .i64 p2, .int .i64 p3] 50)) := (Below.refl _ _).alloc (Nat.le_refl _) _
  have k0 := (hB.below b0 hB.lt).cell 0
  have HX := Lib.hid (Blk.new W 50 #[.int .i64 p1, .int .i64 p2, .int .i64 p3])
  have y0 := HX.out.cell 0
  have y1 := HX.out.cell 1
  have hM1 := hM.kept (below_only b0 none) (by simp)
  have B0 := Lib.hid b0
  have hl : (Instr.lookup 45 (.map (some Bm)) (.int .i64 p1) false).run Try.prog (W.alloc (.cells #[.int .i64 p1, .int .i64 p2, .int .i64 p3] 50)) = .ok (.bool (S p1)) (W.alloc (.cells #[.int .i64 p1, .int .i64 p2, .int .i64 p3] 50)) :=
    lookT_b hM1 (int_keyed Try.underlying3) Try.underlying45 Try.underlying4 (zeroBoolT _) (keyOf_int_mk Try.underlying3 (WalkArith.wf_i64 (by omega))) (hS p1)
  clear hB hM hM1 hS b0 hp HX
  go_enter Try.func25, Try.ntmps25
  go_upto_region 1 with fail
  generalize W.alloc (.cells #[.int .i64 p1, .int .i64 p2, .int .i64 p3] 50) = W0 at *
  go_wp2_with fail
  go_ret
  exact ⟨rfl, B0.out⟩
/-- What TopoDeep asks of an edge. -/
def deepQ (D : List Int) (v : Int) (p : Ed) : Bool := p.2.1 == v && dE D p.1 == dE D v - 1
set_option maxRecDepth 100000 in
set_option maxHeartbeats 4000000 in
theorem deep1_any (p : Ed) (D : List Int) (m v Bv Bd : Nat) (Ad : Option Addr) (cd : Nat) (W : World) (hl : D.length = m) (hm : m ≤ 300) (hv : v < m) (hp : rightE (m : Int) p = true) (hdv : 0 ≤ dE D (v : Int) ∧ dE D (v : Int) ≤ 1000) (hBv : Blk W Bv 3 #[.int .i64 (v : Int)]) (hBd : Blk W Bd 27 #[.slice Ad m cd]) (hR : Reads W W.heap.size 1 Ad m (ints D)) :
    Calls Try.prog 27 #[.agg #[.int .i64 p.1, .int .i64 p.2.1, .int .i64 p.2.2], .pointer (some ⟨Bv, 0, none⟩), .pointer (some ⟨Bd, 0, none⟩)] W fun e W' => e = .returned (.bool (deepQ D (v : Int) p)) ∧ Below W.heap.size W W' := by
  obtain ⟨p1, p2, p3⟩ := p
  have hpr := of_decide_eq_true hp
  simp only at hpr
  obtain ⟨a, rfl⟩ : ∃ a : Nat, p1 = (a : Int) := ⟨p1.toNat, by omega⟩
  have ham : (a : Int) < (m : Int) := hpr.1.2
  have hvm : (v : Int) < (m : Int) := by omega
  have b0 : Below W.heap.size W (W.alloc (.cells #[.int .i64 (a : Int), .int .i64 p2, .int .i64 p3] 50)) := (Below.refl _ _).alloc (Nat.le_refl _) _
  obtain ⟨g, o, rfl, hg, hc⟩ := reads_plain hR (by omega)
  have hat : ∀ j, j < m → (W.alloc (.cells #[.int .i64 (a : Int), .int .i64 p2, .int .i64 p3] 50)).cell? ⟨g, o + j, none⟩ = some (.int .i64 (dE D (j : Int))) := fun j hj => by
    rw [← hc j _ (show (ints D)[j]? = some (.int .i64 (dE D (j : Int))) by unfold ints; rw [List.getElem?_map, dE_get (by omega)]; rfl)]
    exact b0.cell (p := ⟨g, o + j, none⟩) hg
  have c0 := hat a (by omega)
  have c1 := hat v (by omega)
  have k0 := (hBv.below b0 hBv.lt).cell 0
  have k1 := (hBd.below b0 hBd.lt).cell 0
  have HX := Lib.hid (Blk.new W 50 #[.int .i64 (a : Int), .int .i64 p2, .int .i64 p3])
  have y0 := HX.out.cell 0
  have y1 := HX.out.cell 1
  have B0 := Lib.hid b0
  have HQ : Hid (deepQ D (v : Int) ((a : Int), p2, p3) = (p2 == (v : Int) && dE D (a : Int) == dE D (v : Int) - 1)) := rfl
  generalize dE D (a : Int) = va at *
  generalize dE D (v : Int) = vb at *
  have hw : IntKind.i64.wrap (vb - 1) = vb - 1 := by rw [IntKind.wrap_i64]; omega
  clear hp hpr hl hm hBv hBd hR b0 hc hat hg hdv hv
  go_enter Try.func27, Try.ntmps27
  go_upto_region 1 with fail
  generalize W.alloc (.cells #[.int .i64 (a : Int), .int .i64 p2, .int .i64 p3] 50) = W0 at *
  cases h1 : p2 == (v : Int)
  · have HQ2 : Hid (deepQ D (v : Int) ((a : Int), p2, p3) = false) := by show _ = _; rw [HQ.out, h1]; rfl
    clear HQ
    go_quiet (fail)
    go_wp2_with fail
    go_ret
    exact ⟨by rw [HQ2.out]; rfl, below_drewN B0.out _⟩
  · cases h2 : va == vb - 1
    all_goals
      have HQ2 := Lib.hid (HQ.out.trans (by rw [h1, h2]))
      clear HQ
      go_quiet (fail)
      go_wp2_with fail
      go_ret
      exact ⟨by rw [HQ2.out]; rfl, below_drewN B0.out _⟩
end Go.Proofs.Ytaigpdpcliecpaa
