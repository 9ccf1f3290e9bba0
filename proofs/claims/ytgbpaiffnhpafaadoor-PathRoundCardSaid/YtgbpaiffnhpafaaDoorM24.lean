/- Layer bits: List and Next: contracts. -/
import Derived.Test.YtgbpaiffnhpafaaDoorM22
import Derived.Test.YtgbpaiffnhpafaaDoorM23
import Derived.Test.YtgbpaiffnhpafaaDoorM18
-- holds: YtgbpaiffnhpafaaDoorEq
namespace Go.Proofs.YtgbpaiffnhpafaaDoor.Bit
open Go.RowKit Go.Shelf
attribute [local go_sem] Oper.semAt_some

theorem rem_nums (xs : List Nat) : remS (effW xs) 0 = numsF (inW xs) := by
  rw [rem_all]
  exact nums_range (f := hasW (effW xs)) (by have := eff_len xs; omega) fun n hn => has_lt hn
theorem rem_from (xs : List Nat) (f : Nat) : remS (effW xs) f = (numsF (inW xs)).filter fun n => decide (f ≤ n) := by
  rw [← rem_nums, rem_all]
  unfold remS
  rw [List.filter_filter]
theorem rise_start {w1 : World} {A : Option Addr} {m c f : Nat} {ws : List Nat} (hT : Tab w1) (hR : RW w1 w1.heap.size A m ws) :
    RiseAt ((w1.alloc (.cells #[.slice A m c] 82)).alloc (.cells #[.int .i64 (f : Int)] 3)).heap.size (w1.heap.size + 1) w1.heap.size A m c ws f ((w1.alloc (.cells #[.slice A m c] 82)).alloc (.cells #[.int .i64 (f : Int)] 3)) := by
  obtain ⟨q0, q1, hsz, hb⟩ := two_boxes w1 (.slice A m c) (.int .i64 (f : Int)) 82 3
  refine ⟨by rw [hsz]; omega, by rw [hsz]; omega, q1, q0, (hR.below hb).more hb.size, hT.on hb, Nat.lt_of_lt_of_le hT.1 hb.size⟩

theorem own_below {w w' : World} {base : Nat} {e : TypeId} {size : Nat} {v : Value} {n : Nat} {xs : List Value} (h : w.ownsRow base e size v n xs) (hb : Below w.heap.size w w') : w'.ownsRow base e size v n xs := by
  refine ⟨h.1, h.2.imp id ?_⟩
  rintro ⟨g, cap, cur, rfl, h1, hh, hr⟩
  exact ⟨g, cap, cur, rfl, h1, (hb.block g (block_lt' hh)).trans hh, hr⟩
theorem own_low {w : World} {base base' : Nat} {e : TypeId} {size : Nat} {v : Value} {n : Nat} {xs : List Value} (h : w.ownsRow base e size v n xs) (hb : base' ≤ base) : w.ownsRow base' e size v n xs := by
  obtain ⟨hl, h0 | ⟨g, cap, cur, hv, hg, r⟩⟩ := h
  · exact ⟨hl, .inl h0⟩
  · exact ⟨hl, .inr ⟨g, cap, cur, hv, Nat.le_trans hb hg, r⟩⟩

/-- The first one of what comes, if anything comes. -/
def firstN (l : List Nat) : Nat := l.headD 0
def someN (l : List Nat) : Bool := !l.isEmpty
def NextOk (l : List Nat) (w : World) (e : Ending) (w' : World) : Prop :=
  e = .returned (.tuple #[.int .i64 (firstN l : Int), .bool (someN l)]) ∧ Below w.heap.size w w'

set_option maxRecDepth 100000 in
set_option maxHeartbeats 4000000 in
theorem next_in (n : Nat) (hn : 2 ≤ n) (A : Option Addr) (k c : Nat) (z : Int) (f : Nat) (hz : max z 0 = (f : Int)) (hf : f ≤ 9223372036854775807) (xs : List Nat) (hx : W64 xs) (hk : k ≤ 100000) (w : World) (hT : Tab w) (hA : RW w w.heap.size A k xs) :
    CallsIn Fence.wide n Tryd.prog 55 #[.agg #[.slice A k c], .int .i64 z] w (NextOk (remS (effW xs) f) w) := by
  have h1 : 1 ≤ n := by omega
  obtain ⟨p0, p1, p2, _, psz, pb⟩ := three_boxes w (.slice A k c) (.int .i64 0) (.bool false) 84 3 4
  have k1 := (Boxed.new (w.alloc (.cells #[.slice A k c] 84)) 3 (.int .i64 0)).alloc (.cells #[.bool false] 4)
  have k2 := Boxed.new ((w.alloc (.cells #[.slice A k c] 84)).alloc (.cells #[.int .i64 0] 3)) 4 (.bool false)
  rw [World.size_alloc] at k1
  rw [World.size_alloc, World.size_alloc] at k2
  have HW := Lib.hid fun W (h : Below w.heap.size w W) => words_any A k c xs hx (by omega) W ((hA.below h).more h.size)
  have HLX := Lib.hid (eff_len xs)
  have H6 := Lib.hid (eff_64 hx)
  have HT := Lib.hid fun W h => hT.on (w' := W) h
  clear hA hT p1 p2
  refine callsIn_of_wp_marks Tryd.func55 rfl trivial ?_ rfl
  simp only [Tryd.ntmps55, List.size_toArray, List.length_cons, List.length_nil, Nat.reduceAdd, Nat.reduceSub, Array.replicate_succ, Array.replicate_zero, List.push_toArray, List.append_toArray, List.nil_append, List.cons_append]
  gi_wp2_with fail
  generalize ((w.alloc (.cells #[.slice A k c] 84)).alloc (.cells #[.int .i64 0] 3)).alloc (.cells #[.bool false] 4) = W0 at *
  refine ⟨trivial, (callsIn_wide.2 (HW.out _ pb)).mono ?_⟩
  rintro e w1 ⟨A1, n1, c1, rfl, r1, b1⟩
  have hn1 : n1 ≤ 157 := by have := r1.len; have := HLX.out; omega
  have B1 : Hid (Below w.heap.size w w1) := pb.trans (b1.mono pb.size)
  have K1 : Hid (Boxed w1 (w.heap.size + 1) 3 (.int .i64 0)) := (b1.block _ (by omega)).trans k1
  have K2 : Hid (Boxed w1 (w.heap.size + 1 + 1) 4 (.bool false)) := (b1.block _ (by omega)).trans k2
  have hs1 : w.heap.size + 1 + 1 < w1.heap.size := by have := b1.size; omega
  have R1 := Lib.hid (r1.more b1.size)
  clear r1 b1 pb HW k1 k2 psz p0
  gi_wp2_with fail
  refine ⟨trivial, (callsIn_wide.2 (rising_any A1 n1 c1 f w1)).mono ?_⟩
  rintro e w2 ⟨rfl, rfl⟩
  have HR := Lib.hid (rise_start (c := c1) (f := f) (HT.out _ B1.out) R1.out)
  obtain ⟨q0, q1, hsz, hb⟩ := two_boxes w1 (.slice A1 n1 c1) (.int .i64 (f : Int)) 82 3
  have B2 := Lib.hid (B1.out.trans (hb.mono B1.out.size))
  have hs2 : w.heap.size + 1 + 1 < ((w1.alloc (.cells #[.slice A1 n1 c1] 82)).alloc (.cells #[.int .i64 (f : Int)] 3)).heap.size := by rw [hsz]; omega
  have J1 : Hid (Boxed ((w1.alloc (.cells #[.slice A1 n1 c1] 82)).alloc (.cells #[.int .i64 (f : Int)] 3)) (w.heap.size + 1) 3 (.int .i64 0)) := (hb.block _ (by omega)).trans K1.out
  have J2 : Hid (Boxed ((w1.alloc (.cells #[.slice A1 n1 c1] 82)).alloc (.cells #[.int .i64 (f : Int)] 3)) (w.heap.size + 1 + 1) 4 (.bool false)) := (hb.block _ (by omega)).trans K2.out
  clear q0 q1 hsz hb R1 K1 K2
  gi_wp2_with fail
  generalize (w1.alloc (.cells #[.slice A1 n1 c1] 82)).alloc (.cells #[.int .i64 (f : Int)] 3) = w2 at *
  have HS := Lib.hid (iter_stops (n - 1) (by omega) w2.heap.size (w1.heap.size + 1) w1.heap.size A1 n1 c1 f _ H6.out (by omega) hf w2 (Nat.le_refl _) HR.out)
  refine wpIn_rangeFunc_ownF rfl h1 (gf := 94) (lb := #[.pointer (some ⟨w1.heap.size + 1, 0, none⟩), .pointer (some ⟨w1.heap.size, 0, none⟩)]) rfl trivial (enters_of Tryd.func94 (by kernel_rfl) rfl)
    HS.out belowK_t (belowK_b (Nat.le_refl _)) (Below.refl _ _) (fun _ => rfl)
    (fun pre W => ((pre = [] ∧ Boxed W (w.heap.size + 1) 3 (.int .i64 0)) ∧ Boxed W (w.heap.size + 1 + 1) 4 (.bool false)) ∧ Below w.heap.size w W)
    (fun c pre W => (∃ x : Nat, (c = .ret ∧ pre = [x]) ∧ Boxed W (w.heap.size + 1) 3 (.int .i64 (x : Int)) ∧ Boxed W (w.heap.size + 1 + 1) 4 (.bool true)) ∧ Below w.heap.size w W)
    (OwnFrom.and (OwnFrom.and (OwnFrom.and (ownFrom_pure _ _) (Own.from (boxed_own _ _ _) _)) (Own.from (boxed_own _ _ _) _)) (ownFrom_below (Nat.le_refl _) B2.out.size))
    (fun c => OwnFrom.and (fun pre X Y row hs hg hr => by
      obtain ⟨x, e1, e2, e3⟩ := hs
      exact ⟨x, e1, boxed_own _ _ (fun (_ : Unit) => _) () X Y row e2 hg (fun r e => (hr r e).2), boxed_own _ _ (fun (_ : Unit) => _) () X Y row e3 hg (fun r e => (hr r e).2)⟩) (ownFrom_below (Nat.le_refl _) B2.out.size))
    ⟨⟨⟨rfl, J1.out⟩, J2.out⟩, B2.out⟩
    (fun x => { tmps := #[.agg #[.slice A k c], .int .i64 z, .pointer (some ⟨w.heap.size, 0, none⟩), undef, .pointer (some ⟨w.heap.size + 1, 0, none⟩), .pointer (some ⟨w.heap.size + 1 + 1, 0, none⟩), .int .i64 (x : Int), .agg #[.slice A k c], .slice A1 n1 c1, .int .i64 z, .int .i64 (f : Int), .func (.func 94) #[] #[.pointer (some ⟨w1.heap.size + 1, 0, none⟩), .pointer (some ⟨w1.heap.size, 0, none⟩)], .int .i64 (x : Int), undef], defers := [] })
    ?assign ?body ?done ?stop
  case assign =>
    intro l x W K hK
    unfold encN
    gi_wp2
    exact hK
  case body =>
    rintro l' pre x W ⟨⟨⟨rfl, c1'⟩, c2'⟩, hB1⟩ hlt
    have e1 := c1'.cell
    have e2 := c2'.cell
    have f1 := c1'.frozen
    have f2 := c2'.frozen
    gi_wp2_with fail
    exact ⟨((KeepsOthers.setCell _ _ _).trans (KeepsOthers.setCell _ _ _)), ⟨x, ⟨rfl, rfl⟩, (c1'.set (.int .i64 (x : Int))).other (by omega) _, (c2'.other (by omega) _).set (.bool true)⟩,
      (hB1.setCell (p := ⟨w.heap.size + 1, 0, none⟩) (by simp) _).setCell (p := ⟨w.heap.size + 1 + 1, 0, none⟩) (by simp; omega) _⟩
  case done =>
    rintro D ys W hD rfl ⟨⟨⟨hys, c0⟩, c1'⟩, hB1⟩ hK
    have HYS := Lib.hid hys
    clear hys
    have e0 := c0.cell
    have e1 := c1'.cell
    have f0 := c0.frozen
    have f1 := c1'.frozen
    have d0 := Lib.hid ((c0.set (.int .i64 0)).other (B' := w.heap.size + 1 + 1) (by omega) (.bool false))
    have d1 := Lib.hid ((c1'.other (B' := w.heap.size + 1) (by omega) (.int .i64 0)).set (.bool false))
    have hK' := Lib.hid (((KeepsOthers.setCell W ⟨w.heap.size + 1, 0, none⟩ (.int .i64 0)).trans (KeepsOthers.setCell _ ⟨w.heap.size + 1 + 1, 0, none⟩ (.bool false))).same D _ hK rfl)
    have B3 := Lib.hid ((hB1.setCell (p := ⟨w.heap.size + 1, 0, none⟩) (by simp) (.int .i64 0)).setCell (p := ⟨w.heap.size + 1 + 1, 0, none⟩) (by simp; omega) (.bool false))
    gi_wp2
    refine ⟨by simp, .inl ⟨_, _, rfl, run_takeDeferred hK'.out, ?_⟩⟩
    have r0 := cell_kept d0.out.cell (grownBy_putObj' _ D (.deferred none)) (fun r e => by cases e; exact ⟨_, hK'.out, rfl⟩)
    have r1 := cell_kept d1.out.cell (grownBy_putObj' _ D (.deferred none)) (fun r e => by cases e; exact ⟨_, hK'.out, rfl⟩)
    refine ⟨.tuple #[.int .i64 0, .bool false], by simp [results, Tryd.results55, go_sem, r0, r1], ?_, B3.out.trans (belowK_b (w := w) (Nat.le_refl _) _ D _ _ (by have := B2.out.size; omega) hK'.out rfl rfl)⟩
    rw [HYS.out]; rfl
  case stop =>
    rintro D c pre W hD ⟨rest, hpre⟩ ⟨⟨x, ⟨rfl, rfl⟩, c0, c1'⟩, hB1⟩ hK
    have HPRE := Lib.hid hpre
    clear hpre
    have e0 := c0.cell
    have e1 := c1'.cell
    gi_wp2
    refine ⟨by simp, .inl ⟨_, _, rfl, run_takeDeferred hK, ?_⟩⟩
    have r0 := cell_kept c0.cell (grownBy_putObj' _ D (.deferred none)) (fun r e => by cases e; exact ⟨_, hK, rfl⟩)
    have r1 := cell_kept c1'.cell (grownBy_putObj' _ D (.deferred none)) (fun r e => by cases e; exact ⟨_, hK, rfl⟩)
    refine ⟨.tuple #[.int .i64 (x : Int), .bool true], by simp [results, Tryd.results55, go_sem, r0, r1], ?_, hB1.trans (belowK_b (w := w) (Nat.le_refl _) W D _ _ (by have := B2.out.size; omega) hK rfl rfl)⟩
    rw [← HPRE.out]; rfl

/-- Next: the least number from one on. -/
theorem next_any (A : Option Addr) (k c : Nat) (z : Int) (f : Nat) (hz : max z 0 = (f : Int)) (hf : f ≤ 9223372036854775807) (xs : List Nat) (hx : W64 xs) (hk : k ≤ 100000) (w : World) (hT : Tab w) (hA : RW w w.heap.size A k xs) :
    Calls Tryd.prog 55 #[.agg #[.slice A k c], .int .i64 z] w (NextOk (remS (effW xs) f) w) :=
  callsIn_wide.1 (next_in 2 (Nat.le_refl _) A k c z f hz hf xs hx hk w hT hA)
end Go.Proofs.YtgbpaiffnhpafaaDoor.Bit
