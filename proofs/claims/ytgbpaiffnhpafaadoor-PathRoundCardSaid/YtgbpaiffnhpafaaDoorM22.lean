/- Layer bits: what List gives, by slices.Collect over the iterator: contracts. -/
import Derived.RangeFuncNested
import Derived.RangeFuncBound
import Derived.RangeFuncCalls
import Derived.RangeFuncLeaves
import Derived.Shelf.Abstract
import Derived.Shelf.RegionOpen
import Derived.WalkKit
import Derived.OwnWalkIn
import Derived.TacticsInMore
import Derived.LoopNIn
import Derived.LoopIn
import Derived.Outline
import Derived.Test.YtgbpaiffnhpafaaDoorM20
import Derived.Test.YtgbpaiffnhpafaaDoorM21
import Derived.RangeFuncBox
import Derived.RangeFuncFrom
import Derived.Maps.AppendAt
-- holds: YtgbpaiffnhpafaaDoorEo YtgbpaiffnhpafaaDoorEp
namespace Go.Proofs.YtgbpaiffnhpafaaDoor.Bit
open Go.RowKit Go.Shelf
attribute [local go_sem] Oper.semAt_some

def encN (x : Nat) : Array Value := #[.int .i64 (x : Int)]
theorem block_lt' {W : World} {B : Nat} {o : Obj} (h : W.heap[B]? = some o) : B < W.heap.size := (Array.getElem?_eq_some_iff.1 h).1
theorem grown_none {W W' : World} (h : Below W.heap.size W W') : W.grownBy W' none := ⟨h.os, h.tape, h.output, h.size, fun k hk _ => h.block k hk⟩

/-- What the iterator reads lies as it lay. -/
structure RiseAt (n₀ Bf Br : Nat) (A : Option Addr) (m c : Nat) (ws : List Nat) (f : Nat) (W : World) : Prop where
  bf : Bf < n₀
  br : Br < n₀
  cf : W.cell? ⟨Bf, 0, none⟩ = some (.int .i64 (f : Int))
  cr : W.cell? ⟨Br, 0, none⟩ = some (.slice A m c)
  row : RW W n₀ A m ws
  tab : Tab W
  low : 0 < n₀
theorem RiseAt.on {n₀ Bf Br : Nat} {A : Option Addr} {m c : Nat} {ws : List Nat} {f : Nat} {W W' : World} (h : RiseAt n₀ Bf Br A m c ws f W) (hb : Below n₀ W W') : RiseAt n₀ Bf Br A m c ws f W' :=
  ⟨h.bf, h.br, (hb.cell (p := ⟨Bf, 0, none⟩) h.bf).trans h.cf, (hb.cell (p := ⟨Br, 0, none⟩) h.br).trans h.cr, h.row.below hb, h.tab.below h.low hb, h.low⟩

theorem andnot_lt' (x a : Nat) (hx : x < 18446744073709551616) : x &&& (18446744073709551615 - a) < 18446744073709551616 := Nat.lt_of_le_of_lt Nat.and_le_left hx

set_option maxRecDepth 100000 in
set_option maxHeartbeats 4000000 in
theorem iter_in (n : Nat) (hn : 1 ≤ n) (l n₀ Bf Br : Nat) (A : Option Addr) (m c f N : Nat) (ws : List Nat) (h64 : W64 ws) (hm : m ≤ 100000) (hf : f ≤ 9223372036854775807) (hN : (remS ws f).length ≤ N) (J Jx : List Nat → World → Prop)
    (hY : ∀ pre x W, J pre W → pre.length < N → YieldAt Fence.wide (n - 1) Tryd.prog l (encN x) W fun e W' =>
      (e = .returned (.bool true) ∧ J (pre ++ [x]) W' ∧ Below n₀ W W') ∨ (e = .returned (.bool false) ∧ Jx (pre ++ [x]) W'))
    (W : World) (hR : RiseAt n₀ Bf Br A m c ws f W) (h0 : J [] W) :
    CallsIn Fence.wide n Tryd.prog 94 #[.func (.yield l) #[] #[], .pointer (some ⟨Bf, 0, none⟩), .pointer (some ⟨Br, 0, none⟩)] W fun e W' => (∃ v, e = .returned v) ∧
      ((∃ ys, ys = remS ws f ∧ J ys W') ∨ (∃ pre, pre <+: remS ws f ∧ Jx pre W')) := by
  have HLEN := Lib.hid hR.row.len
  have hp := pow_lt64 f
  have HBT := Lib.hid (fun w => bit_any f hf w)
  have HM0 : Hid (2 ^ (f % 64) - 1 = 2 ^ (f % 64) - 1) := rfl
  have hp1 : 1 ≤ 2 ^ (f % 64) := Nat.one_le_two_pow
  obtain ⟨y, hy⟩ : ∃ y, 2 ^ (f % 64) = y := ⟨_, rfl⟩
  rw [hy] at HBT hp hp1
  have HA0 : Hid (y - 1 = 2 ^ (f % 64) - 1) := by show _ = _; rw [hy]
  have cf := hR.cf
  have cr := hR.cr
  have hyi : ((y - 1 : Nat) : Int) = (y : Int) - 1 := by omega
  clear hy HM0
  refine callsIn_of_wp Tryd.func94 rfl trivial ?_ rfl
  simp only [Tryd.ntmps94, List.size_toArray, List.length_cons, List.length_nil, Nat.reduceAdd, Nat.reduceSub, Array.replicate_succ, Array.replicate_zero, List.push_toArray, List.append_toArray, List.nil_append, List.cons_append]
  refine wpIn_wide.2 (wp_scope_straight ((wpIn_wide (n := n)).1 ?_))
  gi_wp2_with fail
  refine ⟨trivial, (callsIn_wide.2 (HBT.out _)).mono ?_⟩
  rintro e w' ⟨rfl, rfl⟩
  gi_wp2_with fail
  refine wpIn_label ?_
  gi_wp2_with fail
  gi_loopw [4, 5] (fun s4 s5 wr => ∃ (pre : List Nat) (s q a : Nat), s4 = .int .u64 (a : Int) ∧ s5 = .int .i64 (q : Int) ∧ a < 18446744073709551616 ∧ q ≤ 144115188075855872 ∧ Hid (q = s / 64 ∧ a = 2 ^ (s % 64) - 1 ∧ pre ++ remS ws s = remS ws f) ∧ J pre wr ∧ Hid (RiseAt n₀ Bf Br A m c ws f wr)) (fun _ s5 _ => m - (intOf s5).toNat)
  case atStart => exact ⟨[], f, f / 64, y - 1, by rw [hyi], by rw [Int.natCast_ediv]; rfl, by omega, by omega, ⟨rfl, HA0.out, rfl⟩, h0, hR⟩
  case round =>
    obtain ⟨pre, s, q, a, rfl, rfl, ha, hq, HS, hJs, HR⟩ := hrel
    clear cf cr hR h0 hyi hp hp1 HBT HA0
    have cr := HR.out.cr
    by_cases hlt : q < m
    · obtain ⟨b, o, hA, hb, hc⟩ := HR.out.row.at_ hlt
      have hx := h64.at_ q
      have HU := Lib.hid (u64_andNot_nat _ _ hx ha)
      have HSEQ : Hid (pre ++ ((onesOf (ws.getD q 0 &&& (18446744073709551615 - a))).map (64 * q + ·) ++ remS ws (64 * (q + 1))) = remS ws f) := by
        obtain ⟨e1, e2, e3⟩ := HS.out
        show _ = _
        rw [← e3, e1, rem_word (y := ws.getD (s / 64) 0 &&& (18446744073709551615 - a)) (by rw [HLEN.out, ← e1]; exact hlt) (fun k hk => mask_bit e2 hk)]
      have hz0 := andnot_lt' _ a hx
      generalize ws.getD q 0 &&& (18446744073709551615 - a) = z0 at *
      have hu := HU.out
      generalize ws.getD q 0 = x at *
      clear HU HS
      subst hA
      gi_wp2_with fail
      obtain ⟨wo, rfl⟩ : ∃ wo : World, wo = wr := ⟨_, rfl⟩
      have hq2 : q < 100000 := by omega
      gi_loopw [6] (fun s6 wi => ∃ (pre' : List Nat) (z : Nat), s6 = .int .u64 (z : Int) ∧ z < 18446744073709551616 ∧ Hid (pre' ++ ((onesOf z).map (64 * q + ·) ++ remS ws (64 * (q + 1))) = remS ws f) ∧ J pre' wi ∧ Hid (RiseAt n₀ Bf Br (some ⟨b, o, none⟩) m c ws f wi)) (fun s6 _ => (intOf s6).toNat)
      case atStart => exact ⟨pre, z0, rfl, hz0, HSEQ, hJs, HR⟩
      case round =>
        clear HSEQ hz0 hJs HR cr hu hx hc
        obtain ⟨pre', z, rfl, hz, HSQ, hJ2, HR2⟩ := hrel
        by_cases h0 : z = 0
        · have hz0 : ((z : Int) != 0) = false := by simp [h0]
          have HN : Hid (pre' ++ remS ws (64 * (q + 1)) = remS ws f) := by
            have := HSQ.out
            rw [h0, onesOf_zero] at this
            exact this
          clear h0 HSQ
          gi_wp2_with fail
          go_roundw
          case rel => exact ⟨pre', 64 * (q + 1), q + 1, 0, rfl, by go_num, by omega, by omega, ⟨by omega, by rw [show 64 * (q + 1) % 64 = 0 by omega], HN.out⟩, hJ2, HR2⟩
          case measure => simp [intOf]; omega
        · have hz0 : ((z : Int) != 0) = true := by rw [bne_iff_ne]; omega
          have HTZ := Lib.hid (fun w h => tz_any z hz h0 w h)
          have hct := ctz_lt h0 hz
          have HON := Lib.hid (onesOf_low h0 hz)
          have HU := Lib.hid (u64_and_nat z (z - 1) hz (by omega))
          have hless := low_less h0
          have hz1 : 1 ≤ z := by omega
          have e1 : ((z - 1 : Nat) : Int) = (z : Int) - 1 := by omega
          have hu := HU.out
          rw [e1] at hu
          generalize z &&& (z - 1) = z' at *
          generalize Lib.ctz 64 z = t at *
          have HSQ2 : Hid (pre' ++ [64 * q + t] ++ ((onesOf z').map (64 * q + ·) ++ remS ws (64 * (q + 1))) = remS ws f) := by
            show _ = _
            rw [← HSQ.out, HON.out]
            simp
          have HPL : pre'.length < N := by
            have := congrArg List.length HSQ2.out
            simp only [List.length_append, List.length_cons, List.length_nil] at this
            omega
          have HPRE : Hid (pre' ++ [64 * q + t] <+: remS ws f) := ⟨_, HSQ2.out⟩
          clear e1 HU HON HSQ h0
          have hT := HR2.out.tab
          obtain ⟨fn, tmps, assign, body, hy, hY2⟩ := hY pre' (64 * q + t) wr hJ2 HPL
          unfold encN at hy
          rw [show ((64 * q + t : Nat) : Int) = 64 * (q : Int) + (t : Int) by omega] at hy
          have HY2 := Lib.hid hY2
          have HT := Lib.hid hT
          clear hY2 hT HPL
          gi_wp2_with fail
          refine ⟨trivial, (callsIn_wide.2 (HTZ.out _ HT.out)).mono ?_⟩
          rintro e w' ⟨rfl, rfl⟩
          gi_wp2_with fail
          refine HY2.out.mono ?_
          rintro e W3 (⟨rfl, hJ3, hk3⟩ | ⟨rfl, hJx3⟩)
          · have HR3 := Lib.hid (HR2.out.on hk3)
            gi_wp2_with fail
            go_roundw
            case rel => exact ⟨pre' ++ [64 * q + t], z', rfl, by omega, HSQ2, hJ3, HR3⟩
            case measure => simp [intOf]; omega
          · gi_wp2_with fail
            rw [Exit.noGoto_normal]
            go_end0
            exact ⟨⟨_, rfl⟩, .inr ⟨pre' ++ [64 * q + t], HPRE.out, hJx3⟩⟩
    · have HN : Hid (pre = remS ws f) := by
        obtain ⟨e1, e2, e3⟩ := HS.out
        rw [rem_none (by rw [HLEN.out]; omega), List.append_nil] at e3
        exact e3
      gi_wp2_with fail
      rw [Exit.noGoto_normal]
      go_end0
      exact ⟨⟨_, rfl⟩, .inl ⟨pre, HN.out, hJs⟩⟩

theorem iter_stops (n : Nat) (hn : 1 ≤ n) (n₀ Bf Br : Nat) (A : Option Addr) (m c f : Nat) (ws : List Nat) (h64 : W64 ws) (hm : m ≤ 100000) (hf : f ≤ 9223372036854775807) (w : World) (hle : n₀ ≤ w.heap.size) (hR : RiseAt n₀ Bf Br A m c ws f w) :
    SeqStopsK Fence.wide n Tryd.prog 94 #[.pointer (some ⟨Bf, 0, none⟩), .pointer (some ⟨Br, 0, none⟩)] encN (Below n₀) (fun ys => ys = remS ws f) (fun pre => pre <+: remS ws f) (remS ws f).length w :=
  fun l J Jx W hW _ _ hY h0 => iter_in n hn l n₀ Bf Br A m c f _ ws h64 hm hf (Nat.le_refl _) J Jx hY W (hR.on ⟨hW.os, hW.tape, hW.output, hW.size, fun k hk => hW.block k (by omega)⟩) h0

/-- rising(row, from): the function value that it hands back. -/
theorem rising_any (A : Option Addr) (m c f : Nat) (w : World) :
    Calls Tryd.prog 77 #[.slice A m c, .int .i64 (f : Int)] w fun e w' => e = .returned (.func (.func 94) #[] #[.pointer (some ⟨w.heap.size + 1, 0, none⟩), .pointer (some ⟨w.heap.size, 0, none⟩)]) ∧ w' = (w.alloc (.cells #[.slice A m c] 82)).alloc (.cells #[.int .i64 (f : Int)] 3) := by
  go_enter Tryd.func77, Tryd.ntmps77
  go_wp2_with fail
  go_ret
  exact ⟨rfl, rfl⟩
end Go.Proofs.YtgbpaiffnhpafaaDoor.Bit
namespace Go.Proofs.YtgbpaiffnhpafaaDoor.Bit
open Go.RowKit Go.Shelf
attribute [local go_sem] Oper.semAt_some

/-- Numbers from nought on, as numbers. -/
def intsN (l : List Nat) : List Int := l.map fun x : Nat => (x : Int)
theorem intsN_snoc (l : List Nat) (x : Nat) : ints (intsN (l ++ [x])) = ints (intsN l) ++ [.int .i64 (x : Int)] := by unfold ints intsN; simp
theorem intsN_length (l : List Nat) : (ints (intsN l)).length = l.length := by unfold ints intsN; simp
/-- A list of numbers, handed back: it lies in memory of the call's own. -/
def ListOk (l : List Nat) (w : World) (e : Ending) (w' : World) : Prop :=
  ∃ v, e = .returned v ∧ w'.ownsRow w.heap.size 3 1 v l.length (ints (intsN l)) ∧ Below w.heap.size w w'

end Go.Proofs.YtgbpaiffnhpafaaDoor.Bit
