/- Layer bits, the document's answers: numbers, Right, List: contracts. -/
import Derived.Maps.AppendAt
import Derived.Test.YtpkpfnilfabkaaaDoorWords
import Derived.Test.YtpkpfnilfabkaaaDoorBRa
import Derived.Test.YtpkpfnilfabkaaaDoorBs
import Derived.Test.YtpkpfnilfabkaaaDoorBv
namespace Go.Proofs.YtpkpfnilfabkaaaDoor
open Go.RowKit Go.Shelf
attribute [local go_sem] Oper.semAt_some

/-- The numbers of words under a bound, rising. -/
def upW (ws : List Nat) (m : Nat) : List Nat := (List.range m).filter (hasW ws)
theorem up_no {ws : List Nat} {m : Nat} (h : hasW ws m = false) : upW ws (m + 1) = upW ws m := by
  unfold upW; rw [List.range_succ, List.filter_append]; simp [h]
theorem up_yes {ws : List Nat} {m : Nat} (h : hasW ws m = true) : upW ws (m + 1) = upW ws m ++ [m] := by
  unfold upW; rw [List.range_succ, List.filter_append]; simp [h]
theorem up_len (ws : List Nat) (m : Nat) : (upW ws m).length ≤ m := by
  unfold upW
  exact Nat.le_trans (List.length_filter_le _ _) (by simp)
theorem up_none {ws : List Nat} {m : Nat} : ∀ k, (∀ j, j < k → hasW ws (m + j) = false) → upW ws (m + k) = upW ws m
  | 0, _ => rfl
  | k + 1, h => by
    rw [← Nat.add_assoc, up_no (h k (by omega)), up_none k fun j hj => h j (by omega)]
theorem own_block1 {w : World} {base : Nat} {e : TypeId} {v : Value} {n : Nat} {xs : List Value} (h : w.ownsRow base e 1 v n xs) : ∀ b, v.ownBlock = some b → base ≤ b := by
  intro b hb
  rcases h.2 with ⟨rfl, _⟩ | ⟨g, cap, cur, rfl, hg, _⟩
  · cases hb
  · have e : some g = some b := hb
    injection e with e
    omega

/-- What 'numbers' has gathered. -/
structure NumIs (w : World) (ws : List Nat) (m : Nat) (v : Value) (wr : World) : Prop where
  own : wr.ownsRow w.heap.size 3 1 v (upW ws m).length (ints (intsN (upW ws m)))
  below : Below w.heap.size w wr

theorem NumIs.skip {w wr : World} {ws : List Nat} {m : Nat} {v : Value} (h : NumIs w ws m v wr) (hm : hasW ws m = false) : NumIs w ws (m + 1) v wr := ⟨by rw [up_no hm]; exact h.own, h.below⟩
theorem NumIs.cast {w wr : World} {ws : List Nat} {m m' : Nat} {v : Value} (e : m = m') (h : NumIs w ws m v wr) : NumIs w ws m' v wr := e ▸ h

set_option maxRecDepth 100000 in
set_option maxHeartbeats 2000000 in
theorem numbers_any (A : Option Addr) (n c : Nat) (ws : List Nat) (h64 : W64 ws) (hn : n ≤ 100000) (w : World) (hA : RW w w.heap.size A n ws) :
    Calls Tryd.prog 39 #[.agg #[.slice A n c]] w (ListOk (upW ws (64 * n)) w) := by
  obtain ⟨i0, hi, hz0, hz1, hz2⟩ := info_parts i64_info
  have HL := Lib.hid hA.len
  have H64 := Lib.hid h64
  have HR := Lib.hid fun W (h : Below w.heap.size w W) => hA.below h
  have HU := Lib.hid (up_len ws)
  have bx := Blk.new w 24 #[.slice A n c]
  have B0 := Lib.hid (one_more w (.cells #[.slice A n c] 24))
  have z0 := bx.cell 0
  clear hA h64 bx
  go_enter Tryd.func39, Tryd.ntmps39
  go_wp2_with fail
  generalize w.alloc (.cells #[.slice A n c] 24) = W0 at *
  go_loopw [3, 10] (fun v i wr => ∃ k : Nat, k ≤ n ∧ i = .int .i64 k ∧ Hid (NumIs w ws (64 * k) v wr)) (fun _ i _ => n - (intOf i).toNat)
  case atStart => exact ⟨0, Nat.zero_le _, rfl, ⟨World.ownsRow_nil _ _ _ _, B0.out⟩⟩
  case round =>
    clear B0 z0
    obtain ⟨k, hk, rfl, HN⟩ := hrel
    by_cases hlt : k < n
    · obtain ⟨b, o, rfl, hb, hc⟩ := (HR.out _ HN.out.below).at_ hlt
      have hx := H64.out.at_ k
      have HB := Lib.hid fun j (hj : j < 64) => has_mul ws k j hj
      generalize ws.getD k 0 = x at *
      go_wp2_with fail
      go_loopw [3, 15] (fun v i wr => ∃ j : Nat, j ≤ 64 ∧ i = .int .i64 j ∧ Hid (NumIs w ws (64 * k + j) v wr)) (fun _ i _ => 64 - (intOf i).toNat)
      case atStart => exact ⟨0, by omega, rfl, HN⟩
      case round =>
        clear HN
        obtain ⟨j, hj, rfl, HN⟩ := hrel
        by_cases hjl : j < 64
        · have HJ := Lib.hid (HB.out j hjl)
          rcases Bool.eq_false_or_eq_true (x.testBit j) with ht | ht
          · have hx0 : x ≠ 0 := by rintro rfl; simp at ht
            have hq : ((x : Int) != 0) = true := by simp; omega
            have HBT := Lib.hid fun w => rbit_any x j hx (by omega) w
            rw [ht] at HBT HJ
            have hup := HU.out (64 * k + j)
            obtain ⟨nl, hnl⟩ : ∃ m, (upW ws (64 * k + j)).length = m := ⟨_, rfl⟩
            have x1 : IntKind.i64.wrap (64 * (k : Int)) = 64 * (k : Int) := IntWalk.i64_in _ (by omega)
            have x2 : IntKind.i64.wrap (64 * (k : Int) + (j : Int)) = 64 * (k : Int) + (j : Int) := IntWalk.i64_in _ (by omega)
            have OW := Lib.hid HN.out.own
            have BW := Lib.hid HN.out.below
            have hs1 := HN.out.below.size
            have HST : Hid (upW ws (64 * k + (j + 1)) = upW ws (64 * k + j) ++ [64 * k + j]) := up_yes HJ.out
            clear ht
            go_wp2_with fail
            refine (HBT.out _).mono ?_
            rintro e w1 ⟨rfl, rfl⟩
            have OW2 := Lib.hid (OW.out.alloc (.cells #[.int .i64 (64 * (k : Int) + (j : Int))] 3))
            go_wp2_with (at_builtin; refine wpList_append_own _ rfl (.tmp 25) (.tmp 30) 28 rfl w.heap.size 3 i0 _ 1 8 Tryd.underlying28 hi hz0 hz1 hz2 rfl (by decide) _ _ _ rfl OW2.out ⟨w1.heap.size, 0, none⟩ 1 1 [.int .i64 (64 * (k : Int) + (j : Int))] rfl rfl (cell_one_new _ _ _) (by simp [Value.oneCell']) (by unfold maxLen; omega) (by omega) (by simp; omega) ?_; intro v' w2 hown' hgrow _)
            have HN2 : Hid (NumIs w ws (64 * k + (j + 1)) v' w2) := by
              refine ⟨?_, (BW.out.alloc hs1 _).grown hgrow (by simp; omega) (own_block1 OW2.out)⟩
              rw [HST.out, intsN_snoc, List.length_append]
              have : ((64 * k + j : Nat) : Int) = 64 * (k : Int) + (j : Int) := by push_cast; rfl
              rw [this]
              exact hown'
            clear hown' hgrow OW2 OW BW HST HN
            go_wp2_with fail
            go_roundw
            case rel => exact ⟨j + 1, by omega, by go_num, HN2⟩
            case measure => simp [intOf]; omega
          · have HBT := Lib.hid fun w => rbit_any x j hx (by omega) w
            rw [ht] at HBT HJ
            have HN2 := Lib.hid (HN.out.skip HJ.out)
            clear ht
            by_cases hx0 : x = 0
            · have hq : ((x : Int) != 0) = false := by simp; omega
              go_wp2_with fail
              go_roundw
              case rel => exact ⟨j + 1, by omega, by go_num, HN2⟩
              case measure => simp [intOf]; omega
            · have hq : ((x : Int) != 0) = true := by simp; omega
              go_wp2_with fail
              refine (HBT.out _).mono ?_
              rintro e w1 ⟨rfl, rfl⟩
              go_wp2_with fail
              go_roundw
              case rel => exact ⟨j + 1, by omega, by go_num, HN2⟩
              case measure => simp [intOf]; omega
        · obtain rfl : j = 64 := by omega
          have HN2 := Lib.hid (HN.out.cast (show 64 * k + 64 = 64 * (k + 1) by omega))
          go_wp2_with fail
          go_roundw
          case rel => exact ⟨k + 1, by omega, by go_num, HN2⟩
          case measure => simp [intOf]; omega
    · obtain rfl : k = n := by omega
      go_wp2_with fail
      go_ret
      exact ⟨_, rfl, HN.out.own, HN.out.below⟩
end Go.Proofs.YtpkpfnilfabkaaaDoor
