/- The laws of layer graph: slices.Grow, Concat of edges: contracts. -/
import Derived.Shelf.Spec.SlicesGrow
import Derived.Laws.AppendOwnNone
import Derived.Maps.AppendAt
import Derived.Test.YticbgikbpafeoaaGl
namespace Go.Proofs
open Go.Shelf
shelf_lay_g Lays8.n4 Nm8 4 at Try 59 as Try.growE
namespace Yticbgikbpafeoaa
open Go.RowKit Go.Shelf
attribute [local go_sem] Oper.semAt_some

theorem below_drew' {B : Nat} {a w : World} (h : Below B a w) : Below B a w.drew := h.drew
theorem grow_nil (n : Nat) (hn : 0 < n) (hm : n ≤ 100000) (w : World) :
    Calls Try.prog 59 #[.slice none 0 0, .int .i64 n] w fun e w' => ∃ c, e = .returned (.slice (some ⟨w.heap.size, 0, none⟩) 0 c) ∧ w'.ownsRow w.heap.size 35 3 (.slice (some ⟨w.heap.size, 0, none⟩) 0 c) 0 [] ∧ Below w.heap.size w w' := by
  obtain ⟨i0, hi, hz0, hz1, hz2⟩ := info_parts pair_info
  refine (Any8.slices_Grow_grow Try.growE i0 (.agg #[.int .i64 0, .int .i64 0, .int .i64 0]) hi hz0 (by omega) none 0 0 n [] w (Nat.le_refl _) (by omega) (by rw [hz2]; omega) (by omega) (by simp) (fun _ => rfl) (fun _ h => by cases h)).mono fun e w' h => ?_
  obtain ⟨rfl, rfl⟩ := h
  refine ⟨_, rfl, ⟨by simp, Or.inr ⟨w.heap.size, _, _, rfl, Nat.le_refl _, (show (w.drew.alloc _).heap[w.heap.size]? = _ from Blk.new w.drew _ _), Nat.zero_le _, grownCap_le_maxLen w _ 0 _ (by unfold maxLen; omega), ?_, by simp⟩⟩, (below_drew' (Below.refl w.heap.size w)).alloc (Nat.le_refl _) _⟩
  have hge := grownCap_ge w n 0 (Try.growE_ren.t 25)
  simp only [Array.size_append, size_zeroCells, List.size_toArray, List.length_nil, Value.cells]
  simp
  omega
theorem grow_any (n : Nat) (hm : n ≤ 100000) (w : World) :
    Calls Try.prog 59 #[.slice none 0 0, .int .i64 n] w fun e w' => ∃ v, e = .returned v ∧ w'.ownsRow w.heap.size 35 3 v 0 [] ∧ Below w.heap.size w w' := by
  rcases Nat.eq_zero_or_pos n with rfl | h
  · refine (Any8.slices_Grow_room Try.growE none 0 0 0 w (Nat.le_refl _) (by omega) (by omega) (by omega)).mono fun e w' h => ?_
    obtain ⟨rfl, rfl⟩ := h
    exact ⟨_, rfl, World.ownsRow_nil _ _ _ _, Below.refl _ _⟩
  · refine (grow_nil n h hm w).mono fun e w' h => ?_
    obtain ⟨c, rfl, ho, hb⟩ := h
    exact ⟨_, rfl, ho, hb⟩

/-- A row of rows of edges. -/
structure ERow where
  A : Option Addr
  n : Nat
  c : Nat
  l : List Ed
def erowCells (rs : List ERow) : List Value := rs.map fun r => .slice r.A r.n r.c
def ERows (w : World) (B : Nat) (A : Option Addr) (n : Nat) (rs : List ERow) : Prop :=
  Reads w B 1 A n (erowCells rs) ∧ ∀ r ∈ rs, Reads w B 3 r.A r.n (cellsE r.l)
theorem ERows.below {w w' : World} {B n : Nat} {A : Option Addr} {rs : List ERow} (h : ERows w B A n rs) (hb : Below B w w') : ERows w' B A n rs :=
  ⟨Reads.below h.1 hb, fun r hr => (h.2 r hr).below hb⟩
theorem ERows.len {w : World} {B n : Nat} {A : Option Addr} {rs : List ERow} (h : ERows w B A n rs) : rs.length = n := by
  have := h.1.1
  unfold erowCells at this
  simp at this; omega

def catL (rs : List ERow) : List Ed := rs.flatMap (·.l)
theorem cat_snoc {rs : List ERow} {j : Nat} {r : ERow} (h : rs[j]? = some r) : catL (rs.take (j + 1)) = catL (rs.take j) ++ r.l := by
  have hj := (List.getElem?_eq_some_iff.1 h).1
  unfold catL
  rw [List.take_add_one, h]; simp
theorem ERows.at2 {w : World} {B n k : Nat} {A : Option Addr} {rs : List ERow} (h : ERows w B A n rs) (hk : k < n) :
    ∃ (b o : Nat) (r : ERow), A = some ⟨b, o, none⟩ ∧ b < B ∧ rs[k]? = some r ∧ w.cell? ⟨b, o + k, none⟩ = some (.slice r.A r.n r.c) ∧ Reads w B 3 r.A r.n (cellsE r.l) := by
  have hl := h.len
  obtain ⟨ad, hA, hlt, hc⟩ := h.1.2 (by omega)
  obtain ⟨r, hr⟩ : ∃ r, rs[k]? = some r := ⟨_, List.getElem?_eq_getElem (by omega)⟩
  have hcell := hc k (.slice r.A r.n r.c) (by unfold erowCells; rw [List.getElem?_map, hr]; rfl)
  obtain ⟨r0, hr0⟩ : ∃ r, rs[0]? = some r := ⟨_, List.getElem?_eq_getElem (show 0 < rs.length by omega)⟩
  have h00 := hc 0 (.slice r0.A r0.n r0.c) (by unfold erowCells; rw [List.getElem?_map, hr0]; rfl)
  obtain ⟨b, o, spot⟩ := ad
  have hspot : spot = none := by simpa [Addr.add] using World.cell?_spot h00
  subst hspot
  rw [Go.WideShapes.add_plain] at hcell
  exact ⟨b, o, r, hA, hlt, hr, hcell, h.2 r (List.mem_of_getElem? hr)⟩
/-- Rows that are put together. -/
structure CatIs (w : World) (L : List Ed) (n : Nat) (v : Value) (wr : World) : Prop where
  own : wr.ownsRow w.heap.size 35 3 v n (cellsE L)
  below : Below w.heap.size w wr

set_option maxRecDepth 100000 in
set_option maxHeartbeats 4000000 in
theorem concat_any (A : Option Addr) (k c : Nat) (rs : List ERow) (hk : k ≤ 9) (hn : ∀ r ∈ rs, r.n ≤ 200) (hnil : ∀ r ∈ rs, r.A = none → r.n = 0 ∧ r.c = 0) (w : World) (hR : ERows w w.heap.size A k rs) :
    Calls Try.prog 34 #[.slice A k c] w (RowIs (catL rs) w) := by
  obtain ⟨i0, hi, hz0, hz1, hz2⟩ := info_parts pair_info
  have HR := Lib.hid fun W (h : Below w.heap.size w W) => hR.below h
  have HL := Lib.hid hR.len
  have HN := Lib.hid hn
  have HNIL := Lib.hid hnil
  clear hR hn hnil
  go_enter Try.func34, Try.ntmps34
  go_wp2_with fail
  go_loop [3, 11] (fun v i => ∃ j t : Nat, j ≤ k ∧ i = .int .i64 j ∧ v = .int .i64 (t : Int) ∧ t ≤ 200 * j) (fun _ i => k - (intOf i).toNat)
  case atStart => exact ⟨0, 0, Nat.zero_le _, rfl, rfl, by omega⟩
  case round =>
    obtain ⟨j, t, hj, rfl, rfl, ht⟩ := hrel
    by_cases hlt : j < k
    · obtain ⟨b, o, r, rfl, hb, hr, hc, _⟩ := (HR.out _ (Below.refl _ _)).at2 hlt
      have hrn := HN.out r (List.mem_of_getElem? hr)
      have x1 : IntKind.i64.wrap ((t : Int) + (r.n : Int)) = (t : Int) + (r.n : Int) := IntWalk.i64_in _ (by omega)
      have d1 : decide ((t : Int) + (r.n : Int) < 0) = false := by simp; omega
      clear hr
      go_wp2_with fail
      go_round
      case rel => exact ⟨j + 1, t + r.n, by omega, by go_num, by go_num, by omega⟩
      case measure => simp [intOf]; omega
    · obtain rfl : j = k := by omega
      go_wp2_with fail
      refine (grow_any t (by omega) w).mono ?_
      rintro e w1 ⟨v, rfl, ho, hb1⟩
      have HC : Hid (CatIs w (catL (rs.take 0)) 0 v w1) := ⟨ho, hb1⟩
      clear ho hb1
      go_wp2_with fail
      go_loopw [6, 27] (fun v i wr => ∃ q n : Nat, q ≤ j ∧ n ≤ 200 * q ∧ i = .int .i64 q ∧ Hid (CatIs w (catL (rs.take q)) n v wr)) (fun _ i _ => j - (intOf i).toNat)
      case atStart => exact ⟨0, 0, Nat.zero_le _, Nat.zero_le _, rfl, HC⟩
      case round =>
        clear HC
        obtain ⟨q, n, hq, hnq, rfl, HC⟩ := hrel
        by_cases hlq : q < j
        · obtain ⟨b, o, r, rfl, hb, hr, hc, hri⟩ := (HR.out _ HC.out.below).at2 hlq
          have hrn := HN.out r (List.mem_of_getElem? hr)
          have hnl := HNIL.out r (List.mem_of_getElem? hr)
          have HS := Lib.hid (cat_snoc hr)
          have hs1 := HC.out.below.size
          clear hr
          obtain ⟨rA, rn, rc, rl⟩ := r
          simp only at hc hri hrn hnl HS
          cases rA with
          | none =>
            obtain ⟨rfl, rfl⟩ := hnl rfl
            have hrl : rl = [] := List.eq_nil_of_length_eq_zero (reads_len hri)
            subst hrl
            rw [List.append_nil] at HS
            have HC2 : Hid (CatIs w (catL (rs.take (q + 1))) n _ _) := ⟨by rw [HS.out]; exact HC.out.own, HC.out.below⟩
            clear hri hnl
            go_wp2_with (at_builtin; refine wpList_append_own_none rfl (.tmp 31) (.tmp 32) 22 rfl w.heap.size 35 i0 3 Try.underlying22 hi _ _ _ rfl HC.out.own rfl ?_)
            go_roundw
            case rel => exact ⟨q + 1, n, by omega, by omega, by go_num, HC2⟩
            case measure => simp [intOf]; omega
          | some ad =>
            have hcells : ∀ (i : Nat) u, (cellsE rl)[i]? = some u → wr.cell? (ad.add i) = some u := fun i u hu => by
              have hi := (List.getElem?_eq_some_iff.1 hu).1
              rw [cellsE_length, (reads_len hri)] at hi
              obtain ⟨ad', e, _, hcc⟩ := hri.2 (by omega)
              injection e with e
              subst e
              exact hcc i u hu
            have HLN : Hid ((cellsE rl).length = rn * 3) := by show _ = _; rw [cellsE_length, (reads_len hri)]
            have HCL := Lib.hid hcells
            clear hcells hri hnl
            go_wp2_with (at_builtin; refine wpList_append_own _ rfl (.tmp 31) (.tmp 32) 22 rfl w.heap.size 35 i0 _ 3 24 Try.underlying22 hi hz0 hz1 hz2 rfl (by decide) _ _ _ rfl HC.out.own ad rn rc (cellsE rl) rfl HLN.out HCL.out (cellsE_one rl) (by unfold maxLen; omega) (by omega) (by omega) ?_; intro v' w2 hown' hgrow _)
            have HC2 : Hid (CatIs w (catL (rs.take (q + 1))) (n + rn) v' w2) := ⟨by rw [HS.out, cellsE_append]; exact hown', HC.out.below.grown hgrow hs1 (fun k hk => (HC.out.own.lt k hk).1)⟩
            clear hown' hgrow HC HLN HCL
            go_wp2_with fail
            go_roundw
            case rel => exact ⟨q + 1, n + rn, by omega, by omega, by go_num, HC2⟩
            case measure => simp [intOf]; omega
        · obtain rfl : q = j := by omega
          have HE : Hid (rs.take q = rs) := List.take_of_length_le (by rw [HL.out]; exact Nat.le_refl _)
          rw [HE.out] at HC
          have hown := HC.out.own
          obtain ⟨A5, c5, rfl, h1, h2⟩ := own_form2 hown
          have HO := Lib.hid hown
          clear hown
          go_wp2_with fail
          go_ret
          have hl9 : (catL rs).length = n := by have := HO.out.1; rw [cellsE_length] at this; omega
          subst hl9
          exact ⟨A5, c5, rfl, HO.out, h1, h2, HC.out.below⟩
end Yticbgikbpafeoaa
end Go.Proofs
