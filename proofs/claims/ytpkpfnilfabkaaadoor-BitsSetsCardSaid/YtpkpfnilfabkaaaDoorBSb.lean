/- Layer bits: slices.Concat of rows of numbers: contract. -/
import Derived.Test.YtpkpfnilfabkaaaDoorBSa
import Derived.Laws.AppendOwnNone
import Derived.Maps.AppendAt
namespace Go.Proofs.YtpkpfnilfabkaaaDoor
open Go.RowKit Go.Shelf
attribute [local go_sem] Oper.semAt_some

theorem grow_any (n : Nat) (hm : n ≤ 100000) (w : World) :
    Calls Tryd.prog 56 #[.slice none 0 0, .int .i64 n] w fun e w' => ∃ v, e = .returned v ∧ w'.ownsRow w.heap.size 3 1 v 0 [] ∧ Below w.heap.size w w' := by
  rcases Nat.eq_zero_or_pos n with rfl | h
  · refine (Any8.slices_Grow_room Tryd.growI none 0 0 0 w (Nat.le_refl _) (by omega) (by omega) (by omega)).mono fun e w' h => ?_
    obtain ⟨rfl, rfl⟩ := h
    exact ⟨_, rfl, World.ownsRow_nil _ _ _ _, Below.refl _ _⟩
  · refine (grow_nil n h hm w).mono fun e w' h => ?_
    obtain ⟨c, rfl, ho, hb⟩ := h
    exact ⟨_, rfl, ho, hb⟩

def catL (rs : List Row) : List Int := rs.flatMap (·.l)
theorem cat_snoc {rs : List Row} {j : Nat} {r : Row} (h : rs[j]? = some r) : catL (rs.take (j + 1)) = catL (rs.take j) ++ r.l := by
  have hj := (List.getElem?_eq_some_iff.1 h).1
  unfold catL
  rw [List.take_add_one, h]; simp
theorem RowsAt.at2 {w : World} {B n k : Nat} {A : Option Addr} {rs : List Row} (h : RowsAt w B A n rs) (hk : k < n) :
    ∃ (b o : Nat) (r : Row), A = some ⟨b, o, none⟩ ∧ b < B ∧ rs[k]? = some r ∧ w.cell? ⟨b, o + k, none⟩ = some (.slice r.A r.n r.c) ∧ RI w B r.A r.n r.l := by
  have hl := h.len
  obtain ⟨ad, hA, hlt, hc⟩ := h.1.2 (by omega)
  obtain ⟨r, hr⟩ : ∃ r, rs[k]? = some r := ⟨_, List.getElem?_eq_getElem (by omega)⟩
  have hcell := hc k (.slice r.A r.n r.c) (by unfold rowCells; rw [List.getElem?_map, hr]; rfl)
  obtain ⟨r0, hr0⟩ : ∃ r, rs[0]? = some r := ⟨_, List.getElem?_eq_getElem (show 0 < rs.length by omega)⟩
  have h00 := hc 0 (.slice r0.A r0.n r0.c) (by unfold rowCells; rw [List.getElem?_map, hr0]; rfl)
  obtain ⟨b, o, spot⟩ := ad
  have hspot : spot = none := by simpa [Addr.add] using World.cell?_spot h00
  subst hspot
  rw [Go.WideShapes.add_plain] at hcell
  exact ⟨b, o, r, hA, hlt, hr, hcell, (h.2 r (List.mem_of_getElem? hr)).1⟩
/-- Rows that are put together. -/
structure CatIs (w : World) (L : List Int) (n : Nat) (v : Value) (wr : World) : Prop where
  own : wr.ownsRow w.heap.size 3 1 v n (ints L)
  below : Below w.heap.size w wr

set_option maxRecDepth 100000 in
set_option maxHeartbeats 4000000 in
theorem concat_any (A : Option Addr) (k c : Nat) (rs : List Row) (hk : k ≤ 9) (hn : ∀ r ∈ rs, r.n ≤ 10048) (hnil : ∀ r ∈ rs, r.A = none → r.n = 0 ∧ r.c = 0) (w : World) (hR : RowsAt w w.heap.size A k rs) :
    Calls Tryd.prog 34 #[.slice A k c] w (GotList (catL rs) w) := by
  obtain ⟨i0, hi, hz0, hz1, hz2⟩ := info_parts i64_info
  have HR := Lib.hid fun W (h : Below w.heap.size w W) => hR.below h
  have HL := Lib.hid hR.len
  have HN := Lib.hid hn
  have HNIL := Lib.hid hnil
  clear hR hn hnil
  go_enter Tryd.func34, Tryd.ntmps34
  go_wp2_with fail
  go_loop [3, 11] (fun v i => ∃ j t : Nat, j ≤ k ∧ i = .int .i64 j ∧ v = .int .i64 (t : Int) ∧ t ≤ 10048 * j) (fun _ i => k - (intOf i).toNat)
  case atStart => exact ⟨0, 0, Nat.zero_le _, rfl, rfl, by omega⟩
  case round =>
    obtain ⟨j, t, hj, rfl, rfl, ht⟩ := hrel
    by_cases hlt : j < k
    · obtain ⟨b, o, r, rfl, hb, hr, hc, _⟩ := (HR.out _ (Below.refl _ _)).at2 hlt
      have hrn := HN.out r (List.mem_of_getElem? hr)
      have x1 : IntKind.i64.wrap ((t : Int) + (r.n : Int)) = (t : Int) + (r.n : Int) := IntWalk.i64_in _ (by omega)
      have d1 : decide ((t : Int) + (r.n : Int) < 0) = false := by simp; omega
      clear hr
      go_wp2_with fail
      go_round
      case rel => exact ⟨j + 1, t + r.n, by omega, by go_num, by go_num, by omega⟩
      case measure => simp [intOf]; omega
    · obtain rfl : j = k := by omega
      go_wp2_with fail
      refine (grow_any t (by omega) w).mono ?_
      rintro e w1 ⟨v, rfl, ho, hb1⟩
      have HC : Hid (CatIs w (catL (rs.take 0)) 0 v w1) := ⟨ho, hb1⟩
      clear ho hb1
      go_wp2_with fail
      go_loopw [6, 27] (fun v i wr => ∃ q n : Nat, q ≤ j ∧ n ≤ 10048 * q ∧ i = .int .i64 q ∧ Hid (CatIs w (catL (rs.take q)) n v wr)) (fun _ i _ => j - (intOf i).toNat)
      case atStart => exact ⟨0, 0, Nat.zero_le _, Nat.zero_le _, rfl, HC⟩
      case round =>
        clear HC
        obtain ⟨q, n, hq, hnq, rfl, HC⟩ := hrel
        by_cases hlq : q < j
        · obtain ⟨b, o, r, rfl, hb, hr, hc, hri⟩ := (HR.out _ HC.out.below).at2 hlq
          have hrn := HN.out r (List.mem_of_getElem? hr)
          have hnl := HNIL.out r (List.mem_of_getElem? hr)
          have HS := Lib.hid (cat_snoc hr)
          have hs1 := HC.out.below.size
          clear hr
          obtain ⟨rA, rn, rc, rl⟩ := r
          simp only at hc hri hrn hnl HS
          cases rA with
          | none =>
            obtain ⟨rfl, rfl⟩ := hnl rfl
            have hrl : rl = [] := List.eq_nil_of_length_eq_zero hri.len
            subst hrl
            rw [List.append_nil] at HS
            have HC2 : Hid (CatIs w (catL (rs.take (q + 1))) n _ _) := ⟨by rw [HS.out]; exact HC.out.own, HC.out.below⟩
            clear hri hnl
            go_wp2_with (at_builtin; refine wpList_append_own_none rfl (.tmp 31) (.tmp 32) 28 rfl w.heap.size 3 i0 1 Tryd.underlying28 hi _ _ _ rfl HC.out.own rfl ?_)
            go_roundw
            case rel => exact ⟨q + 1, n, by omega, by omega, by go_num, HC2⟩
            case measure => simp [intOf]; omega
          | some ad =>
            have hcells : ∀ (i : Nat) u, (ints rl)[i]? = some u → wr.cell? (ad.add i) = some u := fun i u hu => by
              have hi := (List.getElem?_eq_some_iff.1 hu).1
              rw [ints_length, hri.len] at hi
              obtain ⟨ad', e, _, hcc⟩ := hri.2 (by omega)
              injection e with e
              subst e
              exact hcc i u hu
            have HLN : Hid ((ints rl).length = rn * 1) := by show _ = _; rw [ints_length, hri.len, Nat.mul_one]
            have HCL := Lib.hid hcells
            clear hcells hri hnl
            go_wp2_with (at_builtin; refine wpList_append_own _ rfl (.tmp 31) (.tmp 32) 28 rfl w.heap.size 3 i0 _ 1 8 Tryd.underlying28 hi hz0 hz1 hz2 rfl (by decide) _ _ _ rfl HC.out.own ad rn rc (ints rl) rfl HLN.out HCL.out (ints_one rl) (by unfold maxLen; omega) (by omega) (by omega) ?_; intro v' w2 hown' hgrow _)
            have HC2 : Hid (CatIs w (catL (rs.take (q + 1))) (n + rn) v' w2) := ⟨by rw [HS.out, ints_append]; exact hown', HC.out.below.grown hgrow hs1 (own_block1 HC.out.own)⟩
            clear hown' hgrow HC HLN HCL
            go_wp2_with fail
            go_roundw
            case rel => exact ⟨q + 1, n + rn, by omega, by omega, by go_num, HC2⟩
            case measure => simp [intOf]; omega
        · obtain rfl : q = j := by omega
          have HE : Hid (rs.take q = rs) := List.take_of_length_le (by rw [HL.out]; exact Nat.le_refl _)
          rw [HE.out] at HC
          have hown := HC.out.own
          obtain ⟨A5, c5, rfl, h1, h2⟩ := own_form1 hown
          have HO := Lib.hid hown
          clear hown
          go_wp2_with fail
          go_ret
          exact ⟨A5, n, c5, rfl, RI.of_own HO.out, h1, h2, HO.out, HC.out.below⟩
end Go.Proofs.YtpkpfnilfabkaaaDoor
