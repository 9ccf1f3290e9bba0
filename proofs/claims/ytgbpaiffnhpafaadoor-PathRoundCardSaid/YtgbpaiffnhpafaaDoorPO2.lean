/- PathRound: the walk. -/
import Derived.Shelf.Spec.SlicesGrow
import Derived.Laws.AppendOwnNone
import Derived.Maps.AppendAt
import Derived.Test.YtgbpaiffnhpafaaDoorPO1
import Derived.Test.YtgbpaiffnhpafaaDoorM7
import Derived.Test.YtgbpaiffnhpafaaDoorM11
import Derived.Test.YtgbpaiffnhpafaaDoorN1
import Derived.Test.YtgbpaiffnhpafaaDoorM13
import Derived.Test.YtgbpaiffnhpafaaDoorM14
-- holds: YtgbpaiffnhpafaaDoorRd YtgbpaiffnhpafaaDoorRe
namespace Go.Proofs
open Go.Shelf
shelf_lay_g Lays8.n4 Nm8 4 at Tryd 63 as Tryd.grow9
namespace YtgbpaiffnhpafaaDoor
open Go.RowKit

theorem below9_alloc_drew (w : World) (o : Obj) : Below w.heap.size w (w.drew.alloc o) := (below_drew' (Below.refl w.heap.size w)).alloc (Nat.le_refl _) o
theorem grow9_nil (n : Nat) (hn : 0 < n) (hm : n ≤ 100000) (w : World) :
    Calls Tryd.prog 63 #[.slice none 0 0, .int .i64 n] w fun e w' => ∃ c, e = .returned (.slice (some ⟨w.heap.size, 0, none⟩) 0 c) ∧ w'.ownsRow w.heap.size 3 1 (.slice (some ⟨w.heap.size, 0, none⟩) 0 c) 0 [] ∧ Below w.heap.size w w' := by
  obtain ⟨i0, hi, hz0, hz1, hz2⟩ := info_parts int_info
  refine (Any8.slices_Grow_grow Tryd.grow9 i0 (.int .i64 0) hi hz0 (by omega) none 0 0 n [] w (Nat.le_refl _) (by omega) (by rw [hz2]; omega) (by omega) (by simp) (fun _ => rfl) (fun _ h => by cases h)).mono fun e w' h => ?_
  obtain ⟨rfl, rfl⟩ := h
  refine ⟨_, rfl, ⟨by simp, Or.inr ⟨w.heap.size, _, _, rfl, Nat.le_refl _, (show (w.drew.alloc _).heap[w.heap.size]? = _ from Blk.new w.drew _ _), Nat.zero_le _, grownCap_le_maxLen w _ 0 _ (by unfold maxLen; omega), ?_, by simp⟩⟩, below9_alloc_drew w _⟩
  have hge := grownCap_ge w n 0 (Tryd.grow9_ren.t 25)
  simp only [Array.size_append, size_zeroCells, List.size_toArray, List.length_nil, Value.cells, Nat.mul_one]
  simp
  omega
end YtgbpaiffnhpafaaDoor
end Go.Proofs

namespace Go.Proofs.YtgbpaiffnhpafaaDoor
open Go.RowKit Go.Shelf
attribute [local go_sem] Oper.semAt_some

theorem grow9_any (n : Nat) (hm : n ≤ 100000) (w : World) :
    Calls Tryd.prog 63 #[.slice none 0 0, .int .i64 n] w fun e w' => ∃ v, e = .returned v ∧ w'.ownsRow w.heap.size 3 1 v 0 [] ∧ Below w.heap.size w w' := by
  rcases Nat.eq_zero_or_pos n with rfl | h
  · refine (Any8.slices_Grow_room Tryd.grow9 none 0 0 0 w (Nat.le_refl _) (by omega) (by omega) (by omega)).mono fun e w' h => ?_
    obtain ⟨rfl, rfl⟩ := h
    exact ⟨_, rfl, World.ownsRow_nil _ _ _ _, Below.refl _ _⟩
  · refine (grow9_nil n h hm w).mono fun e w' h => ?_
    obtain ⟨c, rfl, ho, hb⟩ := h
    exact ⟨_, rfl, ho, hb⟩

def cat9 (rs : List Row7) : List Int := rs.flatMap (·.l)
theorem cat9_snoc {rs : List Row7} {j : Nat} {r : Row7} (h : rs[j]? = some r) : cat9 (rs.take (j + 1)) = cat9 (rs.take j) ++ r.l := by
  have hj := (List.getElem?_eq_some_iff.1 h).1
  unfold cat9
  rw [List.take_add_one, h]; simp
theorem Rows7.at2 {w : World} {B n k : Nat} {A : Option Addr} {rs : List Row7} (h : Rows7 w B A n rs) (hk : k < n) :
    ∃ (b o : Nat) (r : Row7), A = some ⟨b, o, none⟩ ∧ b < B ∧ rs[k]? = some r ∧ w.cell? ⟨b, o + k, none⟩ = some (.slice r.A r.n r.c) ∧ Reads w B 1 r.A r.n (ints r.l) := by
  have hl := h.len
  obtain ⟨ad, hA, hlt, hc⟩ := h.1.2 (by omega)
  obtain ⟨r, hr⟩ : ∃ r, rs[k]? = some r := ⟨_, List.getElem?_eq_getElem (by omega)⟩
  have hcell := hc k (.slice r.A r.n r.c) (by unfold row7Cells; rw [List.getElem?_map, hr]; rfl)
  obtain ⟨r0, hr0⟩ : ∃ r, rs[0]? = some r := ⟨_, List.getElem?_eq_getElem (show 0 < rs.length by omega)⟩
  have h00 := hc 0 (.slice r0.A r0.n r0.c) (by unfold row7Cells; rw [List.getElem?_map, hr0]; rfl)
  obtain ⟨b, o, spot⟩ := ad
  have hspot : spot = none := by simpa [Addr.add] using World.cell?_spot h00
  subst hspot
  rw [Go.WideShapes.add_plain] at hcell
  exact ⟨b, o, r, hA, hlt, hr, hcell, (h.2 r (List.mem_of_getElem? hr)).1⟩
/-- Rows that are put together. -/
structure Cat9Is (w : World) (L : List Int) (n : Nat) (v : Value) (wr : World) : Prop where
  own : wr.ownsRow w.heap.size 3 1 v n (ints L)
  below : Below w.heap.size w wr

set_option maxRecDepth 100000 in
set_option maxHeartbeats 4000000 in
theorem concat9_any (A : Option Addr) (k c : Nat) (rs : List Row7) (hk : k ≤ 9) (hn : ∀ r ∈ rs, r.n ≤ 10048) (hnil : ∀ r ∈ rs, r.A = none → r.n = 0 ∧ r.c = 0) (w : World) (hR : Rows7 w w.heap.size A k rs) :
    Calls Tryd.prog 30 #[.slice A k c] w (CopyI (cat9 rs) w) := by
  obtain ⟨i0, hi, hz0, hz1, hz2⟩ := info_parts int_info
  have HR := Lib.hid fun W (h : Below w.heap.size w W) => hR.below h
  have HL := Lib.hid hR.len
  have HN := Lib.hid hn
  have HNIL := Lib.hid hnil
  clear hR hn hnil
  go_enter Tryd.func30, Tryd.ntmps30
  go_wp2_with fail
  go_loop [3, 11] (fun v i => ∃ j t : Nat, j ≤ k ∧ i = .int .i64 j ∧ v = .int .i64 (t : Int) ∧ t ≤ 10048 * j) (fun _ i => k - (intOf i).toNat)
  case atStart => exact ⟨0, 0, Nat.zero_le _, rfl, rfl, by omega⟩
  case round =>
    obtain ⟨j, t, hj, rfl, rfl, ht⟩ := hrel
    by_cases hlt : j < k
    · obtain ⟨b, o, r, rfl, hb, hr, hc, _⟩ := (HR.out _ (Below.refl _ _)).at2 hlt
      have hrn := HN.out r (List.mem_of_getElem? hr)
      have x1 : IntKind.i64.wrap ((t : Int) + (r.n : Int)) = (t : Int) + (r.n : Int) := IntWalk.i64_in _ (by omega)
      have d1 : decide ((t : Int) + (r.n : Int) < 0) = false := by simp; omega
      clear hr
      go_wp2_with fail
      go_round
      case rel => exact ⟨j + 1, t + r.n, by omega, by go_num, by go_num, by omega⟩
      case measure => simp [intOf]; omega
    · obtain rfl : j = k := by omega
      go_wp2_with fail
      refine (grow9_any t (by omega) w).mono ?_
      rintro e w1 ⟨v, rfl, ho, hb1⟩
      have HC : Hid (Cat9Is w (cat9 (rs.take 0)) 0 v w1) := ⟨ho, hb1⟩
      clear ho hb1
      go_wp2_with fail
      go_loopw [6, 27] (fun v i wr => ∃ q n : Nat, q ≤ j ∧ n ≤ 10048 * q ∧ i = .int .i64 q ∧ Hid (Cat9Is w (cat9 (rs.take q)) n v wr)) (fun _ i _ => j - (intOf i).toNat)
      case atStart => exact ⟨0, 0, Nat.zero_le _, Nat.zero_le _, rfl, HC⟩
      case round =>
        clear HC
        obtain ⟨q, n, hq, hnq, rfl, HC⟩ := hrel
        by_cases hlq : q < j
        · obtain ⟨b, o, r, rfl, hb, hr, hc, hri⟩ := (HR.out _ HC.out.below).at2 hlq
          have hrn := HN.out r (List.mem_of_getElem? hr)
          have hnl := HNIL.out r (List.mem_of_getElem? hr)
          have HS := Lib.hid (cat9_snoc hr)
          have hs1 := HC.out.below.size
          clear hr
          obtain ⟨rA, rn, rc, rl⟩ := r
          simp only at hc hri hrn hnl HS
          cases rA with
          | none =>
            obtain ⟨rfl, rfl⟩ := hnl rfl
            have hrl : rl = [] := List.eq_nil_of_length_eq_zero (ints_len hri)
            subst hrl
            rw [List.append_nil] at HS
            have HC2 : Hid (Cat9Is w (cat9 (rs.take (q + 1))) n _ _) := ⟨by rw [HS.out]; exact HC.out.own, HC.out.below⟩
            clear hri hnl
            go_wp2_with (at_builtin; refine wpList_append_own_none rfl (.tmp 31) (.tmp 32) 30 rfl w.heap.size 3 i0 1 Tryd.underlying30 hi _ _ _ rfl HC.out.own rfl ?_)
            go_roundw
            case rel => exact ⟨q + 1, n, by omega, by omega, by go_num, HC2⟩
            case measure => simp [intOf]; omega
          | some ad =>
            have hcells : ∀ (i : Nat) u, (ints rl)[i]? = some u → wr.cell? (ad.add i) = some u := fun i u hu => by
              have hi := (List.getElem?_eq_some_iff.1 hu).1
              rw [ints_length, (ints_len hri)] at hi
              obtain ⟨ad', e, _, hcc⟩ := hri.2 (by omega)
              injection e with e
              subst e
              exact hcc i u hu
            have HLN : Hid ((ints rl).length = rn * 1) := by show _ = _; rw [ints_length, (ints_len hri), Nat.mul_one]
            have HCL := Lib.hid hcells
            clear hcells hri hnl
            go_wp2_with (at_builtin; refine wpList_append_own _ rfl (.tmp 31) (.tmp 32) 30 rfl w.heap.size 3 i0 _ 1 8 Tryd.underlying30 hi hz0 hz1 hz2 rfl (by decide) _ _ _ rfl HC.out.own ad rn rc (ints rl) rfl HLN.out HCL.out (ints_one rl) (by unfold maxLen; omega) (by omega) (by omega) ?_; intro v' w2 hown' hgrow _)
            have HC2 : Hid (Cat9Is w (cat9 (rs.take (q + 1))) (n + rn) v' w2) := ⟨by rw [HS.out, ints_append]; exact hown', HC.out.below.grown hgrow hs1 (fun k hk => (own_in HC.out.own hk).1)⟩
            clear hown' hgrow HC HLN HCL
            go_wp2_with fail
            go_roundw
            case rel => exact ⟨q + 1, n + rn, by omega, by omega, by go_num, HC2⟩
            case measure => simp [intOf]; omega
        · obtain rfl : q = j := by omega
          have HE : Hid (rs.take q = rs) := List.take_of_length_le (by rw [HL.out]; exact Nat.le_refl _)
          rw [HE.out] at HC
          have hown := HC.out.own
          obtain ⟨A5, c5, rfl, h1, h2⟩ := own_form2 hown
          have HO := Lib.hid hown
          clear hown
          go_wp2_with fail
          go_ret
          have hn9 : (cat9 rs).length = n := by have := HO.out.1; rw [ints_length] at this; omega
          subst hn9
          exact ⟨A5, c5, rfl, Reads.of_own HO.out, HC.out.below⟩
end Go.Proofs.YtgbpaiffnhpafaaDoor
namespace Go.Proofs.YtgbpaiffnhpafaaDoor
open Go.RowKit Go.Shelf

theorem first9 {p : Nat → Prop} : ∀ n : Nat, (∃ j, j < n ∧ p j) → ∃ k, k < n ∧ p k ∧ ∀ j, j < k → ¬ p j
  | 0, ⟨j, h, _⟩ => absurd h (Nat.not_lt_zero j)
  | n + 1, h => by
    by_cases hq : ∃ j, j < n ∧ p j
    · obtain ⟨k, h1, h2, h3⟩ := first9 n hq
      exact ⟨k, by omega, h2, h3⟩
    · obtain ⟨j, h1, h2⟩ := h
      have hj : j = n := by
        apply Classical.byContradiction
        intro hne
        exact hq ⟨j, by omega, h2⟩
      subst hj
      exact ⟨j, by omega, h2, fun i hi hp => hq ⟨i, hi, hp⟩⟩
theorem min9 (l : List Int) : ∀ k : Nat, 0 < k → k ≤ l.length → (∃ j, j < k ∧ l.getD j 0 = Lib.minOf (l.take k)) ∧ ∀ j, j < k → Lib.minOf (l.take k) ≤ l.getD j 0
  | 0, h, _ => absurd h (Nat.lt_irrefl 0)
  | 1, _, _ => by
    rw [Lib.minOf_one]
    exact ⟨⟨0, by omega, rfl⟩, fun j hj => by
      obtain rfl : j = 0 := Nat.lt_one_iff.1 hj
      exact Int.le_refl _⟩
  | k + 2, _, hk => by
    obtain ⟨⟨j, h1, h2⟩, h3⟩ := min9 l (k + 1) (by omega) (by omega)
    rw [Lib.minOf_step l (k + 1) (by omega) (by omega)]
    constructor
    · by_cases h : Lib.minOf (l.take (k + 1)) ≤ l.getD (k + 1) 0
      · exact ⟨j, by omega, by rw [h2]; omega⟩
      · exact ⟨k + 1, by omega, by omega⟩
    · intro i hi
      rcases Nat.lt_or_eq_of_le (Nat.le_of_lt_succ hi) with h | h
      · have := h3 i h; omega
      · subst h; omega
theorem place9 {l : List Int} (hl : l ≠ []) : ∃ (i : Nat) (x : Int), i < l.length ∧ l[i]? = some x ∧ (∀ y ∈ l, x ≤ y) ∧ Lib.minOf (l.take l.length) = x ∧ Lib.idxOf (l.take l.length) x = (i : Int) := by
  have hp := List.length_pos_iff.2 hl
  obtain ⟨h1, h2⟩ := min9 l l.length hp (Nat.le_refl _)
  obtain ⟨i, h3, h4, h5⟩ := first9 l.length h1
  refine ⟨i, _, h3, ?_, fun y hy => ?_, rfl, Lib.idxOf_hit l l.length i _ h3 (Nat.le_refl _) h4 h5⟩
  · rw [← h4]
    simp [List.getD, List.getElem?_eq_getElem h3]
  · obtain ⟨j, hj⟩ := List.mem_iff_getElem?.1 hy
    have hjl := (List.getElem?_eq_some_iff.1 hj).1
    have := h2 j hjl
    simpa [List.getD, hj] using this
theorem reads_drop9 {w : World} {B n i b o : Nat} {l : List Int} (h : Reads w B 1 (some ⟨b, o, none⟩) n (ints l)) : Reads w B 1 (some ⟨b, o + i, none⟩) (n - i) (ints (l.drop i)) := by
  have hl := ints_len h
  refine ⟨by rw [ints_length, List.length_drop]; omega, fun hn => ?_⟩
  obtain ⟨ad, e, hb, hc⟩ := h.2 (by omega)
  injection e with e
  subst e
  refine ⟨_, rfl, hb, fun j u hu => ?_⟩
  have := hc (i + j) u (by unfold ints at hu ⊢; rwa [List.map_drop, List.getElem?_drop] at hu)
  rw [Go.WideShapes.add_plain] at this ⊢
  rw [Nat.add_assoc]
  exact this
theorem rows9 {w : World} {b o n i c : Nat} {l : List Int} (hR : Reads w w.heap.size 1 (some ⟨b, o, none⟩) n (ints l)) (hi : i ≤ n) (hnc : n ≤ c) (hc : c ≤ 9223372036854775807) (t : TypeId) :
    Rows7 (w.alloc (.cells #[.slice (some ⟨b, o + i, none⟩) (n - i) (c - i), .slice (some ⟨b, o, none⟩) i c] t)) (w.alloc (.cells #[.slice (some ⟨b, o + i, none⟩) (n - i) (c - i), .slice (some ⟨b, o, none⟩) i c] t)).heap.size (some ⟨w.heap.size, 0, none⟩) 2 [⟨some ⟨b, o + i, none⟩, n - i, c - i, l.drop i⟩, ⟨some ⟨b, o, none⟩, i, c, l.take i⟩] := by
  have hb : Below w.heap.size w (w.alloc (.cells #[.slice (some ⟨b, o + i, none⟩) (n - i) (c - i), .slice (some ⟨b, o, none⟩) i c] t)) := (Below.refl _ _).alloc (Nat.le_refl _) _
  have hR2 := (hR.below hb).more hb.size
  refine ⟨⟨rfl, fun _ => ⟨_, rfl, by simp, fun j u hu => ?_⟩⟩, fun r hr => ?_⟩
  · rw [Go.WideShapes.add_plain, Nat.zero_add, (Blk.new w t _).cell, ← hu, ← List.getElem?_toArray]
    rfl
  · simp only [List.mem_cons, List.not_mem_nil, or_false] at hr
    rcases hr with rfl | rfl
    · exact ⟨reads_drop9 hR2, by show n - i ≤ c - i; omega, by show c - i ≤ _; omega⟩
    · exact ⟨reads_cut hR2 hi, by show i ≤ c; omega, hc⟩
theorem t_slice_l9 (b o len cap h : Nat) (h1 : h < len) (h2 : len ≤ cap) (W : World) :
    (Instr.slice 30 (.slice (some ⟨b, o, none⟩) len cap) (some (.int .i64 (h : Int))) none none).run Tryd.prog W = .ok (.slice (some ⟨b, o + h, none⟩) (len - h) (cap - h)) W := by
  have e0 : sliced (some ⟨b, o, none⟩) ((h : Int).toNat) len cap 1 = .slice (some ⟨b, o + h, none⟩) (len - h) (cap - h) := by
    unfold sliced
    rw [Int.toNat_natCast, if_neg (by omega), Nat.mul_one]
    show Value.slice (some ((⟨b, o, none⟩ : Addr).add h)) _ _ = _
    rw [Go.WideShapes.add_plain]
  rw [run_slice_l W 30 (some ⟨b, o, none⟩) len cap (show Tryd.prog.underlying 30 = some (.slice (Tryd.prog.elem 30)) by kernel_rfl) .i64 h (by omega) (by omega), t_elem_size]
  exact congrArg (fun v => Result.ok v W) e0

set_option maxRecDepth 100000 in
set_option maxHeartbeats 16000000 in
theorem pround_core (nodes : Int) (A : Option Addr) (n c : Nat) (zs : List Ed) (hc : A = none → c = 0) (hnc : n ≤ c) (hcm : c ≤ 9223372036854775807) (w : World) (hT : Bit.Tab w) (hR : Reads w w.heap.size 3 A n (cellsE zs)) :
    Calls Tryd.prog 7 #[.agg #[.int .i64 nodes, .slice A n c]] w fun e w' => e = .returned (.bool true) ∧ Below w.heap.size w w' := by
  have E0 := Lib.hid ((Env.start w).add (g := ⟨nodes, A, n, c, zs⟩) ⟨hR, hnc, hcm, hc⟩)
  obtain ⟨gx, hgx⟩ : ∃ gx : GV, (⟨nodes, A, n, c, zs⟩ : GV) = gx := ⟨_, rfl⟩
  have hz : nodes = gx.z := by rw [← hgx]
  have hA : A = gx.A := by rw [← hgx]
  have hn : n = gx.n := by rw [← hgx]
  have hcc : c = gx.c := by rw [← hgx]
  rw [hgx] at E0
  subst hz; subst hA; subst hn; subst hcc
  have HT := Lib.hid hT
  clear hR hc hnc hcm hgx hT
  go_enter Tryd.func7, Tryd.ntmps7
  go_wp2_with fail
  generalize w.alloc (.cells #[.int .i64 gx.z, .slice gx.A gx.n gx.c] 24) = W0 at *
  refine (wakes8_any _ (HT.out.on E0.out.below)).mono ?_
  rintro e w1 ⟨rfl, b⟩
  have E1 := Lib.hid (E0.out.on b)
  clear b E0
  have z0 := E1.out.c0 (.head _)
  have z1 := E1.out.c1 (.head _)
  go_wp2_with fail
  have ok1 := E1.out.ok (.head _)
  refine (own8_any gx.z gx.A gx.n gx.c gx.es ok1.2.2.2 ok1.2.1 ok1.2.2.1 w1 ok1.1).mono ?_
  clear ok1
  rintro e w2 hx
  obtain ⟨g, rfl, hz, he, okg, b⟩ := gis_gv hx
  have E3 := Lib.hid ((E1.out.on b).add okg)
  have HN : Hid (g.n ≤ 300) := by
    show _ ≤ _
    have h1 := okg.len
    rw [he, List.length_take] at h1
    omega
  have HL : Hid (g.es.length = g.n) := okg.len
  have HX : Hid (g.z = gx.z ∧ g.es = gx.es.take 300) := ⟨hz, he⟩
  clear hx hz he okg b E1 z0 z1
  have z0 := E3.out.c0 (.head _)
  have z1 := E3.out.c1 (.head _)
  have x0 := E3.out.c0 (.tail _ (.head _))
  have x1 := E3.out.c1 (.tail _ (.head _))
  go_upto_region 4 with fail
  generalize w2.alloc (.cells #[.int .i64 g.z, .slice g.A g.n g.c] 24) = w3 at *
  generalize w2.heap.size = b3 at *
  have K3 : Hid (KeptI [] w3) := fun p hp => by cases hp
  by_cases h40 : g.z > 40
  · clear K3
    go_wp2_with fail
    go_ret
    exact ⟨rfl, E3.out.below⟩
  · skip
    go_wp2_with fail
    refine (cycle8_at g _ (by have := HN.out; omega) (E3.out.ok (.head _))).mono ?_
    rintro e w4 ⟨l1, k1, ⟨A1, c1, rfl, hr9, hx1, hx2, b⟩, hh⟩
    obtain ⟨N1, hN⟩ : ∃ N, l1.length = N := ⟨_, rfl⟩
    rw [hN]
    have HN1 := Lib.hid hN
    have H1 := Lib.hid hh
    have E4 := Lib.hid (E3.out.on b)
    have K4 := Lib.hid (KeptI.add (K3.out.on b) hr9)
    clear hr9 hx1 hx2 hN hh b E3 K3 z0 z1 x0 x1
    have z0 := E4.out.c0 (.head _)
    have z1 := E4.out.c1 (.head _)
    go_wp2_with fail
    refine (cyclic6_any g _ (by have := HN.out; omega) (E4.out.ok (.head _))).mono ?_
    rintro e w5 ⟨cb, ck, rfl, b, hyes, hno⟩
    have HY := Lib.hid (And.intro hyes hno)
    have E5 := Lib.hid (E4.out.on b)
    have K5 := Lib.hid (K4.out.on b)
    clear b E4 K4 z0 z1 hyes hno
    rcases H1.out with ⟨hr, rfl, rfl⟩ | ⟨_, h, _⟩ | ⟨hr, _, hb, ⟨rfl, rfl⟩ | ⟨hne, rfl⟩⟩
    · obtain ⟨rfl, rfl⟩ := HY.out.2 hr
      obtain rfl : 0 = N1 := HN1.out
      clear hr H1 K5
      go_wp2_with fail
      go_ret
      exact ⟨rfl, E5.out.below⟩
    · cases h
    · obtain ⟨rfl, hc⟩ := HY.out.1 hr
      obtain ⟨m, hm1, hm2, hm3, hG⟩ := right_nat hr
      rw [hm2] at hb
      obtain rfl : cb = false := by
        cases cb
        · rfl
        · exact absurd rfl ((hb.cyclic hG.all).2 (hc.1 rfl))
      obtain rfl : 0 = N1 := HN1.out
      clear hr H1 K5 HY hc hm1 hm2 hm3 hG hb
      go_wp2_with fail
      go_ret
      exact ⟨rfl, E5.out.below⟩
    · obtain ⟨rfl, hc⟩ := HY.out.1 hr
      obtain ⟨m, hm1, hm2, hm3, hG⟩ := right_nat hr
      rw [hm2] at hb
      obtain rfl : cb = true := hc.2 ((hb.cyclic hG.all).1 hne)
      have hisC := hb.isC hG.all hne
      have HIS : Hid (∀ W, g.ok W → Bit.Tab W → Reads W W.heap.size 1 A1 N1 (ints l1) → Calls Tryd.prog 24 #[.agg #[.int .i64 g.z, .slice g.A g.n g.c], .slice A1 N1 c1, .bool true] W fun e w' => e = .returned (.bool true) ∧ Below W.heap.size W w') := fun W ok ht hl => by
        refine (is8_any g A1 N1 c1 l1 true (by have := HN.out; omega) (by have := HN1.out; have := hb.few hG.all (Nat.le_refl _); omega) W ht ok hl).mono ?_
        rintro e w' ⟨b, rfl, h1, h2⟩
        obtain rfl : b = true := h2.2 ⟨hr, by rw [hm2]; exact hisC⟩
        exact ⟨rfl, h1⟩
      have HB := Lib.hid hb
      have HM := Lib.hid (And.intro hm1 (And.intro hm2 (And.intro hm3 hG)))
      have HRT := Lib.hid hr
      have HNE := Lib.hid hne
      have HEND : Hid (∃ u : Nat, u < m ∧ (u : Int) ∈ l1) := by
        obtain ⟨y, hy⟩ : ∃ y, y ∈ l1 := by
          cases l1 with
          | nil => exact absurd rfl hne
          | cons a l => exact ⟨a, .head _⟩
        have := hisC.way.ends y hy
        exact ⟨y.toNat, by omega, by rwa [Int.toNat_of_nonneg this.1]⟩
      have hN1 : N1 ≤ 300 := by have := HN1.out; have := hb.few hG.all (Nat.le_refl _); omega
      clear hr H1 HY hc hm1 hm2 hm3 hG hb hne hisC
      have z0 := E5.out.c0 (.head _)
      have z1 := E5.out.c1 (.head _)
      go_wp2_with fail
      refine (HIS.out _ (E5.out.ok (.head _)) (HT.out.on E5.out.below) (by have := K5.out _ (.head _); rwa [HN1.out] at this)).mono ?_
      rintro e w6 ⟨rfl, b⟩
      have E6 := Lib.hid (E5.out.on b)
      have K6 := Lib.hid (K5.out.on b)
      clear b E5 K5 z0 z1 HIS
      have z0 := E6.out.c0 (.head _)
      go_wp2_with fail
      clear z0
      go_loopg [8, 60] m (fun gg s8 s60 wr => ∃ (v : Nat) (x : Int), s8 = .int .i64 x ∧ s60 = .int .i64 v ∧ v + gg = m ∧ Hid (x = -1 ∨ (N1 : Int) ≤ x) ∧ Hid (∀ u : Nat, u < v → (u : Int) ∈ l1 → x = (N1 : Int)) ∧ Hid (Env w [(b3, g), (w.heap.size, gx)] wr) ∧ Hid (KeptI [(A1, l1)] wr))
      case atStart => exact ⟨0, -1, rfl, rfl, by omega, .inl rfl, fun u h => absurd h (Nat.not_lt_zero u), E6, K6⟩
      case round =>
        clear E6 K6
        obtain ⟨v, x, rfl, rfl, hvm, HX1, HX2, E6, K6⟩ := hrel
        rename World => w6
        have HVM := Lib.hid hvm
        cases gk with
        | zero =>
          have hge : ¬ (v : Int) < g.z := by have := HM.out.1; omega
          obtain rfl : x = (N1 : Int) := by
            obtain ⟨u, h1, h2⟩ := HEND.out
            exact HX2.out u (by omega) h2
          clear hvm
          go_wp2_with fail
          go_ret
          exact ⟨rfl, E6.out.below⟩
        | succ g2 =>
          have hlt : (v : Int) < g.z := by have := HM.out.1; omega
          have z0 := E6.out.c0 (.head _)
          have z1 := E6.out.c1 (.head _)
          clear hvm
          go_wp2_with fail
          refine (through8_at g _ (by have := HN.out; omega) (E6.out.ok (.head _)) (v : Int)).mono ?_
          rintro e w7 ⟨l2, k2, ⟨A2, c2, rfl, hr9, hx1, hx2, b⟩, hh⟩
          obtain ⟨N2, hN⟩ : ∃ N, l2.length = N := ⟨_, rfl⟩
          rw [hN]
          have HN2 := Lib.hid hN
          have E7 := Lib.hid (E6.out.on b)
          have K7 := Lib.hid (KeptI.add (K6.out.on b) hr9)
          have HC2 : Hid (N2 ≤ c2 ∧ c2 ≤ 9223372036854775807) := ⟨by rw [← hN]; exact hx1, hx2⟩
          obtain ⟨hthr, hor⟩ : ThrIs g.es (v : Int) l2 ∧ ((l2 = [] ∧ k2 = 4) ∨ (l2 ≠ [] ∧ k2 = 0)) := by
            rcases hh with ⟨h, _⟩ | ⟨_, h, _⟩ | ⟨_, _, h, h2⟩
            · rw [HRT.out] at h; cases h
            · have : nodeB g.z (v : Int) = true := decide_eq_true ⟨by omega, hlt⟩
              rw [this] at h; cases h
            · exact ⟨h, h2⟩
          have HTHR := Lib.hid hthr
          clear hr9 hx1 hx2 hN hh b E6 K6 z0 z1 hthr
          rcases hor with ⟨rfl, rfl⟩ | ⟨hne, rfl⟩
          · have HX3 : Hid (∀ u : Nat, u < v + 1 → (u : Int) ∈ l1 → x = (N1 : Int)) := fun u hu hm => by
              rcases Nat.lt_or_eq_of_le (Nat.le_of_lt_succ hu) with h | h
              · exact HX2.out u h hm
              · subst h
                exact absurd rfl (HTHR.out.there HM.out.2.2.2.all HB.out hm).1
            have K8 : Hid (KeptI [(A1, l1)] w7) := fun p hp => K7.out p (.tail _ hp)
            go_wp2_with fail
            go_roundg g2
            case measure => omega
            case rel => exact ⟨v + 1, x, rfl, by go_num, by have := HVM.out; omega, HX1, HX3, E7, K8⟩
          · skip
            have hv0 : 0 ≤ (v : Int) ∧ (v : Int) < (m : Int) := by have := HM.out.1; omega
            obtain ⟨i, xm, hi, hxi, hle, hmin, hidx⟩ := place9 hne
            have HTURN := Lib.hid (HTHR.out.turned HM.out.2.2.2.all hv0 hne hxi hle)
            have hbest := (HTHR.out.best HM.out.2.2.2.all hv0 HB.out hne).2
            obtain ⟨hlc⟩ : Nonempty (PLift (LC (EdR g.es) (EdR g.es) (v : Int) l2)) := by
              rcases HTHR.out with ⟨_, h⟩ | ⟨h, _⟩
              · exact ⟨⟨h⟩⟩
              · exact absurd h hne
            have hlc := hlc.down
            have hfew := hlc.few (EdR.in_ HM.out.2.2.2.all) hv0
            have hhead : l2[0]? = some (v : Int) := by
              obtain ⟨u, h1, _⟩ := hlc.1
              have := h1.head
              rwa [List.head?_eq_getElem?] at this
            rw [HN2.out] at hi hbest hfew hmin hidx
            rw [HN1.out] at hbest
            obtain ⟨b2, o2, rfl, _, _⟩ := row_at (K7.out _ (.head _)) hhead
            have HHD := Lib.hid hhead
            have hN2 : N2 ≤ 300 := by have := HM.out.2.2.1; omega
            have hic : i < c2 := by have := HC2.out.1; omega
            have hic2 : N2 ≤ c2 := HC2.out.1
            have hn0 : 0 < N2 := by omega
            have hn1 : ¬ N2 = 0 := by omega
            have HMI : Hid (∀ W, Reads W W.heap.size 1 (some ⟨b2, o2, none⟩) N2 (ints l2) → Calls Tryd.prog 29 #[.slice (some ⟨b2, o2, none⟩) N2 c2] W fun e w' => e = .returned (.int .i64 xm) ∧ w' = W) := fun W hR => by
              obtain ⟨b, o, e, _, hc⟩ := reads_plain hR (by omega)
              injection e with e
              injection e with e1 e2
              subst e1; subst e2
              have h := Tryd.slices_Min_int b2 o2 N2 c2 l2 W (by omega) (by rw [HN2.out]; exact Nat.le_refl _) (by omega) (ints_get hc)
              rwa [hmin] at h
            have HID : Hid (∀ W, Reads W W.heap.size 1 (some ⟨b2, o2, none⟩) N2 (ints l2) → Calls Tryd.prog 28 #[.slice (some ⟨b2, o2, none⟩) N2 c2, .int .i64 xm] W fun e w' => e = .returned (.int .i64 (i : Int)) ∧ w' = W) := fun W hR => by
              obtain ⟨b, o, e, _, hc⟩ := reads_plain hR (by omega)
              injection e with e
              injection e with e1 e2
              subst e1; subst e2
              have h := Tryd.slices_Index_int b2 o2 N2 c2 l2 xm W (by rw [HN2.out]; exact Nat.le_refl _) (by omega) (ints_get hc)
              rwa [hidx] at h
            have HCON : Hid (∀ W, Reads W W.heap.size 1 A1 N1 (ints l1) → Calls Tryd.prog 31 #[.slice A1 N1 c1, .int .i64 (v : Int)] W fun e w' => e = .returned (.bool (l1.contains (v : Int))) ∧ w' = W) := fun W hR => by
              have hp : 0 < N1 := by rw [← HN1.out]; exact List.length_pos_iff.2 HNE.out
              obtain ⟨b, o, rfl, _, hc⟩ := reads_plain hR hp
              have h := Tryd.slices_Contains_int b o N1 c1 l1 (v : Int) W (by rw [HN1.out]; exact Nat.le_refl _) (by omega) (ints_get hc)
              rwa [List.take_of_length_le (by rw [HN1.out]; exact Nat.le_refl _)] at h
            have HTH : Hid (l1.contains (v : Int) = true → N2 = N1) := fun h => by
              have h2 := (HTHR.out.there HM.out.2.2.2.all HB.out (by simpa using h)).2
              rw [HN1.out, HN2.out] at h2
              exact h2
            have HCAT : Hid (cat9 [⟨some ⟨b2, o2 + i, none⟩, N2 - i, c2 - i, l2.drop i⟩, ⟨some ⟨b2, o2, none⟩, i, c2, l2.take i⟩] = l2.drop i ++ l2.take i) := by show _ = _; simp [cat9]
            have hsl1 := fun W => t_slice_l9 b2 o2 N2 c2 i hi hic2 W
            have hsl2 := fun W => t_slice_h (some ⟨b2, o2, none⟩) N2 c2 i (by omega) W
            clear hne hxi hle hmin hidx hlc hfew hhead hv0
            go_wp2_with fail
            refine (HMI.out _ (by have := K7.out _ (.head _); rwa [HN2.out] at this)).mono ?_
            rintro e w8 ⟨rfl, hw⟩
            obtain rfl := hw.symm
            go_wp2_with fail
            refine (HID.out _ (by have := K7.out _ (.head _); rwa [HN2.out] at this)).mono ?_
            rintro e w9 ⟨rfl, hw⟩
            obtain rfl := hw.symm
            clear HMI HID
            go_wp2_with fail
            have J0 := Lib.hid E7.out.drew
            have Q0 := Lib.hid (K7.out.on ((Below.refl _ _).drew))
            clear E7 K7
            refine wp_region_noPanic ?_
            refine wp_region_held_drew (S := fun w' => w'.cell? ⟨b3, 0, none⟩ = some (.int .i64 g.z) ∧ w'.cell? ⟨b3, 1, none⟩ = some (.slice g.A g.n g.c) ∧ w'.cell? ⟨b2, o2, none⟩ = some (.int .i64 (v : Int))) (by kernel_rfl) ⟨J0.out.c0 (.head _), J0.out.c1 (.head _), (by have h := row_cell (Q0.out _ (.head _)) HHD.out; rwa [Nat.add_zero] at h)⟩ (fun hHeld => ?_)
            refine wpAnyH_take (i := 0) (oi := { dst := some 75, op := Op.move (Operand.tmp 11), type := 31, pos := "outright.go:69", after := #[], guard := none }) (v := .int .i64 0) rfl (by kernel_rfl) (by kernel_rfl) (by kernel_rfl) (fun _ _ _ h => h) (Or.inl ⟨by kernel_rfl, fun w' hSw => by (try dsimp only at hSw); go_simp⟩) (by assumption) ?_
            try simp only [Act.put, List.setIfInBounds_toArray, List.set_cons_zero, List.set_cons_succ]
            refine wpAnyH_take (i := 1) (oi := { dst := some 76, op := Op.binOp BinOp.neq 31 (Operand.tmp 75) (Operand.const (Value.int IntKind.i64 0)) 31, type := 4, pos := "outright.go:69", after := #[{ on := 0, ground := Ground.data }], guard := none }) (v := .bool false) rfl (by kernel_rfl) (by kernel_rfl) (by kernel_rfl) (fun _ _ _ h => h) (Or.inl ⟨by kernel_rfl, fun w' hSw => by (try dsimp only at hSw); go_simp⟩) (by assumption) ?_
            try simp only [Act.put, List.setIfInBounds_toArray, List.set_cons_zero, List.set_cons_succ]
            refine wpAnyH_take (i := 2) (oi := { dst := some 77, op := Op.move (Operand.tmp 76), type := 4, pos := "outright.go:69", after := #[{ on := 1, ground := Ground.data }], guard := none }) (v := .bool false) rfl (by kernel_rfl) (by kernel_rfl) (by kernel_rfl) (fun _ _ _ h => h) (Or.inl ⟨by kernel_rfl, fun w' hSw => by (try dsimp only at hSw); go_simp⟩) (by assumption) ?_
            try simp only [Act.put, List.setIfInBounds_toArray, List.set_cons_zero, List.set_cons_succ]
            refine wpAnyH_take (i := 3) (oi := { dst := some 78, op := Op.move (Operand.tmp 10), type := 30, pos := "outright.go:69", after := #[{ on := 2, ground := Ground.guard }], guard := some (2, false) }) (v := .slice (some ⟨b2, o2, none⟩) N2 c2) rfl (by kernel_rfl) (by kernel_rfl) (by kernel_rfl) (fun _ _ _ h => h) (Or.inl ⟨by kernel_rfl, fun w' hSw => by (try dsimp only at hSw); go_simp⟩) (by assumption) ?_
            try simp only [Act.put, List.setIfInBounds_toArray, List.set_cons_zero, List.set_cons_succ]
            refine wpAnyH_take (i := 4) (oi := { dst := some 79, op := Op.indexAddr 30 (Operand.tmp 78) (Operand.const (Value.int IntKind.i64 0)), type := 0, pos := "outright.go:69", after := #[{ on := 3, ground := Ground.data }, { on := 2, ground := Ground.guard }], guard := some (2, false) }) (v := .pointer (some ⟨b2, o2, none⟩)) rfl (by kernel_rfl) (by kernel_rfl) (by kernel_rfl) (fun _ _ _ h => h) (Or.inl ⟨by kernel_rfl, fun w' hSw => by (try dsimp only at hSw); go_simp⟩) (by assumption) ?_
            try simp only [Act.put, List.setIfInBounds_toArray, List.set_cons_zero, List.set_cons_succ]
            refine wpAnyH_take (i := 5) (oi := { dst := some 80, op := Op.load 3 (Operand.tmp 79), type := 3, pos := "outright.go:69", after := #[{ on := 4, ground := Ground.data }, { on := 2, ground := Ground.guard }], guard := some (2, false) }) (v := .int .i64 (v : Int)) rfl (by kernel_rfl) (by kernel_rfl) (by kernel_rfl) (fun _ _ _ h => h) (Or.inl ⟨by kernel_rfl, fun w' hSw => by (try dsimp only at hSw); go_simp⟩) (by assumption) ?_
            try simp only [Act.put, List.setIfInBounds_toArray, List.set_cons_zero, List.set_cons_succ]
            refine wpAnyH_take (i := 6) (oi := { dst := some 81, op := Op.move (Operand.tmp 9), type := 3, pos := "outright.go:69", after := #[{ on := 2, ground := Ground.guard }], guard := some (2, false) }) (v := .int .i64 (v : Int)) rfl (by kernel_rfl) (by kernel_rfl) (by kernel_rfl) (fun _ _ _ h => h) (Or.inl ⟨by kernel_rfl, fun w' hSw => by (try dsimp only at hSw); go_simp⟩) (by assumption) ?_
            try simp only [Act.put, List.setIfInBounds_toArray, List.set_cons_zero, List.set_cons_succ]
            refine wpAnyH_take (i := 7) (oi := { dst := some 82, op := Op.binOp BinOp.neq 3 (Operand.tmp 80) (Operand.tmp 81) 3, type := 4, pos := "outright.go:69", after := #[{ on := 5, ground := Ground.data }, { on := 6, ground := Ground.data }, { on := 2, ground := Ground.guard }], guard := some (2, false) }) (v := .bool false) rfl (by kernel_rfl) (by kernel_rfl) (by kernel_rfl) (fun _ _ _ h => h) (Or.inl ⟨by kernel_rfl, fun w' hSw => by (try dsimp only at hSw); go_simp⟩) (by assumption) ?_
            try simp only [Act.put, List.setIfInBounds_toArray, List.set_cons_zero, List.set_cons_succ]
            refine wpAnyH_take (i := 8) (oi := { dst := some 83, op := Op.pick (Operand.tmp 77) (Operand.const (Value.bool true)) (Operand.tmp 82), type := 4, pos := "outright.go:69", after := #[{ on := 2, ground := Ground.data }, { on := 7, ground := Ground.data }], guard := none }) (v := .bool false) rfl (by kernel_rfl) (by kernel_rfl) (by kernel_rfl) (fun _ _ _ h => h) (Or.inl ⟨by kernel_rfl, fun w' hSw => by (try dsimp only at hSw); go_simp⟩) (by assumption) ?_
            try simp only [Act.put, List.setIfInBounds_toArray, List.set_cons_zero, List.set_cons_succ]
            refine wpAnyH_take (i := 9) (oi := { dst := some 84, op := Op.move (Operand.tmp 83), type := 4, pos := "outright.go:69", after := #[{ on := 8, ground := Ground.data }, { on := 2, ground := Ground.chain }], guard := none }) (v := .bool false) rfl (by kernel_rfl) (by kernel_rfl) (by kernel_rfl) (fun _ _ _ h => h) (Or.inl ⟨by kernel_rfl, fun w' hSw => by (try dsimp only at hSw); go_simp⟩) (by assumption) ?_
            try simp only [Act.put, List.setIfInBounds_toArray, List.set_cons_zero, List.set_cons_succ]
            refine wpAnyH_take (i := 10) (oi := { dst := some 85, op := Op.load 24 (Operand.tmp 3), type := 24, pos := "outright.go:69", after := #[{ on := 9, ground := Ground.guard }], guard := some (9, false) }) (v := .agg #[.int .i64 g.z, .slice g.A g.n g.c]) rfl (by kernel_rfl) (by kernel_rfl) (by kernel_rfl) (fun _ _ _ h => h) (Or.inl ⟨by kernel_rfl, fun w' hSw => by (try dsimp only at hSw); go_simp⟩) (by assumption) ?_
            try simp only [Act.put, List.setIfInBounds_toArray, List.set_cons_zero, List.set_cons_succ]
            refine wpAnyH_take (i := 11) (oi := { dst := some 86, op := Op.move (Operand.tmp 10), type := 30, pos := "outright.go:69", after := #[{ on := 9, ground := Ground.guard }], guard := some (9, false) }) (v := .slice (some ⟨b2, o2, none⟩) N2 c2) rfl (by kernel_rfl) (by kernel_rfl) (by kernel_rfl) (fun _ _ _ h => h) (Or.inl ⟨by kernel_rfl, fun w' hSw => by (try dsimp only at hSw); go_simp⟩) (by assumption) ?_
            try simp only [Act.put, List.setIfInBounds_toArray, List.set_cons_zero, List.set_cons_succ]
            refine wpAnyH_take (i := 12) (oi := { dst := some 87, op := Op.move (Operand.tmp 12), type := 3, pos := "outright.go:69", after := #[{ on := 9, ground := Ground.guard }], guard := some (9, false) }) (v := .int .i64 (i : Int)) rfl (by kernel_rfl) (by kernel_rfl) (by kernel_rfl) (fun _ _ _ h => h) (Or.inl ⟨by kernel_rfl, fun w' hSw => by (try dsimp only at hSw); go_simp⟩) (by assumption) ?_
            try simp only [Act.put, List.setIfInBounds_toArray, List.set_cons_zero, List.set_cons_succ]
            refine wpAnyH_take (i := 13) (oi := { dst := some 88, op := Op.slice 30 (Operand.tmp 86) (some (Operand.tmp 87)) none none, type := 30, pos := "outright.go:69", after := #[{ on := 11, ground := Ground.data }, { on := 12, ground := Ground.data }, { on := 9, ground := Ground.guard }], guard := some (9, false) }) (v := .slice (some ⟨b2, o2 + i, none⟩) (N2 - i) (c2 - i)) rfl (by kernel_rfl) (by kernel_rfl) (by kernel_rfl) (fun _ _ _ h => h) (Or.inl ⟨by kernel_rfl, fun w' hSw => by (try dsimp only at hSw); go_simp⟩) (by assumption) ?_
            try simp only [Act.put, List.setIfInBounds_toArray, List.set_cons_zero, List.set_cons_succ]
            refine wpAnyH_take (i := 14) (oi := { dst := some 89, op := Op.move (Operand.tmp 10), type := 30, pos := "outright.go:69", after := #[{ on := 9, ground := Ground.guard }], guard := some (9, false) }) (v := .slice (some ⟨b2, o2, none⟩) N2 c2) rfl (by kernel_rfl) (by kernel_rfl) (by kernel_rfl) (fun _ _ _ h => h) (Or.inl ⟨by kernel_rfl, fun w' hSw => by (try dsimp only at hSw); go_simp⟩) (by assumption) ?_
            try simp only [Act.put, List.setIfInBounds_toArray, List.set_cons_zero, List.set_cons_succ]
            refine wpAnyH_take (i := 15) (oi := { dst := some 90, op := Op.move (Operand.tmp 12), type := 3, pos := "outright.go:69", after := #[{ on := 9, ground := Ground.guard }], guard := some (9, false) }) (v := .int .i64 (i : Int)) rfl (by kernel_rfl) (by kernel_rfl) (by kernel_rfl) (fun _ _ _ h => h) (Or.inl ⟨by kernel_rfl, fun w' hSw => by (try dsimp only at hSw); go_simp⟩) (by assumption) ?_
            try simp only [Act.put, List.setIfInBounds_toArray, List.set_cons_zero, List.set_cons_succ]
            refine wpAnyH_take (i := 16) (oi := { dst := some 91, op := Op.slice 30 (Operand.tmp 89) none (some (Operand.tmp 90)) none, type := 30, pos := "outright.go:69", after := #[{ on := 14, ground := Ground.data }, { on := 15, ground := Ground.data }, { on := 9, ground := Ground.guard }], guard := some (9, false) }) (v := .slice (some ⟨b2, o2, none⟩) i c2) rfl (by kernel_rfl) (by kernel_rfl) (by kernel_rfl) (fun _ _ _ h => h) (Or.inl ⟨by kernel_rfl, fun w' hSw => by (try dsimp only at hSw); go_simp⟩) (by assumption) ?_
            try simp only [Act.put, List.setIfInBounds_toArray, List.set_cons_zero, List.set_cons_succ]
            refine wpAnyH_ready (rs := [17]) (by kernel_rfl) (by simp) ?_
            refine AllReadyH.cons (o := { dst := some 92, op := Op.buildSlice 46 2 #[(0, Operand.tmp 88), (1, Operand.tmp 91)], type := 46, pos := "outright.go:69", after := #[{ on := 13, ground := Ground.data }, { on := 16, ground := Ground.data }, { on := 9, ground := Ground.guard }], guard := some (9, false) }) rfl (fun K hK => ?_) AllReadyH.nil
            go_simp
            have bb : Below w7.drew.heap.size w7.drew (w7.drew.alloc (.cells #[.slice (some ⟨b2, o2 + i, none⟩) (N2 - i) (c2 - i), .slice (some ⟨b2, o2, none⟩) i c2] 30)) := (Below.refl _ _).alloc (Nat.le_refl _) _
            have RW := Lib.hid (rows9 (w := w7.drew) (by have := Q0.out _ (.head _); rwa [HN2.out] at this) (Nat.le_of_lt hi) HC2.out.1 HC2.out.2 30)
            have J1 := Lib.hid (J0.out.on bb)
            have Q1 := Lib.hid (Q0.out.on bb)
            clear bb J0 Q0 hHeld
            refine hK.out _ _ ⟨J1.out.c0 (.head _), J1.out.c1 (.head _), (by have h := row_cell (Q1.out _ (.head _)) HHD.out; rwa [Nat.add_zero] at h)⟩ (fun hHeld => ?_)
            clear hK K
            try simp only [Act.put, List.setIfInBounds_toArray, List.set_cons_zero, List.set_cons_succ]
            refine wpAnyH_ready (rs := [18]) (by kernel_rfl) (by simp) ?_
            refine AllReadyH.cons (o := { dst := some 93, op := Op.call { callee := Callee.value (Operand.func 30), args := #[Operand.tmp 92], argTypes := #[46] }, type := 30, pos := "outright.go:69", after := #[{ on := 17, ground := Ground.data }, { on := 9, ground := Ground.chain }, { on := 9, ground := Ground.guard }], guard := some (9, false) }) rfl (fun K hK => ?_) AllReadyH.nil
            go_simp
            have HCC := concat9_any _ 2 2 _ (by decide) (by intro r hr; simp only [List.mem_cons, List.not_mem_nil, or_false] at hr; rcases hr with rfl | rfl; (show N2 - i ≤ 10048; omega); (show i ≤ 10048; omega)) (by intro r hr h; simp only [List.mem_cons, List.not_mem_nil, or_false] at hr; rcases hr with rfl | rfl <;> cases h) _ RW.out
            rw [HCAT.out] at HCC
            refine HCC.mono ?_
            clear HCC
            rintro e v1 ⟨A5, c5, rfl, hr5, b⟩
            obtain ⟨N5, hN5⟩ : ∃ N, (l2.drop i ++ l2.take i).length = N := ⟨_, rfl⟩
            rw [hN5] at hr5 ⊢
            have hn5 : N5 ≤ 300 := by rw [← hN5, List.length_append, List.length_drop, List.length_take, HN2.out]; omega
            have R5 := Lib.hid hr5
            have J2 := Lib.hid (J1.out.on b)
            have Q2 := Lib.hid (Q1.out.on b)
            clear b hr5 hN5 RW J1 Q1 hHeld
            refine hK.out _ _ ⟨J2.out.c0 (.head _), J2.out.c1 (.head _), (by have h := row_cell (Q2.out _ (.head _)) HHD.out; rwa [Nat.add_zero] at h)⟩ (fun hHeld => ?_)
            clear hK K
            try simp only [Act.put, List.setIfInBounds_toArray, List.set_cons_zero, List.set_cons_succ]
            refine wpAnyH_ready (rs := [19]) (by kernel_rfl) (by simp) ?_
            refine AllReadyH.cons (o := { dst := some 94, op := Op.call { callee := Callee.value (Operand.func 24), args := #[Operand.tmp 85, Operand.tmp 93, Operand.const (Value.bool true)], argTypes := #[24, 30, 4] }, type := 4, pos := "outright.go:69", after := #[{ on := 10, ground := Ground.data }, { on := 18, ground := Ground.data }, { on := 18, ground := Ground.chain }, { on := 9, ground := Ground.guard }], guard := some (9, false) }) rfl (fun K hK => ?_) AllReadyH.nil
            go_simp
            refine (is8_any g A5 N5 c5 _ true (by have := HN.out; omega) (by omega) _ (HT.out.on J2.out.below) (J2.out.ok (.head _)) R5.out).mono ?_
            rintro e v2 ⟨b9, rfl, b, hb9⟩
            obtain rfl : b9 = true := hb9.2 ⟨HRT.out, by rw [HM.out.2.1]; exact HTURN.out⟩
            have J3 := Lib.hid (J2.out.on b)
            have Q3 := Lib.hid (Q2.out.on b)
            clear b hb9 R5 J2 Q2 hHeld
            refine hK.out _ _ ⟨J3.out.c0 (.head _), J3.out.c1 (.head _), (by have h := row_cell (Q3.out _ (.head _)) HHD.out; rwa [Nat.add_zero] at h)⟩ (fun hHeld => ?_)
            clear hK K
            try simp only [Act.put, List.setIfInBounds_toArray, List.set_cons_zero, List.set_cons_succ]
            refine wpAnyH_take (i := 20) (oi := { dst := some 95, op := Op.unOp UnOp.not 4 (Operand.tmp 94), type := 4, pos := "outright.go:69", after := #[{ on := 19, ground := Ground.data }, { on := 9, ground := Ground.guard }], guard := some (9, false) }) (v := .bool false) rfl (by kernel_rfl) (by kernel_rfl) (by kernel_rfl) (fun _ _ _ h => h) (Or.inl ⟨by kernel_rfl, fun w' hSw => by (try dsimp only at hSw); go_simp⟩) (by assumption) ?_
            try simp only [Act.put, List.setIfInBounds_toArray, List.set_cons_zero, List.set_cons_succ]
            refine wpAnyH_take (i := 21) (oi := { dst := some 96, op := Op.pick (Operand.tmp 84) (Operand.const (Value.bool true)) (Operand.tmp 95), type := 4, pos := "outright.go:69", after := #[{ on := 9, ground := Ground.data }, { on := 20, ground := Ground.data }], guard := none }) (v := .bool false) rfl (by kernel_rfl) (by kernel_rfl) (by kernel_rfl) (fun _ _ _ h => h) (Or.inl ⟨by kernel_rfl, fun w' hSw => by (try dsimp only at hSw); go_simp⟩) (by assumption) ?_
            try simp only [Act.put, List.setIfInBounds_toArray, List.set_cons_zero, List.set_cons_succ]
            refine wpAnyH_done (by kernel_rfl) ?_ _
            refine NoPanic.normal ?_
            have K8 : Hid (KeptI [(A1, l1)] v2) := fun p hp => Q3.out p (.tail _ hp)
            clear Q3 hsl1 hsl2
            cases hcv : l1.contains (v : Int)
            · skip
              rw [hcv] at HCON
              have HNM : Hid (¬ (v : Int) ∈ l1) := fun h => by have : l1.contains (v : Int) = true := by simpa using h
                                                               rw [hcv] at this; cases this
              clear hcv
              by_cases hq : N2 = N1
              · have hqb : ((N2 : Int) == (N1 : Int)) = true := by simp; omega
                by_cases hx0 : x < 0
                · skip
                  have HY1 : Hid ((N2 : Int) = -1 ∨ (N1 : Int) ≤ (N2 : Int)) := by have := HX1.out; show _ ∨ _; omega
                  have HY2 : Hid (∀ u : Nat, u < v + 1 → (u : Int) ∈ l1 → (N2 : Int) = (N1 : Int)) := fun u hu hm => by
                    have hx9 := HX1.out
                    rcases Nat.lt_or_eq_of_le (Nat.le_of_lt_succ hu) with h | h
                    · have := HX2.out u h hm; omega
                    · subst h
                      exact absurd hm HNM.out
                  go_wp2_with fail
                  refine (HCON.out _ (by have := K8.out _ (.head _); rwa [HN1.out] at this)).mono ?_
                  rintro e u1 ⟨rfl, rfl⟩
                  go_wp2_with fail
                  refine (HCON.out _ (by have := K8.out _ (.head _); rwa [HN1.out] at this)).mono ?_
                  rintro e u2 ⟨rfl, rfl⟩
                  go_wp2_with fail
                  go_roundg g2
                  case measure => omega
                  case rel => exact ⟨v + 1, _, rfl, by go_num, by have := HVM.out; omega, (by first | exact HY1 | (rw [hq] at HY1; exact HY1)), (by first | exact HY2 | (rw [hq] at HY2; exact HY2)), J3, K8⟩
                · by_cases hx1 : (N2 : Int) < x
                  · skip
                    have HY1 : Hid ((N2 : Int) = -1 ∨ (N1 : Int) ≤ (N2 : Int)) := by have := HX1.out; show _ ∨ _; omega
                    have HY2 : Hid (∀ u : Nat, u < v + 1 → (u : Int) ∈ l1 → (N2 : Int) = (N1 : Int)) := fun u hu hm => by
                      have hx9 := HX1.out
                      rcases Nat.lt_or_eq_of_le (Nat.le_of_lt_succ hu) with h | h
                      · have := HX2.out u h hm; omega
                      · subst h
                        exact absurd hm HNM.out
                    go_wp2_with fail
                    refine (HCON.out _ (by have := K8.out _ (.head _); rwa [HN1.out] at this)).mono ?_
                    rintro e u1 ⟨rfl, rfl⟩
                    go_wp2_with fail
                    refine (HCON.out _ (by have := K8.out _ (.head _); rwa [HN1.out] at this)).mono ?_
                    rintro e u2 ⟨rfl, rfl⟩
                    go_wp2_with fail
                    go_roundg g2
                    case measure => omega
                    case rel => exact ⟨v + 1, _, rfl, by go_num, by have := HVM.out; omega, (by first | exact HY1 | (rw [hq] at HY1; exact HY1)), (by first | exact HY2 | (rw [hq] at HY2; exact HY2)), J3, K8⟩
                  · skip
                    have HY1 : Hid (x = -1 ∨ (N1 : Int) ≤ x) := by have := HX1.out; show _ ∨ _; omega
                    have HY2 : Hid (∀ u : Nat, u < v + 1 → (u : Int) ∈ l1 → x = (N1 : Int)) := fun u hu hm => by
                      have hx9 := HX1.out
                      rcases Nat.lt_or_eq_of_le (Nat.le_of_lt_succ hu) with h | h
                      · have := HX2.out u h hm; omega
                      · subst h
                        exact absurd hm HNM.out
                    go_wp2_with fail
                    refine (HCON.out _ (by have := K8.out _ (.head _); rwa [HN1.out] at this)).mono ?_
                    rintro e u1 ⟨rfl, rfl⟩
                    go_wp2_with fail
                    refine (HCON.out _ (by have := K8.out _ (.head _); rwa [HN1.out] at this)).mono ?_
                    rintro e u2 ⟨rfl, rfl⟩
                    go_wp2_with fail
                    go_roundg g2
                    case measure => omega
                    case rel => exact ⟨v + 1, _, rfl, by go_num, by have := HVM.out; omega, (by first | exact HY1 | (rw [hq] at HY1; exact HY1)), (by first | exact HY2 | (rw [hq] at HY2; exact HY2)), J3, K8⟩
              · have hqb : ((N2 : Int) == (N1 : Int)) = false := by simp; omega
                by_cases hx0 : x < 0
                · skip
                  have HY1 : Hid ((N2 : Int) = -1 ∨ (N1 : Int) ≤ (N2 : Int)) := by have := HX1.out; show _ ∨ _; omega
                  have HY2 : Hid (∀ u : Nat, u < v + 1 → (u : Int) ∈ l1 → (N2 : Int) = (N1 : Int)) := fun u hu hm => by
                    have hx9 := HX1.out
                    rcases Nat.lt_or_eq_of_le (Nat.le_of_lt_succ hu) with h | h
                    · have := HX2.out u h hm; omega
                    · subst h
                      exact absurd hm HNM.out
                  go_wp2_with fail
                  refine (HCON.out _ (by have := K8.out _ (.head _); rwa [HN1.out] at this)).mono ?_
                  rintro e u1 ⟨rfl, rfl⟩
                  go_wp2_with fail
                  go_roundg g2
                  case measure => omega
                  case rel => exact ⟨v + 1, _, rfl, by go_num, by have := HVM.out; omega, (by first | exact HY1 | (rw [hq] at HY1; exact HY1)), (by first | exact HY2 | (rw [hq] at HY2; exact HY2)), J3, K8⟩
                · by_cases hx1 : (N2 : Int) < x
                  · skip
                    have HY1 : Hid ((N2 : Int) = -1 ∨ (N1 : Int) ≤ (N2 : Int)) := by have := HX1.out; show _ ∨ _; omega
                    have HY2 : Hid (∀ u : Nat, u < v + 1 → (u : Int) ∈ l1 → (N2 : Int) = (N1 : Int)) := fun u hu hm => by
                      have hx9 := HX1.out
                      rcases Nat.lt_or_eq_of_le (Nat.le_of_lt_succ hu) with h | h
                      · have := HX2.out u h hm; omega
                      · subst h
                        exact absurd hm HNM.out
                    go_wp2_with fail
                    refine (HCON.out _ (by have := K8.out _ (.head _); rwa [HN1.out] at this)).mono ?_
                    rintro e u1 ⟨rfl, rfl⟩
                    go_wp2_with fail
                    go_roundg g2
                    case measure => omega
                    case rel => exact ⟨v + 1, _, rfl, by go_num, by have := HVM.out; omega, (by first | exact HY1 | (rw [hq] at HY1; exact HY1)), (by first | exact HY2 | (rw [hq] at HY2; exact HY2)), J3, K8⟩
                  · skip
                    have HY1 : Hid (x = -1 ∨ (N1 : Int) ≤ x) := by have := HX1.out; show _ ∨ _; omega
                    have HY2 : Hid (∀ u : Nat, u < v + 1 → (u : Int) ∈ l1 → x = (N1 : Int)) := fun u hu hm => by
                      have hx9 := HX1.out
                      rcases Nat.lt_or_eq_of_le (Nat.le_of_lt_succ hu) with h | h
                      · have := HX2.out u h hm; omega
                      · subst h
                        exact absurd hm HNM.out
                    go_wp2_with fail
                    refine (HCON.out _ (by have := K8.out _ (.head _); rwa [HN1.out] at this)).mono ?_
                    rintro e u1 ⟨rfl, rfl⟩
                    go_wp2_with fail
                    go_roundg g2
                    case measure => omega
                    case rel => exact ⟨v + 1, _, rfl, by go_num, by have := HVM.out; omega, (by first | exact HY1 | (rw [hq] at HY1; exact HY1)), (by first | exact HY2 | (rw [hq] at HY2; exact HY2)), J3, K8⟩
            · skip
              rw [hcv] at HCON
              have hq := HTH.out hcv
              have hqb : ((N2 : Int) == (N1 : Int)) = true := by simp; omega
              clear hcv
              by_cases hx0 : x < 0
              · skip
                have HY1 : Hid ((N2 : Int) = -1 ∨ (N1 : Int) ≤ (N2 : Int)) := by have := HX1.out; show _ ∨ _; omega
                have HY2 : Hid (∀ u : Nat, u < v + 1 → (u : Int) ∈ l1 → (N2 : Int) = (N1 : Int)) := fun u hu hm => by
                  have hx9 := HX1.out
                  rcases Nat.lt_or_eq_of_le (Nat.le_of_lt_succ hu) with h | h
                  · have := HX2.out u h hm; omega
                  · subst h
                    omega
                go_wp2_with fail
                refine (HCON.out _ (by have := K8.out _ (.head _); rwa [HN1.out] at this)).mono ?_
                rintro e u1 ⟨rfl, rfl⟩
                go_wp2_with fail
                go_roundg g2
                case measure => omega
                case rel => exact ⟨v + 1, _, rfl, by go_num, by have := HVM.out; omega, (by first | exact HY1 | (rw [hq] at HY1; exact HY1)), (by first | exact HY2 | (rw [hq] at HY2; exact HY2)), J3, K8⟩
              · by_cases hx1 : (N2 : Int) < x
                · skip
                  have HY1 : Hid ((N2 : Int) = -1 ∨ (N1 : Int) ≤ (N2 : Int)) := by have := HX1.out; show _ ∨ _; omega
                  have HY2 : Hid (∀ u : Nat, u < v + 1 → (u : Int) ∈ l1 → (N2 : Int) = (N1 : Int)) := fun u hu hm => by
                    have hx9 := HX1.out
                    rcases Nat.lt_or_eq_of_le (Nat.le_of_lt_succ hu) with h | h
                    · have := HX2.out u h hm; omega
                    · subst h
                      omega
                  go_wp2_with fail
                  refine (HCON.out _ (by have := K8.out _ (.head _); rwa [HN1.out] at this)).mono ?_
                  rintro e u1 ⟨rfl, rfl⟩
                  go_wp2_with fail
                  go_roundg g2
                  case measure => omega
                  case rel => exact ⟨v + 1, _, rfl, by go_num, by have := HVM.out; omega, (by first | exact HY1 | (rw [hq] at HY1; exact HY1)), (by first | exact HY2 | (rw [hq] at HY2; exact HY2)), J3, K8⟩
                · skip
                  have HY1 : Hid (x = -1 ∨ (N1 : Int) ≤ x) := by have := HX1.out; show _ ∨ _; omega
                  have HY2 : Hid (∀ u : Nat, u < v + 1 → (u : Int) ∈ l1 → x = (N1 : Int)) := fun u hu hm => by
                    have hx9 := HX1.out
                    rcases Nat.lt_or_eq_of_le (Nat.le_of_lt_succ hu) with h | h
                    · have := HX2.out u h hm; omega
                    · subst h
                      omega
                  go_wp2_with fail
                  refine (HCON.out _ (by have := K8.out _ (.head _); rwa [HN1.out] at this)).mono ?_
                  rintro e u1 ⟨rfl, rfl⟩
                  go_wp2_with fail
                  go_roundg g2
                  case measure => omega
                  case rel => exact ⟨v + 1, _, rfl, by go_num, by have := HVM.out; omega, (by first | exact HY1 | (rw [hq] at HY1; exact HY1)), (by first | exact HY2 | (rw [hq] at HY2; exact HY2)), J3, K8⟩
end Go.Proofs.YtgbpaiffnhpafaaDoor
