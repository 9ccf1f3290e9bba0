/- HistoryParts: the walk. -/
import Derived.StillTailTactics
import Derived.Deep.LoopGhost
import Derived.Sort.OwnSortedInts
import Derived.Test.YtlnbmmaminflcaaGreatDoorM32
-- holds: YtlnbmmaminflcaaGreatDoorQJxb YtlnbmmaminflcaaGreatDoorQJyc
namespace Go.Proofs.YtlnbmmaminflcaaGreatDoor
open Go.RowKit Go.Shelf

theorem less_int11 (a b : Int) (w : World) : Calls Tryz.prog 58 #[.int .i64 a, .int .i64 b] w fun e w' => e = .returned (.bool (decide (a < b))) ∧ Below w.heap.size w w' := by
  have hn : ∀ (x : Int) (w : World), Calls Tryz.prog 86 #[.int .i64 x] w fun e w' => e = .returned (.bool false) ∧ w = w' := by
    intro x w
    go_enter Tryz.func86, Tryz.ntmps86
    go_wp2_with fail
    go_ret
    exact ⟨by simp, rfl⟩
  have H := Lib.hid hn
  clear hn
  go_enter Tryz.func58, Tryz.ntmps58
  go_wp2_with fail
  refine (H.out a w).mono ?_
  rintro e w1 ⟨rfl, rfl⟩
  go_wp2_with fail
  go_ret
  exact ⟨rfl, Below.refl _ _⟩

set_option maxRecDepth 100000 in
set_option maxHeartbeats 2000000 in
theorem sorted_int11 (A : Option Addr) (n c : Nat) (zs : List Int) (hn : n ≤ 1000000) (hz : zs.Pairwise (· < ·)) (w : World) (hR : Reads w w.heap.size 1 A n (ints zs)) :
    Calls Tryz.prog 24 #[.slice A n c] w fun e w' => e = .returned (.bool true) ∧ Below w.heap.size w w' := by
  have HR := Lib.hid hR
  have HL := Lib.hid (ints_len hR)
  have HZ := Lib.hid hz
  clear hR hz
  go_enter Tryz.func24, Tryz.ntmps24
  go_wp2_with fail
  go_loopg [3] n (fun gg i wr => ∃ z : Int, z = (n : Int) - 1 - ((n - gg : Nat) : Int) ∧ gg ≤ n ∧ i = .int .i64 z ∧ Hid (Below w.heap.size w wr))
  case atStart => exact ⟨_, by omega, Nat.le_refl _, rfl, Below.refl _ _⟩
  case round =>
    obtain ⟨z, hzz, hgn, rfl, bk⟩ := hrel
    by_cases hpos : 0 < z
    · obtain ⟨k, hk⟩ : ∃ k : Nat, z = ((k + 1 : Nat) : Int) := ⟨(z - 1).toNat, by omega⟩
      subst hk
      have hkn : k + 1 < n := by omega
      obtain ⟨q, hq⟩ : ∃ q, zs[k + 1]? = some q := ⟨zs[k + 1]'(by rw [HL.out]; omega), List.getElem?_eq_getElem _⟩
      obtain ⟨p, hp⟩ : ∃ p, zs[k]? = some p := ⟨zs[k]'(by rw [HL.out]; omega), List.getElem?_eq_getElem _⟩
      have hord : decide (q < p) = false := by
        obtain ⟨i1, e1⟩ := List.getElem?_eq_some_iff.1 hq
        obtain ⟨i2, e2⟩ := List.getElem?_eq_some_iff.1 hp
        have := List.pairwise_iff_getElem.1 HZ.out k (k + 1) i2 i1 (by omega)
        rw [e1, e2] at this
        exact decide_eq_false (by omega)
      obtain ⟨b, o, rfl, hb, g0⟩ := int_at (HR.out.below bk.out) hq
      obtain ⟨b2, o2, hA2, hb2, x0⟩ := int_at (HR.out.below bk.out) hp
      injection hA2 with hA2
      injection hA2 with e1 e2 _
      subst e1; subst e2
      have HG := Lib.hid hzz
      have HO := Lib.hid hord
      clear hq hp hzz hord
      have hs1 : IntKind.i64.wrap (k : Int) = (k : Int) := by rw [IntKind.wrap_i64]; omega
      have hi1 : (0 : Int) ≤ (k : Int) + 1 := by omega
      have ht1 : ((k : Int) + 1).toNat = k + 1 := by omega
      have hi2 : (k : Int) + 1 < (n : Int) := by omega
      have hi3 : (0 : Int) ≤ (k : Int) := by omega
      have hi4 : (k : Int) < (n : Int) := by omega
      go_wp2_with fail
      go_still_tail 9, (by kernel_rfl)
      change wpList _ _ _ _ _ wr.drew
      have HB : Hid (Below w.heap.size w wr.drew) := bk.out.drew
      clear bk g0 x0 hs1 ht1
      generalize wr.drew = wd at *
      go_wp2_with fail
      refine (less_int11 q p _).mono ?_
      rintro e w2 ⟨rfl, b2⟩
      rw [HO.out]
      have HB2 : Hid (Below w.heap.size w w2) := HB.out.trans (b2.mono HB.out.size)
      clear b2
      go_wp2_with fail
      go_roundg (gk - 1)
      case measure => have := HG.out; omega
      case rel => exact ⟨k, by have := HG.out; omega, by omega, by go_num, HB2⟩
    · go_wp2_with fail
      go_ret
      exact ⟨rfl, bk.out⟩

open Go.Sort in
theorem sort11_any {B n c : Nat} {A : Option Addr} {xs : List Int} {W : World} (ho : W.ownsRow B 3 1 (.slice A n c) n (ints xs)) (hn : xs.length = n) (hl : n ≤ 100000) :
    Calls Tryz.prog 25 #[.slice A n c] W fun e W' => e = .returned (.tuple #[]) ∧ W'.ownsRow B 3 1 (.slice A n c) n (ints (xs.mergeSort fun x y => decide (x ≤ y))) ∧ (B ≤ W.heap.size → Below B W W') := by
  subst hn
  have hl2 : (xs.mergeSort fun x y => decide (x ≤ y)).length = xs.length := List.length_mergeSort _
  rcases ho.2 with ⟨h0, h1⟩ | ⟨g, cap, cur, hv, hB, hg, hnc, hcm, hsz, ht⟩
  · injection h0 with hA hn0 hc0
    subst hA
    have hx : xs = [] := List.length_eq_zero_iff.1 h1
    subst hx
    refine (Tryz.slices_Sort_int_none none c W).mono ?_
    rintro e W' ⟨rfl, rfl⟩
    refine ⟨rfl, ?_, fun h => (Below.refl _ _).mono h⟩
    rw [List.mergeSort_nil]
    exact ho
  · injection hv with hA _ hc
    subst hA; subst hc
    rw [Nat.mul_one] at ht
    refine (Tryz.slices_Sort_int g 0 c xs W (holds_of_blockI hg ht) (Array.getElem?_eq_some_iff.1 hg).1 (by omega)).mono ?_
    rintro e W' ⟨rfl, n, os, rfl⟩
    exact ⟨rfl, ownsRow_sortedI hl2 hB hg hnc hcm hsz, fun h => (Below.refl B W).grown (grownBy_sortedI _) h fun k hk => by injection hk with hk; omega⟩

def allP (H : Hist) : Nat → List Int
  | 0 => []
  | k + 1 => allP H k ++ ofP H (k : Int)
section
variable {H : Hist}
theorem upI_up (n : Nat) : (upI n).Pairwise (· < ·) := by
  unfold upI
  rw [List.pairwise_map]
  exact List.pairwise_lt_range.imp fun h => by omega
theorem ofP_up (t : Int) : (ofP H t).Pairwise (· < ·) := (upI_up _).filter _
theorem ofP_in {t x : Int} (h : x ∈ ofP H t) : ∃ i : Nat, x = (i : Int) ∧ ∃ e, H.ev[i]? = some e ∧ e.t = t := by
  have h1 := (mem_upI.1 (List.mem_filter.1 h).1)
  refine ⟨x.toNat, by omega, mem_ofP.1 ?_⟩
  rwa [show ((x.toNat : Nat) : Int) = x by omega]
theorem mem_allP {x : Int} : ∀ {k : Nat}, x ∈ allP H k ↔ ∃ t, t < k ∧ x ∈ ofP H (t : Int)
  | 0 => by simp [allP]
  | k + 1 => by
    rw [allP, List.mem_append, mem_allP (k := k)]
    constructor
    · rintro (⟨t, h1, h2⟩ | h)
      · exact ⟨t, by omega, h2⟩
      · exact ⟨k, by omega, h⟩
    · rintro ⟨t, h1, h2⟩
      rcases Nat.lt_or_ge t k with h3 | h3
      · exact .inl ⟨t, h3, h2⟩
      · obtain rfl : t = k := by omega
        exact .inr h2
theorem allP_nodup : ∀ k : Nat, (allP H k).Nodup
  | 0 => List.nodup_nil
  | k + 1 => by
    rw [allP, List.nodup_append]
    refine ⟨allP_nodup k, (ofP_up _).imp fun h e => by omega, fun x hx y hy e => ?_⟩
    subst e
    obtain ⟨t, ht, h1⟩ := mem_allP.1 hx
    obtain ⟨i, rfl, e, he, h2⟩ := ofP_in h1
    obtain ⟨j, hj, e3, he3, h3⟩ := ofP_in hy
    obtain rfl : i = j := by omega
    rw [he] at he3
    injection he3 with he3
    subst he3
    omega
theorem ofP_le (t : Int) : (ofP H t).length ≤ H.ev.length := by
  unfold ofP
  have := List.length_filter_le (fun i : Int => decide ((H.ev.map (·.t))[i.toNat]? = some t)) (upI H.ev.length)
  rwa [upI_len] at this
theorem allP_le : ∀ k : Nat, (allP H k).length ≤ k * H.ev.length
  | 0 => by simp [allP]
  | k + 1 => by
    rw [allP, List.length_append, Nat.add_mul]
    have := allP_le k
    have := ofP_le (H := H) (k : Int)
    omega
theorem allP_sorted (hs : shapedB H = true) : ((allP H H.tr.length).mergeSort fun x y => decide (x ≤ y)) = upI H.ev.length := by
  have hp : ((allP H H.tr.length).mergeSort fun x y => decide (x ≤ y)).Perm (upI H.ev.length) := by
    refine (List.perm_ext_iff_of_nodup ((List.mergeSort_perm _ _).nodup_iff.2 (allP_nodup _)) (upI_nodup _)).2 fun x => ?_
    rw [List.mem_mergeSort, mem_allP]
    constructor
    · rintro ⟨t, _, h⟩
      exact (List.mem_filter.1 h).1
    · intro h
      have h1 := mem_upI.1 h
      have hi : x.toNat < H.ev.length := by omega
      have h2 := shaped_in hs (refs_t (List.getElem_mem hi))
      simp only at h2
      have h3 : H.many 0 = H.tr.length := rfl
      refine ⟨(H.ev[x.toNat]).t.toNat, by omega, ?_⟩
      have h4 : ((x.toNat : Nat) : Int) ∈ ofP H (((H.ev[x.toNat]).t.toNat : Nat) : Int) := mem_ofP.2 ⟨_, List.getElem?_eq_getElem hi, by omega⟩
      rwa [show ((x.toNat : Nat) : Int) = x by omega] at h4
  have hup : ((allP H H.tr.length).mergeSort fun x y => decide (x ≤ y)).Pairwise (· ≤ ·) := by
    have := List.pairwise_mergeSort (le := fun x y : Int => decide (x ≤ y)) (by simp; omega) (by simp; omega) (allP H H.tr.length)
    exact this.imp fun h => by simpa using h
  exact hp.eq_of_pairwise (fun a b _ _ h1 h2 => Int.le_antisymm h1 h2) hup ((upI_up _).imp fun h => Int.le_of_lt h)
theorem ofP_out (hs : shapedB H = true) : ofP H (H.tr.length : Int) = [] := by
  refine List.eq_nil_iff_forall_not_mem.2 fun x h => ?_
  obtain ⟨i, rfl, e, he, ht⟩ := ofP_in h
  have h2 := shaped_in hs (refs_t (List.mem_of_getElem? he))
  have h3 : H.many 0 = H.tr.length := rfl
  simp only at h2
  omega
end
theorem ints_one11 (xs : List Int) : ∀ u ∈ ints xs, u.oneCell' = true := fun u hu => by
  obtain ⟨z, _, rfl⟩ := List.mem_map.1 hu
  rfl
theorem GotI.all {w X Y : World} {xs ys : List Int} {v v' : Value} (h : GotI w xs v X) (hown : Y.ownsRow w.heap.size 3 1 v' (xs.length + ys.length) (ints xs ++ ints ys)) (hg : X.grownBy Y v.ownBlock) : GotI w (xs ++ ys) v' Y :=
  ⟨by rw [List.length_append, ints_append]; exact hown, h.below.grown hg h.below.size fun k hk => own_block11 h.own k hk⟩
end Go.Proofs.YtlnbmmaminflcaaGreatDoor
namespace Go.Proofs.YtlnbmmaminflcaaGreatDoor
open Go.RowKit Go.Shelf

set_option maxRecDepth 100000 in
set_option maxHeartbeats 8000000 in
theorem parts_core (m : HistM) (w : World) (hT : Tabs w) (ha : HArg w m) : Calls Tryz.prog 6 #[.agg #[.slice m.tr.1.A m.tr.1.n m.tr.1.c, .slice m.se.1.A m.se.1.n m.se.1.c, .slice m.ob.1.A m.ob.1.n m.ob.1.c, .slice m.pr.1.A m.pr.1.n m.pr.1.c, .slice m.ev.1.A m.ev.1.n m.ev.1.c, .slice m.od.1.A m.od.1.n m.od.1.c, .slice m.ma.1.A m.ma.1.n m.ma.1.c, .slice m.wa.1.A m.wa.1.n m.wa.1.c]] w fun x w' => x = .returned (.bool true) ∧ Below w.heap.size w w' := by
  obtain ⟨i0, hi, hz0, hz1, hz2⟩ := info_parts int_info11
  obtain ⟨kh, b0, hs0⟩ := ibox w #[.slice m.tr.1.A m.tr.1.n m.tr.1.c, .slice m.se.1.A m.se.1.n m.se.1.c, .slice m.ob.1.A m.ob.1.n m.ob.1.c, .slice m.pr.1.A m.pr.1.n m.pr.1.c, .slice m.ev.1.A m.ev.1.n m.ev.1.c, .slice m.od.1.A m.od.1.n m.od.1.c, .slice m.ma.1.A m.ma.1.n m.ma.1.c, .slice m.wa.1.A m.wa.1.n m.wa.1.c] 28
  obtain ⟨W0, hW0⟩ : ∃ W0, W0 = w.alloc (.cells #[.slice m.tr.1.A m.tr.1.n m.tr.1.c, .slice m.se.1.A m.se.1.n m.se.1.c, .slice m.ob.1.A m.ob.1.n m.ob.1.c, .slice m.pr.1.A m.pr.1.n m.pr.1.c, .slice m.ev.1.A m.ev.1.n m.ev.1.c, .slice m.od.1.A m.od.1.n m.od.1.c, .slice m.ma.1.A m.ma.1.n m.ma.1.c, .slice m.wa.1.A m.wa.1.n m.wa.1.c] 28) := ⟨_, rfl⟩
  rw [← hW0] at kh b0
  have KH : Hid (Blk W0 w.heap.size 28 m.cs) := kh
  have BW := Lib.hid b0
  have HT := Lib.hid hT
  have HARG := Lib.hid ha
  have HS := Lib.hid (few_small m.pl)
  clear kh b0 hs0 hT ha
  go_enter Tryz.func6, Tryz.ntmps6
  go_upto_region 1 with fail
  rw [← hW0]
  clear hW0
  go_wp2_with fail
  refine (wakes11_any W0 (HT.out.on BW.out (Nat.le_refl _))).mono ?_
  rintro _ W1 ⟨rfl, bb⟩
  have KH := Lib.hid (KH.out.below bb KH.out.lt)
  have BW := Lib.hid (BW.out.trans (bb.mono BW.out.size))
  clear bb
  have z0 : W1.cell? ⟨w.heap.size, 0, none⟩ = some (.slice m.tr.1.A m.tr.1.n m.tr.1.c) := KH.out.cell 0
  have z1 : W1.cell? ⟨w.heap.size, 1, none⟩ = some (.slice m.se.1.A m.se.1.n m.se.1.c) := KH.out.cell 1
  have z2 : W1.cell? ⟨w.heap.size, 2, none⟩ = some (.slice m.ob.1.A m.ob.1.n m.ob.1.c) := KH.out.cell 2
  have z3 : W1.cell? ⟨w.heap.size, 3, none⟩ = some (.slice m.pr.1.A m.pr.1.n m.pr.1.c) := KH.out.cell 3
  have z4 : W1.cell? ⟨w.heap.size, 4, none⟩ = some (.slice m.ev.1.A m.ev.1.n m.ev.1.c) := KH.out.cell 4
  have z5 : W1.cell? ⟨w.heap.size, 5, none⟩ = some (.slice m.od.1.A m.od.1.n m.od.1.c) := KH.out.cell 5
  have z6 : W1.cell? ⟨w.heap.size, 6, none⟩ = some (.slice m.ma.1.A m.ma.1.n m.ma.1.c) := KH.out.cell 6
  have z7 : W1.cell? ⟨w.heap.size, 7, none⟩ = some (.slice m.wa.1.A m.wa.1.n m.wa.1.c) := KH.out.cell 7
  go_wp2_with fail
  refine (few11_any m W1 (HARG.out.on BW.out)).mono ?_
  rintro _ Y ⟨h, rfl, ho, hp, bb⟩
  have hbx := HBx.new (w := w) ho BW.out.size #[.slice h.tr.1.A h.tr.1.n h.tr.1.c, .slice h.se.1.A h.se.1.n h.se.1.c, .slice h.ob.1.A h.ob.1.n h.ob.1.c, .slice h.pr.1.A h.pr.1.n h.pr.1.c, .slice h.ev.1.A h.ev.1.n h.ev.1.c, .slice h.od.1.A h.od.1.n h.od.1.c, .slice h.ma.1.A h.ma.1.n h.ma.1.c, .slice h.wa.1.A h.wa.1.n h.wa.1.c] rfl
  have b2 : Below Y.heap.size Y (Y.alloc (.cells #[.slice h.tr.1.A h.tr.1.n h.tr.1.c, .slice h.se.1.A h.se.1.n h.se.1.c, .slice h.ob.1.A h.ob.1.n h.ob.1.c, .slice h.pr.1.A h.pr.1.n h.pr.1.c, .slice h.ev.1.A h.ev.1.n h.ev.1.c, .slice h.od.1.A h.od.1.n h.od.1.c, .slice h.ma.1.A h.ma.1.n h.ma.1.c, .slice h.wa.1.A h.wa.1.n h.wa.1.c] 28)) := (Below.refl _ _).alloc (Nat.le_refl _) _
  have bb := bb.trans (b2.mono bb.size)
  have KH := Lib.hid (KH.out.below bb KH.out.lt)
  have BW := Lib.hid (BW.out.trans (bb.mono BW.out.size))
  have HPh := Lib.hid hp
  have HH := Lib.hid hbx
  clear z0 z1 z2 z3 z4 z5 z6 z7 ho hp bb b2 hbx
  go_upto_region 4 with fail
  generalize Y.alloc (.cells #[.slice h.tr.1.A h.tr.1.n h.tr.1.c, .slice h.se.1.A h.se.1.n h.se.1.c, .slice h.ob.1.A h.ob.1.n h.ob.1.c, .slice h.pr.1.A h.pr.1.n h.pr.1.c, .slice h.ev.1.A h.ev.1.n h.ev.1.c, .slice h.od.1.A h.od.1.n h.od.1.c, .slice h.ma.1.A h.ma.1.n h.ma.1.c, .slice h.wa.1.A h.wa.1.n h.wa.1.c] 28) = Xh at *
  generalize Y.heap.size = Bh at *
  have HSh : Hid (Small h.pl) := by show Small h.pl; rw [HPh.out]; exact HS.out
  have HEV : Hid (h.pl.ev.length ≤ 80) := by show h.pl.ev.length ≤ 80; rw [HPh.out]; exact few_ev m.pl
  have HTR : Hid (h.pl.tr.length ≤ 20) := by show h.pl.tr.length ≤ 20; rw [HPh.out]; exact few_tr m.pl
  have LH : Hid (h.pl.ev.length = h.ev.1.n) := (pl_lens HH.out.rd).1.1
  have LT : Hid (h.pl.tr.length = h.tr.1.n) := (pl_lens HH.out.rd).2
  have z0 : Xh.cell? ⟨Bh, 0, none⟩ = some (.slice h.tr.1.A h.tr.1.n h.tr.1.c) := HH.out.blk.cell 0
  have z1 : Xh.cell? ⟨Bh, 1, none⟩ = some (.slice h.se.1.A h.se.1.n h.se.1.c) := HH.out.blk.cell 1
  have z2 : Xh.cell? ⟨Bh, 2, none⟩ = some (.slice h.ob.1.A h.ob.1.n h.ob.1.c) := HH.out.blk.cell 2
  have z3 : Xh.cell? ⟨Bh, 3, none⟩ = some (.slice h.pr.1.A h.pr.1.n h.pr.1.c) := HH.out.blk.cell 3
  have z4 : Xh.cell? ⟨Bh, 4, none⟩ = some (.slice h.ev.1.A h.ev.1.n h.ev.1.c) := HH.out.blk.cell 4
  have z5 : Xh.cell? ⟨Bh, 5, none⟩ = some (.slice h.od.1.A h.od.1.n h.od.1.c) := HH.out.blk.cell 5
  have z6 : Xh.cell? ⟨Bh, 6, none⟩ = some (.slice h.ma.1.A h.ma.1.n h.ma.1.c) := HH.out.blk.cell 6
  have z7 : Xh.cell? ⟨Bh, 7, none⟩ = some (.slice h.wa.1.A h.wa.1.n h.wa.1.c) := HH.out.blk.cell 7
  go_wp2_with fail
  refine (check11_any h HSh.out Xh (HT.out.on BW.out (Nat.le_refl _)) HH.out.rd).mono ?_
  rintro _ X1 ⟨rfl, bb⟩
  clear z0 z1 z2 z3 z4 z5 z6 z7
  have HH := Lib.hid (HH.out.on bb)
  have BW := Lib.hid (BW.out.trans (bb.mono BW.out.size))
  clear bb
  cases hr : rightB h.pl
  · have HCE : Hid (checkE h.pl = 210) := checkE_no hr
    have HR := Lib.hid hr
    clear hr
    rw [HCE.out]
    have z0 : X1.cell? ⟨Bh, 0, none⟩ = some (.slice h.tr.1.A h.tr.1.n h.tr.1.c) := HH.out.blk.cell 0
    have z1 : X1.cell? ⟨Bh, 1, none⟩ = some (.slice h.se.1.A h.se.1.n h.se.1.c) := HH.out.blk.cell 1
    have z2 : X1.cell? ⟨Bh, 2, none⟩ = some (.slice h.ob.1.A h.ob.1.n h.ob.1.c) := HH.out.blk.cell 2
    have z3 : X1.cell? ⟨Bh, 3, none⟩ = some (.slice h.pr.1.A h.pr.1.n h.pr.1.c) := HH.out.blk.cell 3
    have z4 : X1.cell? ⟨Bh, 4, none⟩ = some (.slice h.ev.1.A h.ev.1.n h.ev.1.c) := HH.out.blk.cell 4
    have z5 : X1.cell? ⟨Bh, 5, none⟩ = some (.slice h.od.1.A h.od.1.n h.od.1.c) := HH.out.blk.cell 5
    have z6 : X1.cell? ⟨Bh, 6, none⟩ = some (.slice h.ma.1.A h.ma.1.n h.ma.1.c) := HH.out.blk.cell 6
    have z7 : X1.cell? ⟨Bh, 7, none⟩ = some (.slice h.wa.1.A h.wa.1.n h.wa.1.c) := HH.out.blk.cell 7
    go_wp2_with fail
    refine (of11_any h 0 HSh.out X1 (HT.out.on BW.out (Nat.le_refl _)) HH.out.rd).mono ?_
    rintro _ X2 ⟨A, c, xs, rfl, ho, bb, hxs⟩
    rw [HR.out] at hxs
    obtain rfl : xs = [] := hxs
    rw [HCE.out]
    have BW := Lib.hid (BW.out.trans (bb.mono BW.out.size))
    clear ho bb z0 z1 z2 z3 z4 z5 z6 z7
    go_wp2_with fail
    go_ret
    exact ⟨rfl, BW.out⟩
  · have HCE : Hid (checkE h.pl = 0) := checkE_ok hr
    have HR := Lib.hid hr
    have HSP := Lib.hid (right_shaped hr)
    clear hr
    rw [HCE.out]
    have z0 : X1.cell? ⟨Bh, 0, none⟩ = some (.slice h.tr.1.A h.tr.1.n h.tr.1.c) := HH.out.blk.cell 0
    obtain ⟨nt, hnt⟩ : ∃ nt, h.tr.1.n = nt := ⟨_, rfl⟩
    have HNT := Lib.hid hnt
    have hn20 : nt ≤ 20 := by have := HTR.out; have := LT.out; omega
    go_wp2_with fail
    clear z0 hnt
    go_loopw [6, 38] (fun v i wr => ∃ k : Nat, k ≤ nt ∧ i = .int .i64 k ∧ Hid (GotI X1 (allP h.pl k) v wr)) (fun _ i _ => nt - (intOf i).toNat)
    case atStart => exact ⟨0, Nat.zero_le _, rfl, ⟨World.ownsRow_nil _ _ _ _, Below.refl _ _⟩⟩
    case round =>
      obtain ⟨k, hk, rfl, HG⟩ := hrel
      have HH2 := Lib.hid (HH.out.on HG.out.below)
      have BW2 := Lib.hid (BW.out.trans (HG.out.below.mono BW.out.size))
      by_cases hkn : k < nt
      · have hlt : (k : Int) < (nt : Int) := by omega
        have z0 : wr.cell? ⟨Bh, 0, none⟩ = some (.slice h.tr.1.A h.tr.1.n h.tr.1.c) := HH2.out.blk.cell 0
        have z1 : wr.cell? ⟨Bh, 1, none⟩ = some (.slice h.se.1.A h.se.1.n h.se.1.c) := HH2.out.blk.cell 1
        have z2 : wr.cell? ⟨Bh, 2, none⟩ = some (.slice h.ob.1.A h.ob.1.n h.ob.1.c) := HH2.out.blk.cell 2
        have z3 : wr.cell? ⟨Bh, 3, none⟩ = some (.slice h.pr.1.A h.pr.1.n h.pr.1.c) := HH2.out.blk.cell 3
        have z4 : wr.cell? ⟨Bh, 4, none⟩ = some (.slice h.ev.1.A h.ev.1.n h.ev.1.c) := HH2.out.blk.cell 4
        have z5 : wr.cell? ⟨Bh, 5, none⟩ = some (.slice h.od.1.A h.od.1.n h.od.1.c) := HH2.out.blk.cell 5
        have z6 : wr.cell? ⟨Bh, 6, none⟩ = some (.slice h.ma.1.A h.ma.1.n h.ma.1.c) := HH2.out.blk.cell 6
        have z7 : wr.cell? ⟨Bh, 7, none⟩ = some (.slice h.wa.1.A h.wa.1.n h.wa.1.c) := HH2.out.blk.cell 7
        go_wp2_with fail
        refine (of11_any h (k : Int) HSh.out wr (HT.out.on BW2.out (Nat.le_refl _)) HH2.out.rd).mono ?_
        rintro _ w1 ⟨A, c, xs, rfl, ho, bb, hxs⟩
        rw [HCE.out]
        have HX : Hid (xs = ofP h.pl (k : Int)) := by show xs = _; rw [hxs, HR.out, if_pos rfl]
        have HX2 : Hid (xs.length ≤ 80) := by have h1 := ofP_le (H := h.pl) (k : Int); have h2 := HEV.out; show xs.length ≤ 80; rw [HX.out]; omega
        have SL := Lib.hid (Reads.of_own ho)
        have HG1 := Lib.hid (HG.out.on bb)
        have HH3 := Lib.hid (HH2.out.on bb)
        clear hxs ho bb HG HH2 BW2 z0 z1 z2 z3 z4 z5 z6 z7
        go_wp2_with fail
        refine (sorted_int11 A xs.length c xs (by have := HX2.out; omega) (by rw [HX.out]; exact ofP_up _) w1 SL.out).mono ?_
        rintro _ w2 ⟨rfl, bb⟩
        have SL := Lib.hid ((SL.out.below bb).more bb.size)
        have HG2 := Lib.hid (HG1.out.on bb)
        have HH4 := Lib.hid (HH3.out.on bb)
        clear bb HG1 HH3
        obtain ⟨n, hn⟩ : ∃ n, xs.length = n := ⟨_, rfl⟩
        have HN := Lib.hid hn
        have hn80 : n ≤ 80 := by have := HX2.out; omega
        rw [hn] at SL
        go_wp2_with fail
        clear hn
        go_loopw [56] (fun v wr => ∃ j : Nat, j ≤ n ∧ v = .int .i64 j ∧ Hid (Below w2.heap.size w2 wr)) (fun v _ => n - (intOf v).toNat)
        case atStart => exact ⟨0, Nat.zero_le _, rfl, Below.refl _ _⟩
        case round =>
          obtain ⟨j, hj, rfl, BX⟩ := hrel
          by_cases hjn : j < n
          · have hlt2 : (j : Int) < (n : Int) := by omega
            obtain ⟨z, hz⟩ : ∃ z, xs[j]? = some z := ⟨xs[j]'(by rw [HN.out]; exact hjn), List.getElem?_eq_getElem _⟩
            obtain ⟨i, rfl, e, he, het⟩ := ofP_in (by rw [← HX.out]; exact List.mem_of_getElem? hz)
            obtain ⟨b, o, hA, hb, g0⟩ := int_at (SL.out.below BX.out) hz
            obtain ⟨b2, o2, hd, hA2, hbl, hs, hc, hsl⟩ := ev_at (HH4.out.on BX.out).rd he
            have c1 : wr.cell? ⟨b2, o2 + i * 9 + 1, none⟩ = some (.int .i64 (k : Int)) := by rw [← het]; exact hc 1 _ rfl
            have hil : (i : Int) < (h.ev.1.n : Int) := by have h1 := (List.getElem?_eq_some_iff.1 he).1; have := LH.out; omega
            have z4 : wr.cell? ⟨Bh, 4, none⟩ = some (.slice (some ⟨b2, o2, none⟩) h.ev.1.n h.ev.1.c) := by rw [← hA2]; exact (HH4.out.on BX.out).blk.cell 4
            rw [hA]
            clear hz hA hb hA2 hbl hs hc hsl he het
            go_wp2_with fail
            go_roundw
            case rel => exact ⟨j + 1, hjn, by go_num, BX⟩
            case measure => simp [intOf]; omega
          · have hjn2 : j = n := by omega
            rw [hjn2]
            clear hjn2 hjn hj
            have hnl : ¬ ((n : Int) < (n : Int)) := by omega
            have SL := Lib.hid (SL.out.below BX.out)
            have HG3 := Lib.hid (HG2.out.on BX.out)
            have hal := allP_le (H := h.pl) k
            have hal2 : k * h.pl.ev.length ≤ 20 * 80 := Nat.mul_le_mul (by omega) HEV.out
            have hal3 : (allP h.pl k).length ≤ 1600 := by omega
            have hb9 := HG3.out.below.size
            clear hal hal2 HG2 BX
            go_wp2_with (at_builtin; refine wpList_append_any _ rfl (.tmp 69) (.tmp 70) 45 rfl X1.heap.size 3 i0 _ 1 8 Tryz.underlying45 hi hz0 hz1 hz2 rfl (by decide) _ _ _ rfl HG3.out.own _ A n c (ints xs) rfl SL.out (ints_one11 xs) (by unfold maxLen; omega) (by omega) hb9 ?_; intro v5 w5 hown5 hgrow5 _)
            have HG5 : Hid (GotI X1 (allP h.pl (k + 1)) v5 w5) := by
              have h9 := HG3.out.all (ys := xs) (by rw [HN.out]; exact hown5) hgrow5
              rw [HX.out] at h9
              exact h9
            clear hown5 hgrow5 HG3 SL hb9 hal3
            go_wp2_with fail
            go_roundw
            case rel => exact ⟨k + 1, hkn, by go_num, HG5⟩
            case measure => simp [intOf]; omega
      · have hke : k = nt := by omega
        rw [hke] at HG ⊢
        clear hke hkn hk
        have hnl : ¬ ((nt : Int) < (nt : Int)) := by omega
        have HLN : Hid ((allP h.pl nt).length = h.ev.1.n) := by
          have h1 := congrArg List.length (allP_sorted HSP.out)
          rw [List.length_mergeSort, upI_len, LT.out, HNT.out, LH.out] at h1
          exact h1
        have hle : h.ev.1.n ≤ 80 := by have := LH.out; have := HEV.out; omega
        obtain ⟨A, c, rfl, hc1, hc2⟩ := own_form2 HG.out.own
        have HO := Lib.hid HG.out.own
        rw [HLN.out] at HO ⊢
        go_wp2_with fail
        refine (sort11_any HO.out HLN.out (by omega)).mono ?_
        rintro _ ws ⟨rfl, hos, hbs⟩
        have bs := hbs HG.out.below.size
        have HG9 : Hid (Below X1.heap.size X1 ws) := HG.out.below.trans bs
        have HSR : Hid (((allP h.pl nt).mergeSort fun x y => decide (x ≤ y)) = upI h.ev.1.n) := by
          have h1 := allP_sorted HSP.out
          rw [LT.out, HNT.out, LH.out] at h1
          exact h1
        rw [HSR.out] at hos
        have SR := Lib.hid (Reads.of_own hos)
        have HH5 := Lib.hid (HH.out.on HG9.out)
        have BW5 := Lib.hid (BW.out.trans (HG9.out.mono BW.out.size))
        clear hos hbs bs HG HH2 BW2 HO hc1 hc2
        have z0 : ws.cell? ⟨Bh, 0, none⟩ = some (.slice h.tr.1.A h.tr.1.n h.tr.1.c) := HH5.out.blk.cell 0
        have z1 : ws.cell? ⟨Bh, 1, none⟩ = some (.slice h.se.1.A h.se.1.n h.se.1.c) := HH5.out.blk.cell 1
        have z2 : ws.cell? ⟨Bh, 2, none⟩ = some (.slice h.ob.1.A h.ob.1.n h.ob.1.c) := HH5.out.blk.cell 2
        have z3 : ws.cell? ⟨Bh, 3, none⟩ = some (.slice h.pr.1.A h.pr.1.n h.pr.1.c) := HH5.out.blk.cell 3
        have z4 : ws.cell? ⟨Bh, 4, none⟩ = some (.slice h.ev.1.A h.ev.1.n h.ev.1.c) := HH5.out.blk.cell 4
        have z5 : ws.cell? ⟨Bh, 5, none⟩ = some (.slice h.od.1.A h.od.1.n h.od.1.c) := HH5.out.blk.cell 5
        have z6 : ws.cell? ⟨Bh, 6, none⟩ = some (.slice h.ma.1.A h.ma.1.n h.ma.1.c) := HH5.out.blk.cell 6
        have z7 : ws.cell? ⟨Bh, 7, none⟩ = some (.slice h.wa.1.A h.wa.1.n h.wa.1.c) := HH5.out.blk.cell 7
        go_wp2_with fail
        refine (of11_any h (h.tr.1.n : Int) HSh.out ws (HT.out.on BW5.out (Nat.le_refl _)) HH5.out.rd).mono ?_
        rintro _ w6 ⟨A2, c2, xs, rfl, ho, bb, hxs⟩
        rw [HR.out, if_pos rfl, ← LT.out, ofP_out HSP.out] at hxs
        subst hxs
        rw [HCE.out]
        have SR := Lib.hid ((SR.out.below bb).more bb.size)
        have HH6 := Lib.hid (HH5.out.on bb)
        have BW6 := Lib.hid (BW5.out.trans (bb.mono BW5.out.size))
        clear ho bb HH5 BW5 z0 z1 z2 z3 z4 z5 z6 z7
        go_wp2_with fail
        go_loopw [85] (fun v wr => ∃ j : Nat, j ≤ h.ev.1.n ∧ v = .int .i64 j ∧ Hid (Below w6.heap.size w6 wr)) (fun v _ => h.ev.1.n - (intOf v).toNat)
        case atStart => exact ⟨0, Nat.zero_le _, rfl, Below.refl _ _⟩
        case round =>
          obtain ⟨j, hj, rfl, BX⟩ := hrel
          by_cases hjn : j < h.ev.1.n
          · have hlt2 : (j : Int) < (h.ev.1.n : Int) := by omega
            obtain ⟨b, o, hA, hb, g0⟩ := int_at (SR.out.below BX.out) (upI_at hjn)
            rw [hA]
            clear hA hb
            go_wp2_with fail
            go_roundw
            case rel => exact ⟨j + 1, hjn, by go_num, BX⟩
            case measure => simp [intOf]; omega
          · have hje : j = h.ev.1.n := by omega
            rw [hje]
            clear hje hjn hj
            have hnl2 : ¬ ((h.ev.1.n : Int) < (h.ev.1.n : Int)) := by omega
            have z4 : wr.cell? ⟨Bh, 4, none⟩ = some (.slice h.ev.1.A h.ev.1.n h.ev.1.c) := (HH6.out.on BX.out).blk.cell 4
            go_wp2_with fail
            go_ret
            exact ⟨rfl, BW6.out.trans (BX.out.mono BW6.out.size)⟩
end Go.Proofs.YtlnbmmaminflcaaGreatDoor
