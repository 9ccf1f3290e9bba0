/- Layer scc: its calls, all together. -/
import Derived.Shelf.SlSortCmp.NoneTotal
import Derived.Test.YtpjbgbgahjggiaaGreatMS14
import Derived.Test.YtpjbgbgahjggiaaGreatMS13
-- holds: YtpjbgbgahjggiaaGreatCzf YtpjbgbgahjggiaaGreatCzg YtpjbgbgahjggiaaGreatCzh
namespace Go.Proofs.YtpjbgbgahjggiaaGreat
open Go.RowKit Go.Shelf Go.Sort

abbrev Rw := Option Addr × Nat × Nat
def slR (r : Rw) : Value := .slice r.1 r.2.1 r.2.2
theorem eg_sets1 : ∀ args w, (callFunc 28 args).run Tryz.prog w = .ok (.enter 28 args) w := enters_of Tryz.func28 (by kernel_rfl) rfl
set_option maxHeartbeats 1000000 in
theorem sets1_any (g1 n1 c1 g2 n2 c2 : Nat) (x y : Int) (W : World) (h1 : W.cell? ⟨g1, 0, none⟩ = some (.int .i64 x)) (h2 : W.cell? ⟨g2, 0, none⟩ = some (.int .i64 y)) (hn1 : 0 < n1) (hn2 : 0 < n2) (hx : 0 ≤ x ∧ x < 1000) (hy : 0 ≤ y ∧ y < 1000) :
    Calls Tryz.prog 28 #[.slice (some ⟨g1, 0, none⟩) n1 c1, .slice (some ⟨g2, 0, none⟩) n2 c2] W fun e w' => e = .returned (.int .i64 (x - y)) ∧ ∃ q, w' = W.drewN q := by
  have hi1 : (0 : Int) < (n1 : Int) := by omega
  have hi2 : (0 : Int) < (n2 : Int) := by omega
  have hw : IntKind.i64.wrap (x - y) = x - y := by rw [IntKind.wrap_i64]; omega
  have hw2 : wrap64 (x - y) = x - y := by unfold wrap64; omega
  go_enter Tryz.func28, Tryz.ntmps28
  go_upto_region 1 with fail
  go_quiet (fail)
  go_wp2_with fail
  go_ret
  exact ⟨by first | rfl | exact congrArg (fun z => Ending.returned (Value.int .i64 z)) hw2, _, rfl⟩

section
variable {rs : List Rw} {ls : List (List Int)} {n : Nat}
def rowAt (rs : List Rw) (i : Nat) : Rw := rs.getD i (rs.headD (none, 0, 0))
def lsAt (ls : List (List Int)) (i : Nat) : List Int := ls.getD i (ls.headD [])
def hdAt (ls : List (List Int)) (i : Nat) : Int := (lsAt ls i).headD 0
theorem rows_at (h1 : rs.length = n) (h2 : ls.length = n) (hn : 0 < n) (i : Nat) : ∃ (j : Nat) (r : Rw) (l : List Int), rs[j]? = some r ∧ ls[j]? = some l ∧ rowAt rs i = r ∧ lsAt ls i = l ∧ (i < n → j = i) := by
  by_cases hi : i < n
  · refine ⟨i, rs[i], ls[i], List.getElem?_eq_getElem _, List.getElem?_eq_getElem _, ?_, ?_, fun _ => rfl⟩
    · unfold rowAt
      rw [List.getD_eq_getElem?_getD, List.getElem?_eq_getElem (by omega)]
      rfl
    · unfold lsAt
      rw [List.getD_eq_getElem?_getD, List.getElem?_eq_getElem (by omega)]
      rfl
  · refine ⟨0, rs[0], ls[0], List.getElem?_eq_getElem _, List.getElem?_eq_getElem _, ?_, ?_, fun h => absurd h hi⟩
    · unfold rowAt
      rw [List.getD_eq_getElem?_getD, List.getElem?_eq_none (by omega)]
      cases rs with
      | nil => simp at h1; omega
      | cons r rs => rfl
    · unfold lsAt
      rw [List.getD_eq_getElem?_getD, List.getElem?_eq_none (by omega)]
      cases ls with
      | nil => simp at h2; omega
      | cons r rs => rfl
theorem range_lsAt (h2 : ls.length = n) : (List.range n).map (lsAt ls) = ls := by
  refine List.ext_getElem (by simp [h2]) fun i h3 h4 => ?_
  rw [List.getElem_map, List.getElem_range]
  unfold lsAt
  rw [List.getD_eq_getElem?_getD, List.getElem?_eq_getElem h4]
  rfl
end
/-- A row of numbers in memory of one's own: where it begins. -/
theorem row_head {W : World} {base : Nat} {r : Rw} {l : List Int} (h : W.ownsRow base 3 1 (slR r) r.2.1 (ints l)) (hl : l ≠ []) :
    ∃ g, r.1 = some ⟨g, 0, none⟩ ∧ r.2.1 = l.length ∧ g < W.heap.size ∧ W.cell? ⟨g, 0, none⟩ = some (.int .i64 (l.headD 0)) ∧ ∃ cur, Blk W g 3 cur := by
  have h1 := h.1
  rw [ints_length, Nat.mul_one] at h1
  have hpos : 0 < l.length := List.length_pos_iff.2 hl
  rcases h.2 with ⟨e1, e2⟩ | ⟨g, cap, cur, e1, hb, hk, h3, h4, h5, h6⟩
  · omega
  · unfold slR at e1
    injection e1 with e1 e3 e4
    have hk2 : Blk W g 3 cur := hk
    refine ⟨g, e1, h1.symm, hk2.lt, ?_, cur, hk2⟩
    rw [hk2.cell]
    have h7 : (ints l)[0]? = some (.int .i64 (l.headD 0)) := by
      cases l with
      | nil => exact absurd rfl hl
      | cons a l => rfl
    rw [← h6, List.getElem?_take, if_pos (by omega), Array.getElem?_toList] at h7
    exact h7

set_option maxHeartbeats 2000000 in
theorem rsortRows_any {base n c : Nat} {A : Option Addr} {rs : List Rw} {ls : List (List Int)} {W : World} (hrs : rs.length = n) (hls : ls.length = n) (hn : 0 < n) (hn2 : n ≤ 1000) (hown : W.ownsRow base 27 1 (.slice A n c) n (rs.map slR))
    (hr : ∀ (i : Nat) (r : Rw) (l : List Int), rs[i]? = some r → ls[i]? = some l → W.ownsRow base 3 1 (slR r) r.2.1 (ints l) ∧ l ≠ [] ∧ 0 ≤ l.headD 0 ∧ l.headD 0 < 1000) :
    Calls Tryz.prog 27 #[.slice A n c, .func (.func 28) #[] #[]] W fun e W' => e = .returned (.tuple #[]) ∧
      ∃ L, L.Perm ls ∧ (L.Pairwise fun a b => a.headD 0 ≤ b.headD 0) ∧ IRows W' base A n c L ∧ W.grownBy W' (Value.slice A n c).ownBlock := by
  rcases hown.2 with ⟨_, e2⟩ | ⟨g, cap, cur, e1, hb, hk, h3, h4, h5, h6⟩
  · omega
  injection e1 with e1 e3 e4
  subst e1; subst e4
  have hk2 : Blk W g 27 cur := hk
  have hat := rows_at hrs hls hn
  have hO : SWO (Go.Proofs.ltOf fun i j => hdAt ls i - hdAt ls j) := {
    irrefl := fun x => by unfold Go.Proofs.ltOf; simp
    trans := fun x y z h1 h2 => by unfold Go.Proofs.ltOf at *; simp at *; omega
    ntrans := fun x y z h1 h2 => by unfold Go.Proofs.ltOf at *; simp at *; omega }
  have hcmp : Go.Proofs.CmpLays1 Tryz.prog 28 #[] (fun i => slR (rowAt rs i)) (fun i j => hdAt ls i - hdAt ls j) g 0 (Array.range n).size W := by
    intro m os dk _ x y
    obtain ⟨j1, r1, l1, a1, a2, a3, a4, _⟩ := hat x
    obtain ⟨j2, r2, l2, b1, b2, b3, b4, _⟩ := hat y
    obtain ⟨o1, o2, o3, o4⟩ := hr j1 r1 l1 a1 a2
    obtain ⟨p1, p2, p3, p4⟩ := hr j2 r2 l2 b1 b2
    obtain ⟨g1, u1, u2, u3, u4, cu1, u5⟩ := row_head o1 o2
    obtain ⟨g2, v1, v2, v3, v4, cu2, v5⟩ := row_head p1 p2
    have hg := grownBy_sortedA (w := W) (g := g) (n := m) (os := os) (fun i => slR (rowAt rs i)) dk
    have n1 : g1 ≠ g := Blk.ne_ u5 hk2 (by decide)
    have n2 : g2 ≠ g := Blk.ne_ v5 hk2 (by decide)
    have c1 := (World.cell?_of_block (a := ⟨g1, 0, none⟩) (hg.block g1 u3 (fun e => n1 (by injection e)))).trans u4
    have c2 := (World.cell?_of_block (a := ⟨g2, 0, none⟩) (hg.block g2 v3 (fun e => n2 (by injection e)))).trans v4
    have hc := sets1_any g1 r1.2.1 r1.2.2 g2 r2.2.1 r2.2.2 _ _ _ c1 c2 (by rw [u2]; exact List.length_pos_iff.2 o2) (by rw [v2]; exact List.length_pos_iff.2 p2) ⟨o3, o4⟩ ⟨p3, p4⟩
    rw [← u1, ← v1] at hc
    simp only [a3, b3]
    have e5 : hdAt ls x = l1.headD 0 := by unfold hdAt; rw [a4]
    have e6 : hdAt ls y = l2.headD 0 := by unfold hdAt; rw [b4]
    rw [e5, e6]
    refine hc.mono ?_
    rintro e w' ⟨rfl, q, rfl⟩
    exact ⟨rfl, q, #[], by rw [grow_empty]; rfl⟩
  have hH : Holds (fun i => slR (rowAt rs i)) W g 0 (Array.range n) := by
    intro j hj
    have hj' : j < n := by simpa using hj
    refine ⟨?_, hk2.frozen _⟩
    obtain ⟨j1, r1, l1, a1, a2, a3, a4, a5⟩ := hat j
    obtain rfl := a5 hj'
    have e7 : (Array.range n)[j1]! = j1 := by simp [hj']
    rw [e7, Nat.zero_add, hk2.cell]
    simp only [a3]
    have h7 : (rs.map slR)[j1]? = some (slR r1) := by rw [List.getElem?_map, a1]; rfl
    rw [← h6, List.getElem?_take, if_pos (by omega), Array.getElem?_toList] at h7
    exact h7
  have hc := Go.Proofs.Any.slices_SortFunc Tryz.sortRows (fun i => slR (rowAt rs i)) (fun _ => rfl) (fun i j => hdAt ls i - hdAt ls j) hO 28 #[] g 0 c (Array.range n) W eg_sets1 hcmp hH hk2.lt (by simp; omega)
  rw [Array.size_range] at hc
  refine Calls.mono (show Calls Tryz.prog 27 _ W _ from hc) ?_
  rintro e W' ⟨rfl, d', q, os, hp, hs, rfl⟩
  obtain ⟨hp1, _, hp3⟩ := hp
  rw [Array.size_range] at hp1
  have hperm : d'.toList.Perm (List.range n) := by
    have h8 : (d'.extract 0 n).toList = d'.toList := by rw [← hp1]; simp
    have h9 : ((Array.range n).extract 0 n).toList = List.range n := by simp
    rwa [h8, h9] at hp3
  have hlt : ∀ x ∈ d'.toList, x < n := fun x hx => List.mem_range.1 (hperm.mem_iff.1 hx)
  have hll : (d'.toList.map (lsAt ls)).length = n := by rw [List.length_map]; simpa using hp1
  have hg := grownBy_sortedA (w := W) (g := g) (n := q) (os := os) (fun i => slR (rowAt rs i)) d'
  refine ⟨rfl, d'.toList.map (lsAt ls), ?_, ?_, ⟨d'.toList.map (rowAt rs), by rw [List.length_map]; simpa using hp1, hll, ⟨?_, .inr ⟨g, c, putCells (fun i => slR (rowAt rs i)) 0 d' cur, rfl, hb, heap_sortedA _ d' hk2, h3, h4, ?_, ?_⟩⟩, fun i r l hir hil => ?_⟩, hg⟩
  · have := hperm.map (lsAt ls)
    rwa [range_lsAt hls] at this
  · rw [List.pairwise_iff_getElem]
    intro i j hi hj hij
    rw [hll] at hi hj
    have hsz : d'.size = n := hp1
    have := hs i j (Nat.zero_le _) hij (by omega)
    rw [List.getElem_map, List.getElem_map]
    rw [getElem!_pos d' i (by omega), getElem!_pos d' j (by omega)] at this
    unfold Go.Proofs.ltOf at this
    simp at this
    unfold hdAt at this
    simp only [Array.getElem_toList]
    omega
  · rw [List.length_map, List.length_map]
    simpa using hp1
  · simp [putCells, h5]
  · have := take_putCellsA (fun i => slR (rowAt rs i)) cur d' (by omega)
    rw [hp1] at this
    rw [Nat.mul_one, this, List.map_map]
    rfl
  · rw [List.getElem?_map] at hir hil
    cases hx : d'.toList[i]? with
    | none => rw [hx] at hir; cases hir
    | some x =>
      rw [hx] at hir hil
      simp at hir hil
      obtain ⟨j, r1, l1, a1, a2, a3, a4, _⟩ := hat x
      rw [a3] at hir
      rw [a4] at hil
      subst hir; subst hil
      obtain ⟨o1, o2, _⟩ := hr j r1 l1 a1 a2
      obtain ⟨g1, u1, _, u3, _, cu1, u5⟩ := row_head o1 o2
      refine own_heap6 o1 fun k hk9 => hg.block k (own_in o1 hk9).2.1 fun e => ?_
      have : k = g := by injection e
      subst this
      obtain ⟨_, _, cu2, hb2⟩ := own_in o1 hk9
      exact absurd rfl (Blk.ne_ hb2 hk2 (by decide))
set_option maxRecDepth 100000 in
set_option maxHeartbeats 2000000 in
/-- A component, in memory of its own. -/
theorem ccopied_any {b o cap : Nat} {c : List Int} {B : Nat} (hl : c.length ≤ 1000) (w : World) (hR : Reads w B 1 (some ⟨b, o, none⟩) c.length (ints c)) (hB : B ≤ w.heap.size) :
    Calls Tryz.prog 25 #[.slice (some ⟨b, o, none⟩) c.length cap] w fun e w' => e = .returned (.slice (some ⟨w.heap.size, 0, none⟩) c.length c.length) ∧ Blk w' w.heap.size 3 (ints c).toArray ∧ Below w.heap.size w w' := by
  have hmk : (Instr.makeSlice 27 (.int .i64 (c.length : Int)) (.int .i64 (c.length : Int))).run Tryz.prog w = .ok (.slice (some ⟨w.heap.size, 0, none⟩) c.length c.length) (w.alloc (.cells (ints (List.replicate c.length 0)).toArray 3)) := int_make c.length (c.length : Int) rfl (by omega) w
  have hb1 : Below w.heap.size w (w.alloc (.cells (ints (List.replicate c.length 0)).toArray 3)) := (Below.refl _ _).alloc (Nat.le_refl _) _
  have hsz : (w.alloc (.cells (ints (List.replicate c.length 0)).toArray 3)).heap.size = w.heap.size + 1 := by simp
  have hsrc : Src (w.alloc (.cells (ints (List.replicate c.length 0)).toArray 3)) w.heap.size 1 (some ⟨b, o, none⟩) c.length (ints c) := Src.of_reads (hR.alloc hB _) (by omega) (by omega) hB
  have hbk := Blk.new w 3 (ints (List.replicate c.length 0)).toArray
  have hr := run_copy_src (P := Tryz.prog) _ 27 27 3 3 w.heap.size 0 c.length c.length 1 (some ⟨b, o, none⟩) c.length cap (ints (List.replicate c.length 0)).toArray 3 (ints c) Tryz.underlying27 (by kernel_rfl) hbk hsrc (Nat.le_refl _) (by simp [ints]) (ints_one c)
  have e1 : (ints (List.replicate c.length 0)).toArray.toList.take 0 ++ ints c ++ (ints (List.replicate c.length 0)).toArray.toList.drop (0 + (ints c).length) = ints c := by
    rw [List.take_zero, List.nil_append, List.drop_of_length_le (by simp [ints]), List.append_nil]
  rw [e1] at hr
  obtain ⟨h1, h2⟩ := setRow_grown hbk (ints c).toArray
  have HE : Hid (Blk ((w.alloc (.cells (ints (List.replicate c.length 0)).toArray 3)).setRow w.heap.size (ints c).toArray) w.heap.size 3 (ints c).toArray ∧ Below w.heap.size w ((w.alloc (.cells (ints (List.replicate c.length 0)).toArray 3)).setRow w.heap.size (ints c).toArray)) :=
    ⟨h2, below_row hb1 h1 hb1.size (Nat.le_refl _)⟩
  clear hsrc hbk e1 h1 h2 hb1 hsz hR
  go_enter Tryz.func25, Tryz.ntmps25
  go_wp2_with fail
  go_ret
  exact ⟨rfl, HE.out⟩
theorem rsortRows_none (A : Option Addr) (c : Nat) (W : World) : Calls Tryz.prog 27 #[.slice A 0 c, .func (.func 28) #[] #[]] W fun e W' => e = .returned (.tuple #[]) ∧ W' = W :=
  Go.Proofs.AnyF.slices_SortFunc_none { Tryz.sortRows with } A c _ W
end Go.Proofs.YtpjbgbgahjggiaaGreat
namespace Go.Proofs.YtpjbgbgahjggiaaGreat
open Go.RowKit Go.Shelf
attribute [local go_sem] Oper.semAt_some

theorem nodup_few {m : Nat} {l : List Int} (hn : l.Nodup) (h : ∀ x ∈ l, ∃ w : Nat, x = (w : Int) ∧ w < m) : l.length ≤ m := by
  have hp : l.Perm (((List.range m).filter fun (w : Nat) => decide ((w : Int) ∈ l)).map fun (w : Nat) => (w : Int)) := by
    refine (List.perm_ext_iff_of_nodup hn ?_).2 fun x => ?_
    · rw [List.nodup_iff_pairwise_ne, List.pairwise_map]
      exact ((List.pairwise_lt_range).filter _).imp fun h => by omega
    · rw [List.mem_map]
      constructor
      · intro hx
        obtain ⟨w, rfl, hw⟩ := h x hx
        exact ⟨w, List.mem_filter.2 ⟨List.mem_range.2 hw, by simpa using hx⟩, rfl⟩
      · rintro ⟨w, hw, rfl⟩
        simpa using (List.mem_filter.1 hw).2
  rw [hp.length_eq, List.length_map]
  exact Nat.le_trans (List.length_filter_le _ _) (by simp)
theorem PartsIn.many {zs : List Ed} {m : Nat} {cs : List (List Int)} (h : PartsIn zs m cs) : cs.length ≤ m := by
  have h1 : (cs.map Lib.minOf).Nodup := by
    rw [List.nodup_iff_pairwise_ne, List.pairwise_map]
    refine h.apart.imp_of_mem fun {a b} ha hb hab e => ?_
    have h2 := minOf_mem (h.some a ha)
    exact hab _ h2 (e ▸ minOf_mem (h.some b hb))
  have := nodup_few h1 (m := m) fun x hx => by
    obtain ⟨c, hc, rfl⟩ := List.mem_map.1 hx
    exact h.nat hc (minOf_mem (h.some c hc))
  rwa [List.length_map] at this
theorem srtI_some {c : List Int} (h : c ≠ []) : srtI c ≠ [] := fun e => by
  have := List.length_mergeSort (le := fun x y : Int => decide (x ≤ y)) c
  unfold srtI at e
  rw [e] at this
  exact h (List.eq_nil_of_length_eq_zero this.symm)
theorem PartsIn.head {zs : List Ed} {m : Nat} {cs : List (List Int)} (h : PartsIn zs m cs) {c : List Int} (hc : c ∈ cs) : 0 ≤ (srtI c).headD 0 ∧ (srtI c).headD 0 < (m : Int) := by
  have h1 := srtI_some (h.some c hc)
  cases hs : srtI c with
  | nil => exact absurd hs h1
  | cons a l => exact h.ends c hc a (srtI_mem.1 (by rw [hs]; simp))
theorem IRows.put {W : World} {base n c D : Nat} {A : Option Addr} {ls : List (List Int)} {x : Option (List Deferred)} (h : IRows W base A n c ls) (hD : W.heap[D]? = some (.deferred x)) (o : Obj) : IRows (W.putObj D o) base A n c ls := by
  have hk : Keep (fun k => k ≠ D) W (W.putObj D o) := (Keep.refl _ _).put (.inr fun h => h rfl) o
  have hn : ∀ {e : TypeId} {v : Value} {k : Nat} {xs : List Value}, W.ownsRow base e 1 v k xs → ∀ g, v.ownBlock = some g → g ≠ D := fun h g hg e => by
    obtain ⟨_, _, cur, hb⟩ := own_in h hg
    subst e
    unfold Blk at hb
    rw [hD] at hb
    cases hb
  obtain ⟨rs, h1, h2, h3, h4⟩ := h
  exact ⟨rs, h1, h2, hk.own h3 (hn h3), fun i r l hr hl => hk.own (h4 i r l hr hl) (hn (h4 i r l hr hl))⟩

/-- While the components are told: those told, sorted. -/
def SetI (w0 : World) (B6 : Nat) (cs : List (List Int)) (C : Nat → Prop) (W : World) : Prop :=
  ∃ (A : Option Addr) (n c : Nat) (rs : List Rw), C = (fun k => k = B6 ∨ (Value.slice A n c).ownBlock = some k ∨ ∃ r ∈ rs, (slR r).ownBlock = some k) ∧ Blk W B6 31 #[.slice A n c] ∧ cs.length = n ∧ rs.length = n ∧ W.ownsRow w0.heap.size 27 1 (.slice A n c) n (rs.map slR) ∧
    (∀ (i : Nat) (r : Rw) (l : List Int), rs[i]? = some r → cs[i]? = some l → W.ownsRow w0.heap.size 3 1 (slR r) r.2.1 (ints (srtI l))) ∧ Below w0.heap.size w0 W
theorem SetI.keep {w0 : World} {B6 : Nat} {cs : List (List Int)} {C S : Nat → Prop} {W W' : World} (h : SetI w0 B6 cs C W) (hk : Keep S W W') (hC : ∀ k, C k → S k) (hS : ∀ k, k < w0.heap.size → S k) : SetI w0 B6 cs C W' := by
  obtain ⟨A, n, c, rs, rfl, h1, h2, h3, h4, h5, h6⟩ := h
  refine ⟨A, n, c, rs, rfl, hk.blk h1 (hC _ (.inl rfl)), h2, h3, hk.own h4 fun g hg => hC _ (.inr (.inl hg)), fun i r l hr hl => hk.own (h5 i r l hr hl) fun g hg => hC _ (.inr (.inr ⟨r, List.mem_of_getElem? hr, hg⟩)), h6.trans (hk.below h6.size hS)⟩

set_option maxRecDepth 100000 in
set_option maxHeartbeats 8000000 in
theorem sets6_any : AtG 7 SetsC := by
  rintro ⟨z, A, n, c, zs⟩ w hn ⟨hR, hnc, -, -⟩
  simp only at hn hR hnc ⊢
  obtain ⟨bx, b0⟩ := box_new w #[.int .i64 z, .slice A n c] 24
  have B0 := Lib.hid b0
  have z0 := bx.cell 0
  have z1 := bx.cell 1
  cases hg : rightG z zs
  · have HC := Lib.hid (components_no z A n c zs hg (by omega) _ ((hR.below b0).more b0.size))
    have HG := Lib.hid hg
    clear hR bx b0 hg hnc
    go_enter Tryz.func7, Tryz.ntmps7
    go_upto_region 1 with fail
    generalize w.alloc (.cells #[.int .i64 z, .slice A n c] 24) = W0 at *
    go_wp2_with fail
    refine HC.out.mono ?_
    rintro e w1 ⟨rfl, h4⟩
    have HE : Hid (SetsC z zs w (.returned (.tuple #[.slice none 0 0, .int .i64 150])) w1) :=
      ⟨[], 150, none, 0, rfl, IRows.nil _ _, B0.out.trans (h4.mono B0.out.size), (fun e => (by rw [HG.out] at e; cases e)), fun _ => ⟨rfl, rfl⟩⟩
    clear h4 z0 z1 HC B0
    go_wp2_with fail
    go_ret2
    exact HE.out
  · have hgg := rightG_iff.1 hg
    have hz := hgg.nodes
    obtain ⟨m, rfl⟩ : ∃ m : Nat, z = (m : Int) := ⟨z.toNat, by omega⟩
    have hm3 : m ≤ 300 := by omega
    have HC := Lib.hid (components_ok (m : Int) A n c zs hgg (by omega) hnc _ ((hR.below b0).more b0.size))
    rw [Int.toNat_natCast] at HC
    have HGG := Lib.hid hgg
    obtain ⟨j0, hj, hy0, hy1, hy2⟩ := info_parts islice_info
    clear hR bx b0 hnc hz hgg hg
    refine (callsIn_wide (n := 6)).1 (callsIn_of_wp_marks Tryz.func7 rfl trivial ?_ rfl)
    simp only [Tryz.ntmps7, List.size_toArray, List.length_cons, List.length_nil, Nat.reduceAdd, Nat.reduceSub, Array.replicate_succ, Array.replicate_zero, List.push_toArray, List.append_toArray, List.nil_append, List.cons_append]
    gi_upto_region 1 with fail
    generalize w.alloc (.cells #[.int .i64 (m : Int), .slice A n c] 24) = W0 at *
    gi_wp2_with fail
    refine ⟨trivial, (callsIn_wide.2 HC.out).mono ?_⟩
    rintro e w1 ⟨lb, rfl, hseq, h4⟩
    have B1 : Hid (Below w.heap.size w w1) := B0.out.trans (h4.mono B0.out.size)
    have HSEQ := Lib.hid hseq
    clear hseq h4 z0 z1 HC B0
    gi_wp2_with fail
    have hb13 : Below w1.heap.size w1 (w1.alloc (.cells #[.slice none 0 0] 31)) := (Below.refl _ _).alloc (Nat.le_refl _) _
    have HSZ : Hid ((w1.alloc (.cells #[.slice none 0 0] 31)).heap.size = w1.heap.size + 1) := by unfold Hid; simp
    have hI0 : SetI w w1.heap.size [] (fun k => k = w1.heap.size ∨ (Value.slice none 0 0).ownBlock = some k ∨ ∃ r ∈ ([] : List Rw), (slR r).ownBlock = some k) (w1.alloc (.cells #[.slice none 0 0] 31)) :=
      ⟨none, 0, 0, [], rfl, Blk.new _ _ _, rfl, rfl, World.ownsRow_nil _ _ _ _, (fun i r l hr => by simp at hr), B1.out.trans (hb13.mono B1.out.size)⟩
    generalize w1.alloc (.cells #[.slice none 0 0] 31) = W3 at *
    refine range_parts (by omega) (gf := 42) (lb := lb) rfl eg_comps (zs := zs) (m := m) (w1 := w1) (HSEQ.out 5) hb13 rfl (SetI w w1.heap.size) (fun _ => False) _
      (fun k hk => ?hC0) hI0 ?hI (fun X Y h _ => h) (fun v => { tmps := #[Value.agg #[.int .i64 (m : Int), .slice A n c], .pointer (some ⟨w.heap.size, 0, none⟩), .slice none 0 0, .int .i64 0, Value.func (.func 42) #[] lb, .int .i64 0, .pointer (some ⟨w1.heap.size, 0, none⟩), v, undef, Value.tuple #[.func (.func 42) #[] lb, .int .i64 0], Value.agg #[.int .i64 (m : Int), .slice A n c], Value.tuple #[.func (.func 42) #[] lb, .int .i64 0], Value.func (.func 42) #[] lb, .int .i64 0, .int .i64 0, .bool false, undef, Value.func (.func 42) #[] lb, v, undef, undef, undef, undef, undef, undef, undef, undef, undef, undef, undef], defers := [] }) ?assign ?body ?done (fun D W _ h => h.elim)
    case hC0 =>
      have := HSZ.out
      rcases hk with hk | hk | ⟨r, hr, _⟩
      · omega
      · cases hk
      · simp at hr
    case hI =>
      intro cs C X Y h hk
      have := HSZ.out
      have := B1.out.size
      exact h.keep hk (fun k hk => .inr hk) fun k hk => .inl (by omega)
    case assign =>
      intro l v W K hK
      gi_wp2
      exact hK
    case body =>
      intro l cs c2 C X b o hI hpi hR hCb hCk hsz
      have hfew : c2.length ≤ m := hpi.few (by simp)
      have hmany := hpi.many
      rw [List.length_append, List.length_singleton] at hmany
      obtain ⟨A', n', c', rs, hC, hbx, hcn, hrn, hown, hrows, hbel⟩ := hI
      have hxs : w1.heap.size < X.heap.size := hbx.lt
      have HCP := Lib.hid (ccopied_any (cap := c2.length) (by omega) X hR (Nat.le_refl _))
      have HI := Lib.hid (And.intro hC (And.intro hbx (And.intro hcn (And.intro hrn (And.intro hown (And.intro hrows hbel))))))
      have HPI := Lib.hid hpi
      have HN : Hid (n' + 1 ≤ 300 ∧ c2.length ≤ 300) := by show _ ∧ _; omega
      have HXW : Hid (w.heap.size ≤ X.heap.size) := hbel.size
      clear hC hbx hcn hrn hown hrows hbel hR hCb hCk hsz hpi hfew hmany
      gi_wp2_with fail
      refine ⟨trivial, ((callsIn_wide.2 HCP.out).inRound l).mono ?_⟩
      rintro e X1 ⟨rfl, h1, h2⟩
      have HIS := Lib.hid (isort_any (cap := c2.length) h1 (by have := HN.out; omega))
      have HX1 := Lib.hid h2
      clear h1 h2 HCP
      gi_wp2_with fail
      refine ⟨trivial, ((callsIn_wide.2 HIS.out).inRound l).mono ?_⟩
      rintro e X2 ⟨rfl, h1, h2⟩
      have hb2 : Below X.heap.size X X2 := below_row HX1.out h2 HX1.out.size (Nat.le_refl _)
      have HB2 := Lib.hid hb2
      have HS2 := Lib.hid h1
      have hlen2 : (srtI c2).length = c2.length := List.length_mergeSort _
      have hk2 : Keep (fun _ => True) X X2 := Keep.of_all _ hb2
      have x6 := (hk2.blk HI.out.2.1 trivial).cell 0
      have hown2 := hk2.own HI.out.2.2.2.2.1 fun _ _ => trivial
      have hnew : X2.ownsRow w.heap.size 3 1 (.slice (some ⟨X.heap.size, 0, none⟩) c2.length c2.length) c2.length (ints (srtI c2)) := blk_own1 HXW.out h1 (by rw [ints_length, hlen2]) (by have := HN.out; omega)
      have HNEW := Lib.hid hnew
      have HXB := Lib.hid (hk2.blk HI.out.2.1 trivial)
      have HNE := Lib.hid (own_blk_ne HI.out.2.2.2.2.1 HI.out.2.1 (by decide))
      clear h1 h2 hb2 hlen2 hk2 HIS HX1 hnew
      gi_wp2_with (gi_at_builtin; refine wpListIn_append_own_at _ rfl _ _ 31 rfl w.heap.size 27 j0 _ 1 24 Tryz.underlying31 hj hy0 hy1 hy2 rfl (by decide) (.slice A' n' c') n' _ rfl (hown2.alloc _) ⟨X2.heap.size, 0, none⟩ 1 1 [.slice (some ⟨X.heap.size, 0, none⟩) c2.length c2.length] rfl rfl (cell_one_new _ _ _) (by intro q hq; simp at hq; subst hq; rfl) (by unfold maxLen; have := HN.out; omega) (by have := HN.out; omega) (by have := HXW.out; have := HB2.out.size; simp; omega) ?_; intro v5 w5 hown5 hgrow5 _ hat5; obtain ⟨A5, c5, rfl, h51, h52⟩ := own_form2 hown5; have hB5 := (HXB.out.alloc (.cells #[.slice (some ⟨X.heap.size, 0, none⟩) c2.length c2.length] 27)).grown hgrow5 (fun e => HNE.out e.symm); have a0 := hB5.cell 0; have f0 := hB5.frozen 0)
      obtain ⟨hC, hbx, hcn, hrn, hown, hrows, hbel⟩ := HI.out
      have hs2 := HS2.out.lt
      have hs5 := hgrow5.size
      rw [World.size_alloc] at hs5
      have hlt6 := hbx.lt
      have hsw := hbel.size
      have hCk : ∀ k, (k = w1.heap.size ∨ (Value.slice A' n' c').ownBlock = some k ∨ ∃ r ∈ rs, (slR r).ownBlock = some k) → C k := fun k h => by rw [hC]; exact h
      have hK : ∀ S : Nat → Prop, (∀ k, S k → k < X.heap.size → k ≠ w1.heap.size ∧ (Value.slice A' n' c').ownBlock ≠ some k) → Keep S X (w5.setCell ⟨w1.heap.size, 0, none⟩ (.slice A5 (n' + 1) c5)) := fun S hS => by
        have k1 : Keep S X X2 := Keep.of_all _ HB2.out
        refine ((k1.alloc _).grown hgrow5 (fun g hg => ?_)).set ?_ _ _
        · rcases Nat.lt_or_ge g X.heap.size with h | h
          · exact .inr fun hs => (hS g hs h).2 hg
          · exact .inl h
        · exact .inr fun hs => (hS _ hs hlt6).1 rfl
      have hrb : ∀ (i : Nat) (r : Rw) (l : List Int), rs[i]? = some r → cs[i]? = some l → (w5.setCell ⟨w1.heap.size, 0, none⟩ (.slice A5 (n' + 1) c5)).ownsRow w.heap.size 3 1 (slR r) r.2.1 (ints (srtI l)) := fun i r l hr hl => by
        have ho := hrows i r l hr hl
        refine own_heap6 ho fun g hg => ?_
        obtain ⟨_, hgl, cur, hgb⟩ := own_in ho hg
        refine (hK (fun k => k = g) fun k hk _ => ?_).block g hgl rfl
        subst hk
        exact ⟨Blk.ne_ hgb hbx (by decide), own_blk_ne hown hgb (by decide)⟩
      refine .inl ⟨fun k => k = w1.heap.size ∨ (Value.slice A5 (n' + 1) c5).ownBlock = some k ∨ ∃ r ∈ rs ++ [(some ⟨X.heap.size, 0, none⟩, c2.length, c2.length)], (slR r).ownBlock = some k, fun k hk => ?_, hK _ fun k hk hkl => ⟨fun e => hk (hCk k (.inl e)), fun e => hk (hCk k (.inr (.inl e)))⟩, rfl,
        A5, n' + 1, c5, rs ++ [(some ⟨X.heap.size, 0, none⟩, c2.length, c2.length)], rfl, ?_, by rw [List.length_append, hcn]; rfl, by rw [List.length_append, hrn]; rfl, ?_, fun i r l hr hl => ?_, ?_⟩
      · rw [World.size_setCell]
        rcases hk with rfl | hk | ⟨r, hr, hk⟩
        · exact ⟨hB5.lt, .inl (hCk _ (.inl rfl))⟩
        · refine ⟨(own_in hown5 hk).2.1, ?_⟩
          rcases hat5 with e | e
          · exact .inl (hCk _ (.inr (.inl (e ▸ hk))))
          · rw [e] at hk
            injection hk with hk
            rw [World.size_alloc] at hk
            exact .inr (by omega)
        · rcases List.mem_append.1 hr with hr | hr
          · obtain ⟨i, hi⟩ := List.mem_iff_getElem?.1 hr
            have hil := (List.getElem?_eq_some_iff.1 hi).1
            obtain ⟨l3, hl3⟩ : ∃ l3, cs[i]? = some l3 := ⟨_, List.getElem?_eq_getElem (by omega)⟩
            have := (own_in (hrows i r l3 hi hl3) hk).2.1
            exact ⟨by omega, .inl (hCk _ (.inr (.inr ⟨r, hr, hk⟩)))⟩
          · simp at hr
            subst hr
            simp [slR, Value.ownBlock] at hk
            subst hk
            exact ⟨by omega, .inr (Nat.le_refl _)⟩
      · have := hB5.set_ 0 (.slice A5 (n' + 1) c5)
        simpa using this
      · have := own_store hown5 hB5 (k := 0) (by decide) (.slice A5 (n' + 1) c5)
        simpa [slR] using this
      · rcases Nat.lt_or_ge i n' with hi | hi
        · rw [List.getElem?_append_left (by omega)] at hr hl
          exact hrb i r l hr hl
        · have hi2 : i = n' := by
            have := (List.getElem?_eq_some_iff.1 hr).1
            rw [List.length_append, hrn] at this
            simp at this
            omega
          subst hi2
          rw [List.getElem?_append_right (by omega), hrn, Nat.sub_self] at hr
          rw [List.getElem?_append_right (by omega), hcn, Nat.sub_self] at hl
          simp at hr hl
          subst hr; subst hl
          refine own_heap6 HNEW.out fun g hg => ?_
          have : g = X.heap.size := by simpa [Value.ownBlock, slR] using hg.symm
          subst this
          refine (Below.heap_setCell w5 ⟨w1.heap.size, 0, none⟩ _ _ (by simp; omega)).trans ((hgrow5.block _ (by simp; omega) (fun e => ?_)).trans (Below.heap_alloc X2 _ _ hs2))
          have := (own_in hown e.symm).2.1
          omega
      · refine hbel.trans ((hK (fun k => k < w.heap.size) fun k hk _ => ⟨by have := B1.out.size; omega, fun e => ?_⟩).below hsw fun j hj => hj)
        have := (own_in hown e).1
        omega
    case done =>
      intro cs C D W hD hall hI hdef
      obtain ⟨A', n', c', rs, hC, hbx, hcn, hrn, hown, hrows, hbel⟩ := hI
      have hmany := hall.toPartsIn.many
      have hDl := (Array.getElem?_eq_some_iff.1 hdef).1
      have x6 := hbx.cell 0
      have HA := Lib.hid hall
      obtain ⟨bs, hbs⟩ := AllM.make (zs := zs) (m := m) HGG.out.all
      have HS : Hid (Calls Tryz.prog 27 #[.slice A' n' c', .func (.func 28) #[] #[]] W fun e W' => e = .returned (.tuple #[]) ∧
          ∃ L, L.Perm (cs.map srtI) ∧ (L.Pairwise fun a b => a.headD 0 ≤ b.headD 0) ∧ IRows W' w.heap.size A' n' c' L ∧ W.grownBy W' (Value.slice A' n' c').ownBlock) := by
        rcases Nat.eq_zero_or_pos n' with h0 | h0
        · subst h0
          refine (rsortRows_none A' c' W).mono ?_
          rintro e W' ⟨rfl, rfl⟩
          have hcs : cs = [] := List.eq_nil_of_length_eq_zero hcn
          have hrs : rs = [] := List.eq_nil_of_length_eq_zero hrn
          subst hcs; subst hrs
          exact ⟨rfl, [], List.Perm.refl _, List.Pairwise.nil, ⟨[], rfl, rfl, hown, fun i r l hr => by simp at hr⟩, World.grownBy.refl _ _⟩
        · refine rsortRows_any hrn (by rw [List.length_map, hcn]) h0 (by omega) hown fun i r l hr hl => ?_
          rw [List.getElem?_map] at hl
          cases hx : cs[i]? with
          | none => rw [hx] at hl; cases hl
          | some x =>
            rw [hx] at hl
            simp at hl
            subst hl
            have hm := List.mem_of_getElem? hx
            have := hall.toPartsIn.head hm
            exact ⟨hrows i r x hr hx, srtI_some (hall.some x hm), this.1, by omega⟩
      have HB := Lib.hid (And.intro hbx (And.intro hown (And.intro hbel hdef)))
      have HBS := Lib.hid hbs
      have hn5 : cs.length = n' := hcn
      have HN5 := Lib.hid hn5
      have HDW : Hid (w.heap.size < D) := by have := B1.out.size; have := HSZ.out; show _ < _; omega
      clear hC hbx hcn hrn hown hrows hbel hmany hDl hall hdef hbs hD hn5 hI0
      gi_wp2_with fail
      refine ⟨trivial, (callsIn_wide.2 HS.out).mono ?_⟩
      rintro e W5 ⟨rfl, L, hp, hpw, hir, hgr⟩
      obtain ⟨hbx, hown, hbel, hdef⟩ := HB.out
      have hb6 := hbx.grown hgr fun e => own_blk_ne hown hbx (by decide) e.symm
      have x6 := hb6.cell 0
      have hDl := (Array.getElem?_eq_some_iff.1 hdef).1
      have HD5 : Hid (W5.heap[D]? = some (.deferred (some []))) := (hgr.block D hDl (fun e => by
        obtain ⟨_, _, cur, hb⟩ := own_in hown e.symm
        unfold Blk at hb
        rw [hdef] at hb
        cases hb)).trans hdef
      have HB5 : Hid (Below w.heap.size w W5) := hbel.grown hgr hbel.size fun g hg => (own_in hown hg).1
      have HL := Lib.hid (HA.out.sets HBS.out hp hpw)
      have HIR := Lib.hid hir
      have HLN : Hid (L.length = n') := hir.len
      clear hbx hown hbel hdef hDl hgr hp hpw hir hb6 HS
      gi_wp2_with fail
      refine ⟨by simp, .inl ⟨_, _, rfl, run_takeDeferred HD5.out, ?_⟩⟩
      refine ⟨.tuple #[.slice A' n' c', .int .i64 0], by simp [results, Tryz.results7, go_sem], L, 0, A', c', by rw [HLN.out], ?_, HB5.out.trans (((Keep.refl (fun k => k ≠ D) W5).put (.inr fun h => h rfl) _).below HB5.out.size fun j hj => by have := HDW.out; omega), fun _ => ⟨rfl, _, bs, HBS.out, HL.out, rfl⟩, fun e => by rw [rightG_iff.2 HGG.out] at e; cases e⟩
      rw [HLN.out]
      exact HIR.out.put HD5.out _
end Go.Proofs.YtpjbgbgahjggiaaGreat
namespace Go.Proofs.YtpjbgbgahjggiaaGreat

end Go.Proofs.YtpjbgbgahjggiaaGreat
