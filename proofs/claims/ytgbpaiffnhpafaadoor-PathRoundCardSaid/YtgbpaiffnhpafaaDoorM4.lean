/- Layer graph: the closure that Sort hands on, halves of edges: their contracts. -/
import Derived.StillTailTactics
import Derived.Deep.RegionHeld3
import Derived.WalkMore
import Derived.Deep.LoopGhost
import Derived.Test.YtgbpaiffnhpafaaDoorM3
import Derived.Laws.MakeOwn
-- holds: YtgbpaiffnhpafaaDoorGc YtgbpaiffnhpafaaDoorGd
namespace Go.Proofs.YtgbpaiffnhpafaaDoor
open Go.RowKit

theorem pair_size : (Tryd.prog.info? 53).map (·.size) = some 3 := by kernel_rfl
theorem drewN_only {a w : World} {row : Option Nat} (h : a.grownBy w row) (n : Nat) : a.grownBy (w.drewN n) row := ⟨h.os, h.tape, h.output, h.size, h.block⟩
theorem drew_only {a w : World} {row : Option Nat} (h : a.grownBy w row) : a.grownBy w.drew row := ⟨h.os, h.tape, h.output, h.size, h.block⟩
theorem alloc_only {a w : World} {row : Option Nat} (h : a.grownBy w row) (o : Obj) : a.grownBy (w.alloc o) row :=
  ⟨h.os, h.tape, h.output, Nat.le_trans h.size (by simp), fun i hi hne => (Below.heap_alloc w o i (Nat.lt_of_lt_of_le hi h.size)).trans (h.block i hi hne)⟩
theorem setCell_only {a w : World} {g : Nat} (h : a.grownBy w (some g)) {p : Addr} (hp : p.block = g ∨ a.heap.size ≤ p.block) (u : Value) : a.grownBy (w.setCell p u) (some g) :=
  ⟨h.os, h.tape, h.output, by simpa [World.setCell] using h.size, fun i hi hne => (Below.heap_setCell w p u i (by
    rintro rfl
    rcases hp with hp | hp
    · exact hne (by rw [hp])
    · omega)).trans (h.block i hi hne)⟩
theorem below_only {a w : World} (h : Below a.heap.size a w) (row : Option Nat) : a.grownBy w row := ⟨h.os, h.tape, h.output, h.size, fun i hi _ => h.block i hi⟩


/-- A new block, and what lay ahead of it. -/
theorem two_new (w : World) (c0 c1 : Array Value) (t0 t1 : TypeId) :
    Blk ((w.alloc (.cells c0 t0)).alloc (.cells c1 t1)) w.heap.size t0 c0 ∧ Blk ((w.alloc (.cells c0 t0)).alloc (.cells c1 t1)) (w.heap.size + 1) t1 c1 ∧ Below w.heap.size w ((w.alloc (.cells c0 t0)).alloc (.cells c1 t1)) := by
  have e1 : (w.alloc (.cells c0 t0)).heap.size = w.heap.size + 1 := by simp
  have b1 := Blk.new (w.alloc (.cells c0 t0)) t1 c1
  rw [e1] at b1
  exact ⟨(Blk.new w t0 c0).alloc _, b1, ((Below.refl _ _).alloc (Nat.le_refl _) _).alloc (by simp) _⟩

set_option maxRecDepth 100000 in
set_option maxHeartbeats 2000000 in
theorem cmp_any (p q : Ed) (hp : okE p) (hq : okE q) (w : World) : Calls Tryd.prog 87 #[.agg #[.int .i64 p.1, .int .i64 p.2.1, .int .i64 p.2.2], .agg #[.int .i64 q.1, .int .i64 q.2.1, .int .i64 q.2.2]] w fun e w' => e = .returned (.int .i64 (plE p - plE q)) ∧ Below w.heap.size w w' := by
  obtain ⟨k0, k1, b0⟩ := two_new w #[.int .i64 p.1, .int .i64 p.2.1, .int .i64 p.2.2] #[.int .i64 q.1, .int .i64 q.2.1, .int .i64 q.2.2] 53 53
  have HP := Lib.hid fun W => place_any p hp W
  have HQ := Lib.hid fun W => place_any q hq W
  have hbp := plE_bounds hp
  have hbq := plE_bounds hq
  have hw : IntKind.i64.wrap (plE p - plE q) = plE p - plE q := by rw [IntKind.wrap_i64]; omega
  generalize plE p = x at *
  generalize plE q = y at *
  clear hbp hbq hp hq
  have HSS : Hid (∀ W, Below ((w.alloc (.cells #[.int .i64 p.1, .int .i64 p.2.1, .int .i64 p.2.2] 53)).alloc (.cells #[.int .i64 q.1, .int .i64 q.2.1, .int .i64 q.2.2] 53)).heap.size ((w.alloc (.cells #[.int .i64 p.1, .int .i64 p.2.1, .int .i64 p.2.2] 53)).alloc (.cells #[.int .i64 q.1, .int .i64 q.2.1, .int .i64 q.2.2] 53)) W →
      W.cell? ⟨w.heap.size, 0, none⟩ = some (.int .i64 p.1) ∧ W.cell? ⟨w.heap.size, 1, none⟩ = some (.int .i64 p.2.1) ∧ W.cell? ⟨w.heap.size, 2, none⟩ = some (.int .i64 p.2.2) ∧
      W.cell? ⟨w.heap.size + 1, 0, none⟩ = some (.int .i64 q.1) ∧ W.cell? ⟨w.heap.size + 1, 1, none⟩ = some (.int .i64 q.2.1) ∧ W.cell? ⟨w.heap.size + 1, 2, none⟩ = some (.int .i64 q.2.2)) :=
    fun W h => ⟨(k0.below h k0.lt).cell 0, (k0.below h k0.lt).cell 1, (k0.below h k0.lt).cell 2, (k1.below h k1.lt).cell 0, (k1.below h k1.lt).cell 1, (k1.below h k1.lt).cell 2⟩
  have B0 := Lib.hid b0
  clear k0 k1 b0
  go_enter Tryd.func87, Tryd.ntmps87
  go_wp2_with fail
  generalize (w.alloc (.cells #[.int .i64 p.1, .int .i64 p.2.1, .int .i64 p.2.2] 53)).alloc (.cells #[.int .i64 q.1, .int .i64 q.2.1, .int .i64 q.2.2] 53) = W0 at *
  have J0 : Hid (Below W0.heap.size W0 W0.drew) := (Below.refl _ _).drew
  go_region_held3 (fun w' => w'.cell? ⟨w.heap.size, 0, none⟩ = some (.int .i64 p.1) ∧ w'.cell? ⟨w.heap.size, 1, none⟩ = some (.int .i64 p.2.1) ∧ w'.cell? ⟨w.heap.size, 2, none⟩ = some (.int .i64 p.2.2) ∧ w'.cell? ⟨w.heap.size + 1, 0, none⟩ = some (.int .i64 q.1) ∧ w'.cell? ⟨w.heap.size + 1, 1, none⟩ = some (.int .i64 q.2.1) ∧ w'.cell? ⟨w.heap.size + 1, 2, none⟩ = some (.int .i64 q.2.2)) (first | exact HSS.out _ J2.out | exact HSS.out _ J1.out | exact HSS.out _ J0.out | fail) (first
    | (have _t := J1; go_at_call 60; refine (HQ.out v1).mono ?_; rintro e v2 ⟨rfl, b⟩; have J2 : Hid (Below W0.heap.size W0 v2) := J1.out.trans (b.mono J1.out.size); clear b)
    | (go_at_call 60; refine (HP.out W0.drew).mono ?_; rintro e v1 ⟨rfl, b⟩; have J1 : Hid (Below W0.heap.size W0 v1) := J0.out.trans (b.mono J0.out.size); clear b)
    | fail)
  go_wp2_with fail
  go_ret
  exact ⟨rfl, B0.out.trans (J2.out.mono B0.out.size)⟩

/-- A row of edges into which one has been written. -/
theorem row_step {ds : List Ed} {off k : Nat} {pre : List Ed} {p : Ed} (hk : pre.length = k) (hlt : off + k < ds.length) :
    (ds.take off ++ pre ++ ds.drop (off + k)).set (off + k) p = ds.take off ++ (pre ++ [p]) ++ ds.drop (off + (k + 1)) := by
  have h1 : (ds.take off ++ pre).length = off + k := by rw [List.length_append, List.length_take, hk]; omega
  rw [List.set_append_right _ _ (by rw [h1]; exact Nat.le_refl _), h1, Nat.sub_self, List.drop_eq_getElem_cons hlt, List.set_cons_zero]
  simp [Nat.add_assoc]
theorem blk_ed {w : World} {g : Nat} {t : TypeId} {ds : List Ed} {k : Nat} {p : Ed} (h : Blk w g t (cellsE ds).toArray) :
    Blk (((w.setCell ⟨g, k * 3, none⟩ (.int .i64 p.1)).setCell ⟨g, k * 3 + 1, none⟩ (.int .i64 p.2.1)).setCell ⟨g, k * 3 + 2, none⟩ (.int .i64 p.2.2)) g t (cellsE (ds.set k p)).toArray := by
  have := ((h.set_ (k * 3) (.int .i64 p.1)).set_ (k * 3 + 1) (.int .i64 p.2.1)).set_ (k * 3 + 2) (.int .i64 p.2.2)
  rw [List.setIfInBounds_toArray, List.setIfInBounds_toArray, List.setIfInBounds_toArray, cellsE_set] at this
  exact this

theorem ed_only (w : World) (g o : Nat) (u v x : Value) : w.grownBy (((w.setCell ⟨g, o, none⟩ u).setCell ⟨g, o + 1, none⟩ v).setCell ⟨g, o + 2, none⟩ x) (some g) :=
  have h1 : w.grownBy (w.setCell ⟨g, o, none⟩ u) (some g) := setCell_only (p := ⟨g, o, none⟩) (World.grownBy.refl w _) (.inl rfl) u
  setCell_only (p := ⟨g, o + 2, none⟩) (setCell_only (p := ⟨g, o + 1, none⟩) h1 (.inl rfl) v) (.inl rfl) x

theorem blk_at {w : World} {g : Nat} {t : TypeId} {ds : List Ed} {k : Nat} (h : Blk w g t (cellsE ds).toArray) (hk : k < ds.length) :
    ∃ v0 v1 v2, w.cell? ⟨g, k * 3, none⟩ = some v0 ∧ w.cell? ⟨g, k * 3 + 1, none⟩ = some v1 ∧ w.cell? ⟨g, k * 3 + 2, none⟩ = some v2 ∧ w.frozen? ⟨g, k * 3, none⟩ = false ∧ w.frozen? ⟨g, k * 3 + 1, none⟩ = false ∧ w.frozen? ⟨g, k * 3 + 2, none⟩ = false := by
  obtain ⟨p, hp⟩ : ∃ p, ds[k]? = some p := ⟨_, List.getElem?_eq_getElem hk⟩
  obtain ⟨h0, h1, h2⟩ := cellsE_at hp
  exact ⟨_, _, _, by rw [h.cell]; simpa using h0, by rw [h.cell]; simpa using h1, by rw [h.cell]; simpa using h2, h.frozen _, h.frozen _, h.frozen _⟩

/-- How far a merge has come: k have been written, xa and xb are left. -/
structure MIs (w : World) (g off n : Nat) (ds all : List Ed) (k : Nat) (pre xa xb : List Ed) (A B : Option Addr) (na nb ca cb : Nat) (wr : World) : Prop where
  sa : Src wr g 3 A na (cellsE xa)
  sb : Src wr g 3 B nb (cellsE xb)
  la : na ≤ ca
  lb : nb ≤ cb
  ma : ca ≤ 9223372036854775807
  mb : cb ≤ 9223372036854775807
  sum : k + na + nb = n
  len : pre.length = k
  all : pre ++ mrg ltE xa xb = all
  blk : Blk wr g 53 (cellsE (ds.take off ++ pre ++ ds.drop (off + k))).toArray
  grown : w.grownBy wr (some g)
  oka : ∀ p ∈ xa, okE p
  okb : ∀ p ∈ xb, okE p

theorem MIs.lenA {w : World} {g off n : Nat} {ds all : List Ed} {k : Nat} {pre xa xb : List Ed} {A B : Option Addr} {na nb ca cb : Nat} {wr : World} (h : MIs w g off n ds all k pre xa xb A B na nb ca cb wr) : xa.length = na := by
  have := h.sa.1; rw [cellsE_length] at this; omega
theorem MIs.lenB {w : World} {g off n : Nat} {ds all : List Ed} {k : Nat} {pre xa xb : List Ed} {A B : Option Addr} {na nb ca cb : Nat} {wr : World} (h : MIs w g off n ds all k pre xa xb A B na nb ca cb wr) : xb.length = nb := by
  have := h.sb.1; rw [cellsE_length] at this; omega
theorem MIs.end_ {w : World} {g off n : Nat} {ds all : List Ed} {k : Nat} {pre xa xb : List Ed} {A B : Option Addr} {na nb ca cb : Nat} {wr : World} (h : MIs w g off n ds all k pre xa xb A B na nb ca cb wr) (hk : n ≤ k) :
    Blk wr g 53 (cellsE (ds.take off ++ all ++ ds.drop (off + n))).toArray := by
  have h1 := h.lenA
  have h2 := h.lenB
  have h3 := h.sum
  have h4 := h.all
  obtain rfl : xa = [] := List.eq_nil_of_length_eq_zero (by omega)
  obtain rfl : xb = [] := List.eq_nil_of_length_eq_zero (by omega)
  rw [mrg_nil, List.append_nil] at h4
  have := h.blk
  rw [h4, show k = n by omega] at this
  exact this

theorem MIs.drew {w : World} {g off n : Nat} {ds all : List Ed} {k : Nat} {pre xa xb : List Ed} {A B : Option Addr} {na nb ca cb : Nat} {wr : World} (h : MIs w g off n ds all k pre xa xb A B na nb ca cb wr) : MIs w g off n ds all k pre xa xb A B na nb ca cb wr.drew :=
  ⟨h.sa, h.sb, h.la, h.lb, h.ma, h.mb, h.sum, h.len, h.all, h.blk, drew_only h.grown, h.oka, h.okb⟩

/-- copy of pairs into a block of the call's own. -/
theorem copy_pairs (w : World) (g j off dLen dCap : Nat) (A : Option Addr) (n c : Nat) (D ps : List Ed) (hoff : off = j * 3)
    (hG : Blk w g 53 (cellsE D).toArray) (hsrc : Src w g 3 A n (cellsE ps)) (hn : n ≤ dLen) (hfit : j + n ≤ D.length) :
    ∃ w', (Builtin.copy_ #[22, 22] 3 #[.slice (some ⟨g, off, none⟩) dLen dCap, .slice A n c]).run Tryd.prog w = .ok (goInt n) w' ∧
      Blk w' g 53 (cellsE (D.take j ++ ps ++ D.drop (j + n))).toArray ∧ w.grownBy w' (some g) := by
  subst hoff
  have hl : ps.length = n := by have := hsrc.1; rw [cellsE_length] at this; omega
  have hr := run_copy_src (P := Tryd.prog) w 22 22 3 53 g (j * 3) dLen dCap 3 A n c (cellsE D).toArray 53 (cellsE ps) Tryd.underlying22 pair_size hG hsrc hn
    (by rw [cellsE_length, List.size_toArray, cellsE_length]; omega) (cellsE_one ps)
  have hcells : (cellsE D).toArray.toList.take (j * 3) ++ cellsE ps ++ (cellsE D).toArray.toList.drop (j * 3 + (cellsE ps).length) = cellsE (D.take j ++ ps ++ D.drop (j + n)) := by
    rw [cellsE_append, cellsE_append, cellsE_take, cellsE_drop, cellsE_length, hl, Nat.add_mul]
  rw [hcells] at hr
  obtain ⟨h1, h2⟩ := setRow_grown hG (cellsE (D.take j ++ ps ++ D.drop (j + n))).toArray
  exact ⟨_, hr, h2, h1⟩

/-- What a merge leaves. -/
def MDone (g off n : Nat) (ds all : List Ed) (w : World) (e : Ending) (w' : World) : Prop :=
  e = .returned (.tuple #[]) ∧ Blk w' g 53 (cellsE (ds.take off ++ all ++ ds.drop (off + n))).toArray ∧ w.grownBy w' (some g)

section
variable {w wr : World} {g off n : Nat} {ds all : List Ed} {k : Nat} {pre xa xb : List Ed} {A B : Option Addr} {na nb ca cb : Nat}
theorem MIs.row_len (h : MIs w g off n ds all k pre xa xb A B na nb ca cb wr) (hoff : off + n ≤ ds.length) : (ds.take off ++ pre ++ ds.drop (off + k)).length = ds.length := by
  have h1 := h.len
  have h2 := h.sum
  simp only [List.length_append, List.length_take, List.length_drop]
  omega
theorem MIs.row_cut (h : MIs w g off n ds all k pre xa xb A B na nb ca cb wr) (hoff : off + n ≤ ds.length) (ps : List Ed) (m : Nat) :
    (ds.take off ++ pre ++ ds.drop (off + k)).take (off + k) ++ ps ++ (ds.take off ++ pre ++ ds.drop (off + k)).drop (off + k + m) = ds.take off ++ (pre ++ ps) ++ ds.drop (off + k + m) := by
  have h1 := h.len
  have h2 := h.sum
  have hl : (ds.take off ++ pre).length = off + k := by simp only [List.length_append, List.length_take]; omega
  rw [List.take_left' hl, List.drop_append, hl, List.drop_of_length_le (by rw [hl]; omega), List.nil_append, List.drop_drop, show off + k + m - (off + k) = m by omega]
  simp
theorem MIs.none_a (h : MIs w g off n ds all k pre [] xb A B na nb ca cb wr) : all = pre ++ xb := by rw [← h.all, mrg_nil]
theorem MIs.none_b (h : MIs w g off n ds all k pre xa [] A B na nb ca cb wr) : all = pre ++ xa := by rw [← h.all, mrg_nil2]
theorem MIs.world {w1 : World} (h : MIs w g off n ds all k pre xa xb A B na nb ca cb wr) (hb : Below wr.heap.size wr w1) : MIs w g off n ds all k pre xa xb A B na nb ca cb w1 :=
  ⟨h.sa.kept (below_only hb _), h.sb.kept (below_only hb _), h.la, h.lb, h.ma, h.mb, h.sum, h.len, h.all, h.blk.below hb h.blk.lt, h.grown.trans (below_only hb _), h.oka, h.okb⟩
theorem MIs.step_a {p q : Ed} (h : MIs w g off n ds all k pre (p :: xa) (q :: xb) A B na nb ca cb wr) (hlt : ltE q p = false) (hoff : off + n ≤ ds.length) :
    MIs w g off n ds all (k + 1) (pre ++ [p]) xa (q :: xb) (if ca = 1 then A else A.map (·.add (1 * 3))) B (na - 1) nb (ca - 1) cb (((wr.setCell ⟨g, (off + k) * 3, none⟩ (.int .i64 p.1)).setCell ⟨g, (off + k) * 3 + 1, none⟩ (.int .i64 p.2.1)).setCell ⟨g, (off + k) * 3 + 2, none⟩ (.int .i64 p.2.2)) := by
  have ha := h.lenA
  simp only [List.length_cons] at ha
  have hs := h.sum
  have hgr : wr.grownBy (((wr.setCell ⟨g, (off + k) * 3, none⟩ (.int .i64 p.1)).setCell ⟨g, (off + k) * 3 + 1, none⟩ (.int .i64 p.2.1)).setCell ⟨g, (off + k) * 3 + 2, none⟩ (.int .i64 p.2.2)) (some g) := ed_only wr g ((off + k) * 3) _ _ _
  have hrow := row_step (ds := ds) (off := off) (pre := pre) (p := p) h.len (by omega)
  have hla := h.la
  have hma := h.ma
  have hd := h.sa.drop (k := 1) (by omega) h.la
  rw [show (cellsE (p :: xa)).drop (1 * 3) = cellsE xa from rfl] at hd
  refine ⟨hd.kept hgr, h.sb.kept hgr, by omega, h.lb, by omega, h.mb, by omega, by rw [List.length_append, h.len]; rfl, ?_, ?_, h.grown.trans hgr, fun x hx => h.oka x (List.mem_cons_of_mem _ hx), h.okb⟩
  · rw [← h.all, mrg_first hlt]; simp
  · have := blk_ed (p := p) (k := off + k) h.blk
    rw [hrow] at this
    exact this
theorem MIs.step_b {p q : Ed} (h : MIs w g off n ds all k pre (p :: xa) (q :: xb) A B na nb ca cb wr) (hlt : ltE q p = true) (hoff : off + n ≤ ds.length) :
    MIs w g off n ds all (k + 1) (pre ++ [q]) (p :: xa) xb A (if cb = 1 then B else B.map (·.add (1 * 3))) na (nb - 1) ca (cb - 1) (((wr.setCell ⟨g, (off + k) * 3, none⟩ (.int .i64 q.1)).setCell ⟨g, (off + k) * 3 + 1, none⟩ (.int .i64 q.2.1)).setCell ⟨g, (off + k) * 3 + 2, none⟩ (.int .i64 q.2.2)) := by
  have ha := h.lenB
  simp only [List.length_cons] at ha
  have hs := h.sum
  have hgr : wr.grownBy (((wr.setCell ⟨g, (off + k) * 3, none⟩ (.int .i64 q.1)).setCell ⟨g, (off + k) * 3 + 1, none⟩ (.int .i64 q.2.1)).setCell ⟨g, (off + k) * 3 + 2, none⟩ (.int .i64 q.2.2)) (some g) := ed_only wr g ((off + k) * 3) _ _ _
  have hrow := row_step (ds := ds) (off := off) (pre := pre) (p := q) h.len (by omega)
  have hlb := h.lb
  have hmb := h.mb
  have hd := h.sb.drop (k := 1) (by omega) h.lb
  rw [show (cellsE (q :: xb)).drop (1 * 3) = cellsE xb from rfl] at hd
  refine ⟨h.sa.kept hgr, hd.kept hgr, h.la, by omega, h.ma, by omega, by omega, by rw [List.length_append, h.len]; rfl, ?_, ?_, h.grown.trans hgr, h.oka, fun x hx => h.okb x (List.mem_cons_of_mem _ hx)⟩
  · rw [← h.all, mrg_second hlt]; simp
  · have := blk_ed (p := q) (k := off + k) h.blk
    rw [hrow] at this
    exact this
end

set_option maxRecDepth 100000 in
set_option maxHeartbeats 4000000 in
theorem merge_any (g off n cr : Nat) (ds xs ys : List Ed) (A B : Option Addr) (na nb ca cb : Nat) (hn : na + nb = n) (hna : na ≤ ca) (hnb : nb ≤ cb) (hca : ca ≤ 9223372036854775807) (hcb : cb ≤ 9223372036854775807)
    (hncr : n ≤ cr) (hoff : off + n ≤ ds.length) (hds : ds.length ≤ 1000000) (w : World) (hA : Src w g 3 A na (cellsE xs)) (hB : Src w g 3 B nb (cellsE ys)) (hgx : ∀ p ∈ xs, okE p) (hgy : ∀ p ∈ ys, okE p) (hG : Blk w g 53 (cellsE ds).toArray) :
    Calls Tryd.prog 101 #[.slice (some ⟨g, off * 3, none⟩) n cr, .slice A na ca, .slice B nb cb, .func (.func 87) #[] #[]] w (MDone g off n ds (mrg ltE xs ys) w) := by
  have HI : Hid (MIs w g off n ds (mrg ltE xs ys) 0 [] xs ys A B na nb ca cb w) := ⟨hA, hB, hna, hnb, hca, hcb, by omega, rfl, rfl, by rw [List.append_nil, Nat.add_zero, List.take_append_drop]; exact hG, World.grownBy.refl w _, hgx, hgy⟩
  clear hA hB hG hgx hgy
  have HN := Lib.hid hn
  clear hn
  go_enter Tryd.func101, Tryd.ntmps101
  go_wp2_with fail
  go_step3
  go_wp2_with fail
  go_step3
  go_wp2_with fail
  go_loopg [1, 2, 11] n (fun gg s1 s2 s11 wr => ∃ (k : Nat) (pre xa xb : List Ed) (A' B' : Option Addr) (na' nb' ca' cb' : Nat), k + gg = n ∧ s11 = .int .i64 k ∧ s1 = .slice A' na' ca' ∧ s2 = .slice B' nb' cb' ∧ Hid (MIs w g off n ds (mrg ltE xs ys) k pre xa xb A' B' na' nb' ca' cb' wr))
  case atStart => exact ⟨0, [], xs, ys, A, B, na, nb, ca, cb, by omega, rfl, rfl, rfl, HI⟩
  case round =>
    clear HI HN hna hnb hca hcb
    obtain ⟨k, pre, xa, xb, A', B', na', nb', ca', cb', hkg, rfl, rfl, rfl, HM⟩ := hrel
    have hsum := HM.out.sum
    have hlA := HM.out.lenA
    have hlB := HM.out.lenB
    have la := HM.out.la
    have lb := HM.out.lb
    have ma := HM.out.ma
    have mb := HM.out.mb
    cases gk with
    | zero =>
      have hge : ¬ (k : Int) < (n : Int) := by omega
      go_wp2_with fail
      have hb := HM.out.end_ (by omega)
      go_end0
      exact ⟨rfl, hb, HM.out.grown⟩
    | succ g2 =>
      have hlt : (k : Int) < (n : Int) := by omega
      have hrl := HM.out.row_len hoff
      have hk1 : k ≤ n := by omega
      have hk2 : ¬ cr = k := by omega
      match xa, xb, HM, hlA, hlB with
      | [], xb, HM, hlA, hlB =>
        have hna0 : na' = 0 := by simpa using hlA.symm
        subst hna0
        have hnb : nb' = n - k := by omega
        have hnbn : nb' ≤ n - k := by omega
        have HS := Lib.hid hsum
        have HRL := Lib.hid hrl
        have HLB := Lib.hid hlB
        have HNB := Lib.hid hnb
        have HKG := Lib.hid hkg
        clear hsum hrl hlA hlB hkg hnb
        obtain ⟨w2, r2, hb2, hg2⟩ := copy_pairs wr g (off + k) (off * 3 + k * 3) (n - k) (cr - k) A' 0 ca' _ [] (by omega) HM.out.blk HM.out.sa (Nat.zero_le _) (by rw [HRL.out]; omega)
        rw [HM.out.row_cut hoff, List.append_nil, Nat.add_zero] at hb2
        obtain ⟨w3, r3, hb3, hg3⟩ := copy_pairs w2 g (off + k) (off * 3 + k * 3) (n - k) (cr - k) B' nb' cb' _ xb (by omega) hb2 (HM.out.sb.kept hg2) hnbn (by rw [HRL.out]; omega)
        have HB3 := Lib.hid hb3
        have HG3 := Lib.hid (HM.out.grown.trans (hg2.trans hg3))
        clear hb2 hg2 hb3 hg3
        go_wp2_with fail
        rw [Exit.noGoto_normal]
        go_end0
        have hb := HB3.out
        rw [HM.out.row_cut hoff, show off + k + nb' = off + n by have := HNB.out; omega] at hb
        exact ⟨rfl, by rw [HM.out.none_a]; exact hb, HG3.out⟩
      | p :: xa, [], HM, hlA, hlB =>
        have hnb0 : nb' = 0 := by simpa using hlB.symm
        subst hnb0
        have hna : na' = n - k := by omega
        have hnan : na' ≤ n - k := by omega
        have hpos : ((na' : Int) == 0) = false := by simp at hlA; simp; omega
        have HS := Lib.hid hsum
        have HRL := Lib.hid hrl
        have HLA := Lib.hid hlA
        have HNA := Lib.hid hna
        have HKG := Lib.hid hkg
        clear hsum hrl hlA hlB hkg hna
        obtain ⟨w2, r2, hb2, hg2⟩ := copy_pairs wr g (off + k) (off * 3 + k * 3) (n - k) (cr - k) A' na' ca' _ (p :: xa) (by omega) HM.out.blk HM.out.sa hnan (by rw [HRL.out]; omega)
        rw [HM.out.row_cut hoff] at hb2
        have hl3 : off + k ≤ (ds.take off ++ (pre ++ (p :: xa)) ++ ds.drop (off + k + na')).length := by
          have := HM.out.len
          have := HLA.out
          have := HNA.out
          simp only [List.length_append, List.length_take, List.length_drop]
          omega
        obtain ⟨w3, r3, hb3, hg3⟩ := copy_pairs w2 g (off + k) (off * 3 + k * 3) (n - k) (cr - k) B' 0 cb' _ [] (by omega) hb2 (HM.out.sb.kept hg2) (Nat.zero_le _) hl3
        rw [List.append_nil, Nat.add_zero, List.take_append_drop] at hb3
        have HB3 := Lib.hid hb3
        have HG3 := Lib.hid (HM.out.grown.trans (hg2.trans hg3))
        clear hb2 hg2 hb3 hg3
        go_wp2_with fail
        rw [Exit.noGoto_normal]
        go_end0
        have hb := HB3.out
        rw [show off + k + na' = off + n by have := HNA.out; omega] at hb
        exact ⟨rfl, by rw [HM.out.none_b]; exact hb, HG3.out⟩
      | p :: xa, q :: xb, HM, hlA, hlB =>
        simp only [List.length_cons] at hlA hlB
        have hposA : ((na' : Int) == 0) = false := by simp; omega
        have hposB : ((nb' : Int) == 0) = false := by simp; omega
        have hA1 : 0 < na' := by omega
        have hB1 : 0 < nb' := by omega
        obtain ⟨b1, o1, rfl, hb1, hne1, x0, x1, x2⟩ := src_ed HM.out.sa (k := 0) rfl
        obtain ⟨b2, o2, rfl, hb2, hne2, y0, y1, y2⟩ := src_ed HM.out.sb (k := 0) rfl
        have HS := Lib.hid hsum
        have HRL := Lib.hid hrl
        have HLA := Lib.hid hlA
        have HLB := Lib.hid hlB
        have HKG := Lib.hid hkg
        clear hsum hrl hlA hlB hkg
        simp only [Nat.zero_mul, Nat.add_zero] at x0 x1 x2 y0 y1 y2
        have HPQ := Lib.hid fun W => cmp_any q p (HM.out.okb q (.head _)) (HM.out.oka p (.head _)) W
        go_wp2_with fail
        go_still_tail 7, (by kernel_rfl)
        change wpList _ _ _ _ _ wr.drew
        have HD : Hid (MIs w g off n ds (mrg ltE xs ys) k pre (p :: xa) (q :: xb) (some ⟨b1, o1, none⟩) (some ⟨b2, o2, none⟩) na' nb' ca' cb' wr.drew) :=
          ⟨HM.out.sa, HM.out.sb, la, lb, ma, mb, HS.out, HM.out.len, HM.out.all, HM.out.blk, drew_only HM.out.grown, HM.out.oka, HM.out.okb⟩
        change wr.drew.cell? _ = _ at x0 x1 x2 y0 y1 y2
        change b1 < wr.drew.heap.size at hb1
        change b2 < wr.drew.heap.size at hb2
        clear HM
        generalize wr.drew = wd at *
        go_wp2_with fail
        refine (HPQ.out _).mono ?_
        rintro e w2 ⟨rfl, bk⟩
        have HM2 := Lib.hid (HD.out.world bk)
        have hcell : ∀ b o, b < wd.heap.size → w2.cell? ⟨b, o, none⟩ = wd.cell? ⟨b, o, none⟩ := fun b o h => bk.cell (p := ⟨b, o, none⟩) h
        have z0 := (hcell b1 o1 hb1).trans x0
        have z1 := (hcell b1 (o1 + 1) hb1).trans x1
        have z2 := (hcell b1 (o1 + 2) hb1).trans x2
        have u0 := (hcell b2 o2 hb2).trans y0
        have u1 := (hcell b2 (o2 + 1) hb2).trans y1
        have u2 := (hcell b2 (o2 + 2) hb2).trans y2
        have hlo : off + k < ds.length := by omega
        obtain ⟨v0, v1, v2, g0, g1, g2', g3, g4, g5⟩ := blk_at HM2.out.blk (k := off + k) (by rw [HRL.out]; exact hlo)
        rw [Nat.add_mul] at g0 g1 g2' g3 g4 g5
        clear hcell x0 x1 x2 y0 y1 y2 HD bk HPQ
        by_cases hqp : plE q < plE p
        · have hc : plE q - plE p < 0 := by omega
          have HL : Hid (ltE q p = true) := by show decide _ = true; simp [hqp]
          clear hqp
          generalize plE q - plE p = v at *
          go_wp2_with fail
          by_cases h1c : cb' = 1
          · subst h1c
            go_region
            all_goals
              go_wp2_with fail
              go_roundg g2
              case measure => omega
              case rel =>
                refine ⟨k + 1, pre ++ [q], p :: xa, xb, _, some ⟨b2, o2, none⟩, _, 0, _, 0, by have := HKG.out; omega, by go_num, rfl, rfl, ?_⟩
                have h := (HM2.out.step_b HL.out hoff).drew
                rw [if_pos rfl, show nb' - 1 = 0 by omega, Nat.add_mul] at h
                exact h
          · go_region
            all_goals
              go_wp2_with fail
              go_roundg g2
              case measure => omega
              case rel =>
                refine ⟨k + 1, pre ++ [q], p :: xa, xb, _, some ⟨b2, o2 + 3, none⟩, _, nb' - 1, _, cb' - 1, by have := HKG.out; omega, by go_num, rfl, rfl, ?_⟩
                have h := (HM2.out.step_b HL.out hoff).drew
                rw [if_neg h1c, Nat.add_mul] at h
                exact h
        · have hc : ¬ plE q - plE p < 0 := by omega
          have HL : Hid (ltE q p = false) := by show decide _ = false; simp [hqp]
          clear hqp
          generalize plE q - plE p = v at *
          go_wp2_with fail
          by_cases h1c : ca' = 1
          · subst h1c
            go_region
            all_goals
              go_wp2_with fail
              go_roundg g2
              case measure => omega
              case rel =>
                refine ⟨k + 1, pre ++ [p], xa, q :: xb, some ⟨b1, o1, none⟩, _, 0, _, 0, _, by have := HKG.out; omega, by go_num, rfl, rfl, ?_⟩
                have h := (HM2.out.step_a HL.out hoff).drew
                rw [if_pos rfl, show na' - 1 = 0 by omega, Nat.add_mul] at h
                exact h
          · go_region
            all_goals
              go_wp2_with fail
              go_roundg g2
              case measure => omega
              case rel =>
                refine ⟨k + 1, pre ++ [p], xa, q :: xb, some ⟨b1, o1 + 3, none⟩, _, na' - 1, _, ca' - 1, _, by have := HKG.out; omega, by go_num, rfl, rfl, ?_⟩
                have h := (HM2.out.step_a HL.out hoff).drew
                rw [if_neg h1c, Nat.add_mul] at h
                exact h
end Go.Proofs.YtgbpaiffnhpafaaDoor
namespace Go.Proofs.YtgbpaiffnhpafaaDoor
open Go.RowKit

theorem MDone.refill {g off n : Nat} {ds all : List Ed} {w : World} {e : Ending} {w' : World} (h : MDone g off n ds all w e w') : e = .returned (.tuple #[]) ∧ Blk w' g 53 (cellsE (ds.take off ++ all ++ ds.drop (off + n))).toArray ∧ w.grownBy w' (some g) := h

theorem elem_size (w : World) : (sizeOf (Tryd.prog.elem 22)).run Tryd.prog w = .ok 3 w := by kernel_rfl
/-- A slice cut, whatever way. -/
theorem pr_slice_lh (A : Option Addr) (len cap l h : Nat) (x y : Int) (hx : x = l) (hy : y = h) (hl : l ≤ h) (hh : h ≤ cap) (W : World) :
    (Instr.slice 22 (.slice A len cap) (some (.int .i64 x)) (some (.int .i64 y)) none).run Tryd.prog W = .ok (.slice (if cap = l then A else A.map (·.add (l * 3))) (h - l) (cap - l)) W := by
  subst hx; subst hy
  rw [run_slice_lh W 22 A len cap (show Tryd.prog.underlying 22 = some (.slice (Tryd.prog.elem 22)) by kernel_rfl) .i64 .i64 l h (by omega) (by omega) (by omega), elem_size]
  rfl
theorem pr_slice_h (A : Option Addr) (len cap h : Nat) (y : Int) (hy : y = h) (hh : h ≤ cap) (W : World) :
    (Instr.slice 22 (.slice A len cap) none (some (.int .i64 y)) none).run Tryd.prog W = .ok (.slice A h cap) W := by
  subst hy
  have e0 : Value.slice (if cap = 0 then A else A.map (·.add (0 * 2))) (h - 0) (cap - 0) = .slice A h cap := by
    have : (if cap = 0 then A else A.map (·.add (0 * 2))) = A := by
      split
      · rfl
      · cases A <;> simp [Addr.add]
    rw [this, Nat.sub_zero, Nat.sub_zero]
  rw [run_slice_h W 22 A len cap (show Tryd.prog.underlying 22 = some (.slice (Tryd.prog.elem 22)) by kernel_rfl) .i64 h (by omega) (by omega), elem_size]
  exact congrArg (fun v => Result.ok v W) e0
theorem pr_slice_l (A : Option Addr) (len cap l : Nat) (x : Int) (hx : x = l) (hl : l ≤ len) (W : World) :
    (Instr.slice 22 (.slice A len cap) (some (.int .i64 x)) none none).run Tryd.prog W = .ok (.slice (if cap = l then A else A.map (·.add (l * 3))) (len - l) (cap - l)) W := by
  subst hx
  rw [run_slice_l W 22 A len cap (show Tryd.prog.underlying 22 = some (.slice (Tryd.prog.elem 22)) by kernel_rfl) .i64 l (by omega) (by omega), elem_size]
  rfl
theorem pr_slice_lhm (A : Option Addr) (len cap l h m : Nat) (x y z : Int) (hx : x = l) (hy : y = h) (hz : z = m) (hl : l ≤ h) (hh : h ≤ m) (hm : m ≤ cap) (W : World) :
    (Instr.slice 22 (.slice A len cap) (some (.int .i64 x)) (some (.int .i64 y)) (some (.int .i64 z))).run Tryd.prog W = .ok (.slice (if m = l then A else A.map (·.add (l * 3))) (h - l) (m - l)) W := by
  subst hx; subst hy; subst hz
  rw [run_slice_lhm W 22 A len cap (show Tryd.prog.underlying 22 = some (.slice (Tryd.prog.elem 22)) by kernel_rfl) .i64 .i64 .i64 l h m (by omega) (by omega) (by omega) (by omega), elem_size]
  rfl

set_option maxRecDepth 100000 in
set_option maxHeartbeats 2000000 in
theorem part_any (g p q off n : Nat) (ds xs ys : List Ed) (A B : Option Addr) (na nb ca cb : Nat) (hna : na ≤ ca) (hnb : nb ≤ cb) (hca : ca ≤ 9223372036854775807) (hcb : cb ≤ 9223372036854775807)
    (hds : ds.length = n) (hoff : off + na + nb ≤ n) (hlt : off < n) (hn : n ≤ 1000000) (w : World) (hA : Src w g 3 A na (cellsE xs)) (hB : Src w g 3 B nb (cellsE ys)) (hgx : ∀ p ∈ xs, okE p) (hgy : ∀ p ∈ ys, okE p) (hG : Blk w g 53 (cellsE ds).toArray)
    (hP : Blk w p 22 #[.slice (some ⟨g, 0, none⟩) n n]) (hQ : Blk w q 121 #[.func (.func 87) #[] #[]]) :
    Calls Tryd.prog 100 #[.int .i64 off, .slice A na ca, .slice B nb cb, .pointer (some ⟨p, 0, none⟩), .pointer (some ⟨q, 0, none⟩)] w (MDone g off (na + nb) ds (mrg ltE xs ys) w) := by
  have HC : Hid (∀ (W : World), W.heap = w.heap → Calls Tryd.prog 101 #[.slice (some ⟨g, off * 3, none⟩) (na + nb) (n - off), .slice A na ca, .slice B nb cb, .func (.func 87) #[] #[]] W (MDone g off (na + nb) ds (mrg ltE xs ys) W)) :=
    fun W hW => merge_any g off (na + nb) (n - off) ds xs ys A B na nb ca cb rfl hna hnb hca hcb (by omega) (by omega) (by omega) W
      ⟨hA.1, fun h0 => by obtain ⟨b, o, h1, h2, h3, h4⟩ := hA.2 h0; exact ⟨b, o, h1, by rw [hW]; exact h2, h3, fun j u hu => by rw [← h4 j u hu]; unfold World.cell?; rw [hW]⟩⟩
      ⟨hB.1, fun h0 => by obtain ⟨b, o, h1, h2, h3, h4⟩ := hB.2 h0; exact ⟨b, o, h1, by rw [hW]; exact h2, h3, fun j u hu => by rw [← h4 j u hu]; unfold World.cell?; rw [hW]⟩⟩ hgx hgy (by unfold Blk at *; rw [hW]; exact hG)
  have x0 : w.cell? ⟨p, 0, none⟩ = some (.slice (some ⟨g, 0, none⟩) n n) := hP.cell 0
  have x1 : w.cell? ⟨q, 0, none⟩ = some (.func (.func 87) #[] #[]) := hQ.cell 0
  have h1 : (0 : Int) ≤ (off : Int) := by omega
  have h2 : (off : Int) + (na : Int) + (nb : Int) ≤ (n : Int) := by omega
  have h3 : ¬ n = off := by omega
  have HD := Lib.hid hds
  clear hA hB hG hP hQ hds
  have e1 : IntKind.i64.wrap ((off : Int) + (na : Int)) = (off : Int) + (na : Int) := by rw [IntKind.wrap_i64]; omega
  have e2 : IntKind.i64.wrap ((off : Int) + (na : Int) + (nb : Int)) = (off : Int) + (na : Int) + (nb : Int) := by rw [IntKind.wrap_i64]; omega
  have hsl := pr_slice_lh (some ⟨g, 0, none⟩) n n off (off + na + nb) off (off + na + nb) rfl (by omega) (by omega) hoff
  rw [if_neg h3, show (some (⟨g, 0, none⟩ : Addr)).map (·.add (off * 3)) = some ⟨g, off * 3, none⟩ by rw [Option.map_some, Go.WideShapes.add_plain, Nat.zero_add], show off + na + nb - off = na + nb by omega] at hsl
  go_enter Tryd.func100, Tryd.ntmps100
  go_wp2_with fail
  go_still_tail 13, (by kernel_rfl)
  change wpList _ _ _ _ _ w.drew
  have HB : Hid (w.grownBy w.drew (some g)) := drew_only (World.grownBy.refl w _)
  have HC2 := Lib.hid (HC.out w.drew rfl)
  clear HC x0 x1
  generalize w.drew = wd at *
  go_wp2_with fail
  refine HC2.out.mono ?_
  rintro e w2 h2
  obtain ⟨rfl, hb, hg⟩ := h2.refill
  have HB2 := Lib.hid hb
  have HG2 := Lib.hid (HB.out.trans hg)
  clear hb hg h2
  go_wp2_with fail
  go_end0
  exact ⟨rfl, HB2.out, HG2.out⟩

/-- What a pass leaves. -/
def HDone (g : Nat) (all : List Ed) (w : World) (e : Ending) (w' : World) : Prop := e = .returned (.tuple #[]) ∧ Blk w' g 53 (cellsE all).toArray ∧ w.grownBy w' (some g)
/-- How far a pass has come. -/
structure PIs (w : World) (g v : Nat) (xs ds : List Ed) (i : Nat) (wr : World) : Prop where
  blk : Blk wr g 53 (cellsE (passN ltE v xs i ++ ds.drop (2 * v * i))).toArray
  grown : w.grownBy wr (some g)
theorem row_len {v n : Nat} {xs ds : List Ed} (hx : xs.length = n) (hd : ds.length = n) (i : Nat) : (passN ltE v xs i ++ ds.drop (2 * v * i)).length = n := by
  rw [List.length_append, passN_length, List.length_drop]; omega
theorem src_of_blk {w : World} {h g n o m : Nat} {xs : List Ed} (hb : Blk w h 53 (cellsE xs).toArray) (hne : h ≠ g) (hx : xs.length = n) (ho : o + m ≤ n) : Src w g 3 (some ⟨h, o * 3, none⟩) m (cellsE ((xs.drop o).take m)) :=
  ⟨by rw [cellsE_length, List.length_take, List.length_drop]; omega, fun h0 => ⟨h, o * 3, rfl, hb.lt, hne, fun j u hu => by
    rw [hb.cell, List.getElem?_toArray]
    rw [cellsE_take, List.getElem?_take] at hu
    split at hu
    · rw [cellsE_drop, List.getElem?_drop] at hu
      exact hu
    · cases hu⟩⟩
theorem src_nil (w : World) (g : Nat) (A : Option Addr) : Src w g 3 A 0 (cellsE []) := ⟨rfl, fun h => absurd h (by omega)⟩
/-- The row behind one more merge. -/
theorem row_next {v n i a mid e : Nat} {xs ds : List Ed} (hx : xs.length = n) (hd : ds.length = n) (ha : 2 * v * i = a) (hl : a < n) (hm : mid = min (a + v) n) (he : e = min (mid + v) n) :
    (passN ltE v xs i ++ ds.drop (2 * v * i)).take a ++ mrg ltE ((xs.drop a).take (mid - a)) ((xs.drop mid).take (e - mid)) ++ (passN ltE v xs i ++ ds.drop (2 * v * i)).drop (a + (mid - a + (e - mid))) = passN ltE v xs (i + 1) ++ ds.drop (2 * v * (i + 1)) := by
  have hpl : (passN ltE v xs i).length = a := by rw [passN_length, ha]; omega
  have h1 : (xs.drop a).take (mid - a) = (xs.drop a).take v := by
    rw [List.take_eq_take_iff, List.length_drop]; omega
  have h2 : (xs.drop mid).take (e - mid) = (xs.drop (a + v)).take v := by
    rcases Nat.lt_or_ge n (a + v) with h | h
    · rw [List.drop_of_length_le (by omega), List.drop_of_length_le (by omega)]; simp
    · rw [show mid = a + v by omega, List.take_eq_take_iff, List.length_drop]; omega
  rw [h1, h2, passN, ha, List.take_left' hpl, List.drop_append, hpl, List.drop_of_length_le (l := passN ltE v xs i) (by rw [hpl]; omega), List.nil_append, List.drop_drop, Nat.mul_succ, ha]
  congr 1
  rcases Nat.lt_or_ge (a + 2 * v) n with h | h
  · congr 1; omega
  · rw [List.drop_of_length_le (by omega), List.drop_of_length_le (by omega)]

set_option maxRecDepth 100000 in
set_option maxHeartbeats 4000000 in
theorem halves_any (h g p q n v m : Nat) (xs ds : List Ed) (hx : xs.length = n) (hd : ds.length = n) (hgx : ∀ p ∈ xs, okE p) (hn0 : 0 < n) (hn : n ≤ 100000) (hv : 0 < v) (hvn : v ≤ 100000) (hm : (n - 1) / (2 * v) = m) (hhg : h ≠ g) (hpg : p ≠ g) (hqg : q ≠ g) (w : World)
    (hH : Blk w h 53 (cellsE xs).toArray) (hG : Blk w g 53 (cellsE ds).toArray)
    (hP : Blk w p 22 #[.slice (some ⟨g, 0, none⟩) n n]) (hQ : Blk w q 121 #[.func (.func 87) #[] #[]]) :
    Calls Tryd.prog 99 #[.slice (some ⟨h, 0, none⟩) n n, .int .i64 v, .func (.func 100) #[] #[.pointer (some ⟨p, 0, none⟩), .pointer (some ⟨q, 0, none⟩)]] w
      (HDone g (passN ltE v xs (m + 1) ++ ds.drop (2 * v * (m + 1))) w) := by
  have HI : Hid (PIs w g v xs ds 0 w) := ⟨by rw [passN, Nat.mul_zero, List.nil_append]; exact hG, World.grownBy.refl w _⟩
  have hmn : 2 * v * m ≤ n - 1 := by rw [← hm]; exact Nat.mul_div_le _ _
  have hq : ((n : Int) - 1) / (2 * (v : Int)) = (m : Int) := by
    have e1 : ((n : Int) - 1) = ((n - 1 : Nat) : Int) := by omega
    rw [e1, ← hm]; simp
  have hmb : m ≤ 100000 := by
    have := Nat.div_le_self (n - 1) (2 * v)
    omega
  have HX := Lib.hid hx
  have HD := Lib.hid hd
  have HH := Lib.hid hH
  have HP := Lib.hid hP
  have HQ := Lib.hid hQ
  have HM := Lib.hid hm
  clear hx hd hH hG hP hQ hm
  go_enter Tryd.func99, Tryd.ntmps99
  go_wp2_with fail
  clear hq
  go_loopg [17] (m + 1) (fun gg s17 wr => ∃ i : Nat, i + gg = m + 1 ∧ s17 = .int .i64 i ∧ Hid (PIs w g v xs ds i wr))
  case atStart => exact ⟨0, by omega, rfl, HI⟩
  case round =>
    obtain ⟨i, hig, rfl, HR⟩ := hrel
    cases gk with
    | zero =>
      have hge : ¬ (i : Int) < (m : Int) + 1 := by omega
      have hi : i = m + 1 := by omega
      have HR2 : Hid (PIs w g v xs ds (m + 1) wr) := by rw [← hi]; exact HR
      have HII := Lib.hid hi
      have HIG := Lib.hid hig
      clear hi hig HR
      go_wp2_with fail
      go_end0
      exact ⟨rfl, HR2.out.blk, HR2.out.grown⟩
    | succ g2 =>
      have hlt : (i : Int) < (m : Int) + 1 := by omega
      have hle : 2 * v * i ≤ 2 * v * m := Nat.mul_le_mul_left _ (by omega)
      obtain ⟨a, ha⟩ : ∃ a, 2 * v * i = a := ⟨_, rfl⟩
      have han : a < n := by omega
      have hai : 2 * (v : Int) * (i : Int) = (a : Int) := by rw [← ha]; simp
      obtain ⟨mid, hmid⟩ : ∃ mid, mid = min (a + v) n := ⟨_, rfl⟩
      obtain ⟨e, he⟩ : ∃ e, e = min (mid + v) n := ⟨_, rfl⟩
      by_cases c1 : a + v ≤ n
      · have k1 : a ≤ mid := by omega
        have k2 : mid ≤ e := by omega
        have k3 : e ≤ n := by omega
        have k4 : a < mid := by omega
        have hav : (a : Int) + (v : Int) = (mid : Int) := by omega
        have kmn : (mid : Int) ≤ (n : Int) := by omega
        by_cases c2 : mid + v ≤ n
        · have hev : (mid : Int) + (v : Int) = (e : Int) := by omega
          have ken : (e : Int) ≤ (n : Int) := by omega
          have HA := Lib.hid ha
          have HMI := Lib.hid hmid
          have HE := Lib.hid he
          have HIG := Lib.hid hig
          clear ha hmid he hig hle hmn
          go_wp2_with fail
          clear hav hev
          have hrl : (passN ltE v xs i ++ ds.drop (2 * v * i)).length = n := row_len HX.out HD.out i
          have hnext := row_next HX.out HD.out HA.out han HMI.out HE.out
          have hHr : Blk wr h 53 (cellsE xs).toArray := HH.out.grown HR.out.grown (fun e => hhg (by injection e))
          have hPr : Blk wr p 22 #[.slice (some ⟨g, 0, none⟩) n n] := HP.out.grown HR.out.grown (fun e => hpg (by injection e))
          have hQr : Blk wr q 121 #[.func (.func 87) #[] #[]] := HQ.out.grown HR.out.grown (fun e => hqg (by injection e))
          obtain ⟨Bv, hBv⟩ : ∃ Bv : Option Addr, Bv = if e = mid then some ⟨h, 0, none⟩ else some ⟨h, mid * 3, none⟩ := ⟨_, rfl⟩
          have sA := src_of_blk (o := a) (m := mid - a) hHr hhg HX.out (by omega)
          have sB : Src wr g 3 Bv (e - mid) (cellsE ((xs.drop mid).take (e - mid))) := by
            by_cases hem : e = mid
            · rw [show e - mid = 0 by omega, List.take_zero]; exact src_nil _ _ _
            · rw [hBv, if_neg hem]
              exact src_of_blk hHr hhg HX.out (by omega)
          have HC := Lib.hid (part_any g p q a n (passN ltE v xs i ++ ds.drop (2 * v * i)) _ _ (some ⟨h, a * 3, none⟩) Bv (mid - a) (e - mid) (mid - a) (e - mid) (Nat.le_refl _) (Nat.le_refl _) (by omega) (by omega) hrl (by omega) han (by omega) wr.drew sA sB (fun p hp => hgx p (List.mem_of_mem_drop (List.mem_of_mem_take hp))) (fun p hp => hgx p (List.mem_of_mem_drop (List.mem_of_mem_take hp))) HR.out.blk hPr hQr)
          have hs1 := pr_slice_lhm (some ⟨h, 0, none⟩) n n a mid mid a mid mid rfl rfl rfl k1 (Nat.le_refl _) (by omega)
          rw [if_neg (by omega), show (some (⟨h, 0, none⟩ : Addr)).map (·.add (a * 3)) = some ⟨h, a * 3, none⟩ by rw [Option.map_some, Go.WideShapes.add_plain, Nat.zero_add]] at hs1
          have hs2 := pr_slice_lhm (some ⟨h, 0, none⟩) n n mid e e mid e e rfl rfl rfl k2 (Nat.le_refl _) k3
          rw [show (some (⟨h, 0, none⟩ : Addr)).map (·.add (mid * 3)) = some ⟨h, mid * 3, none⟩ by rw [Option.map_some, Go.WideShapes.add_plain, Nat.zero_add], ← hBv] at hs2
          have HNX := Lib.hid hnext
          clear hrl hnext hHr hPr hQr hBv sA sB
          go_still_tail 12, (by kernel_rfl)
          change wpList _ _ _ _ _ wr.drew
          have HB : Hid (w.grownBy wr.drew (some g)) := drew_only HR.out.grown
          clear HR hs1 hs2
          generalize wr.drew = wd at *
          go_wp2_with fail
          refine HC.out.mono ?_
          rintro e w2 h2
          obtain ⟨rfl, hb, hg⟩ := h2.refill
          rw [HNX.out] at hb
          have HR2 : Hid (PIs w g v xs ds (i + 1) w2) := ⟨hb, HB.out.trans hg⟩
          clear hb hg h2 HC
          go_wp2_with fail
          go_roundg g2
          case measure => omega
          case rel => exact ⟨i + 1, by have := HIG.out; omega, by go_num, HR2⟩
        · have hen : n = e := by omega
          subst hen
          have kmv : (n : Int) < (mid : Int) + (v : Int) := by omega
          have HA := Lib.hid ha
          have HMI := Lib.hid hmid
          have HE := Lib.hid he
          have HIG := Lib.hid hig
          clear ha hmid he hig hle hmn
          go_wp2_with fail
          clear hav
          have hrl : (passN ltE v xs i ++ ds.drop (2 * v * i)).length = n := row_len HX.out HD.out i
          have hnext := row_next HX.out HD.out HA.out han HMI.out HE.out
          have hHr : Blk wr h 53 (cellsE xs).toArray := HH.out.grown HR.out.grown (fun e => hhg (by injection e))
          have hPr : Blk wr p 22 #[.slice (some ⟨g, 0, none⟩) n n] := HP.out.grown HR.out.grown (fun e => hpg (by injection e))
          have hQr : Blk wr q 121 #[.func (.func 87) #[] #[]] := HQ.out.grown HR.out.grown (fun e => hqg (by injection e))
          obtain ⟨Bv, hBv⟩ : ∃ Bv : Option Addr, Bv = if n = mid then some ⟨h, 0, none⟩ else some ⟨h, mid * 3, none⟩ := ⟨_, rfl⟩
          have sA := src_of_blk (o := a) (m := mid - a) hHr hhg HX.out (by omega)
          have sB : Src wr g 3 Bv (n - mid) (cellsE ((xs.drop mid).take (n - mid))) := by
            by_cases hem : n = mid
            · rw [show n - mid = 0 by omega, List.take_zero]; exact src_nil _ _ _
            · rw [hBv, if_neg hem]
              exact src_of_blk hHr hhg HX.out (by omega)
          have HC := Lib.hid (part_any g p q a n (passN ltE v xs i ++ ds.drop (2 * v * i)) _ _ (some ⟨h, a * 3, none⟩) Bv (mid - a) (n - mid) (mid - a) (n - mid) (Nat.le_refl _) (Nat.le_refl _) (by omega) (by omega) hrl (by omega) han (by omega) wr.drew sA sB (fun p hp => hgx p (List.mem_of_mem_drop (List.mem_of_mem_take hp))) (fun p hp => hgx p (List.mem_of_mem_drop (List.mem_of_mem_take hp))) HR.out.blk hPr hQr)
          have hs1 := pr_slice_lhm (some ⟨h, 0, none⟩) n n a mid mid a mid mid rfl rfl rfl k1 (Nat.le_refl _) (by omega)
          rw [if_neg (by omega), show (some (⟨h, 0, none⟩ : Addr)).map (·.add (a * 3)) = some ⟨h, a * 3, none⟩ by rw [Option.map_some, Go.WideShapes.add_plain, Nat.zero_add]] at hs1
          have hs2 := pr_slice_lhm (some ⟨h, 0, none⟩) n n mid n n mid n n rfl rfl rfl k2 (Nat.le_refl _) k3
          rw [show (some (⟨h, 0, none⟩ : Addr)).map (·.add (mid * 3)) = some ⟨h, mid * 3, none⟩ by rw [Option.map_some, Go.WideShapes.add_plain, Nat.zero_add], ← hBv] at hs2
          have HNX := Lib.hid hnext
          clear hrl hnext hHr hPr hQr hBv sA sB
          go_still_tail 12, (by kernel_rfl)
          change wpList _ _ _ _ _ wr.drew
          have HB : Hid (w.grownBy wr.drew (some g)) := drew_only HR.out.grown
          clear HR hs1 hs2
          generalize wr.drew = wd at *
          go_wp2_with fail
          refine HC.out.mono ?_
          rintro e w2 h2
          obtain ⟨rfl, hb, hg⟩ := h2.refill
          rw [HNX.out] at hb
          have HR2 : Hid (PIs w g v xs ds (i + 1) w2) := ⟨hb, HB.out.trans hg⟩
          clear hb hg h2 HC
          go_wp2_with fail
          go_roundg g2
          case measure => omega
          case rel => exact ⟨i + 1, by have := HIG.out; omega, by go_num, HR2⟩
      · have hmn1 : n = mid := by omega
        subst hmn1
        have hen : n = e := by omega
        subst hen
        have k1 : a ≤ n := by omega
        have k2 : n ≤ n := Nat.le_refl _
        have k3 : n ≤ n := Nat.le_refl _
        have kav : (n : Int) < (a : Int) + (v : Int) := by omega
        have HA := Lib.hid ha
        have HMI := Lib.hid hmid
        have HE := Lib.hid he
        have HIG := Lib.hid hig
        clear ha hmid he hig hle hmn
        go_wp2_with fail
        have hrl : (passN ltE v xs i ++ ds.drop (2 * v * i)).length = n := row_len HX.out HD.out i
        have hnext := row_next HX.out HD.out HA.out han HMI.out HE.out
        rw [Nat.sub_self] at hnext
        have hHr : Blk wr h 53 (cellsE xs).toArray := HH.out.grown HR.out.grown (fun e => hhg (by injection e))
        have hPr : Blk wr p 22 #[.slice (some ⟨g, 0, none⟩) n n] := HP.out.grown HR.out.grown (fun e => hpg (by injection e))
        have hQr : Blk wr q 121 #[.func (.func 87) #[] #[]] := HQ.out.grown HR.out.grown (fun e => hqg (by injection e))
        obtain ⟨Bv, hBv⟩ : ∃ Bv : Option Addr, Bv = if n = n then some ⟨h, 0, none⟩ else some ⟨h, n * 3, none⟩ := ⟨_, rfl⟩
        have sA := src_of_blk (o := a) (m := n - a) hHr hhg HX.out (by omega)
        have sB : Src wr g 3 Bv 0 (cellsE ((xs.drop n).take 0)) := by
          rw [List.take_zero]; exact src_nil _ _ _
        have HC := Lib.hid (part_any g p q a n (passN ltE v xs i ++ ds.drop (2 * v * i)) _ _ (some ⟨h, a * 3, none⟩) Bv (n - a) 0 (n - a) 0 (Nat.le_refl _) (Nat.le_refl _) (by omega) (by omega) hrl (by omega) han (by omega) wr.drew sA sB (fun p hp => hgx p (List.mem_of_mem_drop (List.mem_of_mem_take hp))) (fun p hp => hgx p (List.mem_of_mem_drop (List.mem_of_mem_take hp))) HR.out.blk hPr hQr)
        have hs1 := pr_slice_lhm (some ⟨h, 0, none⟩) n n a n n a n n rfl rfl rfl k1 (Nat.le_refl _) (by omega)
        rw [if_neg (by omega), show (some (⟨h, 0, none⟩ : Addr)).map (·.add (a * 3)) = some ⟨h, a * 3, none⟩ by rw [Option.map_some, Go.WideShapes.add_plain, Nat.zero_add]] at hs1
        have hs2 := pr_slice_lhm (some ⟨h, 0, none⟩) n n n n n n n n rfl rfl rfl k2 (Nat.le_refl _) k3
        rw [show (some (⟨h, 0, none⟩ : Addr)).map (·.add (n * 3)) = some ⟨h, n * 3, none⟩ by rw [Option.map_some, Go.WideShapes.add_plain, Nat.zero_add], ← hBv] at hs2
        have HNX := Lib.hid hnext
        clear hrl hnext hHr hPr hQr hBv sA sB
        go_still_tail 12, (by kernel_rfl)
        change wpList _ _ _ _ _ wr.drew
        have HB : Hid (w.grownBy wr.drew (some g)) := drew_only HR.out.grown
        clear HR hs1 hs2
        generalize wr.drew = wd at *
        go_wp2_with fail
        refine HC.out.mono ?_
        rintro e w2 h2
        obtain ⟨rfl, hb, hg⟩ := h2.refill
        rw [HNX.out] at hb
        have HR2 : Hid (PIs w g v xs ds (i + 1) w2) := ⟨hb, HB.out.trans hg⟩
        clear hb hg h2 HC
        go_wp2_with fail
        go_roundg g2
        case measure => omega
        case rel => exact ⟨i + 1, by have := HIG.out; omega, by go_num, HR2⟩
end Go.Proofs.YtgbpaiffnhpafaaDoor
