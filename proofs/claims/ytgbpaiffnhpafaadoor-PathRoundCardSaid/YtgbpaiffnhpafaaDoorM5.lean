/- Layer order: Sort and Merge of pairs: their contracts. -/
import Derived.Deep.DeepCutAuto
import Derived.BigRegion
import Derived.Test.YtgbpaiffnhpafaaDoorM4
-- holds: YtgbpaiffnhpafaaDoorGe
namespace Go.Proofs.YtgbpaiffnhpafaaDoor
open Go.RowKit

theorem pair_info : (Tryd.prog.info? 53).map (fun i => (i.zero, i.size, i.bytes)) = some (some (.agg #[.int .i64 0, .int .i64 0, .int .i64 0]), 3, 24) := by kernel_rfl
theorem made_pairs (n : Nat) : madeCells (Value.agg #[.int .i64 0, .int .i64 0, .int .i64 0]).cells (n * 3) = (cellsE (List.replicate n ((0, 0, 0) : Ed))).toArray := by
  apply Array.ext
  · rw [size_madeCells, List.size_toArray, cellsE_length, List.length_replicate]
  · intro j h1 h2
    have e1 : ∀ k, (cellsE (List.replicate k ((0, 0, 0) : Ed))) = List.replicate (k * 3) (.int .i64 0) := by
      intro k
      induction k with
      | zero => rfl
      | succ k ih => rw [List.replicate_succ, cellsE_cons, ih, Nat.succ_mul]; rfl
    have hz : (Value.agg #[.int .i64 0, .int .i64 0, .int .i64 0]).cells = #[.int .i64 0, .int .i64 0, .int .i64 0] := by simp [Value.cells]
    simp only [e1, madeCells, hz, Array.getElem_map, Array.getElem_range, List.getElem_toArray, List.getElem_replicate]
    have h3 : j % 3 < 3 := Nat.mod_lt _ (by decide)
    generalize j % 3 = m at h3
    match m, h3 with
    | 0, _ => simp
    | 1, _ => simp
    | 2, _ => simp
theorem pr_make (n : Nat) (hn : n ≤ 1000000) (W : World) :
    (Instr.makeSlice 22 (.int .i64 (n : Int)) (.int .i64 (n : Int))).run Tryd.prog W = .ok (.slice (some ⟨W.heap.size, 0, none⟩) n n) (W.alloc (.cells (cellsE (List.replicate n ((0, 0, 0) : Ed))).toArray 53)) := by
  obtain ⟨i0, hi, hz0, hz1, hz2⟩ := info_parts pair_info
  have hr := run_make (P := Tryd.prog) W 22 53 i0 _ Tryd.underlying22 hi hz0 .i64 .i64 n n (by omega) (by omega) (by rw [hz2]; omega) (by omega)
  simp only [Int.toNat_natCast] at hr
  rw [hz1, made_pairs] at hr
  exact hr

theorem four_blocks (w : World) (c0 c1 c2 c3 : Array Value) (t0 t1 t2 t3 : TypeId) :
    Blk ((((w.alloc (.cells c0 t0)).alloc (.cells c1 t1)).alloc (.cells c2 t2)).alloc (.cells c3 t3)).drew w.heap.size t0 c0 ∧
    Blk ((((w.alloc (.cells c0 t0)).alloc (.cells c1 t1)).alloc (.cells c2 t2)).alloc (.cells c3 t3)).drew (w.heap.size + 1) t1 c1 ∧
    Blk ((((w.alloc (.cells c0 t0)).alloc (.cells c1 t1)).alloc (.cells c2 t2)).alloc (.cells c3 t3)).drew (w.heap.size + 1 + 1) t2 c2 ∧
    Blk ((((w.alloc (.cells c0 t0)).alloc (.cells c1 t1)).alloc (.cells c2 t2)).alloc (.cells c3 t3)).drew (w.heap.size + 1 + 1 + 1) t3 c3 ∧
    Below w.heap.size w ((((w.alloc (.cells c0 t0)).alloc (.cells c1 t1)).alloc (.cells c2 t2)).alloc (.cells c3 t3)).drew := by
  have e1 : (w.alloc (.cells c0 t0)).heap.size = w.heap.size + 1 := by simp
  have e2 : ((w.alloc (.cells c0 t0)).alloc (.cells c1 t1)).heap.size = w.heap.size + 1 + 1 := by simp
  have e3 : (((w.alloc (.cells c0 t0)).alloc (.cells c1 t1)).alloc (.cells c2 t2)).heap.size = w.heap.size + 1 + 1 + 1 := by simp
  have b1 := Blk.new (w.alloc (.cells c0 t0)) t1 c1
  have b2 := Blk.new ((w.alloc (.cells c0 t0)).alloc (.cells c1 t1)) t2 c2
  have b3 := Blk.new (((w.alloc (.cells c0 t0)).alloc (.cells c1 t1)).alloc (.cells c2 t2)) t3 c3
  rw [e1] at b1
  rw [e2] at b2
  rw [e3] at b3
  exact ⟨((((Blk.new w t0 c0).alloc _).alloc _).alloc _).drew, ((b1.alloc _).alloc _).drew, (b2.alloc _).drew, b3.drew,
    (((((Below.refl _ _).alloc (Nat.le_refl _) _).alloc (by simp) _).alloc (by simp; omega) _).alloc (by simp; omega) _).drew⟩

/-- A row of the call's own, whole. -/
def Own (B : Nat) (h n : Nat) (xs : List Ed) (w : World) : Prop := B ≤ h ∧ xs.length = n ∧ Blk w h 53 (cellsE xs).toArray
/-- How far Sort has come. -/
structure SIs (w : World) (xs : List Ed) (n v h g p q : Nat) (wr : World) : Prop where
  rest : ∃ r ds : List Ed, Own w.heap.size h n r wr ∧ Own w.heap.size g n ds wr ∧ Chunks ltE v r ∧ ∀ e, r.filter (alike ltE e) = xs.filter (alike ltE e)
  hg : h ≠ g
  pg : p ≠ g
  ph : p ≠ h
  qg : q ≠ g
  qh : q ≠ h
  qp : q ≠ p
  bp : w.heap.size ≤ p
  var : Blk wr p 22 #[.slice (some ⟨g, 0, none⟩) n n]
  cmp : Blk wr q 121 #[.func (.func 87) #[] #[]]
  below : Below w.heap.size w wr

/-- What stands in a row stands in each that has as many alike. -/
theorem alike_mem {r xs : List Ed} (h : ∀ e, r.filter (alike ltE e) = xs.filter (alike ltE e)) {p : Ed} (hp : p ∈ r) : p ∈ xs := by
  have h1 : p ∈ r.filter (alike ltE p) := List.mem_filter.2 ⟨hp, alike_self ltE_ahead p⟩
  rw [h p] at h1
  exact (List.mem_filter.1 h1).1

/-- What Sort hands back. -/
def SortIs (n : Nat) (xs : List Ed) (w : World) (e : Ending) (w' : World) : Prop :=
  ∃ h, e = .returned (.slice (some ⟨h, 0, none⟩) n n) ∧ Own w.heap.size h n xs w' ∧ Below w.heap.size w w'

theorem below_row {B : Nat} {w a w' : World} {g : Nat} (h : Below B w a) (hg : a.grownBy w' (some g)) (hB : B ≤ a.heap.size) (hgB : B ≤ g) : Below B w w' :=
  h.grown hg hB (fun j hj => by injection hj with hj; omega)

set_option maxRecDepth 100000 in
set_option maxHeartbeats 4000000 in
theorem sort_any (A : Option Addr) (n c : Nat) (xs : List Ed) (hgx : ∀ p ∈ xs, okE p) (hn : n ≤ 100000) (w : World) (hR : Reads w w.heap.size 3 A n (cellsE xs)) :
    Calls Tryd.prog 86 #[.slice A n c, .func (.func 87) #[] #[]] w (SortIs n (srt ltE xs) w) := by
  have hl : xs.length = n := by have := hR.1; rw [cellsE_length] at this; omega
  have HL := Lib.hid hl
  have HR := Lib.hid hR
  have hmk := fun W => pr_make n (by omega) W
  clear hl hR
  go_enter Tryd.func86, Tryd.ntmps86
  go_upto_region 1 with fail
  go_cut [5, 6] (fun s5 s6 wx => ∃ h g p : Nat, s5 = .slice (some ⟨h, 0, none⟩) n n ∧ s6 = .pointer (some ⟨p, 0, none⟩) ∧ w.heap.size < h ∧ w.heap.size < g ∧ w.heap.size < p ∧ h ≠ g ∧ p ≠ g ∧ p ≠ h ∧
    Hid (Blk wx h 53 (cellsE (List.replicate n ((0, 0, 0) : Ed))).toArray ∧ Blk wx g 53 (cellsE (List.replicate n ((0, 0, 0) : Ed))).toArray ∧ Blk wx p 22 #[.slice (some ⟨g, 0, none⟩) n n] ∧
      Blk wx w.heap.size 121 #[.func (.func 87) #[] #[]] ∧ Below w.heap.size w wx))
  case first =>
    go_region
    all_goals
      go_wp2_with fail
      go_meet
      first
        | exact ⟨w.heap.size + 1, w.heap.size + 1 + 1, w.heap.size + 1 + 1 + 1, rfl, rfl, by omega, by omega, by omega, by omega, by omega, by omega, ⟨(four_blocks w _ _ _ _ _ _ _ _).2.1, (four_blocks w _ _ _ _ _ _ _ _).2.2.1, (four_blocks w _ _ _ _ _ _ _ _).2.2.2.1, (four_blocks w _ _ _ _ _ _ _ _).1, (four_blocks w _ _ _ _ _ _ _ _).2.2.2.2⟩⟩
        | exact ⟨w.heap.size + 1, w.heap.size + 1 + 1 + 1, w.heap.size + 1 + 1, rfl, rfl, by omega, by omega, by omega, by omega, by omega, by omega, ⟨(four_blocks w _ _ _ _ _ _ _ _).2.1, (four_blocks w _ _ _ _ _ _ _ _).2.2.2.1, (four_blocks w _ _ _ _ _ _ _ _).2.2.1, (four_blocks w _ _ _ _ _ _ _ _).1, (four_blocks w _ _ _ _ _ _ _ _).2.2.2.2⟩⟩
        | exact ⟨w.heap.size + 1 + 1, w.heap.size + 1, w.heap.size + 1 + 1 + 1, rfl, rfl, by omega, by omega, by omega, by omega, by omega, by omega, ⟨(four_blocks w _ _ _ _ _ _ _ _).2.2.1, (four_blocks w _ _ _ _ _ _ _ _).2.1, (four_blocks w _ _ _ _ _ _ _ _).2.2.2.1, (four_blocks w _ _ _ _ _ _ _ _).1, (four_blocks w _ _ _ _ _ _ _ _).2.2.2.2⟩⟩
        | exact ⟨w.heap.size + 1 + 1, w.heap.size + 1 + 1 + 1, w.heap.size + 1, rfl, rfl, by omega, by omega, by omega, by omega, by omega, by omega, ⟨(four_blocks w _ _ _ _ _ _ _ _).2.2.1, (four_blocks w _ _ _ _ _ _ _ _).2.2.2.1, (four_blocks w _ _ _ _ _ _ _ _).2.1, (four_blocks w _ _ _ _ _ _ _ _).1, (four_blocks w _ _ _ _ _ _ _ _).2.2.2.2⟩⟩
        | exact ⟨w.heap.size + 1 + 1 + 1, w.heap.size + 1, w.heap.size + 1 + 1, rfl, rfl, by omega, by omega, by omega, by omega, by omega, by omega, ⟨(four_blocks w _ _ _ _ _ _ _ _).2.2.2.1, (four_blocks w _ _ _ _ _ _ _ _).2.1, (four_blocks w _ _ _ _ _ _ _ _).2.2.1, (four_blocks w _ _ _ _ _ _ _ _).1, (four_blocks w _ _ _ _ _ _ _ _).2.2.2.2⟩⟩
        | exact ⟨w.heap.size + 1 + 1 + 1, w.heap.size + 1 + 1, w.heap.size + 1, rfl, rfl, by omega, by omega, by omega, by omega, by omega, by omega, ⟨(four_blocks w _ _ _ _ _ _ _ _).2.2.2.1, (four_blocks w _ _ _ _ _ _ _ _).2.2.1, (four_blocks w _ _ _ _ _ _ _ _).2.1, (four_blocks w _ _ _ _ _ _ _ _).1, (four_blocks w _ _ _ _ _ _ _ _).2.2.2.2⟩⟩
  case rest =>
    obtain ⟨h, g, p, rfl, rfl, b1, b2, b3, hhg, hpg, hph, HB⟩ := hcut
    have hsz := HB.out.2.2.2.2.size
    have hsrc : Src wc h 3 A n (cellsE xs) := Src.of_reads ((HR.out.below HB.out.2.2.2.2)) (by omega) hsz (by omega)
    obtain ⟨w2, r2, hb2, hg2⟩ := copy_pairs wc h 0 0 n n A n c _ xs (by omega) HB.out.1 hsrc (Nat.le_refl _) (by rw [List.length_replicate]; omega)
    have hx2 : (List.replicate n ((0, 0, 0) : Ed)).take 0 ++ xs ++ (List.replicate n ((0, 0, 0) : Ed)).drop (0 + n) = xs := by
      rw [List.take_zero, List.nil_append, List.drop_of_length_le (by rw [List.length_replicate]; omega), List.append_nil]
    rw [hx2] at hb2
    have HS : Hid (SIs w xs n 1 h g p w.heap.size w2) := ⟨⟨xs, _, ⟨by omega, HL.out, hb2⟩, ⟨by omega, List.length_replicate, HB.out.2.1.grown hg2 (fun e => hhg (by injection e with e; exact e.symm))⟩, chunks_one _, fun _ => rfl⟩,
      hhg, hpg, hph, by omega, by omega, by omega, by omega, HB.out.2.2.1.grown hg2 (fun e => hph (by injection e)), HB.out.2.2.2.1.grown hg2 (fun e => by injection e with e; omega), below_row HB.out.2.2.2.2 hg2 hsz (by omega)⟩
    clear HB hsz hsrc hb2 hg2 hx2 b1 b2 b3 hhg hpg hph hmk
    go_wp2_with fail
    go_loopg [5, 7] (n - 1) (fun gg s5 s7 wr => ∃ v h g : Nat, gg = n - v ∧ s5 = .slice (some ⟨h, 0, none⟩) n n ∧ s7 = .int .i64 v ∧ 1 ≤ v ∧ v ≤ 200000 ∧ Hid (SIs w xs n v h g p w.heap.size wr))
    case atStart => exact ⟨1, h, g, rfl, rfl, rfl, by omega, by omega, HS⟩
    case round =>
      clear HS r2
      obtain ⟨v, h1, g1, hgk, rfl, rfl, hv1, hv2, HS⟩ := hrel
      by_cases hvn : v < n
      · have hlt : (v : Int) < (n : Int) := by omega
        obtain ⟨r, ds, or, od, hch, hal⟩ := HS.out.rest
        obtain ⟨m, hm⟩ : ∃ m, (n - 1) / (2 * v) = m := ⟨_, rfl⟩
        have hnm : n ≤ 2 * v * (m + 1) := by
          have := Nat.lt_mul_div_succ (n - 1) (show 0 < 2 * v by omega)
          rw [hm] at this
          omega
        have HC := Lib.hid (halves_any h1 g1 p w.heap.size n v m r ds or.2.1 od.2.1 (fun p hp => hgx p (alike_mem hal hp)) (by omega) (by omega) (by omega) (by omega) hm HS.out.hg HS.out.pg HS.out.qg wr or.2.2 od.2.2 HS.out.var HS.out.cmp)
        rw [List.drop_of_length_le (by rw [od.2.1]; exact hnm), List.append_nil] at HC
        have HO := Lib.hid (And.intro or.1 (And.intro or.2.1 (And.intro hch (And.intro hal (And.intro hnm (And.intro od.1 or.2.2))))))
        have HGK := Lib.hid hgk
        clear hm hnm or od hch hal hgk
        go_wp2_with fail
        refine HC.out.mono ?_
        rintro e w2 ⟨rfl, hb, hg⟩
        have hx0 : w2.cell? ⟨p, 0, none⟩ = some (.slice (some ⟨g1, 0, none⟩) n n) := (HS.out.var.grown hg (fun e => HS.out.pg (by injection e))).cell 0
        have hz0 : w2.frozen? ⟨p, 0, none⟩ = false := (HS.out.var.grown hg (fun e => HS.out.pg (by injection e))).frozen 0
        have HB := Lib.hid (And.intro hb hg)
        clear hb hg HC
        go_wp2_with fail
        go_roundg (n - 2 * v)
        case measure => have := HGK.out; omega
        case rel =>
          obtain ⟨o1, o2, o3, o4, o5, o6, o7⟩ := HO.out
          have hb := HB.out.1
          have hg := HB.out.2
          have hset : ∀ {k : Nat} {t : TypeId} {cs : Array Value}, Blk w2 k t cs → k ≠ p → Blk (w2.setCell ⟨p, 0, none⟩ (.slice (some ⟨h1, 0, none⟩) n n)) k t cs := fun hk hne => hk.far (p := ⟨p, 0, none⟩) hne _
          have hvar : Blk (w2.setCell ⟨p, 0, none⟩ (.slice (some ⟨h1, 0, none⟩) n n)) p 22 #[.slice (some ⟨h1, 0, none⟩) n n] :=
            (HS.out.var.grown hg (fun e => HS.out.pg (by injection e))).set_ 0 _
          refine ⟨2 * v, g1, h1, rfl, rfl, by go_num, by omega, by omega, ⟨⟨passN ltE v r (m + 1), r, ⟨o6, ?_, hset hb (fun e => HS.out.pg e.symm)⟩, ⟨o1, o2, hset (o7.grown hg (fun e => HS.out.hg (by injection e))) (fun e => HS.out.ph e.symm)⟩, pass_chunks ltE_ahead o3 (by rw [o2]; exact o5), fun e => (pass_alike ltE_ahead o3 (by rw [o2]; exact o5) e).trans (o4 e)⟩,
            fun e => HS.out.hg e.symm, HS.out.ph, HS.out.pg, HS.out.qh, HS.out.qg, HS.out.qp, HS.out.bp, hvar, hset (HS.out.cmp.grown hg (fun e => HS.out.qg (by injection e))) HS.out.qp, ?_⟩⟩
          · rw [passN_length, o2]; omega
          · exact (below_row HS.out.below hg HS.out.below.size o6).setCell (p := ⟨p, 0, none⟩) HS.out.bp _
      · have hge : ¬ (v : Int) < (n : Int) := by omega
        go_wp2_with fail
        go_ret
        obtain ⟨r, ds, or, od, hch, hal⟩ := HS.out.rest
        have hr := chunks_all ltE_ahead hch (by rw [or.2.1]; omega) hal
        rw [hr] at or
        exact ⟨h1, rfl, or, HS.out.below⟩

end Go.Proofs.YtgbpaiffnhpafaaDoor
