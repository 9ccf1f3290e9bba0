/- Layer order: Sort and Merge of pairs: their contracts. -/
import Derived.Test.YtldjffeecbegjaaOd
import Derived.Deep.DeepCutAuto
import Derived.BigRegion
namespace Go.Proofs.Ytldjffeecbegjaa
open Go.RowKit

theorem pair_info : (Try.prog.info? 27).map (fun i => (i.zero, i.size, i.bytes)) = some (some (.agg #[.int .i64 0, .int .i64 0]), 2, 16) := by kernel_rfl
theorem made_pairs (n : Nat) : madeCells (Value.agg #[.int .i64 0, .int .i64 0]).cells (n * 2) = (cellsP (List.replicate n ((0, 0) : Pr))).toArray := by
  apply Array.ext
  · rw [size_madeCells, List.size_toArray, cellsP_length, List.length_replicate]
  · intro j h1 h2
    have e1 : ∀ k, (cellsP (List.replicate k ((0, 0) : Pr))) = List.replicate (k * 2) (.int .i64 0) := by
      intro k
      induction k with
      | zero => rfl
      | succ k ih => rw [List.replicate_succ, cellsP_cons, ih, Nat.succ_mul]; rfl
    have hz : (Value.agg #[.int .i64 0, .int .i64 0]).cells = #[.int .i64 0, .int .i64 0] := by simp [Value.cells]
    simp only [e1, madeCells, hz, Array.getElem_map, Array.getElem_range, List.getElem_toArray, List.getElem_replicate]
    rcases Nat.mod_two_eq_zero_or_one j with h | h <;> simp [h]
theorem pr_make (n : Nat) (hn : n ≤ 1000000) (W : World) :
    (Instr.makeSlice 22 (.int .i64 (n : Int)) (.int .i64 (n : Int))).run Try.prog W = .ok (.slice (some ⟨W.heap.size, 0, none⟩) n n) (W.alloc (.cells (cellsP (List.replicate n ((0, 0) : Pr))).toArray 27)) := by
  obtain ⟨i0, hi, hz0, hz1, hz2⟩ := info_parts pair_info
  have hr := run_make (P := Try.prog) W 22 27 i0 _ Try.underlying22 hi hz0 .i64 .i64 n n (by omega) (by omega) (by rw [hz2]; omega) (by omega)
  simp only [Int.toNat_natCast] at hr
  rw [hz1, made_pairs] at hr
  exact hr

theorem four_blocks (w : World) (c0 c1 c2 c3 : Array Value) (t0 t1 t2 t3 : TypeId) :
    Blk ((((w.alloc (.cells c0 t0)).alloc (.cells c1 t1)).alloc (.cells c2 t2)).alloc (.cells c3 t3)).drew w.heap.size t0 c0 ∧
    Blk ((((w.alloc (.cells c0 t0)).alloc (.cells c1 t1)).alloc (.cells c2 t2)).alloc (.cells c3 t3)).drew (w.heap.size + 1) t1 c1 ∧
    Blk ((((w.alloc (.cells c0 t0)).alloc (.cells c1 t1)).alloc (.cells c2 t2)).alloc (.cells c3 t3)).drew (w.heap.size + 1 + 1) t2 c2 ∧
    Blk ((((w.alloc (.cells c0 t0)).alloc (.cells c1 t1)).alloc (.cells c2 t2)).alloc (.cells c3 t3)).drew (w.heap.size + 1 + 1 + 1) t3 c3 ∧
    Below w.heap.size w ((((w.alloc (.cells c0 t0)).alloc (.cells c1 t1)).alloc (.cells c2 t2)).alloc (.cells c3 t3)).drew := by
  have e1 : (w.alloc (.cells c0 t0)).heap.size = w.heap.size + 1 := by simp
  have e2 : ((w.alloc (.cells c0 t0)).alloc (.cells c1 t1)).heap.size = w.heap.size + 1 + 1 := by simp
  have e3 : (((w.alloc (.cells c0 t0)).alloc (.cells c1 t1)).alloc (.cells c2 t2)).heap.size = w.heap.size + 1 + 1 + 1 := by simp
  have b1 := Blk.new (w.alloc (.cells c0 t0)) t1 c1
  have b2 := Blk.new ((w.alloc (.cells c0 t0)).alloc (.cells c1 t1)) t2 c2
  have b3 := Blk.new (((w.alloc (.cells c0 t0)).alloc (.cells c1 t1)).alloc (.cells c2 t2)) t3 c3
  rw [e1] at b1
  rw [e2] at b2
  rw [e3] at b3
  exact ⟨((((Blk.new w t0 c0).alloc _).alloc _).alloc _).drew, ((b1.alloc _).alloc _).drew, (b2.alloc _).drew, b3.drew,
    (((((Below.refl _ _).alloc (Nat.le_refl _) _).alloc (by simp) _).alloc (by simp; omega) _).alloc (by simp; omega) _).drew⟩

/-- A row of the call's own, whole. -/
def Own (B : Nat) (h n : Nat) (xs : List Pr) (w : World) : Prop := B ≤ h ∧ xs.length = n ∧ Blk w h 27 (cellsP xs).toArray
/-- How far Sort has come. -/
structure SIs (w : World) (xs : List Pr) (n v h g p q : Nat) (wr : World) : Prop where
  rest : ∃ r ds : List Pr, Own w.heap.size h n r wr ∧ Own w.heap.size g n ds wr ∧ Chunks ltP v r ∧ ∀ e, r.filter (alike ltP e) = xs.filter (alike ltP e)
  hg : h ≠ g
  pg : p ≠ g
  ph : p ≠ h
  qg : q ≠ g
  qh : q ≠ h
  qp : q ≠ p
  bp : w.heap.size ≤ p
  var : Blk wr p 22 #[.slice (some ⟨g, 0, none⟩) n n]
  cmp : Blk wr q 28 #[.func (.func 11) #[] #[]]
  below : Below w.heap.size w wr

/-- What Sort hands back. -/
def SortIs (n : Nat) (xs : List Pr) (w : World) (e : Ending) (w' : World) : Prop :=
  ∃ h, e = .returned (.slice (some ⟨h, 0, none⟩) n n) ∧ Own w.heap.size h n xs w' ∧ Below w.heap.size w w'

theorem below_row {B : Nat} {w a w' : World} {g : Nat} (h : Below B w a) (hg : a.grownBy w' (some g)) (hB : B ≤ a.heap.size) (hgB : B ≤ g) : Below B w w' :=
  h.grown hg hB (fun j hj => by injection hj with hj; omega)

set_option maxRecDepth 100000 in
set_option maxHeartbeats 4000000 in
theorem sort_any (A : Option Addr) (n c : Nat) (xs : List Pr) (hn : n ≤ 100000) (w : World) (hR : Reads w w.heap.size 2 A n (cellsP xs)) :
    Calls Try.prog 10 #[.slice A n c, .func (.func 11) #[] #[]] w (SortIs n (srt ltP xs) w) := by
  have hl : xs.length = n := by have := hR.1; rw [cellsP_length] at this; omega
  have HL := Lib.hid hl
  have HR := Lib.hid hR
  have hmk := fun W => pr_make n (by omega) W
  clear hl hR
  go_enter Try.func10, Try.ntmps10
  go_upto_region 1 with fail
  go_cut [5, 6] (fun s5 s6 wx => ∃ h g p : Nat, s5 = .slice (some ⟨h, 0, none⟩) n n ∧ s6 = .pointer (some ⟨p, 0, none⟩) ∧ w.heap.size < h ∧ w.heap.size < g ∧ w.heap.size < p ∧ h ≠ g ∧ p ≠ g ∧ p ≠ h ∧
    Hid (Blk wx h 27 (cellsP (List.replicate n ((0, 0) : Pr))).toArray ∧ Blk wx g 27 (cellsP (List.replicate n ((0, 0) : Pr))).toArray ∧ Blk wx p 22 #[.slice (some ⟨g, 0, none⟩) n n] ∧
      Blk wx w.heap.size 28 #[.func (.func 11) #[] #[]] ∧ Below w.heap.size w wx))
  case first =>
    go_region
    all_goals
      go_wp2_with fail
      go_meet
      first
        | exact ⟨w.heap.size + 1, w.heap.size + 1 + 1, w.heap.size + 1 + 1 + 1, rfl, rfl, by omega, by omega, by omega, by omega, by omega, by omega, ⟨(four_blocks w _ _ _ _ _ _ _ _).2.1, (four_blocks w _ _ _ _ _ _ _ _).2.2.1, (four_blocks w _ _ _ _ _ _ _ _).2.2.2.1, (four_blocks w _ _ _ _ _ _ _ _).1, (four_blocks w _ _ _ _ _ _ _ _).2.2.2.2⟩⟩
        | exact ⟨w.heap.size + 1, w.heap.size + 1 + 1 + 1, w.heap.size + 1 + 1, rfl, rfl, by omega, by omega, by omega, by omega, by omega, by omega, ⟨(four_blocks w _ _ _ _ _ _ _ _).2.1, (four_blocks w _ _ _ _ _ _ _ _).2.2.2.1, (four_blocks w _ _ _ _ _ _ _ _).2.2.1, (four_blocks w _ _ _ _ _ _ _ _).1, (four_blocks w _ _ _ _ _ _ _ _).2.2.2.2⟩⟩
        | exact ⟨w.heap.size + 1 + 1, w.heap.size + 1, w.heap.size + 1 + 1 + 1, rfl, rfl, by omega, by omega, by omega, by omega, by omega, by omega, ⟨(four_blocks w _ _ _ _ _ _ _ _).2.2.1, (four_blocks w _ _ _ _ _ _ _ _).2.1, (four_blocks w _ _ _ _ _ _ _ _).2.2.2.1, (four_blocks w _ _ _ _ _ _ _ _).1, (four_blocks w _ _ _ _ _ _ _ _).2.2.2.2⟩⟩
        | exact ⟨w.heap.size + 1 + 1, w.heap.size + 1 + 1 + 1, w.heap.size + 1, rfl, rfl, by omega, by omega, by omega, by omega, by omega, by omega, ⟨(four_blocks w _ _ _ _ _ _ _ _).2.2.1, (four_blocks w _ _ _ _ _ _ _ _).2.2.2.1, (four_blocks w _ _ _ _ _ _ _ _).2.1, (four_blocks w _ _ _ _ _ _ _ _).1, (four_blocks w _ _ _ _ _ _ _ _).2.2.2.2⟩⟩
        | exact ⟨w.heap.size + 1 + 1 + 1, w.heap.size + 1, w.heap.size + 1 + 1, rfl, rfl, by omega, by omega, by omega, by omega, by omega, by omega, ⟨(four_blocks w _ _ _ _ _ _ _ _).2.2.2.1, (four_blocks w _ _ _ _ _ _ _ _).2.1, (four_blocks w _ _ _ _ _ _ _ _).2.2.1, (four_blocks w _ _ _ _ _ _ _ _).1, (four_blocks w _ _ _ _ _ _ _ _).2.2.2.2⟩⟩
        | exact ⟨w.heap.size + 1 + 1 + 1, w.heap.size + 1 + 1, w.heap.size + 1, rfl, rfl, by omega, by omega, by omega, by omega, by omega, by omega, ⟨(four_blocks w _ _ _ _ _ _ _ _).2.2.2.1, (four_blocks w _ _ _ _ _ _ _ _).2.2.1, (four_blocks w _ _ _ _ _ _ _ _).2.1, (four_blocks w _ _ _ _ _ _ _ _).1, (four_blocks w _ _ _ _ _ _ _ _).2.2.2.2⟩⟩
  case rest =>
    obtain ⟨h, g, p, rfl, rfl, b1, b2, b3, hhg, hpg, hph, HB⟩ := hcut
    have hsz := HB.out.2.2.2.2.size
    have hsrc : Src wc h 2 A n (cellsP xs) := Src.of_reads ((HR.out.below HB.out.2.2.2.2)) (by omega) hsz (by omega)
    obtain ⟨w2, r2, hb2, hg2⟩ := copy_pairs wc h 0 0 n n A n c _ xs (by omega) HB.out.1 hsrc (Nat.le_refl _) (by rw [List.length_replicate]; omega)
    have hx2 : (List.replicate n ((0, 0) : Pr)).take 0 ++ xs ++ (List.replicate n ((0, 0) : Pr)).drop (0 + n) = xs := by
      rw [List.take_zero, List.nil_append, List.drop_of_length_le (by rw [List.length_replicate]; omega), List.append_nil]
    rw [hx2] at hb2
    have HS : Hid (SIs w xs n 1 h g p w.heap.size w2) := ⟨⟨xs, _, ⟨by omega, HL.out, hb2⟩, ⟨by omega, List.length_replicate, HB.out.2.1.grown hg2 (fun e => hhg (by injection e with e; exact e.symm))⟩, chunks_one _, fun _ => rfl⟩,
      hhg, hpg, hph, by omega, by omega, by omega, by omega, HB.out.2.2.1.grown hg2 (fun e => hph (by injection e)), HB.out.2.2.2.1.grown hg2 (fun e => by injection e with e; omega), below_row HB.out.2.2.2.2 hg2 hsz (by omega)⟩
    clear HB hsz hsrc hb2 hg2 hx2 b1 b2 b3 hhg hpg hph hmk
    go_wp2_with fail
    go_loopg [5, 7] (n - 1) (fun gg s5 s7 wr => ∃ v h g : Nat, gg = n - v ∧ s5 = .slice (some ⟨h, 0, none⟩) n n ∧ s7 = .int .i64 v ∧ 1 ≤ v ∧ v ≤ 200000 ∧ Hid (SIs w xs n v h g p w.heap.size wr))
    case atStart => exact ⟨1, h, g, rfl, rfl, rfl, by omega, by omega, HS⟩
    case round =>
      clear HS r2
      obtain ⟨v, h1, g1, hgk, rfl, rfl, hv1, hv2, HS⟩ := hrel
      by_cases hvn : v < n
      · have hlt : (v : Int) < (n : Int) := by omega
        obtain ⟨r, ds, or, od, hch, hal⟩ := HS.out.rest
        obtain ⟨m, hm⟩ : ∃ m, (n - 1) / (2 * v) = m := ⟨_, rfl⟩
        have hnm : n ≤ 2 * v * (m + 1) := by
          have := Nat.lt_mul_div_succ (n - 1) (show 0 < 2 * v by omega)
          rw [hm] at this
          omega
        have HC := Lib.hid (halves_any h1 g1 p w.heap.size n v m r ds or.2.1 od.2.1 (by omega) (by omega) (by omega) (by omega) hm HS.out.hg HS.out.pg HS.out.qg wr or.2.2 od.2.2 HS.out.var HS.out.cmp)
        rw [List.drop_of_length_le (by rw [od.2.1]; exact hnm), List.append_nil] at HC
        have HO := Lib.hid (And.intro or.1 (And.intro or.2.1 (And.intro hch (And.intro hal (And.intro hnm (And.intro od.1 or.2.2))))))
        have HGK := Lib.hid hgk
        clear hm hnm or od hch hal hgk
        go_wp2_with fail
        refine HC.out.mono ?_
        rintro e w2 ⟨rfl, hb, hg⟩
        have hx0 : w2.cell? ⟨p, 0, none⟩ = some (.slice (some ⟨g1, 0, none⟩) n n) := (HS.out.var.grown hg (fun e => HS.out.pg (by injection e))).cell 0
        have hz0 : w2.frozen? ⟨p, 0, none⟩ = false := (HS.out.var.grown hg (fun e => HS.out.pg (by injection e))).frozen 0
        have HB := Lib.hid (And.intro hb hg)
        clear hb hg HC
        go_wp2_with fail
        go_roundg (n - 2 * v)
        case measure => have := HGK.out; omega
        case rel =>
          obtain ⟨o1, o2, o3, o4, o5, o6, o7⟩ := HO.out
          have hb := HB.out.1
          have hg := HB.out.2
          have hset : ∀ {k : Nat} {t : TypeId} {cs : Array Value}, Blk w2 k t cs → k ≠ p → Blk (w2.setCell ⟨p, 0, none⟩ (.slice (some ⟨h1, 0, none⟩) n n)) k t cs := fun hk hne => hk.far (p := ⟨p, 0, none⟩) hne _
          have hvar : Blk (w2.setCell ⟨p, 0, none⟩ (.slice (some ⟨h1, 0, none⟩) n n)) p 22 #[.slice (some ⟨h1, 0, none⟩) n n] :=
            (HS.out.var.grown hg (fun e => HS.out.pg (by injection e))).set_ 0 _
          refine ⟨2 * v, g1, h1, rfl, rfl, by go_num, by omega, by omega, ⟨⟨passN ltP v r (m + 1), r, ⟨o6, ?_, hset hb (fun e => HS.out.pg e.symm)⟩, ⟨o1, o2, hset (o7.grown hg (fun e => HS.out.hg (by injection e))) (fun e => HS.out.ph e.symm)⟩, pass_chunks ltP_ahead o3 (by rw [o2]; exact o5), fun e => (pass_alike ltP_ahead o3 (by rw [o2]; exact o5) e).trans (o4 e)⟩,
            fun e => HS.out.hg e.symm, HS.out.ph, HS.out.pg, HS.out.qh, HS.out.qg, HS.out.qp, HS.out.bp, hvar, hset (HS.out.cmp.grown hg (fun e => HS.out.qg (by injection e))) HS.out.qp, ?_⟩⟩
          · rw [passN_length, o2]; omega
          · exact (below_row HS.out.below hg HS.out.below.size o6).setCell (p := ⟨p, 0, none⟩) HS.out.bp _
      · have hge : ¬ (v : Int) < (n : Int) := by omega
        go_wp2_with fail
        go_ret
        obtain ⟨r, ds, or, od, hch, hal⟩ := HS.out.rest
        have hr := chunks_all ltP_ahead hch (by rw [or.2.1]; omega) hal
        rw [hr] at or
        exact ⟨h1, rfl, or, HS.out.below⟩

set_option maxRecDepth 100000 in
set_option maxHeartbeats 2000000 in
theorem merge2_any (A B : Option Addr) (na nb ca cb : Nat) (xs ys : List Pr) (hna : na ≤ ca) (hnb : nb ≤ cb) (hca : ca ≤ 9223372036854775807) (hcb : cb ≤ 9223372036854775807) (hn : na + nb ≤ 100000) (w : World)
    (hA : Reads w w.heap.size 2 A na (cellsP xs)) (hB : Reads w w.heap.size 2 B nb (cellsP ys)) :
    Calls Try.prog 14 #[.slice A na ca, .slice B nb cb, .func (.func 11) #[] #[]] w (SortIs (na + nb) (mrg ltP xs ys) w) := by
  have hlx : xs.length = na := by have := hA.1; rw [cellsP_length] at this; omega
  have hly : ys.length = nb := by have := hB.1; rw [cellsP_length] at this; omega
  have hmk := fun W => pr_make (na + nb) (by omega) W
  have hcast : ((na + nb : Nat) : Int) = (na : Int) + (nb : Int) := by omega
  rw [hcast] at hmk
  clear hcast
  have b1 : Below w.heap.size w (w.alloc (.cells (cellsP (List.replicate (na + nb) ((0, 0) : Pr))).toArray 27)) := (Below.refl _ _).alloc (Nat.le_refl _) _
  have HC := Lib.hid (merge_any w.heap.size 0 (na + nb) (na + nb) (List.replicate (na + nb) ((0, 0) : Pr)) xs ys A B na nb ca cb rfl hna hnb hca hcb (Nat.le_refl _) (by rw [List.length_replicate]; omega) (by rw [List.length_replicate]; omega)
    (w.alloc (.cells (cellsP (List.replicate (na + nb) ((0, 0) : Pr))).toArray 27)) (Src.of_reads (hA.below b1) (by omega) (by simp) (Nat.le_refl _)) (Src.of_reads (hB.below b1) (by omega) (by simp) (Nat.le_refl _)) (Blk.new _ _ _))
  rw [Nat.zero_mul] at HC
  have HL := Lib.hid (And.intro hlx hly)
  clear hlx hly hA hB
  go_enter Try.func14, Try.ntmps14
  go_wp2_with fail
  refine HC.out.mono ?_
  rintro e w2 h2
  obtain ⟨rfl, hb, hg⟩ := h2.refill
  have hx : (List.replicate (na + nb) ((0, 0) : Pr)).take 0 ++ mrg ltP xs ys ++ (List.replicate (na + nb) ((0, 0) : Pr)).drop (0 + (na + nb)) = mrg ltP xs ys := by
    rw [List.take_zero, List.nil_append, List.drop_of_length_le (by rw [List.length_replicate]; omega), List.append_nil]
  rw [hx] at hb
  have HF : Hid (Own w.heap.size w.heap.size (na + nb) (mrg ltP xs ys) w2 ∧ Below w.heap.size w w2) :=
    ⟨⟨Nat.le_refl _, by rw [mrg_len, HL.out.1, HL.out.2], hb⟩, below_row b1 hg (by simp) (Nat.le_refl _)⟩
  clear hb hg hx h2 HC hmk
  go_wp2_with fail
  go_ret
  exact ⟨_, rfl, HF.out.1, HF.out.2⟩
end Go.Proofs.Ytldjffeecbegjaa
