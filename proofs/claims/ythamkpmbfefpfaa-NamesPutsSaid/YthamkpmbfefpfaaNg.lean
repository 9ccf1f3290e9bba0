/- Layer names: the table that grows name by name, in a variable of its own; rows of numbers that are made and written: what lies in memory. -/
import Derived.Test.YthamkpmbfefpfaaNf
import Derived.Test.YthamkpmbfefpfaaQd
namespace Go.Proofs.Ythamkpmbfefpfaa
open Go.RowKit Go.Shelf Go.Maps

theorem OnlyN.normal {K : Act → World → Prop} {a : Act} {w : World} (h : K a w) : OnlyN K .normal a w := h
theorem made_intsN (n : Nat) : madeCells (Value.int .i64 0).cells (n * 1) = (ints (List.replicate n 0)).toArray := by
  apply Array.ext
  · rw [size_madeCells, List.size_toArray, ints_length, List.length_replicate, Nat.mul_one]
  · intro j h1 h2
    have e1 : ∀ k, (ints (List.replicate k 0)) = List.replicate k (.int .i64 0) := by
      intro k; unfold ints; rw [List.map_replicate]
    have hz : (Value.int .i64 0).cells = #[.int .i64 0] := by simp [Value.cells]
    simp only [e1, madeCells, hz, Array.getElem_map, Array.getElem_range, List.getElem_toArray, List.getElem_replicate]
    simp [Nat.mod_one]
theorem int_makeN (n : Nat) (hn : n ≤ 1000000) (W : World) :
    (Instr.makeSlice 25 (.int .i64 (n : Int)) (.int .i64 (n : Int))).run Try.prog W = .ok (.slice (some ⟨W.heap.size, 0, none⟩) n n) (W.alloc (.cells (ints (List.replicate n 0)).toArray 3)) := by
  obtain ⟨i0, hi, hz0, hz1, hz2⟩ := info_parts int9_info
  have hr := run_make (P := Try.prog) W 25 3 i0 _ Try.underlying25 hi hz0 .i64 .i64 n n (by omega) (by omega) (by rw [hz2]; omega) (by omega)
  simp only [Int.toNat_natCast] at hr
  rw [hz1, made_intsN] at hr
  exact hr
/-- A row of numbers whose block is known whole is one of one's own. -/
theorem own_blkI {W : World} {N P m : Nat} {zs : List Int} (h : Blk W P 3 (ints zs).toArray) (hl : zs.length = m) (hN : N ≤ P) (hm : m ≤ 1000000) : W.ownsRow N 3 1 (.slice (some ⟨P, 0, none⟩) m m) m (ints zs) :=
  ⟨by rw [ints_length, hl, Nat.mul_one], .inr ⟨P, m, _, rfl, hN, h, Nat.le_refl _, by unfold maxLen; omega, by simp [ints_length, hl], by simp [ints_length, hl, List.take_of_length_le]⟩⟩

/-- The table that grows, in the variable Bm; its row lies from N on. -/
structure MoreAt (N Bm : Nat) (A : Option Addr) (m c : Nat) (ns : List ByteArray) (X : World) : Prop where
  blk : Blk X Bm 24 #[.slice A m c]
  own : X.ownsRow N 9 1 (.slice A m c) m (strs ns)
section
variable {N Bm m c : Nat} {A : Option Addr} {ns : List ByteArray} {X Y : World}
theorem MoreAt.len (h : MoreAt N Bm A m c ns X) : ns.length = m := by have := h.own.1; rw [strs_length] at this; omega
theorem MoreAt.keep {S : Nat → Prop} (h : MoreAt N Bm A m c ns X) (hk : Keep S X Y) (h1 : S Bm) (h2 : ∀ g, (Value.slice A m c).ownBlock = some g → S g) : MoreAt N Bm A m c ns Y := ⟨hk.blk h.blk h1, hk.own h.own h2⟩
theorem MoreAt.on (h : MoreAt N Bm A m c ns X) (hb : Below X.heap.size X Y) : MoreAt N Bm A m c ns Y := h.keep (Keep.of_all (fun _ => True) hb) trivial fun _ _ => trivial
theorem MoreAt.own_lt (h : MoreAt N Bm A m c ns X) {g : Nat} (hg : (Value.slice A m c).ownBlock = some g) : N ≤ g ∧ g < X.heap.size := by
  have := own_in h.own hg
  exact ⟨this.1, this.2.1⟩
/-- One name more: the row has grown, and then is stored. -/
theorem MoreAt.grow {A5 : Option Addr} {c5 : Nat} {s : ByteArray} {W : World} (h : MoreAt N Bm A m c ns X) (hk0 : Keep (fun j => j ≠ Bm ∧ (Value.slice A m c).ownBlock ≠ some j) W X)
    (hown : Y.ownsRow N 9 1 (.slice A5 (m + 1) c5) (m + 1) (strs ns ++ [.string s])) (hg : X.grownBy Y (Value.slice A m c).ownBlock) (ho : (Value.slice A5 (m + 1) c5).ownBlock = (Value.slice A m c).ownBlock ∨ (Value.slice A5 (m + 1) c5).ownBlock = some X.heap.size) :
    Blk Y Bm 24 #[.slice A m c] ∧ MoreAt N Bm A5 (m + 1) c5 (ns ++ [s]) (Y.setCell ⟨Bm, 0, none⟩ (.slice A5 (m + 1) c5)) ∧ Keep (fun j => j ≠ Bm ∧ (Value.slice A m c).ownBlock ≠ some j) W (Y.setCell ⟨Bm, 0, none⟩ (.slice A5 (m + 1) c5)) ∧
      (∀ g, (Value.slice A5 (m + 1) c5).ownBlock = some g → (Value.slice A m c).ownBlock = some g ∨ W.heap.size ≤ g) := by
  have hne := own_blk_ne h.own h.blk (by decide)
  have hb : Blk Y Bm 24 #[.slice A m c] := h.blk.grown hg fun e => hne e.symm
  have hb2 : Blk (Y.setCell ⟨Bm, 0, none⟩ (.slice A5 (m + 1) c5)) Bm 24 #[.slice A5 (m + 1) c5] := by
    have := hb.set_ 0 (.slice A5 (m + 1) c5)
    simpa using this
  have hne5 := own_blk_ne hown hb (by decide)
  refine ⟨hb, ⟨hb2, ?_⟩, ?_, fun g hg5 => ?_⟩
  · rw [strs_append]
    refine own_heap6 hown fun g hg5 => ?_
    exact Below.heap_setCell Y ⟨Bm, 0, none⟩ _ g (fun e => hne5 (by rw [hg5, e]))
  · exact (hk0.grown hg fun g hg5 => .inr fun hh => hh.2 hg5).set (.inr fun hh => hh.1 rfl) 0 _
  · rcases ho with ho | ho
    · exact .inl (ho.symm.trans hg5)
    · rw [ho] at hg5
      injection hg5 with hg5
      exact .inr (hg5 ▸ hk0.size)
end

/-- What put holds while it goes on: the numbers, the table that grows, the row of numbers, the mark of the range that has ended. -/
structure PutL (N Bm Bn M P D : Nat) (A : Option Addr) (m c : Nat) (us vs : List ByteArray) (ws : List Int) (W6 X : World) : Prop where
  num : NumAt Bn M us X
  more : MoreAt N Bm A m c vs X
  row : Blk X P 3 (ints ws).toArray
  mark : X.heap[D]? = some (.deferred (some []))
  keep : Keep (fun j => j < Bm ∧ j ≠ M) W6 X
  lo : M < Bm ∧ Bm ≤ N ∧ N ≤ P ∧ N ≤ D
section
variable {N Bm Bn M P D m c : Nat} {A : Option Addr} {us vs : List ByteArray} {ws : List Int} {W6 X Y : World}
theorem PutL.on (h : PutL N Bm Bn M P D A m c us vs ws W6 X) (hb : Below X.heap.size X Y) : PutL N Bm Bn M P D A m c us vs ws W6 Y :=
  ⟨h.num.on hb, h.more.on hb, h.row.below hb h.row.lt, (Keep.of_all (fun _ => True) hb).obj h.mark trivial, h.keep.trans (Keep.of_all _ hb), h.lo⟩
theorem PutL.mark_ne (h : PutL N Bm Bn M P D A m c us vs ws W6 X) {g : Nat} {t : TypeId} {cs : Array Value} (hb : Blk X g t cs) : D ≠ g := fun e => by
  have := h.mark
  unfold Blk at hb
  rw [e, hb] at this
  cases this
theorem PutL.mark_map (h : PutL N Bm Bn M P D A m c us vs ws W6 X) : D ≠ M := fun e => by
  obtain ⟨D', h1, _⟩ := h.num.map
  obtain ⟨es, clock, hm, _⟩ := h1
  have := h.mark
  rw [e, hm] at this
  cases this
theorem PutL.numbered {us' : List ByteArray} (h : PutL N Bm Bn M P D A m c us vs ws W6 X) (hn : NumAt Bn M us' Y) (hk : Keep (fun k => k ≠ M) X Y) : PutL N Bm Bn M P D A m c us' vs ws W6 Y :=
  ⟨hn, h.more.keep hk (h.num.blk_ne h.more.blk) fun g hg => by
    obtain ⟨_, _, cur, hb⟩ := own_in h.more.own hg
    exact h.num.blk_ne hb, hk.blk h.row (h.num.blk_ne h.row), hk.obj h.mark h.mark_map, h.keep.trans (hk.mono fun j _ hj => hj.2), h.lo⟩
theorem PutL.set (h : PutL N Bm Bn M P D A m c us vs ws W6 X) (i : Nat) (v : Int) : PutL N Bm Bn M P D A m c us vs (ws.set i v) W6 (X.setCell ⟨P, i, none⟩ (.int .i64 v)) := by
  have hk : Keep (fun k => k ≠ P) X (X.setCell ⟨P, i, none⟩ (.int .i64 v)) := (Keep.refl _ X).set (.inr fun e => e rfl) _ _
  refine ⟨h.num.keep hk (Blk.ne_ h.num.box h.row (by decide)) (Ne.symm (h.num.blk_ne h.row)), h.more.keep hk (Blk.ne_ h.more.blk h.row (by decide)) fun g hg e => own_blk_ne h.more.own h.row (by decide) (by rw [hg, e]), ?_, hk.obj h.mark (h.mark_ne h.row), h.keep.trans (hk.mono fun j _ hj e => by have := h.lo; omega), h.lo⟩
  have := h.row.set_ i (.int .i64 v)
  rw [List.setIfInBounds_toArray, ints_set] at this
  exact this
theorem PutL.grown {A5 : Option Addr} {m5 c5 : Nat} {vs' : List ByteArray} (h : PutL N Bm Bn M P D A m c us vs ws W6 X) (hm : MoreAt N Bm A5 m5 c5 vs' Y) (hk : Keep (fun j => j ≠ Bm ∧ (Value.slice A m c).ownBlock ≠ some j) X Y) : PutL N Bm Bn M P D A5 m5 c5 us vs' ws W6 Y := by
  have hMo : (Value.slice A m c).ownBlock ≠ some M := fun e => by
    obtain ⟨_, _, cur, hb⟩ := own_in h.more.own e
    exact h.num.blk_ne hb rfl
  have hDo : (Value.slice A m c).ownBlock ≠ some D := fun e => by
    obtain ⟨_, _, cur, hb⟩ := own_in h.more.own e
    exact h.mark_ne hb rfl
  exact ⟨h.num.keep hk ⟨Blk.ne_ h.num.box h.more.blk (by decide), own_blk_ne h.more.own h.num.box (by decide)⟩ ⟨Ne.symm (h.num.blk_ne h.more.blk), hMo⟩, hm, hk.blk h.row ⟨Blk.ne_ h.row h.more.blk (by decide), own_blk_ne h.more.own h.row (by decide)⟩, hk.obj h.mark ⟨h.mark_ne h.more.blk, hDo⟩,
    h.keep.trans (hk.mono fun j _ hj => ⟨by omega, fun e => by have := (h.more.own_lt e).1; have := h.lo; omega⟩), h.lo⟩
end
end Go.Proofs.Ythamkpmbfefpfaa
