/- GraphTurns: two rows in variables of their own, each of which grows; the question that writes down what it is asked. -/
import Derived.Test.YticbgikbpafeoaaHj
import Derived.Maps.AppendAt
import Derived.Maps.OwnIn
namespace Go.Proofs.Yticbgikbpafeoaa
open Go.RowKit

theorem own_heap {W W' : World} {base n size : Nat} {e : TypeId} {v : Value} {xs : List Value} (h : W.ownsRow base e size v n xs) (hg : ∀ g, v.ownBlock = some g → W'.heap[g]? = W.heap[g]?) : W'.ownsRow base e size v n xs := by
  refine ⟨h.1, ?_⟩
  rcases h.2 with hn | ⟨g, cap, cur, rfl, hbg, hk, rest⟩
  · exact .inl hn
  · exact .inr ⟨g, cap, cur, rfl, hbg, (hg g (by simp [Value.ownBlock])).trans hk, rest⟩
/-- A row of edges in a variable. -/
def BRow (W : World) (B base : Nat) (v : Value) (k : Nat) (es : List Ed) : Prop := Blk W B 22 #[v] ∧ W.ownsRow base 35 3 v k (cellsE es)
/-- Nothing has turned but that variable, and its row. -/
structure Mv (B : Nat) (v : Value) (W W' : World) : Prop where
  os : W'.os = W.os
  tape : W'.tape = W.tape
  output : W'.output = W.output
  size : W.heap.size ≤ W'.heap.size
  block : ∀ k, k < W.heap.size → k ≠ B → v.ownBlock ≠ some k → W'.heap[k]? = W.heap[k]?
theorem Mv.refl (B : Nat) (v : Value) (W : World) : Mv B v W W := ⟨rfl, rfl, rfl, Nat.le_refl _, fun _ _ _ _ => rfl⟩
theorem Mv.alloc {B : Nat} {v : Value} {W X : World} (h : Mv B v W X) (o : Obj) : Mv B v W (X.alloc o) :=
  ⟨h.os, h.tape, h.output, Nat.le_trans h.size (by simp), fun k hk h1 h2 => (Below.heap_alloc X o k (Nat.lt_of_lt_of_le hk h.size)).trans (h.block k hk h1 h2)⟩
theorem Mv.grown {B : Nat} {v : Value} {W X Y : World} (h : Mv B v W X) (hg : X.grownBy Y v.ownBlock) : Mv B v W Y :=
  ⟨hg.os.trans h.os, hg.tape.trans h.tape, hg.output.trans h.output, Nat.le_trans h.size hg.size, fun k hk h1 h2 => (hg.block k (Nat.lt_of_lt_of_le hk h.size) (fun e => h2 e.symm)).trans (h.block k hk h1 h2)⟩
theorem Mv.set {B : Nat} {v : Value} {W X : World} (h : Mv B v W X) (i : Nat) (u : Value) : Mv B v W (X.setCell ⟨B, i, none⟩ u) :=
  ⟨h.os, h.tape, h.output, Nat.le_trans h.size (by rw [World.size_setCell]; exact Nat.le_refl _), fun k hk h1 h2 => (Below.heap_setCell X ⟨B, i, none⟩ u k h1).trans (h.block k hk h1 h2)⟩
def Apart (v v' : Value) : Prop := ∀ g, v.ownBlock = some g → v'.ownBlock ≠ some g
theorem Apart.symm {v v' : Value} (h : Apart v v') : Apart v' v := fun g hg h2 => h g h2 hg
section
variable {W W' : World} {B B' base base' k k' : Nat} {v v' : Value} {es es' : List Ed}
theorem BRow.ne (h' : BRow W B' base' v' k' es') {C : Nat} {t : TypeId} {cs : Array Value} (hC : Blk W C t cs) (hB : C ≠ B') (ht : 35 ≠ t) (m : Mv B' v' W W') : Blk W' C t cs :=
  (m.block C hC.lt hB (own_blk_ne h'.2 hC ht)).trans hC
theorem BRow.other (h : BRow W B base v k es) (h' : BRow W B' base' v' k' es') (m : Mv B' v' W W') (hB : B ≠ B') (ha : Apart v v') : BRow W' B base v k es := by
  refine ⟨h'.ne h.1 hB (by decide) m, own_heap h.2 fun g hg => ?_⟩
  refine m.block g (h.2.lt g hg).2 (fun e => ?_) (ha g hg)
  subst e
  exact own_blk_ne h.2 h'.1 (by decide) hg
theorem BRow.obj (h' : BRow W B' base' v' k' es') (m : Mv B' v' W W') {l : Nat} {o : Obj} (hl : W.heap[l]? = some o) (ho : o.isCells = false) : W'.heap[l]? = some o := by
  refine (m.block l (Array.getElem?_eq_some_iff.1 hl).1 (fun e => ?_) (fun e => ?_)).trans hl
  · subst e
    have := h'.1
    unfold Blk at this
    rw [hl] at this
    injection this with this
    rw [this] at ho
    cases ho
  · rcases h'.2.2 with ⟨e2, _⟩ | ⟨g, cap, cur, rfl, _, hk, _⟩
    · rw [e2] at e; cases e
    · have : g = l := by simpa [Value.ownBlock] using e
      subst this
      rw [hl] at hk
      injection hk with hk
      rw [hk] at ho
      cases ho
theorem BRow.keeps (h' : BRow W B' base' v' k' es') (m : Mv B' v' W W') : KeepsOthers W W' := ⟨m.size, fun _ _ hl ho => h'.obj m hl ho⟩
theorem BRow.alloc (h : BRow W B base v k es) (o : Obj) : BRow (W.alloc o) B base v k es := ⟨h.1.alloc o, h.2.alloc o⟩
theorem BRow.putObj (h : BRow W B base v k es) {l : Nat} {o : Obj} (o' : Obj) (hl : W.heap[l]? = some o) (ho : o.isCells = false) : BRow (W.putObj l o') B base v k es := by
  have hne : ∀ {c : Nat} {t : TypeId} {cs : Array Value}, Blk W c t cs → c ≠ l := by
    intro c t cs hk e
    subst e
    unfold Blk at hk
    rw [hl] at hk
    injection hk with hk
    rw [hk] at ho
    cases ho
  refine ⟨(World.putObj_heap_other (hne h.1)).trans h.1, own_heap h.2 fun g hg => World.putObj_heap_other ?_⟩
  rcases h.2.2 with ⟨e2, _⟩ | ⟨g', cap, cur, rfl, _, hk, _⟩
  · rw [e2] at hg; cases hg
  · have : g' = g := by simpa [Value.ownBlock] using hg
    subst this
    exact hne (t := 35) hk
theorem Apart.new {N : Nat} {v'' : Value} (ha : Apart v v') (h : BRow W B base v k es) (hn : v''.ownBlock = v'.ownBlock ∨ v''.ownBlock = some N) (hN : W.heap.size ≤ N) : Apart v v'' := by
  intro g hg e
  rcases hn with hn | hn
  · exact ha g hg (hn ▸ e)
  · rw [hn] at e
    injection e with e
    have := (h.2.lt g hg).2
    omega
end

theorem turns1_end {W W1 w5 : World} {Ba base k c c5 N : Nat} {A A5 : Option Addr} {es : List Ed} {p : Ed} (hsz : W.heap.size ≤ W1.heap.size) (hA5 : Blk w5 Ba 22 #[.slice A k c]) (hown : w5.ownsRow base 35 3 (.slice A5 (k + 1) c5) (k + 1) (cellsE (es ++ [p]))) (hM : Mv Ba (.slice A k c) W w5)
    (hat : (Value.slice A5 (k + 1) c5).ownBlock = (Value.slice A k c).ownBlock ∨ (Value.slice A5 (k + 1) c5).ownBlock = some N) (hN : W1.heap.size ≤ N) :
    ∃ (A' : Option Addr) (c' N : Nat), BRow (w5.setCell ⟨Ba, 0, none⟩ (.slice A5 (k + 1) c5)) Ba base (.slice A' (k + 1) c') (k + 1) (es ++ [p]) ∧ Mv Ba (.slice A k c) W (w5.setCell ⟨Ba, 0, none⟩ (.slice A5 (k + 1) c5)) ∧ ((Value.slice A' (k + 1) c').ownBlock = (Value.slice A k c).ownBlock ∨ (Value.slice A' (k + 1) c').ownBlock = some N) ∧ W.heap.size ≤ N :=
  ⟨A5, c5, N, ⟨by simpa using hA5.set_ 0 (.slice A5 (k + 1) c5), own_store hown hA5 (by decide) _⟩, hM.set 0 _, hat, Nat.le_trans hsz hN⟩

set_option maxRecDepth 100000 in
set_option maxHeartbeats 2000000 in
theorem turns1_any (p : Ed) (kd : Int) (Ba Bk base : Nat) (A : Option Addr) (k c : Nat) (es : List Ed) (W : World) (hA : BRow W Ba base (.slice A k c) k es) (hK : Blk W Bk 3 #[.int .i64 kd]) (hk : k ≤ 1000) (hb : base ≤ W.heap.size) :
    Calls Try.prog 31 #[.agg #[.int .i64 p.1, .int .i64 p.2.1, .int .i64 p.2.2], .pointer (some ⟨Ba, 0, none⟩), .pointer (some ⟨Bk, 0, none⟩)] W fun e W' => e = .returned (.bool (decide (p.2.2 ≤ kd))) ∧
      ∃ (A' : Option Addr) (c' N : Nat), BRow W' Ba base (.slice A' (k + 1) c') (k + 1) (es ++ [p]) ∧ Mv Ba (.slice A k c) W W' ∧ ((Value.slice A' (k + 1) c').ownBlock = (Value.slice A k c).ownBlock ∨ (Value.slice A' (k + 1) c').ownBlock = some N) ∧ W.heap.size ≤ N := by
  obtain ⟨i0, hi, hz0, hz1, hz2⟩ := info_parts pair_info
  have hkb : Bk ≠ Ba := by
    intro e
    subst e
    exact Blk.ne_ hK hA.1 (by decide) rfl
  have hy := Blk.new W 35 #[.int .i64 p.1, .int .i64 p.2.1, .int .i64 p.2.2]
  have hA1 := hA.alloc (.cells #[.int .i64 p.1, .int .i64 p.2.1, .int .i64 p.2.2] 35)
  have hK1 := hK.alloc (.cells #[.int .i64 p.1, .int .i64 p.2.1, .int .i64 p.2.2] 35)
  have hyb : W.heap.size ≠ Ba := Ne.symm (Nat.ne_of_lt hA.1.lt)
  have hyo : (Value.slice A k c).ownBlock ≠ some W.heap.size := fun e => by have := (hA.2.lt _ e).2; omega
  have hM := (Mv.refl Ba (.slice A k c) W).alloc (.cells #[.int .i64 p.1, .int .i64 p.2.1, .int .i64 p.2.2] 35)
  have hsz : W.heap.size ≤ (W.alloc (.cells #[.int .i64 p.1, .int .i64 p.2.1, .int .i64 p.2.2] 35)).heap.size := by simp
  obtain ⟨W1, hW1⟩ : ∃ W1, W.alloc (.cells #[.int .i64 p.1, .int .i64 p.2.1, .int .i64 p.2.2] 35) = W1 := ⟨_, rfl⟩
  rw [hW1] at hy hA1 hK1 hM hsz
  have x0 := hA1.1.cell 0
  have y0 := hy.cell 0
  have y1 := hy.cell 1
  have y2 := hy.cell 2
  have HA := Lib.hid hA1
  have HK := Lib.hid hK1
  have HY := Lib.hid hy
  have HM := Lib.hid hM
  have HSZ := Lib.hid hsz
  have HYO := Lib.hid hyo
  clear hA hK hy hA1 hK1 hM hsz hyo
  go_enter Try.func31, Try.ntmps31
  go_wp2_with (at_builtin; refine wpList_append_own_at _ rfl _ _ 22 rfl base 35 i0 _ 3 24 Try.underlying22 hi hz0 hz1 hz2 rfl (by decide) (.slice A k c) k _ rfl (HA.out.2.alloc _) ⟨W1.heap.size, 0, none⟩ 1 1 (edCells p) rfl rfl (ed_new _ _ _) (edCells_one _) (by unfold maxLen; omega) (by omega) (by have := HSZ.out; simp; omega) ?_; intro v5 w5 hown5 hgrow5 _ hat5; obtain ⟨A5, c5, rfl, h51, h52⟩ := own_form2 hown5; rw [← cellsE_snoc] at hown5; have hA5 := (HA.out.1.alloc (.cells #[.int .i64 p.1, .int .i64 p.2.1, .int .i64 p.2.2] 35)).grown hgrow5 (fun e => own_blk_ne HA.out.2 HA.out.1 (by decide) e.symm); have hK5 := (HK.out.alloc (.cells #[.int .i64 p.1, .int .i64 p.2.1, .int .i64 p.2.2] 35)).grown hgrow5 (fun e => own_blk_ne HA.out.2 HK.out (by decide) e.symm); have hY5 := (HY.out.alloc (.cells #[.int .i64 p.1, .int .i64 p.2.1, .int .i64 p.2.2] 35)).grown hgrow5 (fun e => HYO.out e.symm); have a0 := hA5.cell 0; have f0 := hA5.frozen 0; have q0 := (hK5.far (p := ⟨Ba, 0, none⟩) hkb (.slice A5 (k + 1) c5)).cell 0; have q2 := (hY5.far (p := ⟨Ba, 0, none⟩) hyb (.slice A5 (k + 1) c5)).cell 2; have HE := Lib.hid (turns1_end HSZ.out hA5 hown5 ((HM.out.alloc _).grown hgrow5) hat5 (by simp)); clear hA5 hK5 hY5 hown5 hgrow5 hat5 x0 y0 y1 y2)
  go_ret
  exact ⟨rfl, HE.out⟩
end Go.Proofs.Yticbgikbpafeoaa
