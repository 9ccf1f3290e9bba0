/- Ranging over a function whose values go into boxes, within a loop: the marks that a function leaves with. -/
import Derived.Test.YthamkpmbfefpfaaQb
namespace Go.Proofs.Ythamkpmbfefpfaa
open Go.RowKit Go.Shelf

theorem Keep.then_ {S : Nat → Prop} {W X Y : World} (h : Keep S W X) (k : Keep (fun j => j < W.heap.size ∧ S j) X Y) : Keep S W Y :=
  ⟨k.os.trans h.os, k.tape.trans h.tape, k.output.trans h.output, Nat.le_trans h.size k.size, fun i hi hs => (k.block i (Nat.lt_of_lt_of_le hi h.size) ⟨hi, hs⟩).trans (h.block i hi hs)⟩

def mkMark (D : Nat) : Deferred := { target := .collected D, args := #[] }
/-- The marks of the ranges that have ended: blocks of the call's own, which who asks does not turn. -/
structure MarksAt (B : Nat) (C : Nat → Prop) (Ds : List Nat) (w : World) : Prop where
  once : Ds.Nodup
  all : ∀ D ∈ Ds, B ≤ D ∧ ¬ C D ∧ w.heap[D]? = some (.deferred (some []))
section
variable {B : Nat} {C : Nat → Prop} {Ds : List Nat} {w w' : World}
theorem MarksAt.nil (B : Nat) (C : Nat → Prop) (w : World) : MarksAt B C [] w := ⟨List.nodup_nil, fun D h => by simp at h⟩
theorem MarksAt.lt (h : MarksAt B C Ds w) {D : Nat} (hD : D ∈ Ds) : D < w.heap.size := (Array.getElem?_eq_some_iff.1 (h.all D hD).2.2).1
theorem MarksAt.ne (h : MarksAt B C Ds w) {g : Nat} {t : TypeId} {cs : Array Value} (hb : Blk w g t cs) {D : Nat} (hD : D ∈ Ds) : D ≠ g := fun e => by
  have h1 := (h.all D hD).2.2
  rw [e] at h1
  unfold Blk at hb
  rw [hb] at h1
  cases h1
theorem MarksAt.keep {S : Nat → Prop} (h : MarksAt B C Ds w) (hk : Keep S w w') (hS : ∀ D ∈ Ds, S D) : MarksAt B C Ds w' :=
  ⟨h.once, fun D hD => ⟨(h.all D hD).1, (h.all D hD).2.1, hk.obj (h.all D hD).2.2 (hS D hD)⟩⟩
theorem MarksAt.to {C' : Nat → Prop} (h : MarksAt B C Ds w) (hC : ∀ D ∈ Ds, C' D → C D) : MarksAt B C' Ds w := ⟨h.once, fun D hD => ⟨(h.all D hD).1, fun c => (h.all D hD).2.1 (hC D hD c), (h.all D hD).2.2⟩⟩
theorem MarksAt.cons (h : MarksAt B C Ds w) {D : Nat} (h1 : B ≤ D) (h2 : ¬ C D) (h3 : w.heap[D]? = some (.deferred (some []))) (h4 : D ∉ Ds) : MarksAt B C (D :: Ds) w :=
  ⟨List.nodup_cons.2 ⟨h4, h.once⟩, fun E hE => by
    rcases List.mem_cons.1 hE with rfl | hE
    · exact ⟨h1, h2, h3⟩
    · exact h.all E hE⟩
end
/-- A function leaves, mark by mark. -/
theorem leaves_marks {F : Fence} {n : Nat} {P : Program} {fn : Func} {tmps : Array Value} {R : Ending → World → Prop} {B : Nat} {C : Nat → Prop} : ∀ (Ds : List Nat) (w : World), MarksAt B C Ds w →
    (∀ w', Keep (fun k => k ∉ Ds) w w' → LeavesIn F n P fn tmps R [] .returning w') → LeavesInM F n P fn tmps R (Ds.map mkMark) .returning w
  | [], w, _, h => h w (Keep.refl _ _)
  | D :: Ds, w, hm, h => by
    have h1 := hm.all D (.head _)
    have hnd := List.nodup_cons.1 hm.once
    have hk : Keep (fun k => k ≠ D) w (w.putObj D (.deferred none)) := (Keep.refl _ w).put (.inr fun e => e rfl) _
    refine ⟨by simp, .inl ⟨D, w.putObj D (.deferred none), rfl, run_takeDeferred h1.2.2, ?_⟩⟩
    refine leaves_marks Ds _ (MarksAt.keep ⟨hnd.2, fun E hE => hm.all E (.tail _ hE)⟩ hk fun E hE e => hnd.1 (e ▸ hE)) fun w' hk' => h w' ?_
    exact (hk.mono fun k _ hk => fun e => hk (e ▸ .head _)).trans (hk'.mono fun k _ hk => fun e => hk (.tail _ e))

theorem range_box {n : Nat} {P : Program} {g : Operand} {ps : Array Tmp} {assign body : Code} {Q : Exit → Act → World → Prop} {a : Act} {w : World} (jm : Option Nat) (h1 : 1 ≤ n) {gf : Nat} {lb : Array Value} (hg : a.eval g = .func (.func gf) #[] lb)
    (eg : ∀ args w, (callFunc gf args).run P w = .ok (.enter gf args) w) {α : Type} {enc : α → Value} {Ok End : List α → Prop} {S : Nat → Prop} {w1 : World} (hseq : OneSeq (n - 1) P gf lb enc Ok End S w1) (hb : Keep S w1 w) (hS : ∀ k, S k → k < w.heap.size)
    (cells : α → Array Value) (te : TypeId) (q r : Nat) (hps : ps = #[q])
    (I : List α → (Nat → Prop) → World → Prop) (Ix : World → Prop) (C0 : Nat → Prop) (hC0 : ∀ k, C0 k → ¬ S k ∧ k < w.heap.size) (h0 : I [] C0 w)
    (hI : ∀ cs C X Y, I cs C X → Keep (fun k => k < w.heap.size ∨ C k) X Y → I cs C Y) (hIx : ∀ X Y, Ix X → Keep (fun k => k < w.heap.size) X Y → Ix Y)
    (hassign : ∀ (l : Nat) (c : α) (W : World) (K : Act → World → Prop), K { tmps := (a.tmps.setIfInBounds q (enc c)).setIfInBounds r (.pointer (some ⟨W.heap.size, 0, none⟩)), defers := [] } (W.alloc (.cells (cells c) te)) →
      assign.wpIn (Fence.wide.inRound l) (n - 1) P (Exit.then K (fun _ _ _ => False)) { tmps := a.tmps.setIfInBounds q (enc c), defers := [] } W)
    (hbody : ∀ (l : Nat) (cs : List α) (c : α) (C : Nat → Prop) (Bx : Nat) (X : World), I cs C X → Ok (cs ++ [c]) → (∀ k, C k → ¬ S k ∧ k < X.heap.size) → w.heap.size ≤ X.heap.size → w.heap.size ≤ Bx → Blk X Bx te (cells c) →
      body.wpIn (Fence.wide.inRound l) (n - 1) P (OnePost jm w.heap.size C I Ix (cs ++ [c]) X) { tmps := (a.tmps.setIfInBounds q (enc c)).setIfInBounds r (.pointer (some ⟨Bx, 0, none⟩)), defers := [] } X)
    (hdone : ∀ (cs : List α) (C : Nat → Prop) (D : Nat) (W : World), w.heap.size ≤ D → End cs → I cs C W → W.heap[D]? = some (.deferred (some [])) → Q .normal { a with defers := mkMark D :: a.defers } W)
    (hstop : ∀ (D : Nat) (W : World), w.heap.size ≤ D → Ix W → W.heap[D]? = some (.deferred (some [])) → (jumpC jm).wpIn Fence.wide n P Q { a with defers := mkMark D :: a.defers } W) :
    (Code.rangeFunc g ps assign body).wpIn Fence.wide n P Q a w := by
  subst hps
  refine range_ones jm h1 hg eg hseq hb hS rfl I Ix C0 hC0 h0 hI hIx
    (fun c a' X => ∃ Bx, w.heap.size ≤ Bx ∧ Blk X Bx te (cells c) ∧ a' = { tmps := (a.tmps.setIfInBounds q (enc c)).setIfInBounds r (.pointer (some ⟨Bx, 0, none⟩)), defers := [] }) ?_ ?_ ?_ hdone hstop
  · rintro c a' X Y l o ⟨Bx, h2, h3, h4⟩ hl hk
    refine ⟨Bx, h2, hk.blk h3 fun e => ?_, h4⟩
    unfold Blk at h3
    rw [← e, h3] at hl
    cases hl
  · intro l cs c C W K _ hsz hK
    have e : (Array.zip #[q] #[enc c]).foldl (fun t (x : Tmp × Value) => match x with | (p, v) => t.setIfInBounds p v) a.tmps = a.tmps.setIfInBounds q (enc c) := by simp
    rw [e]
    exact hassign l c W K (hK _ _ ((Below.refl _ _).alloc (Nat.le_refl _) _) ⟨W.heap.size, hsz, Blk.new W _ _, rfl⟩)
  · rintro l cs c C a' X hi hok hC hsz ⟨Bx, h2, h3, rfl⟩
    exact hbody l cs c C Bx X hi hok hC hsz h2 h3
theorem range_val {n : Nat} {P : Program} {g : Operand} {ps : Array Tmp} {assign body : Code} {Q : Exit → Act → World → Prop} {a : Act} {w : World} (jm : Option Nat) (h1 : 1 ≤ n) {gf : Nat} {lb : Array Value} (hg : a.eval g = .func (.func gf) #[] lb)
    (eg : ∀ args w, (callFunc gf args).run P w = .ok (.enter gf args) w) {α : Type} {enc : α → Value} {Ok End : List α → Prop} {S : Nat → Prop} {w1 : World} (hseq : OneSeq (n - 1) P gf lb enc Ok End S w1) (hb : Keep S w1 w) (hS : ∀ k, S k → k < w.heap.size)
    (q r : Nat) (hps : ps = #[q])
    (I : List α → (Nat → Prop) → World → Prop) (Ix : World → Prop) (C0 : Nat → Prop) (hC0 : ∀ k, C0 k → ¬ S k ∧ k < w.heap.size) (h0 : I [] C0 w)
    (hI : ∀ cs C X Y, I cs C X → Keep (fun k => k < w.heap.size ∨ C k) X Y → I cs C Y) (hIx : ∀ X Y, Ix X → Keep (fun k => k < w.heap.size) X Y → Ix Y)
    (hassign : ∀ (l : Nat) (c : α) (W : World) (K : Act → World → Prop), K { tmps := (a.tmps.setIfInBounds q (enc c)).setIfInBounds r (enc c), defers := [] } W →
      assign.wpIn (Fence.wide.inRound l) (n - 1) P (Exit.then K (fun _ _ _ => False)) { tmps := a.tmps.setIfInBounds q (enc c), defers := [] } W)
    (hbody : ∀ (l : Nat) (cs : List α) (c : α) (C : Nat → Prop) (X : World), I cs C X → Ok (cs ++ [c]) → (∀ k, C k → ¬ S k ∧ k < X.heap.size) → w.heap.size ≤ X.heap.size →
      body.wpIn (Fence.wide.inRound l) (n - 1) P (OnePost jm w.heap.size C I Ix (cs ++ [c]) X) { tmps := (a.tmps.setIfInBounds q (enc c)).setIfInBounds r (enc c), defers := [] } X)
    (hdone : ∀ (cs : List α) (C : Nat → Prop) (D : Nat) (W : World), w.heap.size ≤ D → End cs → I cs C W → W.heap[D]? = some (.deferred (some [])) → Q .normal { a with defers := mkMark D :: a.defers } W)
    (hstop : ∀ (D : Nat) (W : World), w.heap.size ≤ D → Ix W → W.heap[D]? = some (.deferred (some [])) → (jumpC jm).wpIn Fence.wide n P Q { a with defers := mkMark D :: a.defers } W) :
    (Code.rangeFunc g ps assign body).wpIn Fence.wide n P Q a w := by
  subst hps
  refine range_ones jm h1 hg eg hseq hb hS rfl I Ix C0 hC0 h0 hI hIx
    (fun c a' _ => a' = { tmps := (a.tmps.setIfInBounds q (enc c)).setIfInBounds r (enc c), defers := [] }) ?_ ?_ ?_ hdone hstop
  · intro c a' X Y l o h _ _
    exact h
  · intro l cs c C W K _ _ hK
    have e : (Array.zip #[q] #[enc c]).foldl (fun t (x : Tmp × Value) => match x with | (p, v) => t.setIfInBounds p v) a.tmps = a.tmps.setIfInBounds q (enc c) := by simp
    rw [e]
    exact hassign l c W K (hK _ _ (Below.refl _ _) rfl)
  · rintro l cs c C a' X hi hok hC hsz rfl
    exact hbody l cs c C X hi hok hC hsz
end Go.Proofs.Ythamkpmbfefpfaa
