/- What is kept while a function goes on that has memory of its own: lemmas on the model alone. -/
import Derived.RangeFuncNested
import Derived.RangeFuncBound
import Derived.RangeFuncCalls
import Derived.RangeFuncLeaves
import Derived.Shelf.Abstract
import Derived.Shelf.RegionOpen
import Derived.WalkKit
import Derived.OwnWalkIn
import Derived.TacticsInMore
import Derived.LoopNIn
import Derived.LoopIn
import Derived.Outline
import Derived.Test.YthamkpmbfefpfaaWords
namespace Go.Proofs.Ythamkpmbfefpfaa
open Go.RowKit Go.Shelf

/-- What S names lies as it lay. -/
structure Keep (S : Nat → Prop) (W W' : World) : Prop where
  os : W'.os = W.os
  tape : W'.tape = W.tape
  output : W'.output = W.output
  size : W.heap.size ≤ W'.heap.size
  block : ∀ k, k < W.heap.size → S k → W'.heap[k]? = W.heap[k]?
section
variable {S T : Nat → Prop} {W X Y : World}
theorem Keep.refl (S : Nat → Prop) (W : World) : Keep S W W := ⟨rfl, rfl, rfl, Nat.le_refl _, fun _ _ _ => rfl⟩
theorem Keep.trans (h : Keep S W X) (k : Keep S X Y) : Keep S W Y :=
  ⟨k.os.trans h.os, k.tape.trans h.tape, k.output.trans h.output, Nat.le_trans h.size k.size, fun i hi hs => (k.block i (Nat.lt_of_lt_of_le hi h.size) hs).trans (h.block i hi hs)⟩
theorem Keep.mono (h : Keep S W X) (hS : ∀ k, k < W.heap.size → T k → S k) : Keep T W X := ⟨h.os, h.tape, h.output, h.size, fun k hk ht => h.block k hk (hS k hk ht)⟩
theorem Keep.alloc (h : Keep S W X) (o : Obj) : Keep S W (X.alloc o) :=
  ⟨h.os, h.tape, h.output, Nat.le_trans h.size (by simp), fun k hk hs => (Below.heap_alloc X o k (Nat.lt_of_lt_of_le hk h.size)).trans (h.block k hk hs)⟩
theorem Keep.drewN (h : Keep S W X) (n : Nat) : Keep S W (X.drewN n) := ⟨h.os, h.tape, h.output, h.size, h.block⟩
theorem Keep.drew (h : Keep S W X) : Keep S W X.drew := ⟨h.os, h.tape, h.output, h.size, h.block⟩
theorem Keep.set (h : Keep S W X) {g : Nat} (hg : W.heap.size ≤ g ∨ ¬ S g) (i : Nat) (u : Value) : Keep S W (X.setCell ⟨g, i, none⟩ u) :=
  ⟨h.os, h.tape, h.output, Nat.le_trans h.size (by rw [World.size_setCell]; exact Nat.le_refl _), fun k hk hs => (Below.heap_setCell X ⟨g, i, none⟩ u k (fun e => by
    have e : k = g := e
    subst e
    rcases hg with hg | hg
    · omega
    · exact hg hs)).trans (h.block k hk hs)⟩
theorem Keep.grown (h : Keep S W X) {row : Option Nat} (hg : X.grownBy Y row) (hr : ∀ g, row = some g → W.heap.size ≤ g ∨ ¬ S g) : Keep S W Y :=
  ⟨hg.os.trans h.os, hg.tape.trans h.tape, hg.output.trans h.output, Nat.le_trans h.size hg.size, fun k hk hs => (hg.block k (Nat.lt_of_lt_of_le hk h.size) (fun e => by
    rcases hr k e.symm with h1 | h1
    · omega
    · exact h1 hs)).trans (h.block k hk hs)⟩
theorem Keep.put (h : Keep S W X) {l : Nat} (hl : W.heap.size ≤ l ∨ ¬ S l) (o : Obj) : Keep S W (X.putObj l o) :=
  ⟨h.os, h.tape, h.output, Nat.le_trans h.size (by simp [World.putObj]), fun k hk hs => (World.putObj_heap_other (fun e => by
    rcases hl with h1 | h1
    · omega
    · exact h1 (e ▸ hs))).trans (h.block k hk hs)⟩
theorem Keep.of_below {B : Nat} (h : Below B W X) : Keep (fun k => k < B) W X := ⟨h.os, h.tape, h.output, h.size, fun k _ hs => h.block k hs⟩
theorem Keep.of_all (S : Nat → Prop) (h : Below W.heap.size W X) : Keep S W X := ⟨h.os, h.tape, h.output, h.size, fun k hk _ => h.block k hk⟩
theorem Keep.below {B : Nat} (h : Keep S W X) (hB : B ≤ W.heap.size) (hs : ∀ k, k < B → S k) : Below B W X := ⟨h.os, h.tape, h.output, h.size, fun k hk => h.block k (by omega) (hs k hk)⟩
theorem Keep.blk (h : Keep S W X) {g : Nat} {t : TypeId} {cs : Array Value} (hb : Blk W g t cs) (hs : S g) : Blk X g t cs := (h.block g hb.lt hs).trans hb
theorem own_heap6 {base n size : Nat} {e : TypeId} {v : Value} {xs : List Value} (h : W.ownsRow base e size v n xs) (hg : ∀ g, v.ownBlock = some g → X.heap[g]? = W.heap[g]?) : X.ownsRow base e size v n xs := by
  refine ⟨h.1, ?_⟩
  rcases h.2 with hn | ⟨g, cap, cur, rfl, hbg, hk, rest⟩
  · exact .inl hn
  · exact .inr ⟨g, cap, cur, rfl, hbg, (hg g (by simp [Value.ownBlock])).trans hk, rest⟩
theorem own_in {base n size : Nat} {e : TypeId} {v : Value} {xs : List Value} (h : W.ownsRow base e size v n xs) {g : Nat} (hg : v.ownBlock = some g) : base ≤ g ∧ g < W.heap.size ∧ ∃ cur, Blk W g e cur := by
  rcases h.2 with ⟨rfl, _⟩ | ⟨g', cap, cur, rfl, hb, hk, _⟩
  · cases hg
  · have : g' = g := by simpa [Value.ownBlock] using hg
    subst this
    exact ⟨hb, (Array.getElem?_eq_some_iff.1 hk).1, cur, hk⟩
theorem Keep.own (h : Keep S W X) {base n size : Nat} {e : TypeId} {v : Value} {xs : List Value} (ho : W.ownsRow base e size v n xs) (hs : ∀ g, v.ownBlock = some g → S g) : X.ownsRow base e size v n xs :=
  own_heap6 ho fun g hg => h.block g (own_in ho hg).2.1 (hs g hg)
theorem Keep.reads (h : Keep S W X) {B size n : Nat} {A : Option Addr} {xs : List Value} (hR : Reads W B size A n xs) (hB : B ≤ W.heap.size) (hs : ∀ k, k < B → S k) : Reads X B size A n xs :=
  hR.below (h.below hB hs)
theorem Keep.obj (h : Keep S W X) {l : Nat} {o : Obj} (hl : W.heap[l]? = some o) (hs : S l) : X.heap[l]? = some o := (h.block l (Array.getElem?_eq_some_iff.1 hl).1 hs).trans hl
end

theorem room_wide {F : Fence} (hd : F.depth = none) (k : Nat) : F.room k := fun d h => by rw [hd] at h; cases h
theorem RoundIn.deep {F : Fence} (hd : F.depth = none) {m m' : Nat} {P : Program} {l : Nat} {f : FuncId} {tmps : Array Value} {assign body : Code} {w : World} {R : Ending → World → Prop}
    (h : RoundIn F m P l f tmps assign body w R) : RoundIn F m' P l f tmps assign body w R := ⟨h.1, fun c cs _ => h.2 c cs (room_wide hd _)⟩
theorem YieldAt.deep {F : Fence} (hd : F.depth = none) {m : Nat} (m' : Nat) {P : Program} {l : Nat} {args : Array Value} {W : World} {R : Ending → World → Prop} (h : YieldAt F m P l args W R) : YieldAt F m' P l args W R := by
  obtain ⟨fn, tmps, assign, body, hy, hR⟩ := h
  exact ⟨fn, tmps, assign, body, hy, RoundIn.deep hd hR⟩
end Go.Proofs.Ythamkpmbfefpfaa
