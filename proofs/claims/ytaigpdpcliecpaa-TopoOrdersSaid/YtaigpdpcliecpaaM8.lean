/- Layer topo: put, take: contracts. -/
import Derived.RangeFuncNested
import Derived.RangeFuncBound
import Derived.RangeFuncCalls
import Derived.RangeFuncLeaves
import Derived.Shelf.Abstract
import Derived.Shelf.RegionOpen
import Derived.WalkKit
import Derived.OwnWalkIn
import Derived.TacticsInMore
import Derived.LoopNIn
import Derived.LoopIn
import Derived.Outline
import Derived.Test.YtaigpdpcliecpaaM7
import Derived.RangeFuncBox
import Derived.RangeFuncFrom
import Derived.Maps.AppendAt
import Derived.Test.YtaigpdpcliecpaaWords
import Derived.Test.YtaigpdpcliecpaaM6
-- holds: YtaigpdpcliecpaaQa YtaigpdpcliecpaaQb YtaigpdpcliecpaaGv YtaigpdpcliecpaaGw YtaigpdpcliecpaaGx YtaigpdpcliecpaaGy YtaigpdpcliecpaaHb YtaigpdpcliecpaaTd YtaigpdpcliecpaaTf YtaigpdpcliecpaaTg
namespace Go.Proofs.Ytaigpdpcliecpaa
open Go.RowKit Go.Shelf

/-- What S names lies as it lay. -/
structure Keep (S : Nat → Prop) (W W' : World) : Prop where
  os : W'.os = W.os
  tape : W'.tape = W.tape
  output : W'.output = W.output
  size : W.heap.size ≤ W'.heap.size
  block : ∀ k, k < W.heap.size → S k → W'.heap[k]? = W.heap[k]?
section
variable {S T : Nat → Prop} {W X Y : World}
theorem Keep.refl (S : Nat → Prop) (W : World) : Keep S W W := ⟨rfl, rfl, rfl, Nat.le_refl _, fun _ _ _ => rfl⟩
theorem Keep.trans (h : Keep S W X) (k : Keep S X Y) : Keep S W Y :=
  ⟨k.os.trans h.os, k.tape.trans h.tape, k.output.trans h.output, Nat.le_trans h.size k.size, fun i hi hs => (k.block i (Nat.lt_of_lt_of_le hi h.size) hs).trans (h.block i hi hs)⟩
theorem Keep.mono (h : Keep S W X) (hS : ∀ k, k < W.heap.size → T k → S k) : Keep T W X := ⟨h.os, h.tape, h.output, h.size, fun k hk ht => h.block k hk (hS k hk ht)⟩
theorem Keep.alloc (h : Keep S W X) (o : Obj) : Keep S W (X.alloc o) :=
  ⟨h.os, h.tape, h.output, Nat.le_trans h.size (by simp), fun k hk hs => (Below.heap_alloc X o k (Nat.lt_of_lt_of_le hk h.size)).trans (h.block k hk hs)⟩
theorem Keep.drewN (h : Keep S W X) (n : Nat) : Keep S W (X.drewN n) := ⟨h.os, h.tape, h.output, h.size, h.block⟩
theorem Keep.drew (h : Keep S W X) : Keep S W X.drew := ⟨h.os, h.tape, h.output, h.size, h.block⟩
theorem Keep.set (h : Keep S W X) {g : Nat} (hg : W.heap.size ≤ g ∨ ¬ S g) (i : Nat) (u : Value) : Keep S W (X.setCell ⟨g, i, none⟩ u) :=
  ⟨h.os, h.tape, h.output, Nat.le_trans h.size (by rw [World.size_setCell]; exact Nat.le_refl _), fun k hk hs => (Below.heap_setCell X ⟨g, i, none⟩ u k (fun e => by
    have e : k = g := e
    subst e
    rcases hg with hg | hg
    · omega
    · exact hg hs)).trans (h.block k hk hs)⟩
theorem Keep.grown (h : Keep S W X) {row : Option Nat} (hg : X.grownBy Y row) (hr : ∀ g, row = some g → W.heap.size ≤ g ∨ ¬ S g) : Keep S W Y :=
  ⟨hg.os.trans h.os, hg.tape.trans h.tape, hg.output.trans h.output, Nat.le_trans h.size hg.size, fun k hk hs => (hg.block k (Nat.lt_of_lt_of_le hk h.size) (fun e => by
    rcases hr k e.symm with h1 | h1
    · omega
    · exact h1 hs)).trans (h.block k hk hs)⟩
theorem Keep.put (h : Keep S W X) {l : Nat} (hl : W.heap.size ≤ l ∨ ¬ S l) (o : Obj) : Keep S W (X.putObj l o) :=
  ⟨h.os, h.tape, h.output, Nat.le_trans h.size (by simp [World.putObj]), fun k hk hs => (World.putObj_heap_other (fun e => by
    rcases hl with h1 | h1
    · omega
    · exact h1 (e ▸ hs))).trans (h.block k hk hs)⟩
theorem Keep.of_below {B : Nat} (h : Below B W X) : Keep (fun k => k < B) W X := ⟨h.os, h.tape, h.output, h.size, fun k _ hs => h.block k hs⟩
theorem Keep.of_all (S : Nat → Prop) (h : Below W.heap.size W X) : Keep S W X := ⟨h.os, h.tape, h.output, h.size, fun k hk _ => h.block k hk⟩
theorem Keep.below {B : Nat} (h : Keep S W X) (hB : B ≤ W.heap.size) (hs : ∀ k, k < B → S k) : Below B W X := ⟨h.os, h.tape, h.output, h.size, fun k hk => h.block k (by omega) (hs k hk)⟩
theorem Keep.blk (h : Keep S W X) {g : Nat} {t : TypeId} {cs : Array Value} (hb : Blk W g t cs) (hs : S g) : Blk X g t cs := (h.block g hb.lt hs).trans hb
theorem own_heap6 {base n size : Nat} {e : TypeId} {v : Value} {xs : List Value} (h : W.ownsRow base e size v n xs) (hg : ∀ g, v.ownBlock = some g → X.heap[g]? = W.heap[g]?) : X.ownsRow base e size v n xs := by
  refine ⟨h.1, ?_⟩
  rcases h.2 with hn | ⟨g, cap, cur, rfl, hbg, hk, rest⟩
  · exact .inl hn
  · exact .inr ⟨g, cap, cur, rfl, hbg, (hg g (by simp [Value.ownBlock])).trans hk, rest⟩
theorem own_in {base n size : Nat} {e : TypeId} {v : Value} {xs : List Value} (h : W.ownsRow base e size v n xs) {g : Nat} (hg : v.ownBlock = some g) : base ≤ g ∧ g < W.heap.size ∧ ∃ cur, Blk W g e cur := by
  rcases h.2 with ⟨rfl, _⟩ | ⟨g', cap, cur, rfl, hb, hk, _⟩
  · cases hg
  · have : g' = g := by simpa [Value.ownBlock] using hg
    subst this
    exact ⟨hb, (Array.getElem?_eq_some_iff.1 hk).1, cur, hk⟩
theorem Keep.own (h : Keep S W X) {base n size : Nat} {e : TypeId} {v : Value} {xs : List Value} (ho : W.ownsRow base e size v n xs) (hs : ∀ g, v.ownBlock = some g → S g) : X.ownsRow base e size v n xs :=
  own_heap6 ho fun g hg => h.block g (own_in ho hg).2.1 (hs g hg)
theorem Keep.reads (h : Keep S W X) {B size n : Nat} {A : Option Addr} {xs : List Value} (hR : Reads W B size A n xs) (hB : B ≤ W.heap.size) (hs : ∀ k, k < B → S k) : Reads X B size A n xs :=
  hR.below (h.below hB hs)
theorem Keep.obj (h : Keep S W X) {l : Nat} {o : Obj} (hl : W.heap[l]? = some o) (hs : S l) : X.heap[l]? = some o := (h.block l (Array.getElem?_eq_some_iff.1 hl).1 hs).trans hl
end

theorem room_wide {F : Fence} (hd : F.depth = none) (k : Nat) : F.room k := fun d h => by rw [hd] at h; cases h
theorem RoundIn.deep {F : Fence} (hd : F.depth = none) {m m' : Nat} {P : Program} {l : Nat} {f : FuncId} {tmps : Array Value} {assign body : Code} {w : World} {R : Ending → World → Prop}
    (h : RoundIn F m P l f tmps assign body w R) : RoundIn F m' P l f tmps assign body w R := ⟨h.1, fun c cs _ => h.2 c cs (room_wide hd _)⟩
theorem YieldAt.deep {F : Fence} (hd : F.depth = none) {m : Nat} (m' : Nat) {P : Program} {l : Nat} {args : Array Value} {W : World} {R : Ending → World → Prop} (h : YieldAt F m P l args W R) : YieldAt F m' P l args W R := by
  obtain ⟨fn, tmps, assign, body, hy, hR⟩ := h
  exact ⟨fn, tmps, assign, body, hy, RoundIn.deep hd hR⟩


/-- The beginning of a row of one's own. -/
theorem own_less {W : World} {base n2 c2 : Nat} {e : TypeId} {A2 : Option Addr} {xs : List Value} (h : W.ownsRow base e 1 (.slice A2 n2 c2) n2 xs) {j : Nat} (hj : j ≤ n2) : W.ownsRow base e 1 (.slice A2 j c2) j (xs.take j) := by
  have hl := h.1
  refine ⟨by rw [List.length_take]; omega, ?_⟩
  rcases h.2 with ⟨e1, e2⟩ | ⟨g, cap, cur, e1, hb, hk, h3, h4, h5, h6⟩
  · injection e1 with e1 e3 e4
    subst e1; subst e4
    exact .inl ⟨by rw [show j = 0 by omega], by omega⟩
  · injection e1 with e1 e3 e4
    subst e1; subst e4
    refine .inr ⟨g, c2, cur, rfl, hb, hk, by omega, h4, h5, ?_⟩
    rw [← h6, List.take_take]
    congr 1
    omega
theorem ir_elem_size (W : World) : (sizeOf (Try.prog.elem 27)).run Try.prog W = .ok 1 W := by kernel_rfl
theorem ir_slice_h (A : Option Addr) (len cap h : Nat) (hh : h ≤ cap) (W : World) :
    (Instr.slice 27 (.slice A len cap) none (some (.int .i64 (h : Int))) none).run Try.prog W = .ok (.slice A h cap) W := by
  have e0 : Value.slice (if cap = 0 then A else A.map (·.add (0 * 1))) (h - 0) (cap - 0) = .slice A h cap := by
    have : (if cap = 0 then A else A.map (·.add (0 * 1))) = A := by
      split
      · rfl
      · cases A <;> simp [Addr.add]
    rw [this, Nat.sub_zero, Nat.sub_zero]
  rw [run_slice_h W 27 A len cap (show Try.prog.underlying 27 = some (.slice (Try.prog.elem 27)) by kernel_rfl) .i64 h (by omega) (by omega), ir_elem_size]
  exact congrArg (fun v => Result.ok v W) e0
theorem ir_slice_lhm (g len cap l h : Nat) (hl : l < h) (hh : h ≤ cap) (W : World) :
    (Instr.slice 27 (.slice (some ⟨g, 0, none⟩) len cap) (some (.int .i64 (l : Int))) (some (.int .i64 (h : Int))) (some (.int .i64 (h : Int)))).run Try.prog W = .ok (.slice (some ⟨g, l, none⟩) (h - l) (h - l)) W := by
  have e0 : Value.slice (if h = l then some ⟨g, 0, none⟩ else (some (⟨g, 0, none⟩ : Addr)).map (·.add (l * 1))) (h - l) (h - l) = .slice (some ⟨g, l, none⟩) (h - l) (h - l) := by
    rw [if_neg (by omega)]
    simp [Addr.add]
    exact fun e => e.symm
  rw [run_slice_lhm W 27 (some ⟨g, 0, none⟩) len cap (show Try.prog.underlying 27 = some (.slice (Try.prog.elem 27)) by kernel_rfl) .i64 .i64 .i64 l h h (by omega) (by omega) (by omega) (by omega), ir_elem_size]
  exact congrArg (fun v => Result.ok v W) e0

end Go.Proofs.Ytaigpdpcliecpaa
namespace Go.Proofs.Ytaigpdpcliecpaa
open Go.RowKit Go.Shelf

/-- A function that tells values one by one, whatever it is asked by: S are the blocks that it reads, C those that who asks may turn; Ok: what may be told, End: what is told at the end. -/
def OneSeq {α : Type} (n : Nat) (P : Program) (gf : Nat) (lb : Array Value) (enc : α → Value) (Ok End : List α → Prop) (S : Nat → Prop) (w1 : World) : Prop :=
  ∀ (l : Nat) (J : List α → (Nat → Prop) → World → Prop) (Jx : World → Prop) (C0 : Nat → Prop) (W : World),
    Keep S w1 W → (∀ k, C0 k → ¬ S k ∧ k < W.heap.size) →
    (∀ cs C X Y, J cs C X → Keep (fun k => k < W.heap.size ∨ C k) X Y → J cs C Y) → (∀ X Y, Jx X → Keep (fun k => k < W.heap.size) X Y → Jx Y) →
    (∀ cs c C X, J cs C X → Ok (cs ++ [c]) → (∀ k, C k → ¬ S k ∧ k < X.heap.size) → W.heap.size ≤ X.heap.size →
      YieldAt Fence.wide n P l #[enc c] X fun e X' => (∃ C' : Nat → Prop, (∀ k, C' k → k < X'.heap.size ∧ (C k ∨ X.heap.size ≤ k)) ∧ Keep (fun k => ¬ C k) X X' ∧ e = .returned (.bool true) ∧ J (cs ++ [c]) C' X') ∨
        (e = .returned (.bool false) ∧ Keep (fun k => W.heap.size ≤ k ∧ ¬ C k) X X' ∧ Jx X')) →
    J [] C0 W →
    CallsIn Fence.wide n P gf (#[.func (.yield l) #[] #[]] ++ lb) W fun e X => (∃ v, e = .returned v) ∧ ((∃ cs C, End cs ∧ J cs C X) ∨ Jx X)

/-- How a range is left from within. -/
def jumpE : Option Nat → Exit
  | none => .ret
  | some i => .exit i
def jumpC : Option Nat → Code
  | none => .ret
  | some i => .exit i
/-- What a round hands on; N: where the range began. -/
def OnePost {α : Type} (jm : Option Nat) (N : Nat) (C : Nat → Prop) (I : List α → (Nat → Prop) → World → Prop) (Ix : World → Prop) (cs : List α) (X : World) : Exit → Act → World → Prop := fun e _ X' =>
  (∃ C' : Nat → Prop, (∀ k, C' k → k < X'.heap.size ∧ (C k ∨ X.heap.size ≤ k)) ∧ Keep (fun k => ¬ C k) X X' ∧ e = .normal ∧ I cs C' X') ∨ (e = jumpE jm ∧ Keep (fun k => N ≤ k ∧ ¬ C k) X X' ∧ Ix X')

theorem range_ones {n : Nat} {P : Program} {g : Operand} {ps : Array Tmp} {assign body : Code} {Q : Exit → Act → World → Prop} {a : Act} {w : World} (jm : Option Nat) (h1 : 1 ≤ n) {gf : Nat} {lb : Array Value} (hg : a.eval g = .func (.func gf) #[] lb)
    (eg : ∀ args w, (callFunc gf args).run P w = .ok (.enter gf args) w) {α : Type} {enc : α → Value} {Ok End : List α → Prop} {S : Nat → Prop} {w1 : World} (hseq : OneSeq (n - 1) P gf lb enc Ok End S w1) (hb : Keep S w1 w) (hS : ∀ k, S k → k < w.heap.size) (hps : ps.size = 1)
    (I : List α → (Nat → Prop) → World → Prop) (Ix : World → Prop) (C0 : Nat → Prop) (hC0 : ∀ k, C0 k → ¬ S k ∧ k < w.heap.size) (h0 : I [] C0 w)
    (hI : ∀ cs C X Y, I cs C X → Keep (fun k => k < w.heap.size ∨ C k) X Y → I cs C Y) (hIx : ∀ X Y, Ix X → Keep (fun k => k < w.heap.size) X Y → Ix Y)
    (Q1 : α → Act → World → Prop) (hQ1 : ∀ c a' X Y l o, Q1 c a' X → X.heap[l]? = some (.loop o) → Keep (fun k => k ≠ l) X Y → Q1 c a' Y)
    (hassign : ∀ (l : Nat) (cs : List α) (c : α) (C : Nat → Prop) (W : World) (K : Act → World → Prop), I cs C W → w.heap.size ≤ W.heap.size → (∀ a' W', Below W.heap.size W W' → Q1 c a' W' → K a' W') →
      assign.wpIn (Fence.wide.inRound l) (n - 1) P (Exit.then K (fun _ _ _ => False)) { tmps := (ps.zip #[enc c]).foldl (fun t (p, v) => t.setIfInBounds p v) a.tmps, defers := [] } W)
    (hbody : ∀ (l : Nat) (cs : List α) (c : α) (C : Nat → Prop) (a' : Act) (X : World), I cs C X → Ok (cs ++ [c]) → (∀ k, C k → ¬ S k ∧ k < X.heap.size) → w.heap.size ≤ X.heap.size → Q1 c a' X →
      body.wpIn (Fence.wide.inRound l) (n - 1) P (OnePost jm w.heap.size C I Ix (cs ++ [c]) X) a' X)
    (hdone : ∀ (cs : List α) (C : Nat → Prop) (D : Nat) (W : World), w.heap.size ≤ D → End cs → I cs C W → W.heap[D]? = some (.deferred (some [])) → Q .normal { a with defers := { target := .collected D, args := #[] } :: a.defers } W)
    (hstop : ∀ (D : Nat) (W : World), w.heap.size ≤ D → Ix W → W.heap[D]? = some (.deferred (some [])) → (jumpC jm).wpIn Fence.wide n P Q { a with defers := { target := .collected D, args := #[] } :: a.defers } W) :
    (Code.rangeFunc g ps assign body).wpIn Fence.wide n P Q a w := by
  refine wpIn_rangeFunc fun fn hfn => ?_
  rw [show Fence.wide.round = none from rfl]
  obtain ⟨rec, hrec⟩ : ∃ rec : LoopState → Option Code → Loop, rec = fun st pe => { state := st, pending := pe, fn, tmps := a.tmps, params := ps, assign, body, defers := w.heap.size } := ⟨_, rfl⟩
  obtain ⟨W1, hW1⟩ : ∃ W1, (w.alloc (.deferred (some []))).alloc (.loop (rec .ready none)) = W1 := ⟨_, rfl⟩
  have hL1 : W1.heap[w.heap.size + 1]? = some (.loop (rec .ready none)) := by
    rw [← hW1]; have := World.alloc_heap_new (w.alloc (.deferred (some []))) (.loop (rec .ready none)); rwa [World.size_alloc] at this
  have hK1 : W1.heap[w.heap.size]? = some (.deferred (some [])) := by
    rw [← hW1]; exact (Below.heap_alloc _ _ _ (by simp)).trans (World.alloc_heap_new w _)
  have hsz1 : W1.heap.size = w.heap.size + 2 := by rw [← hW1]; simp
  have hkw : Keep (fun k => k < w.heap.size ∨ C0 k) w W1 := by rw [← hW1]; exact ((Keep.refl _ w).alloc _).alloc _
  have hI1 : I [] C0 W1 := hI _ _ _ _ h0 hkw
  have hb1 : Keep S w1 W1 := by
    rw [← hW1]; exact (hb.alloc _).alloc _
  refine ⟨w.heap.size + 1, [{ target := .collected w.heap.size, args := #[] }], W1, { target := .fn (.func gf) lb, args := #[.func (.yield (w.heap.size + 1)) #[] #[]] }, W1, gf,
    #[.func (.yield (w.heap.size + 1)) #[] #[]] ++ lb, W1, ?_, ?_, ?_, ?_, fun _ => h1, ?_⟩
  · rw [← hW1, hrec]; exact run_enterLoop_outer _ _ _ _ _
  · simp only [resolve, hg]
    simp [go_sem]
  · intro f' hf'; trivial
  · simp [invoke, go_sem, eg]
  · refine (hseq (w.heap.size + 1)
      (fun cs C2 W => ∃ C : Nat → Prop, C2 = (fun k => C k ∨ k = w.heap.size ∨ k = w.heap.size + 1) ∧ I cs C W ∧ ¬ C w.heap.size ∧ ¬ C (w.heap.size + 1) ∧ W.heap[w.heap.size + 1]? = some (.loop (rec .ready none)) ∧ W.heap[w.heap.size]? = some (.deferred (some [])))
      (fun W => Ix W ∧ W.heap[w.heap.size + 1]? = some (.loop (rec .done (some (jumpC jm)))) ∧ W.heap[w.heap.size]? = some (.deferred (some [])))
      (fun k => C0 k ∨ k = w.heap.size ∨ k = w.heap.size + 1) W1 hb1 ?_ ?_ ?_ ?_ ⟨C0, rfl, hI1, fun h => by have := (hC0 _ h).2; omega, fun h => by have := (hC0 _ h).2; omega, hL1, hK1⟩).mono ?_
    · rintro k (h | rfl | rfl)
      · have := hC0 k h; exact ⟨this.1, by omega⟩
      · exact ⟨fun h => by have := hS _ h; omega, by omega⟩
      · exact ⟨fun h => by have := hS _ h; omega, by omega⟩
    · rintro cs C2 X Y ⟨C, rfl, hi, n1, n2, hl, hk⟩ hkeep
      exact ⟨C, rfl, hI _ _ _ _ hi (hkeep.mono fun k _ hk => by
        rcases hk with hk | hk
        · exact .inl (by omega)
        · exact .inr (.inl hk)), n1, n2, hkeep.obj hl (.inr (.inr (.inr rfl))), hkeep.obj hk (.inr (.inr (.inl rfl)))⟩
    · rintro X Y ⟨hi, hl, hk⟩ hkeep
      exact ⟨hIx _ _ hi (hkeep.mono fun k _ hk => by omega), hkeep.obj hl (by omega), hkeep.obj hk (by omega)⟩
    · rintro cs c C2 W0 ⟨C, rfl, hi0, n1, n2, hl0, hk0⟩ hpi hCk0 hsz0
      have hlt0 : w.heap.size + 1 < W0.heap.size := (Array.getElem?_eq_some_iff.1 hl0).1
      have hy := run_yield (P := P) (args := #[enc c]) hl0 (by rw [hrec]; exact hps.symm)
      rw [hrec] at hy
      refine ⟨fn, _, assign, body, hy, roundIn_of_wpIn hfn (hassign _ cs c C W0 _ hi0 (Nat.le_trans (by omega) hsz0) ?_)⟩
      clear hy
      intro a' W hb0 hq0
      have hk00 : Keep (fun _ => True) W0 W := Keep.of_all _ hb0
      have hl := hk00.obj hl0 trivial
      have hk := hk00.obj hk0 trivial
      have hi := hI _ _ _ _ hi0 (Keep.of_all _ hb0)
      have hsz := Nat.le_trans hsz0 hb0.size
      have hCk : ∀ k, (C k ∨ k = w.heap.size ∨ k = w.heap.size + 1) → ¬ S k ∧ k < W.heap.size := fun k h => ⟨(hCk0 k h).1, Nat.lt_of_lt_of_le (hCk0 k h).2 hb0.size⟩
      have hlt : w.heap.size + 1 < W.heap.size := Nat.lt_of_lt_of_le hlt0 hb0.size
      refine ⟨_, run_beginRound hl (by rw [hrec]), ?_⟩
      have hl2 : (W.putObj (w.heap.size + 1) (.loop { rec .ready none with state := .busy })).heap[w.heap.size + 1]? = some (.loop { rec .ready none with state := .busy }) := World.putObj_heap_same hlt
      have hk2 : (W.putObj (w.heap.size + 1) (.loop { rec .ready none with state := .busy })).heap[w.heap.size]? = some (.deferred (some [])) := (World.putObj_heap_other (by omega)).trans hk
      have hkeep2 : Keep (fun k => ¬ (C k ∨ k = w.heap.size ∨ k = w.heap.size + 1)) W (W.putObj (w.heap.size + 1) (.loop { rec .ready none with state := .busy })) := (Keep.refl _ W).put (.inr fun h => h (.inr (.inr rfl))) _
      have hi2 : I cs C (W.putObj (w.heap.size + 1) (.loop { rec .ready none with state := .busy })) := hI _ _ _ _ hi ((Keep.refl _ W).put (.inr fun h => by
        rcases h with h | h
        · omega
        · exact n2 h) _)
      have hsz2 : (W.putObj (w.heap.size + 1) (.loop { rec .ready none with state := .busy })).heap.size = W.heap.size := by simp [World.putObj]
      refine wpIn_mono (hbody _ cs c C a' _ hi2 hpi (fun k hk => by rw [hsz2]; exact hCk k (.inl hk)) (by rw [hsz2]; omega) (hQ1 _ _ _ _ _ _ hq0 hl ((Keep.refl _ W).put (.inr fun h => h rfl) _))) ?_
      rintro e a3 W3 (⟨C', hC', hk3, rfl, hi3⟩ | ⟨he, hk3, hi3⟩)
      · rw [hsz2] at hC'
        have hs0 := hb0.size
        have hl3 := hk3.obj hl2 n2
        have hD3 := hk3.obj hk2 n1
        have hk4 : Keep (fun k => ¬ (C k ∨ k = w.heap.size ∨ k = w.heap.size + 1)) W0 W3 := ((Keep.of_all _ hb0).trans hkeep2).trans (hk3.mono fun k _ h h2 => h (.inl h2))
        have n3 : ¬ C' w.heap.size := fun h => by
          rcases (hC' _ h).2 with h | h
          · exact n1 h
          · omega
        have n4 : ¬ C' (w.heap.size + 1) := fun h => by
          rcases (hC' _ h).2 with h | h
          · exact n2 h
          · omega
        have hr := run_endRound (P := P) none hl3
        refine ⟨_, _, hr, .inl ⟨(fun k => C' k ∨ k = w.heap.size ∨ k = w.heap.size + 1), fun k hk => ?_, hk4.put (.inr fun h => h (.inr (.inr rfl))) _, rfl, C', rfl, hI _ _ _ _ hi3 ((Keep.refl _ W3).put (.inr fun h => ?_) _), n3, n4, ?_, ?_⟩⟩
        · have hs3 := hk4.size
          simp only [World.putObj, Array.size_setIfInBounds]
          rcases hk with hk | rfl | rfl
          · have := hC' k hk
            exact ⟨this.1, this.2.elim (fun h => .inl (.inl h)) (fun h => .inr (by omega))⟩
          · exact ⟨by omega, .inl (.inr (.inl rfl))⟩
          · exact ⟨by omega, .inl (.inr (.inr rfl))⟩
        · rcases h with h | h
          · omega
          · exact n4 h
        · rw [World.putObj_heap_same (Array.getElem?_eq_some_iff.1 hl3).1, hrec]
          rfl
        · exact (World.putObj_heap_other (by omega)).trans hD3
      · have hl3 := hk3.obj hl2 ⟨Nat.le_succ _, n2⟩
        have hD3 := hk3.obj hk2 ⟨Nat.le_refl _, n1⟩
        have hr := run_endRound (P := P) (some (jumpC jm)) hl3
        have hk5 : Keep (fun k => W1.heap.size ≤ k ∧ ¬ (C k ∨ k = w.heap.size ∨ k = w.heap.size + 1)) W0 W3 := ((Keep.of_all _ hb0).trans (hkeep2.mono fun k _ h => h.2)).trans (hk3.mono fun k _ h => ⟨by omega, fun c => h.2 (.inl c)⟩)
        cases jm with
        | none =>
          obtain rfl : e = .ret := he
          refine ⟨_, _, hr, .inr ⟨rfl, hk5.put (.inr fun h => h.2 (.inr (.inr rfl))) _, hIx _ _ hi3 ((Keep.refl _ W3).put (.inr fun h => by omega) _), ?_, ?_⟩⟩
          · rw [World.putObj_heap_same (Array.getElem?_eq_some_iff.1 hl3).1, hrec]
            rfl
          · exact (World.putObj_heap_other (by omega)).trans hD3
        | some i =>
          obtain rfl : e = .exit i := he
          refine ⟨_, _, hr, .inr ⟨rfl, hk5.put (.inr fun h => h.2 (.inr (.inr rfl))) _, hIx _ _ hi3 ((Keep.refl _ W3).put (.inr fun h => by omega) _), ?_, ?_⟩⟩
          · rw [World.putObj_heap_same (Array.getElem?_eq_some_iff.1 hl3).1, hrec]
            rfl
          · exact (World.putObj_heap_other (by omega)).trans hD3
    · rintro e W2 ⟨⟨v, rfl⟩, (⟨cs, _, hall, C, rfl, hi, n1, n2, hl, hk⟩ | ⟨hi, hl, hk⟩)⟩
      · refine ⟨none, _, by have := run_endLoop (P := P) hl (by rw [hrec]; simp); rw [hrec] at this; exact this, hdone cs C _ _ (Nat.le_refl _) hall (hI _ _ _ _ hi ((Keep.refl _ W2).put (.inr fun h => ?_) _)) ((World.putObj_heap_other (by omega)).trans hk)⟩
        rcases h with h | h
        · omega
        · exact n2 h
      · exact ⟨some (jumpC jm), _, by have := run_endLoop (P := P) hl (by rw [hrec]; simp); rw [hrec] at this; exact this, hstop _ _ (Nat.le_refl _) (hIx _ _ hi ((Keep.refl _ W2).put (.inr fun h => by omega) _)) ((World.putObj_heap_other (by omega)).trans hk)⟩
end Go.Proofs.Ytaigpdpcliecpaa
namespace Go.Proofs.Ytaigpdpcliecpaa
open Go.RowKit Go.Shelf
attribute [local go_sem] Oper.semAt_some

/-- An edge, as the one value that is told. -/
def encE (p : Ed) : Array Value := #[.agg #[.int .i64 p.1, .int .i64 p.2.1, .int .i64 p.2.2]]
theorem grown_of_below {W W' : World} (h : Below W.heap.size W W') : W.grownBy W' none := ⟨h.os, h.tape, h.output, h.size, fun k hk _ => h.block k hk⟩

set_option maxRecDepth 100000 in
set_option maxHeartbeats 2000000 in
theorem those_in_in1 (m : Nat) (hm : 1 ≤ m) (l Bs Bf Bv Bq : Nat) (A : Option Addr) (n c : Nat) (zs : List Ed) (q : Ed → Bool) (hn : n ≤ 1000) (J Jm Jx : Nat → World → Prop)
    (hF : ∀ i W, J i W → Blk W Bs 22 #[.slice A n c] ∧ Blk W Bf 51 #[.func (.func 45) #[] #[.pointer (some ⟨Bv, 0, none⟩)]] ∧ Reads W Bq 3 A n (cellsE zs))
    (hAsk : ∀ i p W, zs[i]? = some p → J i W → Calls Try.prog 45 #[.agg #[.int .i64 p.1, .int .i64 p.2.1, .int .i64 p.2.2], .pointer (some ⟨Bv, 0, none⟩)] (W.alloc (.cells #[.int .i64 p.1, .int .i64 p.2.1, .int .i64 p.2.2] 50)) fun e W' => e = .returned (.bool (q p)) ∧ Jm i W' ∧ Blk W' W.heap.size 50 #[.int .i64 p.1, .int .i64 p.2.1, .int .i64 p.2.2])
    (hSkip : ∀ i p W, zs[i]? = some p → q p = false → Jm i W → J (i + 1) W)
    (hY : ∀ i p W, zs[i]? = some p → q p = true → Jm i W → YieldAt Fence.wide (m - 1) Try.prog l (encE p) W fun e W' => (e = .returned (.bool true) ∧ J (i + 1) W') ∨ (e = .returned (.bool false) ∧ Jx i W'))
    (W : World) (h0 : J 0 W) :
    CallsIn Fence.wide m Try.prog 60 #[.func (.yield l) #[] #[], .pointer (some ⟨Bs, 0, none⟩), .pointer (some ⟨Bf, 0, none⟩)] W fun e W' => (∃ v, e = .returned v) ∧ (J n W' ∨ ∃ i, Jx i W') := by
  have s0 := (hF 0 W h0).1.cell 0
  have HL := Lib.hid (reads_len (hF 0 W h0).2.2)
  have HF := Lib.hid hF
  have HA := Lib.hid hAsk
  have HS := Lib.hid hSkip
  have HYY := Lib.hid hY
  have H0 := Lib.hid h0
  clear hF hAsk hSkip hY h0
  refine callsIn_of_wp Try.func60 rfl trivial ?_ rfl
  simp only [Try.ntmps60, List.size_toArray, List.length_cons, List.length_nil, Nat.reduceAdd, Nat.reduceSub, Array.replicate_succ, Array.replicate_zero, List.push_toArray, List.append_toArray, List.nil_append, List.cons_append]
  gi_wp2_with fail
  clear s0
  gi_loopw [8] (fun v wr => ∃ i : Nat, v = .int .i64 i ∧ i ≤ n ∧ Hid (J i wr)) (fun v _ => n - (intOf v).toNat)
  case atStart => exact ⟨0, rfl, Nat.zero_le _, H0⟩
  case round =>
    obtain ⟨i, rfl, hin, HJ⟩ := hrel
    by_cases hin2 : i < n
    · have hlt : (i : Int) < (n : Int) := by omega
      obtain ⟨p, hp⟩ : ∃ p, zs[i]? = some p := ⟨zs[i]'(by rw [HL.out]; omega), List.getElem?_eq_getElem _⟩
      obtain ⟨kS, kF, kR⟩ := HF.out i wr HJ.out
      obtain ⟨b, o, rfl, hb, g0, g1, gk2⟩ := ed_at kR hp
      have KF := Lib.hid (kF.alloc (.cells #[.int .i64 p.1, .int .i64 p.2.1, .int .i64 p.2.2] 50))
      have KY := Lib.hid (Blk.new wr 50 #[.int .i64 p.1, .int .i64 p.2.1, .int .i64 p.2.2])
      have HC := Lib.hid (HA.out i p wr hp HJ.out)
      have f0 := KF.out.cell 0
      have y0 := KY.out.cell 0
      have y1 := KY.out.cell 1
      have y2 := KY.out.cell 2
      have HP := Lib.hid hp
      clear hp kS kF kR KF KY
      cases hq : q p
      · rw [hq] at HC
        have HQ := Lib.hid hq
        clear hq
        gi_wp2_with fail
        refine ⟨trivial, (callsIn_wide.2 HC.out).mono ?_⟩
        rintro e w1 ⟨rfl, hJm, kY⟩
        have HJ2 := Lib.hid (HS.out i p w1 HP.out HQ.out hJm)
        clear hJm kY y0 y1 y2 f0 g0 g1 gk2 HC
        gi_wp2_with fail
        refine ⟨(fun f h => by cases h), ?_⟩
        gi_wp2_with fail
        go_roundw
        case rel => exact ⟨i + 1, by go_num, hin2, HJ2⟩
        case measure => simp [intOf]; omega
      · rw [hq] at HC
        have HQ := Lib.hid hq
        clear hq
        gi_wp2_with fail
        refine ⟨trivial, (callsIn_wide.2 HC.out).mono ?_⟩
        rintro e w1 ⟨rfl, hJm, kY⟩
        obtain ⟨fn, tmps, assign, body, hy, hR⟩ := HYY.out i p w1 HP.out HQ.out hJm
        clear y0 y1 y2 f0 g0 g1 gk2 HC
        unfold encE at hy
        have HRR := Lib.hid hR
        have y0 := kY.cell 0
        have y1 := kY.cell 1
        have y2 := kY.cell 2
        clear hR hJm kY
        gi_wp2_with fail
        refine HRR.out.mono ?_
        rintro e W3 (⟨rfl, hJ3⟩ | ⟨rfl, hJ3⟩)
        · have HJ3 := Lib.hid hJ3
          clear hJ3 y0 y1 y2 hy HRR
          gi_wp2_with fail
          go_roundw
          case rel => exact ⟨i + 1, by go_num, hin2, HJ3⟩
          case measure => simp [intOf]; omega
        · have HJ3 := Lib.hid hJ3
          clear hJ3 y0 y1 y2 hy HRR
          gi_wp2_with fail
          refine bodyPost_ret (results_none rfl _ _ _) rfl ?_
          exact ⟨⟨_, rfl⟩, .inr ⟨i, HJ3.out⟩⟩
    · have hge : ¬ (i : Int) < (n : Int) := by omega
      obtain rfl : i = n := by omega
      gi_wp2_with fail
      go_end0
      exact ⟨⟨_, rfl⟩, .inl HJ.out⟩

theorem those_stops_in1 (m : Nat) (hm : 1 ≤ m) (Bs Bf Bv n c : Nat) (A : Option Addr) (zs : List Ed) (q : Ed → Bool) (hn : n ≤ 1000) (w : World)
    (hs : Blk w Bs 22 #[.slice A n c]) (hf : Blk w Bf 51 #[.func (.func 45) #[] #[.pointer (some ⟨Bv, 0, none⟩)]]) (hR : Reads w w.heap.size 3 A n (cellsE zs))
    (hq : ∀ p W, Below w.heap.size w W → Calls Try.prog 45 #[.agg #[.int .i64 p.1, .int .i64 p.2.1, .int .i64 p.2.2], .pointer (some ⟨Bv, 0, none⟩)] W fun e W' => e = .returned (.bool (q p)) ∧ Below W.heap.size W W') :
    SeqStopsK Fence.wide m Try.prog 60 #[.pointer (some ⟨Bs, 0, none⟩), .pointer (some ⟨Bf, 0, none⟩)] encE (fun X Y => Below w.heap.size X Y) (fun ys => ys = zs.filter q) (fun _ => True) n w := by
  intro l J Jx W hW hJ _ hY h0
  have hl := reads_len hR
  refine (those_in_in1 m hm l Bs Bf Bv w.heap.size A n c zs q hn (fun i W1 => J (fil q zs i) W1 ∧ Below w.heap.size w W1) (fun i W1 => J (fil q zs i) W1 ∧ Below w.heap.size w W1) (fun _ W1 => ∃ pre, Jx pre W1)
    (fun i W1 h => ⟨hs.below h.2 hs.lt, hf.below h.2 hf.lt, hR.below h.2⟩) (fun i p W1 hp h => ?_) (fun i p W1 hp hqp h => ⟨by rw [fil_skip hp hqp]; exact h.1, h.2⟩) (fun i p W1 hp hqp h => ?_) W ⟨h0, hW⟩).mono ?_
  · have hb := h.2.alloc h.2.size (.cells #[.int .i64 p.1, .int .i64 p.2.1, .int .i64 p.2.2] 50)
    refine (hq p _ hb).mono ?_
    rintro e W' ⟨rfl, b⟩
    exact ⟨rfl, ⟨hJ _ _ _ none (hJ _ _ _ none h.1 (World.grownBy_alloc _ _ _) (fun r e => by cases e)) (grown_of_below b) (fun r e => by cases e), hb.trans (b.mono hb.size)⟩, (Blk.new _ _ _).below b (by simp)⟩
  · have hlen : (fil q zs i).length < n := by
      have h1 := List.length_filter_le q (zs.take i)
      rw [List.length_take] at h1
      have := (List.getElem?_eq_some_iff.1 hp).1
      unfold fil
      omega
    refine (hY (fil q zs i) p W1 h.1 hlen).mono ?_
    rintro e W' (⟨rfl, h1, h2⟩ | ⟨rfl, h1⟩)
    · exact .inl ⟨rfl, by rw [fil_keep hp hqp]; exact h1, h.2.trans h2⟩
    · exact .inr ⟨rfl, _, h1⟩
  · rintro e W' ⟨hv, (⟨h1, _⟩ | ⟨_, pre, h1⟩)⟩
    · exact ⟨hv, .inl ⟨_, rfl, by rw [fil_all (by omega)] at h1; exact h1⟩⟩
    · exact ⟨hv, .inr ⟨pre, trivial, h1⟩⟩

end Go.Proofs.Ytaigpdpcliecpaa
namespace Go.Proofs.Ytaigpdpcliecpaa
open Go.RowKit Go.Shelf
attribute [local go_sem] Oper.semAt_some

set_option maxRecDepth 100000 in
set_option maxHeartbeats 2000000 in
theorem values_stops (m : Nat) (hm : 1 ≤ m) (Bs n c : Nat) (A : Option Addr) (zs : List Ed) (hn : n ≤ 1000) (w : World)
    (hs : Blk w Bs 22 #[.slice A n c]) (hR : Reads w w.heap.size 3 A n (cellsE zs)) :
    SeqStopsK Fence.wide m Try.prog 61 #[.pointer (some ⟨Bs, 0, none⟩)] encE (fun X Y => Below w.heap.size X Y) (fun ys => ys = zs) (fun _ => True) n w := by
  intro l J Jx W hW hJ _ hY h0
  have s0 := (hs.below hW hs.lt).cell 0
  have HL := Lib.hid (reads_len hR)
  have HR := Lib.hid fun W (h : Below w.heap.size w W) => hR.below h
  have HYY := Lib.hid hY
  have HW := Lib.hid hW
  clear hY hR hs hW
  refine callsIn_of_wp Try.func61 rfl trivial ?_ rfl
  simp only [Try.ntmps61, List.size_toArray, List.length_cons, List.length_nil, Nat.reduceAdd, Nat.reduceSub, Array.replicate_succ, Array.replicate_zero, List.push_toArray, List.append_toArray, List.nil_append, List.cons_append]
  gi_wp2_with fail
  clear s0
  gi_loopw [7] (fun v wr => ∃ i : Nat, v = .int .i64 i ∧ i ≤ n ∧ Hid (J (zs.take i) wr) ∧ Hid (Below w.heap.size w wr)) (fun v _ => n - (intOf v).toNat)
  case atStart => exact ⟨0, rfl, Nat.zero_le _, h0, HW⟩
  case round =>
    obtain ⟨i, rfl, hin, HJ, HB⟩ := hrel
    by_cases hin2 : i < n
    · have hlt : (i : Int) < (n : Int) := by omega
      obtain ⟨p, hp⟩ : ∃ p, zs[i]? = some p := ⟨zs[i]'(by rw [HL.out]; omega), List.getElem?_eq_getElem _⟩
      obtain ⟨b, o, rfl, hb, g0, g1, gk2⟩ := ed_at (HR.out wr HB.out) hp
      have KY := Lib.hid (Blk.new wr 50 #[.int .i64 p.1, .int .i64 p.2.1, .int .i64 p.2.2])
      have HJ1 := Lib.hid (hJ _ _ (wr.alloc (.cells #[.int .i64 p.1, .int .i64 p.2.1, .int .i64 p.2.2] 50)) none HJ.out (World.grownBy_alloc _ _ _) (fun r e => by cases e))
      have HB1 := Lib.hid (HB.out.alloc HB.out.size (.cells #[.int .i64 p.1, .int .i64 p.2.1, .int .i64 p.2.2] 50))
      have hlen : (zs.take i).length < n := by rw [List.length_take]; omega
      have HTK : Hid (zs.take (i + 1) = zs.take i ++ [p]) := by show _ = _; rw [List.take_add_one, hp]; rfl
      obtain ⟨fn, tmps, assign, body, hy, hR⟩ := HYY.out (zs.take i) p _ HJ1.out hlen
      have y0 := KY.out.cell 0
      have y1 := KY.out.cell 1
      have y2 := KY.out.cell 2
      unfold encE at hy
      have HRR := Lib.hid hR
      clear hp KY hlen hR HJ HB
      gi_wp2_with fail
      refine HRR.out.mono ?_
      rintro e W3 (⟨rfl, hJ3, hk3⟩ | ⟨rfl, hJ3⟩)
      · have HJ3 : Hid (J (zs.take (i + 1)) W3) := by rw [HTK.out]; exact hJ3
        have HB3 : Hid (Below w.heap.size w W3) := HB1.out.trans hk3
        clear hJ3 hk3 y0 y1 y2 hy HRR g0 g1 gk2
        gi_wp2_with fail
        go_roundw
        case rel => exact ⟨i + 1, by go_num, hin2, HJ3, HB3⟩
        case measure => simp [intOf]; omega
      · have HJ3 := Lib.hid hJ3
        clear hJ3 y0 y1 y2 hy HRR g0 g1 gk2
        gi_wp2_with fail
        refine bodyPost_ret (results_none rfl _ _ _) rfl ?_
        exact ⟨⟨_, rfl⟩, .inr ⟨_, trivial, HJ3.out⟩⟩
    · have hge : ¬ (i : Int) < (n : Int) := by omega
      obtain rfl : i = n := by omega
      have HJ3 : Hid (J zs wr) := by have := HJ.out; rwa [List.take_of_length_le (by rw [HL.out]; omega)] at this
      gi_wp2_with fail
      go_end0
      exact ⟨⟨_, rfl⟩, .inl HJ3.out⟩

/-- The cells of one edge in a new block. -/
theorem ed_new (w : World) (p : Ed) (t : TypeId) : ∀ j u, (edCells p)[j]? = some u → (w.alloc (.cells #[.int .i64 p.1, .int .i64 p.2.1, .int .i64 p.2.2] t)).cell? ((⟨w.heap.size, 0, none⟩ : Addr).add j) = some u := by
  intro j u hu
  have hb := Blk.new w t #[.int .i64 p.1, .int .i64 p.2.1, .int .i64 p.2.2]
  rw [Go.WideShapes.add_plain, Nat.zero_add, hb.cell, ← hu, ← List.getElem?_toArray]
  rfl
theorem edCells_one (p : Ed) : ∀ u ∈ edCells p, u.oneCell' = true := fun u hu => cellsE_one [p] u (by simpa [cellsE] using hu)
theorem cellsE_snoc (xs : List Ed) (p : Ed) : cellsE (xs ++ [p]) = cellsE xs ++ edCells p := by simp [cellsE]
theorem blk_own {β : Type} (B : Nat) (t : TypeId) (f : β → Array Value) : _root_.Go.Own fun s W => Blk W B t (f s) := fun s W W' row hs hg hr =>
  hs.grown hg (fun e => by
    obtain ⟨o, ho, hoc⟩ := hr B e.symm
    unfold Blk at hs
    rw [hs] at ho
    cases ho
    cases hoc)

set_option maxRecDepth 100000 in
set_option maxHeartbeats 4000000 in
theorem append_seq_in (m : Nat) (hm : 6 ≤ m) (gf : Nat) (lb : Array Value) (rs : List Ed) (N : Nat) (hN : N ≤ 1000) (Sp : List Ed → Prop) (w0 : World) (eg : ∀ args w, (callFunc gf args).run Try.prog w = .ok (.enter gf args) w)
    (hseq : SeqStopsK Fence.wide (m - 1) Try.prog gf lb encE (fun X Y => Below w0.heap.size X Y) (fun ys => ys = rs) Sp N w0) (w : World) (hb : Below w0.heap.size w0 w) :
    CallsIn Fence.wide m Try.prog 59 #[.slice none 0 0, .func (.func gf) #[] lb] w (RowIs rs w) := by
  have h1 : 1 ≤ m := by omega
  obtain ⟨i0, hi, hz0, hz1, hz2⟩ := info_parts pair_info
  refine callsIn_of_wp_marks Try.func59 rfl trivial ?_ rfl
  simp only [Try.ntmps59, List.size_toArray, List.length_cons, List.length_nil, Nat.reduceAdd, Nat.reduceSub, Array.replicate_succ, Array.replicate_zero, List.push_toArray, List.append_toArray, List.nil_append, List.cons_append]
  gi_wp2_with fail
  have c0 := Boxed.new w 22 (.slice none 0 0)
  have hB0 : Below w.heap.size w (w.alloc (.cells #[.slice none 0 0] 22)) := (Below.refl _ w).alloc (Nat.le_refl _) _
  have hsz : (w.alloc (.cells #[.slice none 0 0] 22)).heap.size = w.heap.size + 1 := by simp
  obtain ⟨W0, hW0⟩ : ∃ W0, w.alloc (.cells #[.slice none 0 0] 22) = W0 := ⟨_, rfl⟩
  rw [hW0] at c0 hB0 hsz ⊢
  clear hW0
  have hb2 : Below w0.heap.size w0 W0 := hb.trans (hB0.mono hb.size)
  refine wpIn_rangeFunc_ownH rfl h1 (gf := gf) (lb := lb) rfl trivial eg
    hseq (fun h k => belowK_t h k) (fun W l o o' hl h1 h2 h3 => belowK_b hb2.size W l o o' hl h1 h2 h3) hb2 (fun _ => rfl)
    (fun pre W => (∃ v, Boxed W w.heap.size 22 v ∧ W.ownsRow w.heap.size 50 3 v pre.length (cellsE pre) ∧ True) ∧ Below w.heap.size w W)
    (fun _ _ _ => False)
    (OwnFrom.and (_root_.Go.Own.from (holdsRow_own w.heap.size w.heap.size 22 50 3 (fun pre : List Ed => pre.length) (fun pre => cellsE pre) (fun _ _ => True)) _) (ownFrom_below (Nat.le_refl _) (by omega)))
    (fun c => fun _ _ _ _ h _ _ => h)
    ⟨⟨_, c0, World.ownsRow_nil _ _ _ _, trivial⟩, hB0⟩
    (fun x a' W => ∃ Bx : Nat, w.heap.size < Bx ∧ Blk W Bx 50 #[.int .i64 x.1, .int .i64 x.2.1, .int .i64 x.2.2] ∧ a' = { tmps := #[.slice none 0 0, .func (.func gf) #[] lb, .pointer (some ⟨w.heap.size, 0, none⟩), undef, .slice none 0 0, .pointer (some ⟨Bx, 0, none⟩), .func (.func gf) #[] lb, .agg #[.int .i64 x.1, .int .i64 x.2.1, .int .i64 x.2.2], undef, undef, undef, undef, undef], defers := [] })
    (fun x a' _ X Y row hs hg hr => by
      obtain ⟨Bx, e1, e3, e5⟩ := hs
      exact ⟨Bx, e1, blk_own _ _ (fun (_ : Unit) => _) () X Y row e3 hg (fun r e => (hr r e).2), e5⟩)
    ?assign ?body ?done ?stop
  case assign =>
    rintro l pre x W K ⟨⟨v, c3, hrow, _⟩, hB1⟩ hK
    have hs1 := c3.lt
    unfold encE
    gi_wp2
    exact hK _ _ ((KeepsOthers.alloc _ _).from _) ((Below.refl _ _).alloc (Nat.le_trans hb.size hB1.size) _)
      ⟨⟨v, c3.alloc _, hrow.alloc _, trivial⟩, hB1.alloc hB1.size _⟩
      ⟨W.heap.size, by omega, Blk.new W _ _, rfl⟩
  case body =>
    rintro l pre x a' W hl ⟨r, hr⟩ ⟨⟨v, c3, hrow, _⟩, hB1⟩ ⟨Bx, hBx, kx, rfl⟩ hlt
    have q0 := kx.cell 0
    have q1 := kx.cell 1
    have q2 := kx.cell 2
    have hc3 := c3.cell
    have hlen : pre.length < 1000 := by omega
    gi_wp2_with (gi_at_builtin; refine wpListIn_append_own _ rfl _ _ 22 rfl w.heap.size 50 i0 _ 3 24 Try.underlying22 hi hz0 hz1 hz2 rfl (by decide) _ _ _ rfl (hrow.alloc _) ⟨W.heap.size, 0, none⟩ 1 1 (edCells x) rfl rfl (ed_new _ _ _) (edCells_one _) (by unfold maxLen; omega) (by omega) (by have := hB1.size; simp; omega) ?_; intro v' w1 hown' hgrow _; obtain ⟨g', cap', rfl⟩ := ownsRow_succ hown'; obtain ⟨hv1, hv2, hr2, hk2, hb3⟩ := c3.appended (by decide) hrow hB1.size (by omega) hown' hgrow; have hc5 := hv1.cell; have hf5 := hv1.frozen)
    refine ⟨hk2.from _, hb3.mono hb.size, ⟨⟨_, hv2, ?_, trivial⟩, hB1.trans hb3⟩⟩
    rw [cellsE_snoc, List.length_append]
    exact hr2
  case done =>
    rintro D xs W hD rfl ⟨⟨v, c3, hrow, _⟩, hB1⟩ hK
    obtain ⟨A', c', rfl, h51, h52⟩ := own_form2 hrow
    have e0 := c3.cell
    have HC3 := Lib.hid c3
    have HK := Lib.hid hK
    clear c3
    gi_wp2
    refine ⟨by simp, .inl ⟨_, _, rfl, run_takeDeferred HK.out, ?_⟩⟩
    exact ⟨.slice A' xs.length c', by simp [results, Try.results59, go_sem], A', c', rfl, ownsRow_putObj hrow _ HK.out rfl, h51, h52, hB1.trans (belowK_b (w := w) (Nat.le_refl _) W D _ _ (by omega) HK.out rfl rfl)⟩
  case stop =>
    rintro D c pre W hD _ h
    exact h.elim

set_option maxHeartbeats 1000000 in
theorem collect_any (gf : Nat) (lb : Array Value) (rs : List Ed) (N : Nat) (hN : N ≤ 1000) (Sp : List Ed → Prop) (w0 : World) (eg : ∀ args w, (callFunc gf args).run Try.prog w = .ok (.enter gf args) w)
    (hseq : SeqStopsK Fence.wide 9 Try.prog gf lb encE (fun X Y => Below w0.heap.size X Y) (fun ys => ys = rs) Sp N w0) (w : World) (hb : Below w0.heap.size w0 w) :
    Calls Try.prog 43 #[.func (.func gf) #[] lb] w (RowIs rs w) := by
  have HA := Lib.hid (callsIn_wide.1 (append_seq_in 10 (by omega) gf lb rs N hN Sp w0 eg hseq w hb))
  clear hseq
  go_enter Try.func43, Try.ntmps43
  go_wp2_with fail
  refine HA.out.mono ?_
  rintro e w1 hx
  obtain ⟨A2, c2, rfl, h1, h2, h3, h4⟩ := rows_row hx
  have HF := Lib.hid (And.intro h1 (And.intro h2 (And.intro h3 h4)))
  clear h1 h2 h3 h4 hx HA
  go_wp2_with fail
  go_ret
  exact ⟨A2, c2, rfl, HF.out⟩
end Go.Proofs.Ytaigpdpcliecpaa
namespace Go.Proofs.Ytaigpdpcliecpaa
open Go.RowKit Go.Shelf
attribute [local go_sem] Oper.semAt_some

/-- append within a region that draws its order, inside a fence. -/
theorem stepIn_append_own {F : Fence} {n : Nat} {P : Program} (w : World) {ops : Array Oper} {o : Oper} {a : Act} {K : Act → World → Prop} {Q : Exit → Act → World → Prop} {E : Prop}
    (hg : o.guard = none) (s x : Operand) (t : TypeId) (hop : o.op = Op.call { callee := Callee.builtin Builtin.append, args := #[s, x], argTypes := #[t, t] })
    (base : Nat) (e : TypeId) (i : TypeInfo) (z : Value) (size bytes : Nat) (h1 : P.underlying t = some (.slice e)) (h2 : P.info? e = some i) (h3 : i.zero = some z) (h4 : i.size = size) (h5 : i.bytes = bytes) (h6 : z.cells.size = size) (h7 : 0 < size)
    (v : Value) (k : Nat) (xs : List Value) (hs : a.eval s = v) (hown : w.ownsRow base e size v k xs) (ad : Addr) (m c : Nat) (news : List Value) (hx : a.eval x = .slice (some ad) m c) (hn : news.length = m * size)
    (hc : ∀ j u, news[j]? = some u → w.cell? (ad.add j) = some u) (h1c : ∀ u ∈ news, u.oneCell' = true) (b1 : k + m ≤ maxLen) (b2 : (k + m) * bytes ≤ 140737488355328) (b3 : base ≤ w.heap.size)
    (hK : ∀ v' w', w'.ownsRow base e size v' (k + m) (xs ++ news) → w.grownBy w' v.ownBlock → K (a.put o.dst v') w') :
    if Region.wanted o (yielded ops a.tmps) = true then Oper.wpIn F n P o a w K Q else E := by
  have hw : Region.wanted o (yielded ops a.tmps) = true := by simp [Region.wanted, hg]
  rw [if_pos hw]
  obtain ⟨v', w', hrun, r1, r2, _⟩ := run_append_own (P := P) w base t o.type e i z size bytes h1 h2 h3 h4 h5 h6 h7 v k xs hown ad m c news hn hc h1c b1 b2 b3
  unfold Oper.wpIn
  refine ⟨?_, ?_⟩
  · simp [Oper.about, hop, resolve, Target.leads, Sem.run_pure]
  · rw [Oper.semAt_plain F _ _ (by rw [hop]; intro c hc'; cases hc')]
    simp [execOp, hop, resolve, invoke, builtin, hs, hx, hrun, Result.andThen]
    exact hK _ _ r1 r2
theorem boxed_below {W W' : World} {B : Nat} {t : TypeId} {v : Value} (h : Boxed W B t v) (b : Below W.heap.size W W') : Boxed W' B t v := (b.block B h.lt).trans h
theorem int_new (w : World) (z : Int) (t : TypeId) : ∀ j u, ([.int .i64 z] : List Value)[j]? = some u → (w.alloc (.cells #[.int .i64 z] t)).cell? ((⟨w.heap.size, 0, none⟩ : Addr).add j) = some u := by
  intro j u hu
  have hb := Blk.new w t #[.int .i64 z]
  rw [Go.WideShapes.add_plain, Nat.zero_add, hb.cell, ← hu, ← List.getElem?_toArray]

set_option maxRecDepth 100000 in
set_option maxHeartbeats 8000000 in
theorem gatherE_in (m : Nat) (hm : 6 ≤ m) (gf : Nat) (lb : Array Value) (rs : List Ed) (N : Nat) (hN : N ≤ 1000) (Sp : List Ed → Prop) (w0 : World) (eg : ∀ args w, (callFunc gf args).run Try.prog w = .ok (.enter gf args) w)
    (hseq : SeqStopsK Fence.wide (m - 1) Try.prog gf lb encE (fun X Y => Below w0.heap.size X Y) (fun ys => ys = rs) Sp N w0) (w : World) (hb : Below w0.heap.size w0 w) :
    CallsIn Fence.wide m Try.prog 48 #[.func (.func gf) #[] lb, .func (.func 50) #[] #[]] w (RowIs (rs.map flipE) w) := by
  have h1 : 1 ≤ m := by omega
  obtain ⟨i0, hi, hz0, hz1, hz2⟩ := info_parts pair_info
  refine callsIn_of_wp_marks Try.func48 rfl trivial ?_ rfl
  simp only [Try.ntmps48, List.size_toArray, List.length_cons, List.length_nil, Nat.reduceAdd, Nat.reduceSub, Array.replicate_succ, Array.replicate_zero, List.push_toArray, List.append_toArray, List.nil_append, List.cons_append]
  gi_wp2_with fail
  have ct := (Boxed.new w 83 (.func (.func 50) #[] #[])).alloc (.cells #[.slice none 0 0] 22)
  have c0 := Boxed.new (w.alloc (.cells #[.func (.func 50) #[] #[]] 83)) 22 (.slice none 0 0)
  have hB0 : Below w.heap.size w ((w.alloc (.cells #[.func (.func 50) #[] #[]] 83)).alloc (.cells #[.slice none 0 0] 22)) := ((Below.refl _ w).alloc (Nat.le_refl _) _).alloc (by simp) _
  have hsz : ((w.alloc (.cells #[.func (.func 50) #[] #[]] 83)).alloc (.cells #[.slice none 0 0] 22)).heap.size = w.heap.size + 2 := by simp
  rw [World.size_alloc] at c0
  obtain ⟨W0, hW0⟩ : ∃ W0, (w.alloc (.cells #[.func (.func 50) #[] #[]] 83)).alloc (.cells #[.slice none 0 0] 22) = W0 := ⟨_, rfl⟩
  rw [hW0] at c0 ct hB0 hsz ⊢
  clear hW0
  have hb2 : Below w0.heap.size w0 W0 := hb.trans (hB0.mono hb.size)
  refine wpIn_rangeFunc_ownH rfl h1 (gf := gf) (lb := lb) rfl trivial eg
    hseq (fun h k => belowK_t h k) (fun W l o o' hl h1 h2 h3 => belowK_b hb2.size W l o o' hl h1 h2 h3) hb2 (fun _ => rfl)
    (fun pre W => ((∃ v, Boxed W (w.heap.size + 1) 22 v ∧ W.ownsRow w.heap.size 50 3 v pre.length (cellsE (pre.map flipE)) ∧ True) ∧ Boxed W w.heap.size 83 (.func (.func 50) #[] #[])) ∧ Below w.heap.size w W)
    (fun _ _ _ => False)
    (OwnFrom.and (OwnFrom.and (_root_.Go.Own.from (holdsRow_own w.heap.size (w.heap.size + 1) 22 50 3 (fun pre : List Ed => pre.length) (fun pre : List Ed => cellsE (pre.map flipE)) (fun _ _ => True)) _) (_root_.Go.Own.from (boxed_own _ _ (fun _ => .func (.func 50) #[] #[])) _)) (ownFrom_below (Nat.le_refl _) (by omega)))
    (fun c => fun _ _ _ _ h _ _ => h)
    ⟨⟨⟨_, c0, World.ownsRow_nil _ _ _ _, trivial⟩, ct⟩, hB0⟩
    (fun x a' W => ∃ Bx : Nat, w.heap.size + 1 < Bx ∧ Blk W Bx 50 #[.int .i64 x.1, .int .i64 x.2.1, .int .i64 x.2.2] ∧ a' = { tmps := #[.func (.func gf) #[] lb, .func (.func 50) #[] #[], undef, .pointer (some ⟨w.heap.size, 0, none⟩), .slice none 0 0, .pointer (some ⟨w.heap.size + 1, 0, none⟩), .pointer (some ⟨Bx, 0, none⟩), .func (.func gf) #[] lb, .agg #[.int .i64 x.1, .int .i64 x.2.1, .int .i64 x.2.2], undef, undef, undef, undef, undef, undef, undef], defers := [] })
    (fun x a' _ X Y row hs hg hr => by
      obtain ⟨Bx, e1, e3, e5⟩ := hs
      exact ⟨Bx, e1, blk_own _ _ (fun (_ : Unit) => _) () X Y row e3 hg (fun r e => (hr r e).2), e5⟩)
    ?assign ?body ?done ?stop
  case assign =>
    rintro l pre x W K ⟨⟨⟨v, c3, hrow, _⟩, kt⟩, hB1⟩ hK
    have hs1 := c3.lt
    unfold encE
    gi_wp2
    exact hK _ _ ((KeepsOthers.alloc _ _).from _) ((Below.refl _ _).alloc (Nat.le_trans hb.size hB1.size) _)
      ⟨⟨⟨v, c3.alloc _, hrow.alloc _, trivial⟩, kt.alloc _⟩, hB1.alloc hB1.size _⟩
      ⟨W.heap.size, by omega, Blk.new W _ _, rfl⟩
  case body =>
    rintro l pre x a' W hl ⟨r, hr⟩ ⟨⟨⟨v, c3, hrow, _⟩, kt⟩, hB1⟩ ⟨Bx, hBx, kx, rfl⟩ hlt
    have q0 := kx.cell 0
    have q1 := kx.cell 1
    have q2 := kx.cell 2
    have hc3 := c3.cell
    have hct := kt.cell
    have hlen : pre.length < 1000 := by omega
    have HT := Lib.hid fun W => rev1_any x W
    have hB1d : Below w.heap.size W W.drew := (Below.refl _ _).drew
    have HAF : Hid (∀ w1, Below W.drew.heap.size W.drew w1 → Boxed w1 (w.heap.size + 1) 22 v ∧ w1.ownsRow w.heap.size 50 3 v pre.length (cellsE (pre.map flipE)) ∧ Boxed w1 w.heap.size 83 (.func (.func 50) #[] #[]) ∧ Below w.heap.size w w1 ∧ KeepsOthers W.drew w1 ∧ Below w.heap.size W.drew w1) :=
      fun w1 b => ⟨boxed_below (W := W.drew) c3 b, own_below2 (w := W.drew) hrow b (Nat.le_refl _), boxed_below (W := W.drew) kt b, (hB1.trans hB1d).trans (b.mono hB1.size), KeepsOthers.of_grownBy (grown_of_below b) (fun j o e => by cases e), b.mono hB1.size⟩
    clear c3 hrow kt kx
    gi_wp2
    refine wpIn_region_any (by kernel_rfl) ?_
    change wpAnyIn _ _ _ _ _ _ _ _ _ W.drew
    refine wpAnyIn_ready (rs := [0, 1, 2]) (by kernel_rfl) (by simp) ?_
    refine AllReadyIn.cons rfl (fun K hK => ?_) ?_
    · go_simp
      refine hK _ _ ?_
      clear hK K
      try simp only [Act.put, List.setIfInBounds_toArray, List.set_cons_zero, List.set_cons_succ]
      refine wpAnyIn_ready (rs := [1, 2]) (by kernel_rfl) (by simp) ?_
      refine AllReadyIn.cons rfl (fun K hK => ?_) ?_
      · go_simp
        refine hK _ _ ?_
        clear hK K
        try simp only [Act.put, List.setIfInBounds_toArray, List.set_cons_zero, List.set_cons_succ]
        refine wpAnyIn_ready (rs := [2]) (by kernel_rfl) (by simp) ?_
        refine AllReadyIn.cons rfl (fun K hK => ?_) ?_
        · go_simp
          refine hK _ _ ?_
          clear hK K
          try simp only [Act.put, List.setIfInBounds_toArray, List.set_cons_zero, List.set_cons_succ]
          refine wpAnyIn_ready (rs := [3]) (by kernel_rfl) (by simp) ?_
          refine AllReadyIn.cons rfl (fun K hK => ?_) ?_
          · go_simp
            refine ⟨trivial, (fun h => by cases h), ((callsIn_wide.2 (HT.out _)).inRound l).mono ?_⟩
            rintro e9 w1 ⟨rfl, b9⟩
            obtain ⟨c51, hrow1, kt1, hB2, hko, hb9⟩ := HAF.out w1 b9
            go_simp
            refine hK _ _ ?_
            clear hK K
            try simp only [Act.put, List.setIfInBounds_toArray, List.set_cons_zero, List.set_cons_succ]
            refine wpAnyIn_ready (rs := [4]) (by kernel_rfl) (by simp) ?_
            refine AllReadyIn.cons rfl (fun K hK => ?_) ?_
            · go_simp
              refine hK _ _ ?_
              clear hK K
              try simp only [Act.put, List.setIfInBounds_toArray, List.set_cons_zero, List.set_cons_succ]
              refine wpAnyIn_ready (rs := [5]) (by kernel_rfl) (by simp) ?_
              refine AllReadyIn.cons rfl (fun K hK => ?_) ?_
              · refine stepIn_append_own _ rfl (.tmp 9) (.tmp 13) 22 rfl w.heap.size 50 i0 _ 3 24 Try.underlying22 hi hz0 hz1 hz2 rfl (by decide) _ _ _ rfl (hrow1.alloc _) ⟨w1.heap.size, 0, none⟩ 1 1 (edCells (flipE x)) rfl rfl (ed_new _ (flipE x) _) (edCells_one _) (by unfold maxLen; omega) (by omega) (by have := hB2.size; simp; omega) ?_
                intro v9 w2 hown9 hgrow9
                obtain ⟨g', cap', rfl⟩ := ownsRow_succ hown9
                obtain ⟨hv1, hv2, hr2, hk2, hb3⟩ := c51.appended (by decide) hrow1 hB2.size (by omega) hown9 hgrow9
                have hc7 := hv1.cell
                have hf7 := hv1.frozen
                refine hK _ _ ?_
                clear hK K
                try simp only [Act.put, List.setIfInBounds_toArray]
                refine wpAnyIn_ready (rs := [6]) (by kernel_rfl) (by simp) ?_
                refine AllReadyIn.cons rfl (fun K hK => ?_) ?_
                · go_simp
                  refine hK _ _ ?_
                  clear hK K
                  try simp only [Act.put, List.setIfInBounds_toArray]
                  refine wpAnyIn_done (by kernel_rfl) ?_ _
                  refine ⟨(((KeepsOthers.drew W).trans hko).trans hk2).from _, ((hB1d.trans hb9).trans hb3).mono hb.size, ⟨⟨⟨_, hv2, ?_, trivial⟩, ?_⟩, hB2.trans hb3⟩⟩
                  · rw [List.map_append, List.map_cons, List.map_nil, cellsE_snoc, List.length_append]
                    exact hr2
                  · exact ((kt1.alloc _).kept hgrow9 (kt1.not_row (by decide) hrow1)).other (B' := w.heap.size + 1) (by omega) _
                exact AllReadyIn.nil
              exact AllReadyIn.nil
            exact AllReadyIn.nil
          exact AllReadyIn.nil
        exact AllReadyIn.nil
      refine AllReadyIn.cons rfl (fun K hK => ?_) ?_
      · go_simp
        refine hK _ _ ?_
        clear hK K
        try simp only [Act.put, List.setIfInBounds_toArray, List.set_cons_zero, List.set_cons_succ]
        refine wpAnyIn_ready (rs := [1]) (by kernel_rfl) (by simp) ?_
        refine AllReadyIn.cons rfl (fun K hK => ?_) ?_
        · go_simp
          refine hK _ _ ?_
          clear hK K
          try simp only [Act.put, List.setIfInBounds_toArray, List.set_cons_zero, List.set_cons_succ]
          refine wpAnyIn_ready (rs := [3]) (by kernel_rfl) (by simp) ?_
          refine AllReadyIn.cons rfl (fun K hK => ?_) ?_
          · go_simp
            refine ⟨trivial, (fun h => by cases h), ((callsIn_wide.2 (HT.out _)).inRound l).mono ?_⟩
            rintro e9 w1 ⟨rfl, b9⟩
            obtain ⟨c51, hrow1, kt1, hB2, hko, hb9⟩ := HAF.out w1 b9
            go_simp
            refine hK _ _ ?_
            clear hK K
            try simp only [Act.put, List.setIfInBounds_toArray, List.set_cons_zero, List.set_cons_succ]
            refine wpAnyIn_ready (rs := [4]) (by kernel_rfl) (by simp) ?_
            refine AllReadyIn.cons rfl (fun K hK => ?_) ?_
            · go_simp
              refine hK _ _ ?_
              clear hK K
              try simp only [Act.put, List.setIfInBounds_toArray, List.set_cons_zero, List.set_cons_succ]
              refine wpAnyIn_ready (rs := [5]) (by kernel_rfl) (by simp) ?_
              refine AllReadyIn.cons rfl (fun K hK => ?_) ?_
              · refine stepIn_append_own _ rfl (.tmp 9) (.tmp 13) 22 rfl w.heap.size 50 i0 _ 3 24 Try.underlying22 hi hz0 hz1 hz2 rfl (by decide) _ _ _ rfl (hrow1.alloc _) ⟨w1.heap.size, 0, none⟩ 1 1 (edCells (flipE x)) rfl rfl (ed_new _ (flipE x) _) (edCells_one _) (by unfold maxLen; omega) (by omega) (by have := hB2.size; simp; omega) ?_
                intro v9 w2 hown9 hgrow9
                obtain ⟨g', cap', rfl⟩ := ownsRow_succ hown9
                obtain ⟨hv1, hv2, hr2, hk2, hb3⟩ := c51.appended (by decide) hrow1 hB2.size (by omega) hown9 hgrow9
                have hc7 := hv1.cell
                have hf7 := hv1.frozen
                refine hK _ _ ?_
                clear hK K
                try simp only [Act.put, List.setIfInBounds_toArray]
                refine wpAnyIn_ready (rs := [6]) (by kernel_rfl) (by simp) ?_
                refine AllReadyIn.cons rfl (fun K hK => ?_) ?_
                · go_simp
                  refine hK _ _ ?_
                  clear hK K
                  try simp only [Act.put, List.setIfInBounds_toArray]
                  refine wpAnyIn_done (by kernel_rfl) ?_ _
                  refine ⟨(((KeepsOthers.drew W).trans hko).trans hk2).from _, ((hB1d.trans hb9).trans hb3).mono hb.size, ⟨⟨⟨_, hv2, ?_, trivial⟩, ?_⟩, hB2.trans hb3⟩⟩
                  · rw [List.map_append, List.map_cons, List.map_nil, cellsE_snoc, List.length_append]
                    exact hr2
                  · exact ((kt1.alloc _).kept hgrow9 (kt1.not_row (by decide) hrow1)).other (B' := w.heap.size + 1) (by omega) _
                exact AllReadyIn.nil
              exact AllReadyIn.nil
            exact AllReadyIn.nil
          exact AllReadyIn.nil
        exact AllReadyIn.nil
      exact AllReadyIn.nil
    refine AllReadyIn.cons rfl (fun K hK => ?_) ?_
    · go_simp
      refine hK _ _ ?_
      clear hK K
      try simp only [Act.put, List.setIfInBounds_toArray, List.set_cons_zero, List.set_cons_succ]
      refine wpAnyIn_ready (rs := [0, 2]) (by kernel_rfl) (by simp) ?_
      refine AllReadyIn.cons rfl (fun K hK => ?_) ?_
      · go_simp
        refine hK _ _ ?_
        clear hK K
        try simp only [Act.put, List.setIfInBounds_toArray, List.set_cons_zero, List.set_cons_succ]
        refine wpAnyIn_ready (rs := [2]) (by kernel_rfl) (by simp) ?_
        refine AllReadyIn.cons rfl (fun K hK => ?_) ?_
        · go_simp
          refine hK _ _ ?_
          clear hK K
          try simp only [Act.put, List.setIfInBounds_toArray, List.set_cons_zero, List.set_cons_succ]
          refine wpAnyIn_ready (rs := [3]) (by kernel_rfl) (by simp) ?_
          refine AllReadyIn.cons rfl (fun K hK => ?_) ?_
          · go_simp
            refine ⟨trivial, (fun h => by cases h), ((callsIn_wide.2 (HT.out _)).inRound l).mono ?_⟩
            rintro e9 w1 ⟨rfl, b9⟩
            obtain ⟨c51, hrow1, kt1, hB2, hko, hb9⟩ := HAF.out w1 b9
            go_simp
            refine hK _ _ ?_
            clear hK K
            try simp only [Act.put, List.setIfInBounds_toArray, List.set_cons_zero, List.set_cons_succ]
            refine wpAnyIn_ready (rs := [4]) (by kernel_rfl) (by simp) ?_
            refine AllReadyIn.cons rfl (fun K hK => ?_) ?_
            · go_simp
              refine hK _ _ ?_
              clear hK K
              try simp only [Act.put, List.setIfInBounds_toArray, List.set_cons_zero, List.set_cons_succ]
              refine wpAnyIn_ready (rs := [5]) (by kernel_rfl) (by simp) ?_
              refine AllReadyIn.cons rfl (fun K hK => ?_) ?_
              · refine stepIn_append_own _ rfl (.tmp 9) (.tmp 13) 22 rfl w.heap.size 50 i0 _ 3 24 Try.underlying22 hi hz0 hz1 hz2 rfl (by decide) _ _ _ rfl (hrow1.alloc _) ⟨w1.heap.size, 0, none⟩ 1 1 (edCells (flipE x)) rfl rfl (ed_new _ (flipE x) _) (edCells_one _) (by unfold maxLen; omega) (by omega) (by have := hB2.size; simp; omega) ?_
                intro v9 w2 hown9 hgrow9
                obtain ⟨g', cap', rfl⟩ := ownsRow_succ hown9
                obtain ⟨hv1, hv2, hr2, hk2, hb3⟩ := c51.appended (by decide) hrow1 hB2.size (by omega) hown9 hgrow9
                have hc7 := hv1.cell
                have hf7 := hv1.frozen
                refine hK _ _ ?_
                clear hK K
                try simp only [Act.put, List.setIfInBounds_toArray]
                refine wpAnyIn_ready (rs := [6]) (by kernel_rfl) (by simp) ?_
                refine AllReadyIn.cons rfl (fun K hK => ?_) ?_
                · go_simp
                  refine hK _ _ ?_
                  clear hK K
                  try simp only [Act.put, List.setIfInBounds_toArray]
                  refine wpAnyIn_done (by kernel_rfl) ?_ _
                  refine ⟨(((KeepsOthers.drew W).trans hko).trans hk2).from _, ((hB1d.trans hb9).trans hb3).mono hb.size, ⟨⟨⟨_, hv2, ?_, trivial⟩, ?_⟩, hB2.trans hb3⟩⟩
                  · rw [List.map_append, List.map_cons, List.map_nil, cellsE_snoc, List.length_append]
                    exact hr2
                  · exact ((kt1.alloc _).kept hgrow9 (kt1.not_row (by decide) hrow1)).other (B' := w.heap.size + 1) (by omega) _
                exact AllReadyIn.nil
              exact AllReadyIn.nil
            exact AllReadyIn.nil
          exact AllReadyIn.nil
        exact AllReadyIn.nil
      refine AllReadyIn.cons rfl (fun K hK => ?_) ?_
      · go_simp
        refine hK _ _ ?_
        clear hK K
        try simp only [Act.put, List.setIfInBounds_toArray, List.set_cons_zero, List.set_cons_succ]
        refine wpAnyIn_ready (rs := [0, 3]) (by kernel_rfl) (by simp) ?_
        refine AllReadyIn.cons rfl (fun K hK => ?_) ?_
        · go_simp
          refine hK _ _ ?_
          clear hK K
          try simp only [Act.put, List.setIfInBounds_toArray, List.set_cons_zero, List.set_cons_succ]
          refine wpAnyIn_ready (rs := [3]) (by kernel_rfl) (by simp) ?_
          refine AllReadyIn.cons rfl (fun K hK => ?_) ?_
          · go_simp
            refine ⟨trivial, (fun h => by cases h), ((callsIn_wide.2 (HT.out _)).inRound l).mono ?_⟩
            rintro e9 w1 ⟨rfl, b9⟩
            obtain ⟨c51, hrow1, kt1, hB2, hko, hb9⟩ := HAF.out w1 b9
            go_simp
            refine hK _ _ ?_
            clear hK K
            try simp only [Act.put, List.setIfInBounds_toArray, List.set_cons_zero, List.set_cons_succ]
            refine wpAnyIn_ready (rs := [4]) (by kernel_rfl) (by simp) ?_
            refine AllReadyIn.cons rfl (fun K hK => ?_) ?_
            · go_simp
              refine hK _ _ ?_
              clear hK K
              try simp only [Act.put, List.setIfInBounds_toArray, List.set_cons_zero, List.set_cons_succ]
              refine wpAnyIn_ready (rs := [5]) (by kernel_rfl) (by simp) ?_
              refine AllReadyIn.cons rfl (fun K hK => ?_) ?_
              · refine stepIn_append_own _ rfl (.tmp 9) (.tmp 13) 22 rfl w.heap.size 50 i0 _ 3 24 Try.underlying22 hi hz0 hz1 hz2 rfl (by decide) _ _ _ rfl (hrow1.alloc _) ⟨w1.heap.size, 0, none⟩ 1 1 (edCells (flipE x)) rfl rfl (ed_new _ (flipE x) _) (edCells_one _) (by unfold maxLen; omega) (by omega) (by have := hB2.size; simp; omega) ?_
                intro v9 w2 hown9 hgrow9
                obtain ⟨g', cap', rfl⟩ := ownsRow_succ hown9
                obtain ⟨hv1, hv2, hr2, hk2, hb3⟩ := c51.appended (by decide) hrow1 hB2.size (by omega) hown9 hgrow9
                have hc7 := hv1.cell
                have hf7 := hv1.frozen
                refine hK _ _ ?_
                clear hK K
                try simp only [Act.put, List.setIfInBounds_toArray]
                refine wpAnyIn_ready (rs := [6]) (by kernel_rfl) (by simp) ?_
                refine AllReadyIn.cons rfl (fun K hK => ?_) ?_
                · go_simp
                  refine hK _ _ ?_
                  clear hK K
                  try simp only [Act.put, List.setIfInBounds_toArray]
                  refine wpAnyIn_done (by kernel_rfl) ?_ _
                  refine ⟨(((KeepsOthers.drew W).trans hko).trans hk2).from _, ((hB1d.trans hb9).trans hb3).mono hb.size, ⟨⟨⟨_, hv2, ?_, trivial⟩, ?_⟩, hB2.trans hb3⟩⟩
                  · rw [List.map_append, List.map_cons, List.map_nil, cellsE_snoc, List.length_append]
                    exact hr2
                  · exact ((kt1.alloc _).kept hgrow9 (kt1.not_row (by decide) hrow1)).other (B' := w.heap.size + 1) (by omega) _
                exact AllReadyIn.nil
              exact AllReadyIn.nil
            exact AllReadyIn.nil
          exact AllReadyIn.nil
        refine AllReadyIn.cons rfl (fun K hK => ?_) ?_
        · go_simp
          refine ⟨trivial, (fun h => by cases h), ((callsIn_wide.2 (HT.out _)).inRound l).mono ?_⟩
          rintro e9 w1 ⟨rfl, b9⟩
          obtain ⟨c51, hrow1, kt1, hB2, hko, hb9⟩ := HAF.out w1 b9
          have hc5 := c51.cell
          have hc6 := (c51.alloc (.cells #[.int .i64 x.2.1, .int .i64 x.1, .int .i64 x.2.2] 50)).cell
          go_simp
          refine hK _ _ ?_
          clear hK K
          try simp only [Act.put, List.setIfInBounds_toArray, List.set_cons_zero, List.set_cons_succ]
          refine wpAnyIn_ready (rs := [0, 4]) (by kernel_rfl) (by simp) ?_
          refine AllReadyIn.cons rfl (fun K hK => ?_) ?_
          · go_simp
            refine hK _ _ ?_
            clear hK K
            try simp only [Act.put, List.setIfInBounds_toArray, List.set_cons_zero, List.set_cons_succ]
            refine wpAnyIn_ready (rs := [4]) (by kernel_rfl) (by simp) ?_
            refine AllReadyIn.cons rfl (fun K hK => ?_) ?_
            · go_simp
              refine hK _ _ ?_
              clear hK K
              try simp only [Act.put, List.setIfInBounds_toArray, List.set_cons_zero, List.set_cons_succ]
              refine wpAnyIn_ready (rs := [5]) (by kernel_rfl) (by simp) ?_
              refine AllReadyIn.cons rfl (fun K hK => ?_) ?_
              · refine stepIn_append_own _ rfl (.tmp 9) (.tmp 13) 22 rfl w.heap.size 50 i0 _ 3 24 Try.underlying22 hi hz0 hz1 hz2 rfl (by decide) _ _ _ rfl (hrow1.alloc _) ⟨w1.heap.size, 0, none⟩ 1 1 (edCells (flipE x)) rfl rfl (ed_new _ (flipE x) _) (edCells_one _) (by unfold maxLen; omega) (by omega) (by have := hB2.size; simp; omega) ?_
                intro v9 w2 hown9 hgrow9
                obtain ⟨g', cap', rfl⟩ := ownsRow_succ hown9
                obtain ⟨hv1, hv2, hr2, hk2, hb3⟩ := c51.appended (by decide) hrow1 hB2.size (by omega) hown9 hgrow9
                have hc7 := hv1.cell
                have hf7 := hv1.frozen
                refine hK _ _ ?_
                clear hK K
                try simp only [Act.put, List.setIfInBounds_toArray]
                refine wpAnyIn_ready (rs := [6]) (by kernel_rfl) (by simp) ?_
                refine AllReadyIn.cons rfl (fun K hK => ?_) ?_
                · go_simp
                  refine hK _ _ ?_
                  clear hK K
                  try simp only [Act.put, List.setIfInBounds_toArray]
                  refine wpAnyIn_done (by kernel_rfl) ?_ _
                  refine ⟨(((KeepsOthers.drew W).trans hko).trans hk2).from _, ((hB1d.trans hb9).trans hb3).mono hb.size, ⟨⟨⟨_, hv2, ?_, trivial⟩, ?_⟩, hB2.trans hb3⟩⟩
                  · rw [List.map_append, List.map_cons, List.map_nil, cellsE_snoc, List.length_append]
                    exact hr2
                  · exact ((kt1.alloc _).kept hgrow9 (kt1.not_row (by decide) hrow1)).other (B' := w.heap.size + 1) (by omega) _
                exact AllReadyIn.nil
              exact AllReadyIn.nil
            exact AllReadyIn.nil
          refine AllReadyIn.cons rfl (fun K hK => ?_) ?_
          · go_simp
            refine hK _ _ ?_
            clear hK K
            try simp only [Act.put, List.setIfInBounds_toArray, List.set_cons_zero, List.set_cons_succ]
            refine wpAnyIn_ready (rs := [0]) (by kernel_rfl) (by simp) ?_
            refine AllReadyIn.cons rfl (fun K hK => ?_) ?_
            · go_simp
              refine hK _ _ ?_
              clear hK K
              try simp only [Act.put, List.setIfInBounds_toArray, List.set_cons_zero, List.set_cons_succ]
              refine wpAnyIn_ready (rs := [5]) (by kernel_rfl) (by simp) ?_
              refine AllReadyIn.cons rfl (fun K hK => ?_) ?_
              · refine stepIn_append_own _ rfl (.tmp 9) (.tmp 13) 22 rfl w.heap.size 50 i0 _ 3 24 Try.underlying22 hi hz0 hz1 hz2 rfl (by decide) _ _ _ rfl (hrow1.alloc _) ⟨w1.heap.size, 0, none⟩ 1 1 (edCells (flipE x)) rfl rfl (ed_new _ (flipE x) _) (edCells_one _) (by unfold maxLen; omega) (by omega) (by have := hB2.size; simp; omega) ?_
                intro v9 w2 hown9 hgrow9
                obtain ⟨g', cap', rfl⟩ := ownsRow_succ hown9
                obtain ⟨hv1, hv2, hr2, hk2, hb3⟩ := c51.appended (by decide) hrow1 hB2.size (by omega) hown9 hgrow9
                have hc7 := hv1.cell
                have hf7 := hv1.frozen
                refine hK _ _ ?_
                clear hK K
                try simp only [Act.put, List.setIfInBounds_toArray]
                refine wpAnyIn_ready (rs := [6]) (by kernel_rfl) (by simp) ?_
                refine AllReadyIn.cons rfl (fun K hK => ?_) ?_
                · go_simp
                  refine hK _ _ ?_
                  clear hK K
                  try simp only [Act.put, List.setIfInBounds_toArray]
                  refine wpAnyIn_done (by kernel_rfl) ?_ _
                  refine ⟨(((KeepsOthers.drew W).trans hko).trans hk2).from _, ((hB1d.trans hb9).trans hb3).mono hb.size, ⟨⟨⟨_, hv2, ?_, trivial⟩, ?_⟩, hB2.trans hb3⟩⟩
                  · rw [List.map_append, List.map_cons, List.map_nil, cellsE_snoc, List.length_append]
                    exact hr2
                  · exact ((kt1.alloc _).kept hgrow9 (kt1.not_row (by decide) hrow1)).other (B' := w.heap.size + 1) (by omega) _
                exact AllReadyIn.nil
              exact AllReadyIn.nil
            exact AllReadyIn.nil
          exact AllReadyIn.nil
        exact AllReadyIn.nil
      exact AllReadyIn.nil
    refine AllReadyIn.cons rfl (fun K hK => ?_) ?_
    · go_simp
      refine hK _ _ ?_
      clear hK K
      try simp only [Act.put, List.setIfInBounds_toArray, List.set_cons_zero, List.set_cons_succ]
      refine wpAnyIn_ready (rs := [0, 1]) (by kernel_rfl) (by simp) ?_
      refine AllReadyIn.cons rfl (fun K hK => ?_) ?_
      · go_simp
        refine hK _ _ ?_
        clear hK K
        try simp only [Act.put, List.setIfInBounds_toArray, List.set_cons_zero, List.set_cons_succ]
        refine wpAnyIn_ready (rs := [1]) (by kernel_rfl) (by simp) ?_
        refine AllReadyIn.cons rfl (fun K hK => ?_) ?_
        · go_simp
          refine hK _ _ ?_
          clear hK K
          try simp only [Act.put, List.setIfInBounds_toArray, List.set_cons_zero, List.set_cons_succ]
          refine wpAnyIn_ready (rs := [3]) (by kernel_rfl) (by simp) ?_
          refine AllReadyIn.cons rfl (fun K hK => ?_) ?_
          · go_simp
            refine ⟨trivial, (fun h => by cases h), ((callsIn_wide.2 (HT.out _)).inRound l).mono ?_⟩
            rintro e9 w1 ⟨rfl, b9⟩
            obtain ⟨c51, hrow1, kt1, hB2, hko, hb9⟩ := HAF.out w1 b9
            go_simp
            refine hK _ _ ?_
            clear hK K
            try simp only [Act.put, List.setIfInBounds_toArray, List.set_cons_zero, List.set_cons_succ]
            refine wpAnyIn_ready (rs := [4]) (by kernel_rfl) (by simp) ?_
            refine AllReadyIn.cons rfl (fun K hK => ?_) ?_
            · go_simp
              refine hK _ _ ?_
              clear hK K
              try simp only [Act.put, List.setIfInBounds_toArray, List.set_cons_zero, List.set_cons_succ]
              refine wpAnyIn_ready (rs := [5]) (by kernel_rfl) (by simp) ?_
              refine AllReadyIn.cons rfl (fun K hK => ?_) ?_
              · refine stepIn_append_own _ rfl (.tmp 9) (.tmp 13) 22 rfl w.heap.size 50 i0 _ 3 24 Try.underlying22 hi hz0 hz1 hz2 rfl (by decide) _ _ _ rfl (hrow1.alloc _) ⟨w1.heap.size, 0, none⟩ 1 1 (edCells (flipE x)) rfl rfl (ed_new _ (flipE x) _) (edCells_one _) (by unfold maxLen; omega) (by omega) (by have := hB2.size; simp; omega) ?_
                intro v9 w2 hown9 hgrow9
                obtain ⟨g', cap', rfl⟩ := ownsRow_succ hown9
                obtain ⟨hv1, hv2, hr2, hk2, hb3⟩ := c51.appended (by decide) hrow1 hB2.size (by omega) hown9 hgrow9
                have hc7 := hv1.cell
                have hf7 := hv1.frozen
                refine hK _ _ ?_
                clear hK K
                try simp only [Act.put, List.setIfInBounds_toArray]
                refine wpAnyIn_ready (rs := [6]) (by kernel_rfl) (by simp) ?_
                refine AllReadyIn.cons rfl (fun K hK => ?_) ?_
                · go_simp
                  refine hK _ _ ?_
                  clear hK K
                  try simp only [Act.put, List.setIfInBounds_toArray]
                  refine wpAnyIn_done (by kernel_rfl) ?_ _
                  refine ⟨(((KeepsOthers.drew W).trans hko).trans hk2).from _, ((hB1d.trans hb9).trans hb3).mono hb.size, ⟨⟨⟨_, hv2, ?_, trivial⟩, ?_⟩, hB2.trans hb3⟩⟩
                  · rw [List.map_append, List.map_cons, List.map_nil, cellsE_snoc, List.length_append]
                    exact hr2
                  · exact ((kt1.alloc _).kept hgrow9 (kt1.not_row (by decide) hrow1)).other (B' := w.heap.size + 1) (by omega) _
                exact AllReadyIn.nil
              exact AllReadyIn.nil
            exact AllReadyIn.nil
          exact AllReadyIn.nil
        exact AllReadyIn.nil
      refine AllReadyIn.cons rfl (fun K hK => ?_) ?_
      · go_simp
        refine hK _ _ ?_
        clear hK K
        try simp only [Act.put, List.setIfInBounds_toArray, List.set_cons_zero, List.set_cons_succ]
        refine wpAnyIn_ready (rs := [0, 3]) (by kernel_rfl) (by simp) ?_
        refine AllReadyIn.cons rfl (fun K hK => ?_) ?_
        · go_simp
          refine hK _ _ ?_
          clear hK K
          try simp only [Act.put, List.setIfInBounds_toArray, List.set_cons_zero, List.set_cons_succ]
          refine wpAnyIn_ready (rs := [3]) (by kernel_rfl) (by simp) ?_
          refine AllReadyIn.cons rfl (fun K hK => ?_) ?_
          · go_simp
            refine ⟨trivial, (fun h => by cases h), ((callsIn_wide.2 (HT.out _)).inRound l).mono ?_⟩
            rintro e9 w1 ⟨rfl, b9⟩
            obtain ⟨c51, hrow1, kt1, hB2, hko, hb9⟩ := HAF.out w1 b9
            go_simp
            refine hK _ _ ?_
            clear hK K
            try simp only [Act.put, List.setIfInBounds_toArray, List.set_cons_zero, List.set_cons_succ]
            refine wpAnyIn_ready (rs := [4]) (by kernel_rfl) (by simp) ?_
            refine AllReadyIn.cons rfl (fun K hK => ?_) ?_
            · go_simp
              refine hK _ _ ?_
              clear hK K
              try simp only [Act.put, List.setIfInBounds_toArray, List.set_cons_zero, List.set_cons_succ]
              refine wpAnyIn_ready (rs := [5]) (by kernel_rfl) (by simp) ?_
              refine AllReadyIn.cons rfl (fun K hK => ?_) ?_
              · refine stepIn_append_own _ rfl (.tmp 9) (.tmp 13) 22 rfl w.heap.size 50 i0 _ 3 24 Try.underlying22 hi hz0 hz1 hz2 rfl (by decide) _ _ _ rfl (hrow1.alloc _) ⟨w1.heap.size, 0, none⟩ 1 1 (edCells (flipE x)) rfl rfl (ed_new _ (flipE x) _) (edCells_one _) (by unfold maxLen; omega) (by omega) (by have := hB2.size; simp; omega) ?_
                intro v9 w2 hown9 hgrow9
                obtain ⟨g', cap', rfl⟩ := ownsRow_succ hown9
                obtain ⟨hv1, hv2, hr2, hk2, hb3⟩ := c51.appended (by decide) hrow1 hB2.size (by omega) hown9 hgrow9
                have hc7 := hv1.cell
                have hf7 := hv1.frozen
                refine hK _ _ ?_
                clear hK K
                try simp only [Act.put, List.setIfInBounds_toArray]
                refine wpAnyIn_ready (rs := [6]) (by kernel_rfl) (by simp) ?_
                refine AllReadyIn.cons rfl (fun K hK => ?_) ?_
                · go_simp
                  refine hK _ _ ?_
                  clear hK K
                  try simp only [Act.put, List.setIfInBounds_toArray]
                  refine wpAnyIn_done (by kernel_rfl) ?_ _
                  refine ⟨(((KeepsOthers.drew W).trans hko).trans hk2).from _, ((hB1d.trans hb9).trans hb3).mono hb.size, ⟨⟨⟨_, hv2, ?_, trivial⟩, ?_⟩, hB2.trans hb3⟩⟩
                  · rw [List.map_append, List.map_cons, List.map_nil, cellsE_snoc, List.length_append]
                    exact hr2
                  · exact ((kt1.alloc _).kept hgrow9 (kt1.not_row (by decide) hrow1)).other (B' := w.heap.size + 1) (by omega) _
                exact AllReadyIn.nil
              exact AllReadyIn.nil
            exact AllReadyIn.nil
          exact AllReadyIn.nil
        refine AllReadyIn.cons rfl (fun K hK => ?_) ?_
        · go_simp
          refine ⟨trivial, (fun h => by cases h), ((callsIn_wide.2 (HT.out _)).inRound l).mono ?_⟩
          rintro e9 w1 ⟨rfl, b9⟩
          obtain ⟨c51, hrow1, kt1, hB2, hko, hb9⟩ := HAF.out w1 b9
          have hc5 := c51.cell
          have hc6 := (c51.alloc (.cells #[.int .i64 x.2.1, .int .i64 x.1, .int .i64 x.2.2] 50)).cell
          go_simp
          refine hK _ _ ?_
          clear hK K
          try simp only [Act.put, List.setIfInBounds_toArray, List.set_cons_zero, List.set_cons_succ]
          refine wpAnyIn_ready (rs := [0, 4]) (by kernel_rfl) (by simp) ?_
          refine AllReadyIn.cons rfl (fun K hK => ?_) ?_
          · go_simp
            refine hK _ _ ?_
            clear hK K
            try simp only [Act.put, List.setIfInBounds_toArray, List.set_cons_zero, List.set_cons_succ]
            refine wpAnyIn_ready (rs := [4]) (by kernel_rfl) (by simp) ?_
            refine AllReadyIn.cons rfl (fun K hK => ?_) ?_
            · go_simp
              refine hK _ _ ?_
              clear hK K
              try simp only [Act.put, List.setIfInBounds_toArray, List.set_cons_zero, List.set_cons_succ]
              refine wpAnyIn_ready (rs := [5]) (by kernel_rfl) (by simp) ?_
              refine AllReadyIn.cons rfl (fun K hK => ?_) ?_
              · refine stepIn_append_own _ rfl (.tmp 9) (.tmp 13) 22 rfl w.heap.size 50 i0 _ 3 24 Try.underlying22 hi hz0 hz1 hz2 rfl (by decide) _ _ _ rfl (hrow1.alloc _) ⟨w1.heap.size, 0, none⟩ 1 1 (edCells (flipE x)) rfl rfl (ed_new _ (flipE x) _) (edCells_one _) (by unfold maxLen; omega) (by omega) (by have := hB2.size; simp; omega) ?_
                intro v9 w2 hown9 hgrow9
                obtain ⟨g', cap', rfl⟩ := ownsRow_succ hown9
                obtain ⟨hv1, hv2, hr2, hk2, hb3⟩ := c51.appended (by decide) hrow1 hB2.size (by omega) hown9 hgrow9
                have hc7 := hv1.cell
                have hf7 := hv1.frozen
                refine hK _ _ ?_
                clear hK K
                try simp only [Act.put, List.setIfInBounds_toArray]
                refine wpAnyIn_ready (rs := [6]) (by kernel_rfl) (by simp) ?_
                refine AllReadyIn.cons rfl (fun K hK => ?_) ?_
                · go_simp
                  refine hK _ _ ?_
                  clear hK K
                  try simp only [Act.put, List.setIfInBounds_toArray]
                  refine wpAnyIn_done (by kernel_rfl) ?_ _
                  refine ⟨(((KeepsOthers.drew W).trans hko).trans hk2).from _, ((hB1d.trans hb9).trans hb3).mono hb.size, ⟨⟨⟨_, hv2, ?_, trivial⟩, ?_⟩, hB2.trans hb3⟩⟩
                  · rw [List.map_append, List.map_cons, List.map_nil, cellsE_snoc, List.length_append]
                    exact hr2
                  · exact ((kt1.alloc _).kept hgrow9 (kt1.not_row (by decide) hrow1)).other (B' := w.heap.size + 1) (by omega) _
                exact AllReadyIn.nil
              exact AllReadyIn.nil
            exact AllReadyIn.nil
          refine AllReadyIn.cons rfl (fun K hK => ?_) ?_
          · go_simp
            refine hK _ _ ?_
            clear hK K
            try simp only [Act.put, List.setIfInBounds_toArray, List.set_cons_zero, List.set_cons_succ]
            refine wpAnyIn_ready (rs := [0]) (by kernel_rfl) (by simp) ?_
            refine AllReadyIn.cons rfl (fun K hK => ?_) ?_
            · go_simp
              refine hK _ _ ?_
              clear hK K
              try simp only [Act.put, List.setIfInBounds_toArray, List.set_cons_zero, List.set_cons_succ]
              refine wpAnyIn_ready (rs := [5]) (by kernel_rfl) (by simp) ?_
              refine AllReadyIn.cons rfl (fun K hK => ?_) ?_
              · refine stepIn_append_own _ rfl (.tmp 9) (.tmp 13) 22 rfl w.heap.size 50 i0 _ 3 24 Try.underlying22 hi hz0 hz1 hz2 rfl (by decide) _ _ _ rfl (hrow1.alloc _) ⟨w1.heap.size, 0, none⟩ 1 1 (edCells (flipE x)) rfl rfl (ed_new _ (flipE x) _) (edCells_one _) (by unfold maxLen; omega) (by omega) (by have := hB2.size; simp; omega) ?_
                intro v9 w2 hown9 hgrow9
                obtain ⟨g', cap', rfl⟩ := ownsRow_succ hown9
                obtain ⟨hv1, hv2, hr2, hk2, hb3⟩ := c51.appended (by decide) hrow1 hB2.size (by omega) hown9 hgrow9
                have hc7 := hv1.cell
                have hf7 := hv1.frozen
                refine hK _ _ ?_
                clear hK K
                try simp only [Act.put, List.setIfInBounds_toArray]
                refine wpAnyIn_ready (rs := [6]) (by kernel_rfl) (by simp) ?_
                refine AllReadyIn.cons rfl (fun K hK => ?_) ?_
                · go_simp
                  refine hK _ _ ?_
                  clear hK K
                  try simp only [Act.put, List.setIfInBounds_toArray]
                  refine wpAnyIn_done (by kernel_rfl) ?_ _
                  refine ⟨(((KeepsOthers.drew W).trans hko).trans hk2).from _, ((hB1d.trans hb9).trans hb3).mono hb.size, ⟨⟨⟨_, hv2, ?_, trivial⟩, ?_⟩, hB2.trans hb3⟩⟩
                  · rw [List.map_append, List.map_cons, List.map_nil, cellsE_snoc, List.length_append]
                    exact hr2
                  · exact ((kt1.alloc _).kept hgrow9 (kt1.not_row (by decide) hrow1)).other (B' := w.heap.size + 1) (by omega) _
                exact AllReadyIn.nil
              exact AllReadyIn.nil
            exact AllReadyIn.nil
          exact AllReadyIn.nil
        exact AllReadyIn.nil
      exact AllReadyIn.nil
    exact AllReadyIn.nil
  case done =>
    rintro D xs W hD rfl ⟨⟨⟨v, c3, hrow, _⟩, kt⟩, hB1⟩ hK
    obtain ⟨A', c', rfl, h51, h52⟩ := own_form2 hrow
    have e0 := c3.cell
    have HK := Lib.hid hK
    gi_wp2
    refine ⟨by simp, .inl ⟨_, _, rfl, run_takeDeferred HK.out, ?_⟩⟩
    have ho := ownsRow_putObj hrow (.deferred none) HK.out rfl
    rw [← List.length_map (f := flipE)] at ho h51
    refine ⟨.slice A' xs.length c', by simp [results, Try.results48, go_sem], A', c', by rw [List.length_map], ho, h51, h52, hB1.trans (belowK_b (w := w) (Nat.le_refl _) W D _ _ (by omega) HK.out rfl rfl)⟩
  case stop =>
    rintro D c pre W hD _ h
    exact h.elim

end Go.Proofs.Ytaigpdpcliecpaa
namespace Go.Proofs.Ytaigpdpcliecpaa
open Go.RowKit

theorem eg_those : ∀ args w, (callFunc 60 args).run Try.prog w = .ok (.enter 60 args) w := enters_of Try.func60 (by kernel_rfl) rfl
theorem eg_values : ∀ args w, (callFunc 61 args).run Try.prog w = .ok (.enter 61 args) w := enters_of Try.func61 (by kernel_rfl) rfl

/-- What those lays: the row, and the question. -/
theorem those_laid (A : Option Addr) (n c g : Nat) (caps : Array Value) (zs : List Ed) (w : World) (hR : Reads w w.heap.size 3 A n (cellsE zs)) :
    ∃ W, W = (w.alloc (.cells #[.slice A n c] 22)).alloc (.cells #[.func (.func g) #[] caps] 51) ∧ Blk W w.heap.size 22 #[.slice A n c] ∧ Blk W (w.heap.size + 1) 51 #[.func (.func g) #[] caps] ∧ Reads W W.heap.size 3 A n (cellsE zs) ∧ Below w.heap.size w W := by
  obtain ⟨k0, k1, b0⟩ := two_new w #[.slice A n c] #[.func (.func g) #[] caps] 22 51
  exact ⟨_, rfl, k0, k1, (hR.below b0).more b0.size, b0⟩

theorem in_filter (zs : List Ed) (v : Int) : zs.filter (fun p => p.2.1 == v) = inE zs v := by
  unfold inE
  refine List.filter_congr fun p _ => ?_
  rw [Bool.eq_iff_iff]; simp

set_option maxRecDepth 100000 in
set_option maxHeartbeats 4000000 in
theorem in_ok (nodes v : Int) (A : Option Addr) (n c : Nat) (zs : List Ed) (hg : IsG nodes zs) (hv : 0 ≤ v ∧ v < nodes) (hn : n ≤ 1000) (w : World) (hR : Reads w w.heap.size 3 A n (cellsE zs)) :
    Calls Try.prog 23 #[.agg #[.int .i64 nodes, .slice A n c], .int .i64 v] w (RErr (inE zs v) 0 w) := by
  obtain ⟨k0, k1, b0⟩ := two_new w #[.int .i64 nodes, .slice A n c] #[.int .i64 v] 24 3
  obtain ⟨W0, hW0⟩ : ∃ W0, (w.alloc (.cells #[.int .i64 nodes, .slice A n c] 24)).alloc (.cells #[.int .i64 v] 3) = W0 := ⟨_, rfl⟩
  rw [hW0] at k0 k1 b0
  have hil := int_lit W0 [v] 3 #[.int .i64 v] rfl
  have bl : Below w.heap.size w (W0.alloc (.cells #[.int .i64 v] 3)) := b0.alloc b0.size _
  have HA := Lib.hid (asked_any nodes A (some ⟨W0.heap.size, 0, none⟩) n c 1 1 zs [v] hn (by omega) _ ((hR.below bl).more bl.size) hil)
  rw [ask_ok (rightG_iff.2 hg) (by unfold nodeB; simp [hv])] at HA
  have HR := Lib.hid fun W (h : Below w.heap.size w W) => (hR.below h).more h.size
  have HK0 := Lib.hid fun W (h : Below W0.heap.size W0 W) => k0.below h k0.lt
  have HK1 := Lib.hid fun W (h : Below W0.heap.size W0 W) => k1.below h k1.lt
  have B0 := Lib.hid b0
  have hlt1 := k1.lt
  have z0 := k0.cell 0
  have z1 := k0.cell 1
  have z2 := k1.cell 0
  have BL0 : Below W0.heap.size W0 (W0.alloc (.cells #[.int .i64 v] 3)) := (Below.refl _ _).alloc (Nat.le_refl _) _
  clear hR k0 k1 b0 bl hil hg hv
  go_enter Try.func23, Try.ntmps23
  go_wp2_with fail
  clear hW0
  refine HA.out.mono ?_
  rintro e w1 ⟨rfl, b⟩
  have B1 : Hid (Below W0.heap.size W0 w1) := BL0.trans (b.mono BL0.size)
  clear b z0 z1 z2 HA BL0
  have z0 := (HK0.out _ B1.out).cell 0
  have z1 := (HK0.out _ B1.out).cell 1
  have BW1 : Hid (Below w.heap.size w w1) := B0.out.trans (B1.out.mono B0.out.size)
  go_wp2_with fail
  refine (those_any A n c 45 #[.pointer (some ⟨w.heap.size + 1, 0, none⟩)] w1).mono ?_
  rintro e w2 ⟨rfl, rfl⟩
  obtain ⟨W2, hW2, t0, t1, t2, t3⟩ := those_laid A n c 45 #[.pointer (some ⟨w.heap.size + 1, 0, none⟩)] zs w1 (HR.out _ BW1.out)
  rw [← hW2]
  clear hW2
  have hx : ∀ W, Below W2.heap.size W2 W → Below W0.heap.size W0 W := fun W h => (B1.out.trans (t3.mono B1.out.size)).trans (h.mono (Nat.le_trans B1.out.size t3.size))
  have HS := Lib.hid (those_stops_in1 9 (by omega) w1.heap.size (w1.heap.size + 1) (w.heap.size + 1) n c A zs (fun p => p.2.1 == v) hn W2 t0 t1 t2
    (fun p W h => in1_any p v (w.heap.size + 1) W (Nat.lt_of_lt_of_le hlt1 (hx W h).size) ((HK1.out _ (hx W h)).cell 0)))
  have HCO := Lib.hid (collect_any _ _ _ n hn _ W2 eg_those HS.out W2 (Below.refl _ _))
  rw [in_filter] at HCO
  have BW2 : Hid (Below w.heap.size w W2) := BW1.out.trans (t3.mono BW1.out.size)
  clear t0 t1 t2 t3 HS hx z0 z1
  go_wp2_with fail
  refine HCO.out.mono ?_
  rintro e w3 hx
  obtain ⟨A2, c2, rfl, h1, h2, h3, h4⟩ := rows_row hx
  have HE : Hid (RErr (inE zs v) 0 w (.returned (.tuple #[.slice A2 (inE zs v).length c2, .int .i64 0])) w3) := ⟨A2, c2, rfl, own_base h1 BW2.out.size, h2, h3, BW2.out.trans (h4.mono BW2.out.size)⟩
  clear h1 h2 h3 h4 hx HCO
  go_wp2_with fail
  go_ret2
  exact HE.out

set_option maxRecDepth 100000 in
set_option maxHeartbeats 2000000 in
theorem in_no (nodes v k : Int) (A : Option Addr) (n c : Nat) (zs : List Ed) (hk : askE nodes zs [v] = k) (hk0 : (k != 0) = true) (hn : n ≤ 1000) (w : World) (hR : Reads w w.heap.size 3 A n (cellsE zs)) :
    Calls Try.prog 23 #[.agg #[.int .i64 nodes, .slice A n c], .int .i64 v] w (RErr [] k w) := by
  obtain ⟨k0, k1, b0⟩ := two_new w #[.int .i64 nodes, .slice A n c] #[.int .i64 v] 24 3
  obtain ⟨W0, hW0⟩ : ∃ W0, (w.alloc (.cells #[.int .i64 nodes, .slice A n c] 24)).alloc (.cells #[.int .i64 v] 3) = W0 := ⟨_, rfl⟩
  rw [hW0] at k0 k1 b0
  have hil := int_lit W0 [v] 3 #[.int .i64 v] rfl
  have bl : Below w.heap.size w (W0.alloc (.cells #[.int .i64 v] 3)) := b0.alloc b0.size _
  have HA := Lib.hid (asked_any nodes A (some ⟨W0.heap.size, 0, none⟩) n c 1 1 zs [v] hn (by omega) _ ((hR.below bl).more bl.size) hil)
  rw [hk] at HA
  have BL := Lib.hid bl
  have z0 := k0.cell 0
  have z1 := k0.cell 1
  have z2 := k1.cell 0
  clear hR k0 k1 b0 bl hil hk
  go_enter Try.func23, Try.ntmps23
  go_wp2_with fail
  refine HA.out.mono ?_
  rintro e w1 ⟨rfl, b⟩
  have B1 : Hid (Below w.heap.size w w1) := BL.out.trans (b.mono BL.out.size)
  clear b z0 z1 z2 HA
  go_wp2_with fail
  go_ret2
  exact ⟨none, 0, rfl, World.ownsRow_nil _ _ _ _, Nat.le_refl _, by decide, B1.out⟩

theorem kinds_filter (zs : List Ed) (u v : Int) : ((outE zs u).filter (fun p => p.2.1 == v)).map (fun p => p.2.2) = kindsE zs u v := by
  unfold kindsE
  congr 1

set_option maxRecDepth 100000 in
set_option maxHeartbeats 4000000 in
theorem rev_ok (nodes : Int) (A : Option Addr) (n c : Nat) (zs : List Ed) (hg : IsG nodes zs) (hn : n ≤ 1000) (w : World) (hR : Reads w w.heap.size 3 A n (cellsE zs)) :
    Calls Try.prog 29 #[.agg #[.int .i64 nodes, .slice A n c]] w (GErr nodes (backE zs) 0 w) := by
  obtain ⟨k0, k1, b0⟩ := two_new w #[.int .i64 nodes, .slice A n c] #[.int .i64 0, .slice none 0 0] 24 24
  obtain ⟨W0, hW0⟩ : ∃ W0, (w.alloc (.cells #[.int .i64 nodes, .slice A n c] 24)).alloc (.cells #[.int .i64 0, .slice none 0 0] 24) = W0 := ⟨_, rfl⟩
  rw [hW0] at k0 k1 b0
  have hl := reads_len hR
  have HC := Lib.hid (check_any nodes A n c zs hn W0 ((hR.below b0).more b0.size))
  rw [check_yes (rightG_iff.2 hg)] at HC
  have HR := Lib.hid fun W (h : Below w.heap.size w W) => (hR.below h).more h.size
  have HOK := Lib.hid hg.flip_ok
  have HK0 := Lib.hid fun W (h : Below W0.heap.size W0 W) => k0.below h k0.lt
  have HK1 := Lib.hid fun W (h : Below W0.heap.size W0 W) => k1.below h k1.lt
  have HLN : Hid ((zs.map flipE).length ≤ 1000) := by show _ ≤ _; rw [List.length_map]; omega
  have B0 := Lib.hid b0
  have z0 := k0.cell 0
  have z1 := k0.cell 1
  clear hR k0 k1 b0 hg hl
  go_enter Try.func29, Try.ntmps29
  go_wp2_with fail
  clear hW0
  refine HC.out.mono ?_
  rintro e w1 ⟨rfl, b⟩
  have B1 : Hid (Below W0.heap.size W0 w1) := Lib.hid b
  have BW1 : Hid (Below w.heap.size w w1) := B0.out.trans (b.mono B0.out.size)
  clear b z0 z1 HC
  have z0 := (HK0.out _ B1.out).cell 0
  have z1 := (HK0.out _ B1.out).cell 1
  go_wp2_with fail
  refine (values_any A n c w1).mono ?_
  rintro e w2 ⟨rfl, rfl⟩
  obtain ⟨t0, t3⟩ := box_new w1 #[.slice A n c] 22
  have HS := Lib.hid (values_stops 9 (by omega) w1.heap.size n c A zs hn _ t0 (((HR.out _ BW1.out).below t3).more t3.size))
  have HG := Lib.hid (callsIn_wide.1 (gatherE_in 10 (by omega) _ _ _ n hn _ _ eg_values HS.out _ (Below.refl _ _)))
  have B2 : Hid (Below W0.heap.size W0 (w1.alloc (.cells #[.slice A n c] 22))) := B1.out.trans (t3.mono B1.out.size)
  clear t0 t3 HS z0 z1
  generalize w1.alloc (.cells #[.slice A n c] 22) = w2 at *
  go_wp2_with fail
  refine HG.out.mono ?_
  rintro e w3 hx
  obtain ⟨A2, c2, rfl, h1, h2, h3, h4⟩ := rows_row hx
  have B3 : Hid (Below W0.heap.size W0 w3) := B2.out.trans (h4.mono B2.out.size)
  have HSO := Lib.hid (sorted_any A2 _ c2 (zs.map flipE) HOK.out HLN.out w3.drew (reads_own h1))
  have HBE : Hid (sorE (zs.map flipE) = backE zs) := rfl
  rw [HBE.out] at HSO
  clear h1 h2 h3 h4 hx HG
  generalize (zs.map flipE).length = q at *
  go_wp2_with fail
  have J0 : Hid (Below W0.heap.size W0 w3.drew) := B3.out.drew
  have HS1 : Hid (∀ W, Below W0.heap.size W0 W → W.cell? ⟨w.heap.size, 0, none⟩ = some (.int .i64 nodes) ∧ W.cell? ⟨w.heap.size, 1, none⟩ = some (.slice A n c)) := fun W h => ⟨(HK0.out W h).cell 0, (HK0.out W h).cell 1⟩
  have HS2 : Hid (∀ (W : World) u v, Below W0.heap.size W0 W → ((W.setCell ⟨w.heap.size + 1, 0, none⟩ u).setCell ⟨w.heap.size + 1, 1, none⟩ v).cell? ⟨w.heap.size, 0, none⟩ = some (.int .i64 nodes) ∧ ((W.setCell ⟨w.heap.size + 1, 0, none⟩ u).setCell ⟨w.heap.size + 1, 1, none⟩ v).cell? ⟨w.heap.size, 1, none⟩ = some (.slice A n c)) :=
    fun W u v h => have b := ((HK0.out W h).far (p := ⟨w.heap.size + 1, 0, none⟩) (by simp) u).far (p := ⟨w.heap.size + 1, 1, none⟩) (by simp) v; ⟨b.cell 0, b.cell 1⟩
  go_region_held3 (fun W => W.cell? ⟨w.heap.size, 0, none⟩ = some (.int .i64 nodes) ∧ W.cell? ⟨w.heap.size, 1, none⟩ = some (.slice A n c)) (first | exact HS2.out _ _ _ J1.out | exact HS1.out _ J1.out | exact HS1.out _ J0.out | fail) (first
    | (go_at_call 51; refine HSO.out.mono ?_; rintro e w4 ⟨A3, c3, rfl, i1, i2, i3, i4⟩; have J1 : Hid (Below W0.heap.size W0 w4) := J0.out.trans (i4.mono J0.out.size); have HG := Lib.hid (And.intro i1 (And.intro i2 i3)); have q0 := (HK1.out _ J1.out).cell 0; have q1 := (HK1.out _ J1.out).cell 1; have q2 := (HK1.out _ J1.out).frozen 0; have q3 := (HK1.out _ J1.out).frozen 1; clear i1 i2 i3 i4)
    | fail)
  have y0 := (store2 (HK1.out _ J1.out) (.int .i64 nodes) (.slice A3 (backE zs).length c3)).cell 0
  have y1 := (store2 (HK1.out _ J1.out) (.int .i64 nodes) (.slice A3 (backE zs).length c3)).cell 1
  have HE : Hid (GErr nodes (backE zs) 0 w (.returned (.tuple #[.agg #[.int .i64 nodes, .slice A3 (backE zs).length c3], .int .i64 0])) ((w4.setCell ⟨w.heap.size + 1, 0, none⟩ (.int .i64 nodes)).setCell ⟨w.heap.size + 1, 1, none⟩ (.slice A3 (backE zs).length c3))) :=
    ⟨A3, c3, rfl, own_store2 (own_base HG.out.1 (Nat.le_trans B0.out.size J0.out.size)) (HK1.out _ J1.out) (by decide) _ _, HG.out.2.1, HG.out.2.2, below_store2 (B0.out.trans (J1.out.mono B0.out.size)) (Nat.le_succ _) _ _⟩
  go_wp2_with fail
  exact bodyPost_ret (v := .tuple #[.agg #[.int .i64 nodes, .slice A3 (backE zs).length c3], .int .i64 0]) (by simp [results, Try.results29, go_sem, y0, y1]) rfl HE.out

set_option maxRecDepth 100000 in
set_option maxHeartbeats 2000000 in
theorem rev_no (nodes : Int) (A : Option Addr) (n c : Nat) (zs : List Ed) (hg : rightG nodes zs = false) (hn : n ≤ 1000) (w : World) (hR : Reads w w.heap.size 3 A n (cellsE zs)) :
    Calls Try.prog 29 #[.agg #[.int .i64 nodes, .slice A n c]] w (GErr 0 [] 150 w) := by
  obtain ⟨k0, k1, b0⟩ := two_new w #[.int .i64 nodes, .slice A n c] #[.int .i64 0, .slice none 0 0] 24 24
  obtain ⟨W0, hW0⟩ : ∃ W0, (w.alloc (.cells #[.int .i64 nodes, .slice A n c] 24)).alloc (.cells #[.int .i64 0, .slice none 0 0] 24) = W0 := ⟨_, rfl⟩
  rw [hW0] at k0 k1 b0
  have HC := Lib.hid (check_any nodes A n c zs hn W0 ((hR.below b0).more b0.size))
  rw [check_no hg] at HC
  have HK1 := Lib.hid fun W (h : Below W0.heap.size W0 W) => k1.below h k1.lt
  have B0 := Lib.hid b0
  have z0 := k0.cell 0
  have z1 := k0.cell 1
  clear hR k0 k1 b0 hg
  go_enter Try.func29, Try.ntmps29
  go_wp2_with fail
  clear hW0
  refine HC.out.mono ?_
  rintro e w1 ⟨rfl, b⟩
  have K1 := Lib.hid (HK1.out _ b)
  have B1 : Hid (Below w.heap.size w w1) := B0.out.trans (b.mono B0.out.size)
  clear b z0 z1 HC HK1
  have q0 := K1.out.cell 0
  have q1 := K1.out.cell 1
  have q2 := K1.out.frozen 0
  have q3 := K1.out.frozen 1
  have y0 := (store2 K1.out (.int .i64 0) (.slice none 0 0)).cell 0
  have y1 := (store2 K1.out (.int .i64 0) (.slice none 0 0)).cell 1
  have HE : Hid (GErr 0 [] 150 w (.returned (.tuple #[.agg #[.int .i64 0, .slice none 0 0], .int .i64 150])) ((w1.setCell ⟨w.heap.size + 1, 0, none⟩ (.int .i64 0)).setCell ⟨w.heap.size + 1, 1, none⟩ (.slice none 0 0))) :=
    ⟨none, 0, rfl, World.ownsRow_nil _ _ _ _, Nat.le_refl _, by decide, below_store2 B1.out (Nat.le_succ _) _ _⟩
  go_wp2_with fail
  exact bodyPost_ret (v := .tuple #[.agg #[.int .i64 0, .slice none 0 0], .int .i64 150]) (by simp [results, Try.results29, go_sem, y0, y1]) rfl HE.out

end Go.Proofs.Ytaigpdpcliecpaa
namespace Go.Proofs.Ytaigpdpcliecpaa
open Go.RowKit

/-- A graph as it stands in memory. -/
structure GV where
  z : Int
  A : Option Addr
  n : Nat
  c : Nat
  es : List Ed
def GV.ok (g : GV) (w : World) : Prop := Reads w w.heap.size 3 g.A g.n (cellsE g.es) ∧ g.n ≤ g.c ∧ g.c ≤ 9223372036854775807 ∧ (g.A = none → g.c = 0)
theorem GV.ok.on {g : GV} {w w' : World} (h : g.ok w) (hb : Below w.heap.size w w') : g.ok w' := ⟨(h.1.below hb).more hb.size, h.2⟩
theorem GV.ok.len {g : GV} {w : World} (h : g.ok w) : g.es.length = g.n := reads_len h.1
theorem gerr_gv {nodes k : Int} {ps : List Ed} {w w' : World} {e : Ending} (h : GErr nodes ps k w e w') :
    ∃ g : GV, e = .returned (.tuple #[.agg #[.int .i64 g.z, .slice g.A g.n g.c], .int .i64 k]) ∧ g.z = nodes ∧ g.es = ps ∧ g.ok w' ∧ Below w.heap.size w w' := by
  obtain ⟨A, c, he, ho, h1, h2, hb⟩ := h
  exact ⟨⟨nodes, A, ps.length, c, ps⟩, he, rfl, rfl, ⟨reads_own ho, h1, h2, own_nil ho⟩, hb⟩
theorem gis_gv {nodes : Int} {ps : List Ed} {w w' : World} {e : Ending} (h : GIs nodes ps w e w') :
    ∃ g : GV, e = .returned (.agg #[.int .i64 g.z, .slice g.A g.n g.c]) ∧ g.z = nodes ∧ g.es = ps ∧ g.ok w' ∧ Below w.heap.size w w' := by
  obtain ⟨A, c, he, ho, h1, h2, hb⟩ := h
  exact ⟨⟨nodes, A, ps.length, c, ps⟩, he, rfl, rfl, ⟨reads_own ho, h1, h2, own_nil ho⟩, hb⟩

/-- What a law holds between its calls: the graphs in its variables. -/
structure Env (w : World) (L : List (Nat × GV)) (W : World) : Prop where
  below : Below w.heap.size w W
  all : ∀ p ∈ L, Blk W p.1 24 #[.int .i64 p.2.z, .slice p.2.A p.2.n p.2.c] ∧ p.2.ok W
section
variable {w W W' : World} {L : List (Nat × GV)}
theorem Env.on (h : Env w L W) (hb : Below W.heap.size W W') : Env w L W' :=
  ⟨h.below.trans (hb.mono h.below.size), fun p hp => ⟨(h.all p hp).1.below hb (h.all p hp).1.lt, (h.all p hp).2.on hb⟩⟩
theorem Env.drew (h : Env w L W) : Env w L W.drew := h.on ((Below.refl _ _).drew)
theorem Env.drewN (h : Env w L W) (n : Nat) : Env w L (W.drewN n) := h.on (below_drewN (Below.refl _ _) n)
theorem Env.alloc (h : Env w L W) (o : Obj) : Env w L (W.alloc o) := h.on ((Below.refl _ _).alloc (Nat.le_refl _) o)
theorem Env.start (w : World) : Env w [] w := ⟨Below.refl _ _, fun p hp => by simp at hp⟩
theorem Env.add (h : Env w L W) {g : GV} (hg : g.ok W) : Env w ((W.heap.size, g) :: L) (W.alloc (.cells #[.int .i64 g.z, .slice g.A g.n g.c] 24)) := by
  have hb : Below W.heap.size W (W.alloc (.cells #[.int .i64 g.z, .slice g.A g.n g.c] 24)) := (Below.refl _ _).alloc (Nat.le_refl _) _
  have h2 := h.on hb
  refine ⟨h2.below, fun p hp => ?_⟩
  rcases List.mem_cons.1 hp with rfl | hp
  · exact ⟨Blk.new _ _ _, hg.on hb⟩
  · exact h2.all p hp
theorem Env.c0 (h : Env w L W) {b : Nat} {g : GV} (hm : (b, g) ∈ L) : W.cell? ⟨b, 0, none⟩ = some (.int .i64 g.z) := (h.all _ hm).1.cell 0
theorem Env.c1 (h : Env w L W) {b : Nat} {g : GV} (hm : (b, g) ∈ L) : W.cell? ⟨b, 1, none⟩ = some (.slice g.A g.n g.c) := (h.all _ hm).1.cell 1
theorem Env.ok (h : Env w L W) {b : Nat} {g : GV} (hm : (b, g) ∈ L) : g.ok W := (h.all _ hm).2
theorem Env.lt (h : Env w L W) {b : Nat} {g : GV} (hm : (b, g) ∈ L) : b < W.heap.size := (h.all _ hm).1.lt
end
theorem take_len (zs : List Ed) : (zs.take 80).length ≤ 80 := by rw [List.length_take]; omega
end Go.Proofs.Ytaigpdpcliecpaa
namespace Go.Proofs.Ytaigpdpcliecpaa
open Go.RowKit Go.Shelf

/-- The heap as it lies. -/
structure HeapAt (H B : Nat) (A : Option Addr) (n c : Nat) (xs : List Int) (W : World) : Prop where
  blk : Blk W H 95 #[.slice A n c]
  row : W.ownsRow B 3 1 (.slice A n c) n (ints xs)
section
variable {H B : Nat} {A : Option Addr} {n c : Nat} {xs : List Int} {W W' : World}
theorem HeapAt.len (h : HeapAt H B A n c xs W) : xs.length = n := by have := h.row.1; rw [ints_length] at this; omega
theorem HeapAt.keep {S : Nat → Prop} (h : HeapAt H B A n c xs W) (hk : Keep S W W') (hH : S H) (hA : ∀ g, (Value.slice A n c).ownBlock = some g → S g) : HeapAt H B A n c xs W' := ⟨hk.blk h.blk hH, hk.own h.row hA⟩
theorem HeapAt.alloc (h : HeapAt H B A n c xs W) (o : Obj) : HeapAt H B A n c xs (W.alloc o) := ⟨h.blk.alloc o, h.row.alloc o⟩
theorem HeapAt.drewN (h : HeapAt H B A n c xs W) (q : Nat) : HeapAt H B A n c xs (W.drewN q) := ⟨h.blk.drewN q, h.row⟩
theorem HeapAt.ne (h : HeapAt H B A n c xs W) {g : Nat} (hg : (Value.slice A n c).ownBlock = some g) : g ≠ H := fun e => own_blk_ne h.row h.blk (by decide) (by rw [hg, e])
theorem HeapAt.form (h : HeapAt H B A n c xs W) (hk : 0 < n) :
    ∃ g, A = some ⟨g, 0, none⟩ ∧ n ≤ c ∧ c ≤ 9223372036854775807 ∧ g < W.heap.size ∧ B ≤ g ∧ g ≠ H ∧ (∀ (j : Nat) (x : Int), xs[j]? = some x → W.cell? ⟨g, j, none⟩ = some (.int .i64 x)) ∧ ∀ j, W.frozen? ⟨g, j, none⟩ = false := by
  have hl := h.len
  rcases h.row.2 with ⟨_, e2⟩ | ⟨g, cap, cur, e1, hb, hk2, h3, h4, h5, h6⟩
  · omega
  · injection e1 with e1 e3 e4
    subst e1; subst e4
    refine ⟨g, rfl, h3, by unfold maxLen at h4; exact h4, (Array.getElem?_eq_some_iff.1 hk2).1, hb, h.ne (by simp [Value.ownBlock]), fun j x hx => ?_, fun j => h.row.frozenAt j⟩
    have hj := (List.getElem?_eq_some_iff.1 hx).1
    rw [cell_of_row W g j cur _ (0, 0) hk2]
    have : (ints xs)[j]? = some (.int .i64 x) := by unfold ints; rw [List.getElem?_map, hx]; rfl
    rw [← h6, List.getElem?_take, if_pos (by omega), Array.getElem?_toList] at this
    exact this
/-- A number is written. -/
theorem HeapAt.set {g : Nat} (h : HeapAt H B (some ⟨g, 0, none⟩) n c xs W) (i : Nat) (v : Int) : HeapAt H B (some ⟨g, 0, none⟩) n c (xs.set i v) (W.setCell ⟨g, i, none⟩ (.int .i64 v)) :=
  ⟨h.blk.far (p := ⟨g, i, none⟩) (Ne.symm (h.ne (by simp [Value.ownBlock]))) _, by
    have := (h.row.stored i (.int .i64 v)).1
    rwa [ints_set] at this⟩
/-- The row is cut. -/
theorem HeapAt.cut (h : HeapAt H B A n c xs W) {j : Nat} (hj : j ≤ n) : HeapAt H B A j c (xs.take j) (W.setCell ⟨H, 0, none⟩ (.slice A j c)) := by
  refine ⟨?_, ?_⟩
  · have := h.blk.set_ 0 (.slice A j c)
    simpa using this
  · have := own_store (own_less h.row hj) h.blk (k := 0) (by decide) (.slice A j c)
    have e : (ints xs).take j = ints (xs.take j) := by unfold ints; rw [List.map_take]
    rwa [e] at this
end
theorem own_len (A : Option Addr) (n m c : Nat) : (Value.slice A n c).ownBlock = (Value.slice A m c).ownBlock := by cases A <;> rfl

theorem above_any (a : Nat) (h0 : 0 < a) (hm : a ≤ 100000) (w : World) : Calls Try.prog 72 #[.int .i64 (a : Int)] w fun e w' => e = .returned (.int .i64 (((a - 1) / 2 : Nat) : Int)) ∧ w' = w := by
  have hw : IntKind.i64.wrap ((a : Int) - 1) = ((a - 1 : Nat) : Int) := by rw [IntKind.wrap_i64]; omega
  have hd : (((a - 1 : Nat) : Int)).tdiv 2 = (((a - 1) / 2 : Nat) : Int) := by rw [Int.tdiv_eq_ediv_of_nonneg (by omega)]; omega
  have hq : IntKind.i64.wrap (((a - 1) / 2 : Nat) : Int) = (((a - 1) / 2 : Nat) : Int) := by rw [IntKind.wrap_i64]; omega
  generalize (a - 1) / 2 = q at *
  go_enter Try.func72, Try.ntmps72
  go_wp2_with fail
  go_ret
  exact ⟨rfl, rfl⟩

set_option maxRecDepth 100000 in
set_option maxHeartbeats 4000000 in
theorem least_any (H B : Nat) (A : Option Addr) (n c a : Nat) (xs : List Int) (w : World) (h : HeapAt H B A n c xs w) (hn : n ≤ 1000) (ha : a ≤ 1000) :
    Calls Try.prog 77 #[.pointer (some ⟨H, 0, none⟩), .int .i64 (a : Int)] w fun e w' => ∃ j : Nat, e = .returned (.int .i64 (j : Int)) ∧ LeastAt xs a j ∧ Keep (fun _ => True) w w' := by
  have H0 := Lib.hid h
  have K0 : Hid (Keep (fun _ => True) w w) := Keep.refl _ _
  have HL : Hid (xs.length = n) := h.len
  have hw1 : IntKind.i64.wrap (2 * (a : Int)) = ((2 * a : Nat) : Int) := by rw [IntKind.wrap_i64]; omega
  have hw2 : IntKind.i64.wrap (((2 * a : Nat) : Int) + 1) = ((2 * a + 1 : Nat) : Int) := by rw [IntKind.wrap_i64]; omega
  have hw3 : IntKind.i64.wrap (((2 * a : Nat) : Int) + 2) = ((2 * a + 2 : Nat) : Int) := by rw [IntKind.wrap_i64]; omega
  have HS : Hid (LeastTo xs a (2 * a + 1) a) := LeastTo.start xs a
  clear h
  go_enter Try.func77, Try.ntmps77
  go_wp2_with fail
  clear hw1 hw2
  go_loopg [5, 6] 2 (fun gg s5 s6 wr => ∃ j b : Nat, s5 = .int .i64 (j : Int) ∧ s6 = .int .i64 (b : Int) ∧ b + gg = 2 * a + 3 ∧ 2 * a + 1 ≤ b ∧ Hid (LeastTo xs a b j) ∧ Hid (HeapAt H B A n c xs wr) ∧ Hid (Keep (fun _ => True) w wr))
  case atStart => exact ⟨a, 2 * a + 1, rfl, rfl, by omega, Nat.le_refl _, HS, H0, K0⟩
  case round =>
    clear H0 K0 HS
    obtain ⟨j, b, rfl, rfl, hb, hb1, HS, H1, K1⟩ := hrel
    have hw1 : IntKind.i64.wrap (2 * (a : Int)) = ((2 * a : Nat) : Int) := by rw [IntKind.wrap_i64]; omega
    obtain ⟨b1, hb2⟩ : ∃ b1, b + 1 = b1 := ⟨_, rfl⟩
    have hw5 : IntKind.i64.wrap ((b : Int) + 1) = (b1 : Int) := by rw [IntKind.wrap_i64]; omega
    have x0 := H1.out.blk.cell 0
    cases gk with
    | zero =>
      have hle : ¬ (b : Int) ≤ ((2 * a + 2 : Nat) : Int) := by omega
      have HE : Hid (LeastAt xs a j) := ⟨b, HS.out, .inl (by omega)⟩
      clear hb hb1 hb2 hw5 HS
      go_wp2_with fail
      go_ret
      exact ⟨j, rfl, HE.out, K1.out⟩
    | succ g2 =>
      have hle : (b : Int) ≤ ((2 * a + 2 : Nat) : Int) := by omega
      by_cases hbn : b < n
      · have hlt : (b : Int) < (n : Int) := by omega
        obtain ⟨x, hx⟩ : ∃ x, xs[b]? = some x := ⟨_, List.getElem?_eq_getElem (by rw [HL.out]; exact hbn)⟩
        have hjn : j < n := by have h1 := HL.out; have := HS.out.lt (by omega); omega
        obtain ⟨y, hy⟩ : ∃ y, xs[j]? = some y := ⟨_, List.getElem?_eq_getElem (by rw [HL.out]; exact hjn)⟩
        obtain ⟨g, rfl, _, _, _, _, _, hcell, _⟩ := H1.out.form (by omega)
        have c0 := hcell _ _ hx
        have c1 := hcell _ _ hy
        have hjlt : (j : Int) < (n : Int) := by omega
        have HX := Lib.hid hx
        have HY := Lib.hid hy
        have HB : Hid (b1 + g2 = 2 * a + 3 ∧ 2 * a + 1 ≤ b1) := by show _ ∧ _; omega
        have HN : Hid (b + 1 = b1 ∧ (b = 2 * a + 1 ∨ b = 2 * a + 2)) := by show _ ∧ _; omega
        clear hx hy hb hb1 hb2 hcell hjn hbn
        go_upto_region 5 with fail
        go_quiet (fail)
        have H2 := Lib.hid (H1.out.drewN nq)
        have K2 := Lib.hid (K1.out.drewN nq)
        clear H1 K1 x0 c0 c1
        generalize wr.drewN nq = w5 at *
        by_cases hxy : x < y
        · have hxd : decide (x < y) = true := by simp [hxy]
          have HT : Hid (LeastTo xs a b1 b) := by rw [← HN.out.1]; exact HS.out.take_ HN.out.2 HX.out HY.out hxy
          go_wp2_with fail
          go_roundg g2
          case measure => omega
          case rel => exact ⟨b, b1, rfl, rfl, HB.out.1, HB.out.2, HT, H2, K2⟩
        · have hxd : decide (x < y) = false := by simp [hxy]
          have HT : Hid (LeastTo xs a b1 j) := by rw [← HN.out.1]; exact HS.out.skip HX.out HY.out hxy
          go_wp2_with fail
          go_roundg g2
          case measure => omega
          case rel => exact ⟨j, b1, rfl, rfl, HB.out.1, HB.out.2, HT, H2, K2⟩
      · have hlt : ¬ (b : Int) < (n : Int) := by omega
        have HE : Hid (LeastAt xs a j) := ⟨b, HS.out, .inr (by rw [HL.out]; omega)⟩
        clear hb hb1 hb2 hbn HS
        go_wp2_with fail
        go_ret
        exact ⟨j, rfl, HE.out, K1.out⟩
end Go.Proofs.Ytaigpdpcliecpaa
namespace Go.Proofs.Ytaigpdpcliecpaa
open Go.RowKit Go.Shelf

set_option maxRecDepth 100000 in
set_option maxHeartbeats 4000000 in
theorem sink_any (H B : Nat) (A : Option Addr) (n c : Nat) (xs : List Int) (w : World) (h : HeapAt H B A n c xs w) (hs : Sink xs 0) (hn : n ≤ 1000) :
    Calls Try.prog 73 #[.pointer (some ⟨H, 0, none⟩)] w fun e w' => (∃ v, e = .returned v) ∧ ∃ ys, ys.Perm xs ∧ HeapOk ys ∧ HeapAt H B A n c ys w' ∧ Keep (fun k => (Value.slice A n c).ownBlock ≠ some k) w w' := by
  have K0 : Hid (Keep (fun k => (Value.slice A n c).ownBlock ≠ some k) w w) := Keep.refl _ _
  have H0 := Lib.hid h
  have HL := Lib.hid (least_any H B A n c 0 xs w h hn (by omega))
  have HS := Lib.hid hs
  clear h hs
  go_enter Try.func73, Try.ntmps73
  go_wp2_with fail
  refine HL.out.mono ?_
  rintro e w1 ⟨j, rfl, hj, hk⟩
  have H1 := Lib.hid (H0.out.keep hk trivial (fun _ _ => trivial))
  have K1 : Hid (Keep (fun k => (Value.slice A n c).ownBlock ≠ some k) w w1) := K0.out.trans (hk.mono fun _ _ _ => trivial)
  have HJ := Lib.hid hj
  have HP : Hid (xs.Perm xs) := List.Perm.refl _
  clear hj hk H0 K0 HL
  go_wp2_with fail
  go_loopg [2, 3] n (fun gg s2 s3 wr => ∃ (a j : Nat) (ys : List Int), s2 = .int .i64 (a : Int) ∧ s3 = .int .i64 (j : Int) ∧ n ≤ a + gg ∧ a ≤ n ∧ Hid (ys.Perm xs) ∧ Hid (Sink ys a) ∧ Hid (LeastAt ys a j) ∧ Hid (HeapAt H B A n c ys wr) ∧ Hid (Keep (fun k => (Value.slice A n c).ownBlock ≠ some k) w wr))
  case atStart => exact ⟨0, j, xs, rfl, rfl, by omega, Nat.zero_le _, HP, HS, HJ, H1, K1⟩
  case round =>
    clear H1 K1 HJ HP HS
    obtain ⟨a, j, ys, rfl, rfl, hm, han, HP, HS, HJ, H1, K1⟩ := hrel
    by_cases hja : j = a
    · subst hja
      have hne : ((j : Int) != (j : Int)) = false := by simp
      have HE : Hid (HeapOk ys) := HS.out.done HJ.out
      clear hm han HS HJ
      go_wp2_with fail
      go_end0
      exact ⟨⟨_, rfl⟩, ys, HP.out, HE.out, H1.out, K1.out⟩
    · have hne : ((j : Int) != (a : Int)) = true := by simp; omega
      obtain ⟨b, hlt, hbb⟩ := HJ.out
      rcases hlt.is_ with e | ⟨j0, jp, jl, jx⟩
      · exact absurd e hja
      have hlen := H1.out.len
      obtain ⟨x, hx⟩ : ∃ x, ys[a]? = some x := ⟨_, List.getElem?_eq_getElem (by omega)⟩
      obtain ⟨y, hy⟩ : ∃ y, ys[j]? = some y := ⟨_, List.getElem?_eq_getElem jl⟩
      obtain ⟨g, rfl, hnc, hc, hg1, hg2, hg3, hcell, hfr⟩ := H1.out.form (by omega)
      have HSN := Lib.hid (HS.out.next HJ.out hja hx hy)
      have HPN := Lib.hid ((swap_perm hx hy).trans HP.out)
      have x0 := H1.out.blk.cell 0
      have c0 := hcell _ _ hx
      have c1 := hcell _ _ hy
      have f0 := hfr a
      have f1 := hfr j
      obtain ⟨g', hg', _, _, _, _, _, hcell2, hfr2⟩ := (H1.out.set a y).form (by omega)
      obtain rfl : g = g' := by injection hg' with e; injection e
      have d1 := hcell2 j y (by rw [get_set_t (by omega), if_neg hja]; exact hy)
      have d2 := hfr2 j
      have hai : (a : Int) < (n : Int) := by omega
      have hji : (j : Int) < (n : Int) := by omega
      have HAJ : Hid (a < j ∧ j < n) := by show _ ∧ _; omega
      have HM : Hid (n ≤ a + gk) := hm
      have HHN := Lib.hid ((H1.out.set a y).set j x)
      have HKN : Hid (Keep (fun k => (Value.slice (some ⟨g, 0, none⟩) n c).ownBlock ≠ some k) w ((wr.setCell ⟨g, a, none⟩ (.int .i64 y)).setCell ⟨g, j, none⟩ (.int .i64 x))) := (K1.out.set (.inr fun h => h (by simp [Value.ownBlock])) _ _).set (.inr fun h => h (by simp [Value.ownBlock])) _ _
      clear hm han HS HJ hlt hbb jp jx jl j0 hcell hfr hx hy hlen hja hcell2 hfr2 hg' H1 K1
      go_upto_region 4 with fail
      go_region
      clear x0 c0 c1 f0 f1 d1 d2
      have HH2 : Hid (HeapAt H B (some ⟨g, 0, none⟩) n c ((ys.set a y).set j x) ((wr.setCell ⟨g, a, none⟩ (.int .i64 y)).setCell ⟨g, j, none⟩ (.int .i64 x)).drew) := ⟨HHN.out.blk.drew, HHN.out.row⟩
      have HK2 := Lib.hid HKN.out.drew
      have HL2 := Lib.hid (least_any H B (some ⟨g, 0, none⟩) n c j _ _ HH2.out hn (by have := HAJ.out; omega))
      clear HHN HKN
      generalize ((wr.setCell ⟨g, a, none⟩ (.int .i64 y)).setCell ⟨g, j, none⟩ (.int .i64 x)).drew = w4 at *
      go_wp2_with fail
      refine HL2.out.mono ?_
      rintro e w5 ⟨j2, rfl, hj2, hk⟩
      have H3 := Lib.hid (HH2.out.keep hk trivial (fun _ _ => trivial))
      have K3 : Hid (Keep (fun k => (Value.slice (some ⟨g, 0, none⟩) n c).ownBlock ≠ some k) w w5) := HK2.out.trans (hk.mono fun _ _ _ => trivial)
      have HJ3 := Lib.hid hj2
      clear hj2 hk HH2 HK2 HL2
      go_wp2_with fail
      obtain ⟨g2, hg2⟩ : ∃ g2, gk = g2 + 1 := ⟨gk - 1, by have h1 := HAJ.out; have h2 := HM.out; omega⟩
      subst hg2
      go_roundg g2
      case measure => omega
      case rel => exact ⟨j, j2, _, rfl, rfl, by have h1 := HAJ.out; have h2 := HM.out; omega, by have h1 := HAJ.out; omega, HPN, HSN, HJ3, H3, K3⟩
end Go.Proofs.Ytaigpdpcliecpaa
namespace Go.Proofs.Ytaigpdpcliecpaa
open Go.RowKit Go.Shelf

theorem HeapAt.more {H B : Nat} {A A5 : Option Addr} {n c c5 : Nat} {xs : List Int} {v : Int} {W w5 : World} {o : Obj} (h : HeapAt H B A n c xs W) (hown : w5.ownsRow B 3 1 (.slice A5 (n + 1) c5) (n + 1) (ints xs ++ [.int .i64 v])) (hg : (W.alloc o).grownBy w5 (Value.slice A n c).ownBlock) :
    Blk w5 H 95 #[.slice A n c] ∧ HeapAt H B A5 (n + 1) c5 (xs ++ [v]) (w5.setCell ⟨H, 0, none⟩ (.slice A5 (n + 1) c5)) := by
  have hH : Blk w5 H 95 #[.slice A n c] := (h.blk.alloc o).grown hg fun e => own_blk_ne h.row h.blk (by decide) e.symm
  refine ⟨hH, ?_, ?_⟩
  · have := hH.set_ 0 (.slice A5 (n + 1) c5)
    simpa using this
  · have := own_store hown hH (k := 0) (by decide) (.slice A5 (n + 1) c5)
    rwa [show ints xs ++ [Value.int .i64 v] = ints (xs ++ [v]) by simp [ints]] at this

/-- What put gives. -/
def PutIs (H B : Nat) (A : Option Addr) (n c : Nat) (xs : List Int) (v : Int) (w : World) (e : Ending) (w' : World) : Prop :=
  (∃ u, e = .returned u) ∧ ∃ (A' : Option Addr) (c' : Nat) (ys : List Int), ys.Perm (xs ++ [v]) ∧ HeapOk ys ∧ HeapAt H B A' (n + 1) c' ys w' ∧ Keep (fun k => k ≠ H ∧ (Value.slice A n c).ownBlock ≠ some k) w w' ∧
    ((Value.slice A' (n + 1) c').ownBlock = (Value.slice A n c).ownBlock ∨ ∃ N, (Value.slice A' (n + 1) c').ownBlock = some N ∧ w.heap.size ≤ N)

set_option maxRecDepth 100000 in
set_option maxHeartbeats 8000000 in
theorem put_any (H B : Nat) (A : Option Addr) (n c : Nat) (xs : List Int) (v : Int) (w : World) (h : HeapAt H B A n c xs w) (hok : HeapOk xs) (hn : n ≤ 1000) (hB : B ≤ w.heap.size) :
    Calls Try.prog 65 #[.pointer (some ⟨H, 0, none⟩), .int .i64 v] w (PutIs H B A n c xs v w) := by
  obtain ⟨i0, hi, hz0, hz1, hz2⟩ := info_parts int_info
  have H0 := Lib.hid h
  have K0 : Hid (Keep (fun k => k ≠ H ∧ (Value.slice A n c).ownBlock ≠ some k) w w) := Keep.refl _ _
  have x0 := h.blk.cell 0
  have HLN : Hid (xs.length = n) := h.len
  have HRS : Hid (Rise xs v n (xs ++ [v])) := by have := Rise.start hok v; rwa [h.len] at this
  clear h hok
  go_enter Try.func65, Try.ntmps65
  go_upto_region 1 with (at_builtin; refine wpList_append_own_at _ rfl _ _ 27 rfl B 3 i0 _ 1 8 Try.underlying27 hi hz0 hz1 hz2 rfl (by decide) (.slice A n c) n _ rfl (H0.out.row.alloc _) ⟨w.heap.size, 0, none⟩ 1 1 [.int .i64 v] rfl rfl (cell_one_new _ _ _) (by intro q hq; simp at hq; subst hq; rfl) (by unfold maxLen; omega) (by omega) (by simp; omega) ?_; intro v5 w5 hown5 hgrow5 _ hat5; obtain ⟨A5, c5, rfl, _, _⟩ := own_form2 hown5; have hs5 : (w.alloc (.cells #[.int .i64 v] 3)).heap.size = w.heap.size + 1 := (by simp); rw [hs5] at hat5; obtain ⟨hb5, h5⟩ := H0.out.more hown5 hgrow5; have a0 := hb5.cell 0; have f0 := hb5.frozen 0; have H5 := Lib.hid h5; have K5 : Hid (Keep (fun k => k ≠ H ∧ (Value.slice A n c).ownBlock ≠ some k) w (w5.setCell ⟨H, 0, none⟩ (.slice A5 (n + 1) c5))) := (((K0.out.alloc _).grown hgrow5 (fun g hg => .inr fun hS => hS.2 hg)).set (.inr fun hS => hS.1 rfl) _ _); have HAT : Hid ((Value.slice A5 (n + 1) c5).ownBlock = (Value.slice A n c).ownBlock ∨ ∃ N, (Value.slice A5 (n + 1) c5).ownBlock = some N ∧ w.heap.size ≤ N) := (hat5.imp id fun e => ⟨_, e, Nat.le_succ _⟩); clear hown5 hgrow5 hat5 hb5 h5 hs5 x0)
  clear a0 f0 H0 K0
  generalize w5.setCell ⟨H, 0, none⟩ (.slice A5 (n + 1) c5) = w6 at *
  have x0 := H5.out.blk.cell 0
  obtain ⟨n1, hn1⟩ : ∃ n1, n + 1 = n1 := ⟨_, rfl⟩
  have hwn : IntKind.i64.wrap ((n1 : Int) - 1) = (n : Int) := by rw [IntKind.wrap_i64]; omega
  rw [hn1] at x0 H5 HAT
  have HN1 := Lib.hid hn1
  clear hn1
  go_wp2_with fail
  clear x0 hwn
  go_loopg [4] n (fun gg s4 wr => ∃ (a : Nat) (zs : List Int), s4 = .int .i64 (a : Int) ∧ a ≤ gg ∧ a ≤ n ∧ Hid (Rise xs v a zs) ∧ Hid (HeapAt H B A5 n1 c5 zs wr) ∧ Hid (Keep (fun k => k ≠ H ∧ (Value.slice A n c).ownBlock ≠ some k) w wr))
  case atStart => exact ⟨n, xs ++ [v], rfl, Nat.le_refl _, Nat.le_refl _, HRS, H5, K5⟩
  case round =>
    clear HRS H5 K5
    obtain ⟨a, zs, rfl, hag, han, HR, H1, K1⟩ := hrel
    have HZL : Hid (zs.length = n1) := H1.out.len
    obtain ⟨g, hA5, hnc, hc, hg1, hg2, hg3, hcell, hfr⟩ := H1.out.form (by have := HN1.out; omega)
    subst hA5
    have x0 := H1.out.blk.cell 0
    have HOB : Hid (∀ k, (k ≠ H ∧ (Value.slice A n c).ownBlock ≠ some k) → k < w.heap.size → k ≠ g) := fun k hk hkw e => by
      rcases HAT.out with h | ⟨N, h, h2⟩
      · exact hk.2 (h.symm.trans (by simp [Value.ownBlock, e]))
      · simp [Value.ownBlock] at h
        omega
    by_cases ha0 : a = 0
    · subst ha0
      have HE : Hid (HeapOk (zs.set 0 v)) := HR.out.done (.inl rfl)
      have hgt : ¬ (0 : Int) < ((0 : Nat) : Int) := by omega
      have hgt2 : decide ((0 : Int) < ((0 : Nat) : Int)) = false := by decide
      have HP := HR.out.perm
      have HPP := Lib.hid HP
      have HHS := Lib.hid (H1.out.set 0 v)
      have HKS : Hid (Keep (fun k => k ≠ H ∧ (Value.slice A n c).ownBlock ≠ some k) w (wr.setCell ⟨g, 0, none⟩ (.int .i64 v))) := ⟨K1.out.os, K1.out.tape, K1.out.output, Nat.le_trans K1.out.size (by simp), fun k hk hS => (Below.heap_setCell wr ⟨g, 0, none⟩ _ k (HOB.out k hS hk)).trans (K1.out.block k hk hS)⟩
      obtain ⟨z, hz⟩ : ∃ z, zs[0]? = some z := ⟨_, List.getElem?_eq_getElem HR.out.lt⟩
      have c0 := hcell _ _ hz
      have f0 := hfr 0
      have hn0 : (0 : Int) < (n1 : Int) := by have := HN1.out; omega
      have HAT2 := HAT
      clear HP hcell hfr hz HR
      go_upto_region 2 with fail
      have KD : Hid (HeapAt H B (some ⟨g, 0, none⟩) n1 c5 zs wr.drew) := ⟨H1.out.blk.drew, H1.out.row⟩
      refine wp_region_noPanic ?_
      refine wp_region_held_drew (S := fun w' => w'.cell? ⟨H, 0, none⟩ = some (.slice (some ⟨g, 0, none⟩) n1 c5)) (by kernel_rfl) (KD.out.blk.cell 0) (fun hHeld => ?_)
      refine wpAnyH_take (i := 0) (oi := { dst := some 21, op := Op.move (Operand.tmp 4), type := 3, pos := "heap.go:23", after := #[], guard := none }) (v := .int .i64 ((0 : Nat) : Int)) rfl (by kernel_rfl) (by kernel_rfl) (by kernel_rfl) (fun _ _ _ h => h) (Or.inl ⟨by kernel_rfl, fun w' hSw => by (try dsimp only at hSw); go_simp⟩) (by assumption) ?_
      try simp only [Act.put, List.setIfInBounds_toArray, List.set_cons_zero, List.set_cons_succ]
      refine wpAnyH_take (i := 1) (oi := { dst := some 22, op := Op.binOp BinOp.gtr 3 (Operand.tmp 21) (Operand.const (Value.int IntKind.i64 0)) 3, type := 4, pos := "heap.go:23", after := #[{ on := 0, ground := Ground.data }], guard := none }) (v := .bool false) rfl (by kernel_rfl) (by kernel_rfl) (by kernel_rfl) (fun _ _ _ h => h) (Or.inl ⟨by kernel_rfl, fun w' hSw => by (try dsimp only at hSw); go_simp⟩) (by assumption) ?_
      try simp only [Act.put, List.setIfInBounds_toArray, List.set_cons_zero, List.set_cons_succ]
      refine wpAnyH_take (i := 2) (oi := { dst := some 23, op := Op.move (Operand.tmp 22), type := 4, pos := "heap.go:23", after := #[{ on := 1, ground := Ground.data }], guard := none }) (v := .bool false) rfl (by kernel_rfl) (by kernel_rfl) (by kernel_rfl) (fun _ _ _ h => h) (Or.inl ⟨by kernel_rfl, fun w' hSw => by (try dsimp only at hSw); go_simp⟩) (by assumption) ?_
      try simp only [Act.put, List.setIfInBounds_toArray, List.set_cons_zero, List.set_cons_succ]
      refine wpAnyH_take (i := 3) (oi := { dst := some 24, op := Op.move (Operand.tmp 1), type := 3, pos := "heap.go:23", after := #[{ on := 2, ground := Ground.guard }], guard := some (2, true) }) (v := undef) rfl (by kernel_rfl) (by kernel_rfl) (by kernel_rfl) (fun _ _ _ h => h) (Or.inr ⟨by kernel_rfl, rfl⟩) (by assumption) ?_
      try simp only [Act.put, List.setIfInBounds_toArray, List.set_cons_zero, List.set_cons_succ]
      refine wpAnyH_take (i := 4) (oi := { dst := some 25, op := Op.move (Operand.tmp 0), type := 93, pos := "heap.go:23", after := #[{ on := 2, ground := Ground.guard }], guard := some (2, true) }) (v := undef) rfl (by kernel_rfl) (by kernel_rfl) (by kernel_rfl) (fun _ _ _ h => h) (Or.inr ⟨by kernel_rfl, rfl⟩) (by assumption) ?_
      try simp only [Act.put, List.setIfInBounds_toArray, List.set_cons_zero, List.set_cons_succ]
      refine wpAnyH_take (i := 5) (oi := { dst := some 26, op := Op.nilCheck (Operand.tmp 25), type := 0, pos := "heap.go:23", after := #[{ on := 4, ground := Ground.data }, { on := 2, ground := Ground.guard }], guard := some (2, true) }) (v := undef) rfl (by kernel_rfl) (by kernel_rfl) (by kernel_rfl) (fun _ _ _ h => h) (Or.inr ⟨by kernel_rfl, rfl⟩) (by assumption) ?_
      try simp only [Act.put, List.setIfInBounds_toArray, List.set_cons_zero, List.set_cons_succ]
      refine wpAnyH_take (i := 6) (oi := { dst := some 27, op := Op.fieldAddr 95 (Operand.tmp 26) 0, type := 0, pos := "heap.go:23", after := #[{ on := 5, ground := Ground.data }, { on := 2, ground := Ground.guard }], guard := some (2, true) }) (v := undef) rfl (by kernel_rfl) (by kernel_rfl) (by kernel_rfl) (fun _ _ _ h => h) (Or.inr ⟨by kernel_rfl, rfl⟩) (by assumption) ?_
      try simp only [Act.put, List.setIfInBounds_toArray, List.set_cons_zero, List.set_cons_succ]
      refine wpAnyH_take (i := 7) (oi := { dst := some 28, op := Op.load 27 (Operand.tmp 27), type := 27, pos := "heap.go:23", after := #[{ on := 6, ground := Ground.data }, { on := 2, ground := Ground.guard }], guard := some (2, true) }) (v := undef) rfl (by kernel_rfl) (by kernel_rfl) (by kernel_rfl) (fun _ _ _ h => h) (Or.inr ⟨by kernel_rfl, rfl⟩) (by assumption) ?_
      try simp only [Act.put, List.setIfInBounds_toArray, List.set_cons_zero, List.set_cons_succ]
      refine wpAnyH_take (i := 8) (oi := { dst := some 29, op := Op.move (Operand.tmp 4), type := 3, pos := "heap.go:23", after := #[{ on := 2, ground := Ground.guard }], guard := some (2, true) }) (v := undef) rfl (by kernel_rfl) (by kernel_rfl) (by kernel_rfl) (fun _ _ _ h => h) (Or.inr ⟨by kernel_rfl, rfl⟩) (by assumption) ?_
      try simp only [Act.put, List.setIfInBounds_toArray, List.set_cons_zero, List.set_cons_succ]
      refine wpAnyH_take (i := 9) (oi := { dst := some 30, op := Op.call { callee := Callee.value (Operand.func 72), args := #[Operand.tmp 29], argTypes := #[3] }, type := 3, pos := "heap.go:23", after := #[{ on := 8, ground := Ground.data }, { on := 2, ground := Ground.chain }, { on := 2, ground := Ground.guard }], guard := some (2, true) }) (v := undef) rfl (by kernel_rfl) (by kernel_rfl) (by kernel_rfl) (fun _ _ _ h => h) (Or.inr ⟨by kernel_rfl, rfl⟩) (by assumption) ?_
      try simp only [Act.put, List.setIfInBounds_toArray, List.set_cons_zero, List.set_cons_succ]
      refine wpAnyH_take (i := 10) (oi := { dst := some 31, op := Op.indexAddr 27 (Operand.tmp 28) (Operand.tmp 30), type := 0, pos := "heap.go:23", after := #[{ on := 7, ground := Ground.data }, { on := 9, ground := Ground.data }, { on := 2, ground := Ground.guard }], guard := some (2, true) }) (v := undef) rfl (by kernel_rfl) (by kernel_rfl) (by kernel_rfl) (fun _ _ _ h => h) (Or.inr ⟨by kernel_rfl, rfl⟩) (by assumption) ?_
      try simp only [Act.put, List.setIfInBounds_toArray, List.set_cons_zero, List.set_cons_succ]
      refine wpAnyH_take (i := 11) (oi := { dst := some 32, op := Op.load 3 (Operand.tmp 31), type := 3, pos := "heap.go:23", after := #[{ on := 10, ground := Ground.data }, { on := 2, ground := Ground.guard }], guard := some (2, true) }) (v := undef) rfl (by kernel_rfl) (by kernel_rfl) (by kernel_rfl) (fun _ _ _ h => h) (Or.inr ⟨by kernel_rfl, rfl⟩) (by assumption) ?_
      try simp only [Act.put, List.setIfInBounds_toArray, List.set_cons_zero, List.set_cons_succ]
      refine wpAnyH_take (i := 12) (oi := { dst := some 33, op := Op.binOp BinOp.lss 3 (Operand.tmp 24) (Operand.tmp 32) 3, type := 4, pos := "heap.go:23", after := #[{ on := 3, ground := Ground.data }, { on := 11, ground := Ground.data }, { on := 2, ground := Ground.guard }], guard := some (2, true) }) (v := undef) rfl (by kernel_rfl) (by kernel_rfl) (by kernel_rfl) (fun _ _ _ h => h) (Or.inr ⟨by kernel_rfl, rfl⟩) (by assumption) ?_
      try simp only [Act.put, List.setIfInBounds_toArray, List.set_cons_zero, List.set_cons_succ]
      refine wpAnyH_take (i := 13) (oi := { dst := some 34, op := Op.pick (Operand.tmp 23) (Operand.tmp 33) (Operand.const (Value.bool false)), type := 4, pos := "heap.go:23", after := #[{ on := 2, ground := Ground.data }, { on := 12, ground := Ground.data }], guard := none }) (v := .bool false) rfl (by kernel_rfl) (by kernel_rfl) (by kernel_rfl) (fun _ _ _ h => h) (Or.inl ⟨by kernel_rfl, fun w' hSw => by (try dsimp only at hSw); go_simp⟩) (by assumption) ?_
      try simp only [Act.put, List.setIfInBounds_toArray, List.set_cons_zero, List.set_cons_succ]
      refine wpAnyH_done (by kernel_rfl) ?_ _
      refine NoPanic.normal ?_
      clear hHeld
      have HH2 : Hid (HeapAt H B (some ⟨g, 0, none⟩) n1 c5 (zs.set 0 v) (wr.drew.setCell ⟨g, 0, none⟩ (.int .i64 v))) := by
        have := KD.out.set 0 v
        exact this
      have HK2 : Hid (Keep (fun k => k ≠ H ∧ (Value.slice A n c).ownBlock ≠ some k) w (wr.drew.setCell ⟨g, 0, none⟩ (.int .i64 v))) := ⟨K1.out.os, K1.out.tape, K1.out.output, Nat.le_trans K1.out.size (by simp), fun k hk hS => (Below.heap_setCell wr.drew ⟨g, 0, none⟩ _ k (HOB.out k hS hk)).trans (K1.out.block k hk hS)⟩
      have x0 := KD.out.blk.cell 0
      have c0 : wr.drew.cell? ⟨g, 0, none⟩ = some (.int .i64 z) := c0
      have f0 : wr.drew.frozen? ⟨g, 0, none⟩ = false := f0
      clear HHS HKS H1 K1 KD
      generalize wr.drew = wd at *
      go_wp2_with fail
      go_end0
      refine ⟨⟨_, rfl⟩, some ⟨g, 0, none⟩, c5, zs.set 0 v, HPP.out, HE.out, ?_, HK2.out, ?_⟩
      · rw [HN1.out]; exact HH2.out
      · rw [HN1.out]; exact HAT2.out
    · obtain ⟨p, hp⟩ : ∃ p, (a - 1) / 2 = p := ⟨_, rfl⟩
      have HPA : Hid ((a - 1) / 2 = p ∧ p < a ∧ 0 < a ∧ a ≤ n) := by show _ ∧ _; omega
      have hgt2 : 0 < a := by omega
      obtain ⟨y, hy⟩ : ∃ y, zs[p]? = some y := ⟨_, List.getElem?_eq_getElem (by have h1 := HR.out.lt; omega)⟩
      obtain ⟨z, hz⟩ : ∃ z, zs[a]? = some z := ⟨_, List.getElem?_eq_getElem HR.out.lt⟩
      have cp := hcell _ _ hy
      have ca := hcell _ _ hz
      have fa := hfr a
      have hpn : (p : Int) < (n1 : Int) := by have := HN1.out; omega
      have han1 : (a : Int) < (n1 : Int) := by have := HN1.out; omega
      have HY := Lib.hid hy
      have HAB := Lib.hid fun W => above_any a (by omega) (by omega) W
      rw [hp] at HAB
      have KD : Hid (HeapAt H B (some ⟨g, 0, none⟩) n1 c5 zs wr.drew) := ⟨H1.out.blk.drew, H1.out.row⟩
      have KK : Hid (Keep (fun k => k ≠ H ∧ (Value.slice A n c).ownBlock ≠ some k) w wr.drew) := K1.out.drew
      have HHX : Hid (wr.drew.cell? ⟨H, 0, none⟩ = some (.slice (some ⟨g, 0, none⟩) n1 c5) ∧ wr.drew.cell? ⟨g, p, none⟩ = some (.int .i64 y)) := ⟨KD.out.blk.cell 0, cp⟩
      have ca : wr.drew.cell? ⟨g, a, none⟩ = some (.int .i64 z) := ca
      have fa : wr.drew.frozen? ⟨g, a, none⟩ = false := fa
      have HM : Hid (a ≤ gk ∧ a ≤ n) := ⟨hag, han⟩
      clear hcell hfr hy hz H1 K1 cp hag han ha0 hp x0
      go_upto_region 2 with fail
      refine wp_region_noPanic ?_
      refine wp_region_held_drew (S := fun w' => w'.cell? ⟨H, 0, none⟩ = some (.slice (some ⟨g, 0, none⟩) n1 c5) ∧ w'.cell? ⟨g, p, none⟩ = some (.int .i64 y)) (by kernel_rfl) HHX.out (fun hHeld => ?_)
      generalize wr.drew = wd at *
      refine wpAnyH_take (i := 0) (oi := { dst := some 21, op := Op.move (Operand.tmp 4), type := 3, pos := "heap.go:23", after := #[], guard := none }) (v := .int .i64 (a : Int)) rfl (by kernel_rfl) (by kernel_rfl) (by kernel_rfl) (fun _ _ _ h => h) (Or.inl ⟨by kernel_rfl, fun w' hSw => by (try dsimp only at hSw); go_simp⟩) (by assumption) ?_
      try simp only [Act.put, List.setIfInBounds_toArray, List.set_cons_zero, List.set_cons_succ]
      refine wpAnyH_take (i := 1) (oi := { dst := some 22, op := Op.binOp BinOp.gtr 3 (Operand.tmp 21) (Operand.const (Value.int IntKind.i64 0)) 3, type := 4, pos := "heap.go:23", after := #[{ on := 0, ground := Ground.data }], guard := none }) (v := .bool true) rfl (by kernel_rfl) (by kernel_rfl) (by kernel_rfl) (fun _ _ _ h => h) (Or.inl ⟨by kernel_rfl, fun w' hSw => by (try dsimp only at hSw); go_simp⟩) (by assumption) ?_
      try simp only [Act.put, List.setIfInBounds_toArray, List.set_cons_zero, List.set_cons_succ]
      refine wpAnyH_take (i := 2) (oi := { dst := some 23, op := Op.move (Operand.tmp 22), type := 4, pos := "heap.go:23", after := #[{ on := 1, ground := Ground.data }], guard := none }) (v := .bool true) rfl (by kernel_rfl) (by kernel_rfl) (by kernel_rfl) (fun _ _ _ h => h) (Or.inl ⟨by kernel_rfl, fun w' hSw => by (try dsimp only at hSw); go_simp⟩) (by assumption) ?_
      try simp only [Act.put, List.setIfInBounds_toArray, List.set_cons_zero, List.set_cons_succ]
      refine wpAnyH_take (i := 3) (oi := { dst := some 24, op := Op.move (Operand.tmp 1), type := 3, pos := "heap.go:23", after := #[{ on := 2, ground := Ground.guard }], guard := some (2, true) }) (v := .int .i64 v) rfl (by kernel_rfl) (by kernel_rfl) (by kernel_rfl) (fun _ _ _ h => h) (Or.inl ⟨by kernel_rfl, fun w' hSw => by (try dsimp only at hSw); go_simp⟩) (by assumption) ?_
      try simp only [Act.put, List.setIfInBounds_toArray, List.set_cons_zero, List.set_cons_succ]
      refine wpAnyH_take (i := 4) (oi := { dst := some 25, op := Op.move (Operand.tmp 0), type := 93, pos := "heap.go:23", after := #[{ on := 2, ground := Ground.guard }], guard := some (2, true) }) (v := .pointer (some ⟨H, 0, none⟩)) rfl (by kernel_rfl) (by kernel_rfl) (by kernel_rfl) (fun _ _ _ h => h) (Or.inl ⟨by kernel_rfl, fun w' hSw => by (try dsimp only at hSw); go_simp⟩) (by assumption) ?_
      try simp only [Act.put, List.setIfInBounds_toArray, List.set_cons_zero, List.set_cons_succ]
      refine wpAnyH_take (i := 5) (oi := { dst := some 26, op := Op.nilCheck (Operand.tmp 25), type := 0, pos := "heap.go:23", after := #[{ on := 4, ground := Ground.data }, { on := 2, ground := Ground.guard }], guard := some (2, true) }) (v := .pointer (some ⟨H, 0, none⟩)) rfl (by kernel_rfl) (by kernel_rfl) (by kernel_rfl) (fun _ _ _ h => h) (Or.inl ⟨by kernel_rfl, fun w' hSw => by (try dsimp only at hSw); go_simp⟩) (by assumption) ?_
      try simp only [Act.put, List.setIfInBounds_toArray, List.set_cons_zero, List.set_cons_succ]
      refine wpAnyH_take (i := 6) (oi := { dst := some 27, op := Op.fieldAddr 95 (Operand.tmp 26) 0, type := 0, pos := "heap.go:23", after := #[{ on := 5, ground := Ground.data }, { on := 2, ground := Ground.guard }], guard := some (2, true) }) (v := .pointer (some ⟨H, 0, none⟩)) rfl (by kernel_rfl) (by kernel_rfl) (by kernel_rfl) (fun _ _ _ h => h) (Or.inl ⟨by kernel_rfl, fun w' hSw => by (try dsimp only at hSw); go_simp⟩) (by assumption) ?_
      try simp only [Act.put, List.setIfInBounds_toArray, List.set_cons_zero, List.set_cons_succ]
      refine wpAnyH_take (i := 7) (oi := { dst := some 28, op := Op.load 27 (Operand.tmp 27), type := 27, pos := "heap.go:23", after := #[{ on := 6, ground := Ground.data }, { on := 2, ground := Ground.guard }], guard := some (2, true) }) (v := .slice (some ⟨g, 0, none⟩) n1 c5) rfl (by kernel_rfl) (by kernel_rfl) (by kernel_rfl) (fun _ _ _ h => h) (Or.inl ⟨by kernel_rfl, fun w' hSw => by (try dsimp only at hSw); go_simp⟩) (by assumption) ?_
      try simp only [Act.put, List.setIfInBounds_toArray, List.set_cons_zero, List.set_cons_succ]
      refine wpAnyH_take (i := 8) (oi := { dst := some 29, op := Op.move (Operand.tmp 4), type := 3, pos := "heap.go:23", after := #[{ on := 2, ground := Ground.guard }], guard := some (2, true) }) (v := .int .i64 (a : Int)) rfl (by kernel_rfl) (by kernel_rfl) (by kernel_rfl) (fun _ _ _ h => h) (Or.inl ⟨by kernel_rfl, fun w' hSw => by (try dsimp only at hSw); go_simp⟩) (by assumption) ?_
      try simp only [Act.put, List.setIfInBounds_toArray, List.set_cons_zero, List.set_cons_succ]
      refine wpAnyH_ready (rs := [9]) (by kernel_rfl) (by simp) ?_
      refine AllReadyH.cons (o := { dst := some 30, op := Op.call { callee := Callee.value (Operand.func 72), args := #[Operand.tmp 29], argTypes := #[3] }, type := 3, pos := "heap.go:23", after := #[{ on := 8, ground := Ground.data }, { on := 2, ground := Ground.chain }, { on := 2, ground := Ground.guard }], guard := some (2, true) }) rfl (fun K hK => ?_) AllReadyH.nil
      go_simp
      refine (HAB.out _).mono ?_
      rintro e v1 ⟨rfl, hw1⟩
      subst v1
      clear hHeld
      refine hK.out _ _ HHX.out (fun hHeld => ?_)
      clear hK K
      try simp only [Act.put, List.setIfInBounds_toArray, List.set_cons_zero, List.set_cons_succ]
      refine wpAnyH_take (i := 10) (oi := { dst := some 31, op := Op.indexAddr 27 (Operand.tmp 28) (Operand.tmp 30), type := 0, pos := "heap.go:23", after := #[{ on := 7, ground := Ground.data }, { on := 9, ground := Ground.data }, { on := 2, ground := Ground.guard }], guard := some (2, true) }) (v := .pointer (some ⟨g, p, none⟩)) rfl (by kernel_rfl) (by kernel_rfl) (by kernel_rfl) (fun _ _ _ h => h) (Or.inl ⟨by kernel_rfl, fun w' hSw => by (try dsimp only at hSw); go_simp⟩) (by assumption) ?_
      try simp only [Act.put, List.setIfInBounds_toArray, List.set_cons_zero, List.set_cons_succ]
      refine wpAnyH_take (i := 11) (oi := { dst := some 32, op := Op.load 3 (Operand.tmp 31), type := 3, pos := "heap.go:23", after := #[{ on := 10, ground := Ground.data }, { on := 2, ground := Ground.guard }], guard := some (2, true) }) (v := .int .i64 y) rfl (by kernel_rfl) (by kernel_rfl) (by kernel_rfl) (fun _ _ _ h => h) (Or.inl ⟨by kernel_rfl, fun w' hSw => by (try dsimp only at hSw); go_simp⟩) (by assumption) ?_
      try simp only [Act.put, List.setIfInBounds_toArray, List.set_cons_zero, List.set_cons_succ]
      refine wpAnyH_take (i := 12) (oi := { dst := some 33, op := Op.binOp BinOp.lss 3 (Operand.tmp 24) (Operand.tmp 32) 3, type := 4, pos := "heap.go:23", after := #[{ on := 3, ground := Ground.data }, { on := 11, ground := Ground.data }, { on := 2, ground := Ground.guard }], guard := some (2, true) }) (v := .bool (decide (v < y))) rfl (by kernel_rfl) (by kernel_rfl) (by kernel_rfl) (fun _ _ _ h => h) (Or.inl ⟨by kernel_rfl, fun w' hSw => by (try dsimp only at hSw); go_simp⟩) (by assumption) ?_
      try simp only [Act.put, List.setIfInBounds_toArray, List.set_cons_zero, List.set_cons_succ]
      refine wpAnyH_take (i := 13) (oi := { dst := some 34, op := Op.pick (Operand.tmp 23) (Operand.tmp 33) (Operand.const (Value.bool false)), type := 4, pos := "heap.go:23", after := #[{ on := 2, ground := Ground.data }, { on := 12, ground := Ground.data }], guard := none }) (v := .bool (decide (v < y))) rfl (by kernel_rfl) (by kernel_rfl) (by kernel_rfl) (fun _ _ _ h => h) (Or.inl ⟨by kernel_rfl, fun w' hSw => by (try dsimp only at hSw); go_simp⟩) (by assumption) ?_
      try simp only [Act.put, List.setIfInBounds_toArray, List.set_cons_zero, List.set_cons_succ]
      refine wpAnyH_done (by kernel_rfl) ?_ _
      refine NoPanic.normal ?_
      clear hHeld
      by_cases hvy : v < y
      · have HRN : Hid (Rise xs v p (zs.set a y)) := by
          have h1 := HPA.out
          have := HR.out.next h1.2.2.1 (by rw [h1.1]; exact HY.out) hvy
          rwa [h1.1] at this
        have hvd : decide (v < y) = true := by simp [hvy]
        rw [hvd]
        have x0 := HHX.out.1
        have H3 := Lib.hid (KD.out.drewN 1)
        go_upto_region 3 with fail
        have KD2 : Hid (HeapAt H B (some ⟨g, 0, none⟩) n1 c5 zs wd.drew) := ⟨KD.out.blk.drew, KD.out.row⟩
        have KK2 : Hid (Keep (fun k => k ≠ H ∧ (Value.slice A n c).ownBlock ≠ some k) w wd.drew) := KK.out.drew
        have HHX2 : Hid (wd.drew.cell? ⟨H, 0, none⟩ = some (.slice (some ⟨g, 0, none⟩) n1 c5) ∧ wd.drew.cell? ⟨g, p, none⟩ = some (.int .i64 y)) := HHX.out
        have ca : wd.drew.cell? ⟨g, a, none⟩ = some (.int .i64 z) := ca
        have fa : wd.drew.frozen? ⟨g, a, none⟩ = false := fa
        clear KD KK HHX H3 x0
        refine wp_region_noPanic ?_
        refine wp_region_held_drew (S := fun w' => w'.cell? ⟨H, 0, none⟩ = some (.slice (some ⟨g, 0, none⟩) n1 c5) ∧ w'.cell? ⟨g, p, none⟩ = some (.int .i64 y)) (by kernel_rfl) HHX2.out (fun hHeld => ?_)
        generalize wd.drew = we at *
        refine wpAnyH_take (i := 0) (oi := { dst := some 35, op := Op.move (Operand.tmp 0), type := 93, pos := "heap.go:24", after := #[], guard := none }) (v := .pointer (some ⟨H, 0, none⟩)) rfl (by kernel_rfl) (by kernel_rfl) (by kernel_rfl) (fun _ _ _ h => h) (Or.inl ⟨by kernel_rfl, fun w' hSw => by (try dsimp only at hSw); go_simp⟩) (by assumption) ?_
        try simp only [Act.put, List.setIfInBounds_toArray, List.set_cons_zero, List.set_cons_succ]
        refine wpAnyH_take (i := 1) (oi := { dst := some 36, op := Op.nilCheck (Operand.tmp 35), type := 0, pos := "heap.go:24", after := #[{ on := 0, ground := Ground.data }], guard := none }) (v := .pointer (some ⟨H, 0, none⟩)) rfl (by kernel_rfl) (by kernel_rfl) (by kernel_rfl) (fun _ _ _ h => h) (Or.inl ⟨by kernel_rfl, fun w' hSw => by (try dsimp only at hSw); go_simp⟩) (by assumption) ?_
        try simp only [Act.put, List.setIfInBounds_toArray, List.set_cons_zero, List.set_cons_succ]
        refine wpAnyH_take (i := 2) (oi := { dst := some 37, op := Op.fieldAddr 95 (Operand.tmp 36) 0, type := 0, pos := "heap.go:24", after := #[{ on := 1, ground := Ground.data }], guard := none }) (v := .pointer (some ⟨H, 0, none⟩)) rfl (by kernel_rfl) (by kernel_rfl) (by kernel_rfl) (fun _ _ _ h => h) (Or.inl ⟨by kernel_rfl, fun w' hSw => by (try dsimp only at hSw); go_simp⟩) (by assumption) ?_
        try simp only [Act.put, List.setIfInBounds_toArray, List.set_cons_zero, List.set_cons_succ]
        refine wpAnyH_take (i := 3) (oi := { dst := some 38, op := Op.load 27 (Operand.tmp 37), type := 27, pos := "heap.go:24", after := #[{ on := 2, ground := Ground.data }], guard := none }) (v := .slice (some ⟨g, 0, none⟩) n1 c5) rfl (by kernel_rfl) (by kernel_rfl) (by kernel_rfl) (fun _ _ _ h => h) (Or.inl ⟨by kernel_rfl, fun w' hSw => by (try dsimp only at hSw); go_simp⟩) (by assumption) ?_
        try simp only [Act.put, List.setIfInBounds_toArray, List.set_cons_zero, List.set_cons_succ]
        refine wpAnyH_take (i := 4) (oi := { dst := some 39, op := Op.move (Operand.tmp 4), type := 3, pos := "heap.go:24", after := #[], guard := none }) (v := .int .i64 (a : Int)) rfl (by kernel_rfl) (by kernel_rfl) (by kernel_rfl) (fun _ _ _ h => h) (Or.inl ⟨by kernel_rfl, fun w' hSw => by (try dsimp only at hSw); go_simp⟩) (by assumption) ?_
        try simp only [Act.put, List.setIfInBounds_toArray, List.set_cons_zero, List.set_cons_succ]
        refine wpAnyH_take (i := 5) (oi := { dst := some 40, op := Op.move (Operand.tmp 0), type := 93, pos := "heap.go:24", after := #[], guard := none }) (v := .pointer (some ⟨H, 0, none⟩)) rfl (by kernel_rfl) (by kernel_rfl) (by kernel_rfl) (fun _ _ _ h => h) (Or.inl ⟨by kernel_rfl, fun w' hSw => by (try dsimp only at hSw); go_simp⟩) (by assumption) ?_
        try simp only [Act.put, List.setIfInBounds_toArray, List.set_cons_zero, List.set_cons_succ]
        refine wpAnyH_take (i := 6) (oi := { dst := some 41, op := Op.nilCheck (Operand.tmp 40), type := 0, pos := "heap.go:24", after := #[{ on := 5, ground := Ground.data }], guard := none }) (v := .pointer (some ⟨H, 0, none⟩)) rfl (by kernel_rfl) (by kernel_rfl) (by kernel_rfl) (fun _ _ _ h => h) (Or.inl ⟨by kernel_rfl, fun w' hSw => by (try dsimp only at hSw); go_simp⟩) (by assumption) ?_
        try simp only [Act.put, List.setIfInBounds_toArray, List.set_cons_zero, List.set_cons_succ]
        refine wpAnyH_take (i := 7) (oi := { dst := some 42, op := Op.fieldAddr 95 (Operand.tmp 41) 0, type := 0, pos := "heap.go:24", after := #[{ on := 6, ground := Ground.data }], guard := none }) (v := .pointer (some ⟨H, 0, none⟩)) rfl (by kernel_rfl) (by kernel_rfl) (by kernel_rfl) (fun _ _ _ h => h) (Or.inl ⟨by kernel_rfl, fun w' hSw => by (try dsimp only at hSw); go_simp⟩) (by assumption) ?_
        try simp only [Act.put, List.setIfInBounds_toArray, List.set_cons_zero, List.set_cons_succ]
        refine wpAnyH_take (i := 8) (oi := { dst := some 43, op := Op.load 27 (Operand.tmp 42), type := 27, pos := "heap.go:24", after := #[{ on := 7, ground := Ground.data }], guard := none }) (v := .slice (some ⟨g, 0, none⟩) n1 c5) rfl (by kernel_rfl) (by kernel_rfl) (by kernel_rfl) (fun _ _ _ h => h) (Or.inl ⟨by kernel_rfl, fun w' hSw => by (try dsimp only at hSw); go_simp⟩) (by assumption) ?_
        try simp only [Act.put, List.setIfInBounds_toArray, List.set_cons_zero, List.set_cons_succ]
        refine wpAnyH_take (i := 9) (oi := { dst := some 44, op := Op.move (Operand.tmp 4), type := 3, pos := "heap.go:24", after := #[], guard := none }) (v := .int .i64 (a : Int)) rfl (by kernel_rfl) (by kernel_rfl) (by kernel_rfl) (fun _ _ _ h => h) (Or.inl ⟨by kernel_rfl, fun w' hSw => by (try dsimp only at hSw); go_simp⟩) (by assumption) ?_
        try simp only [Act.put, List.setIfInBounds_toArray, List.set_cons_zero, List.set_cons_succ]
        refine wpAnyH_ready (rs := [10]) (by kernel_rfl) (by simp) ?_
        refine AllReadyH.cons (o := { dst := some 45, op := Op.call { callee := Callee.value (Operand.func 72), args := #[Operand.tmp 44], argTypes := #[3] }, type := 3, pos := "heap.go:24", after := #[{ on := 9, ground := Ground.data }], guard := none }) rfl (fun K hK => ?_) AllReadyH.nil
        go_simp
        refine (HAB.out _).mono ?_
        rintro e v1 ⟨rfl, hw1⟩
        subst v1
        clear hHeld
        refine hK.out _ _ HHX2.out (fun hHeld => ?_)
        clear hK K
        try simp only [Act.put, List.setIfInBounds_toArray, List.set_cons_zero, List.set_cons_succ]
        refine wpAnyH_take (i := 11) (oi := { dst := some 46, op := Op.indexAddr 27 (Operand.tmp 43) (Operand.tmp 45), type := 0, pos := "heap.go:24", after := #[{ on := 8, ground := Ground.data }, { on := 10, ground := Ground.data }], guard := none }) (v := .pointer (some ⟨g, p, none⟩)) rfl (by kernel_rfl) (by kernel_rfl) (by kernel_rfl) (fun _ _ _ h => h) (Or.inl ⟨by kernel_rfl, fun w' hSw => by (try dsimp only at hSw); go_simp⟩) (by assumption) ?_
        try simp only [Act.put, List.setIfInBounds_toArray, List.set_cons_zero, List.set_cons_succ]
        refine wpAnyH_take (i := 12) (oi := { dst := some 47, op := Op.load 3 (Operand.tmp 46), type := 3, pos := "heap.go:24", after := #[{ on := 11, ground := Ground.data }], guard := none }) (v := .int .i64 y) rfl (by kernel_rfl) (by kernel_rfl) (by kernel_rfl) (fun _ _ _ h => h) (Or.inl ⟨by kernel_rfl, fun w' hSw => by (try dsimp only at hSw); go_simp⟩) (by assumption) ?_
        try simp only [Act.put, List.setIfInBounds_toArray, List.set_cons_zero, List.set_cons_succ]
        refine wpAnyH_take (i := 13) (oi := { dst := some 48, op := Op.indexAddr 27 (Operand.tmp 38) (Operand.tmp 39), type := 0, pos := "heap.go:24", after := #[{ on := 3, ground := Ground.data }, { on := 4, ground := Ground.data }, { on := 0, ground := Ground.phase }, { on := 1, ground := Ground.phase }, { on := 2, ground := Ground.phase }, { on := 3, ground := Ground.phase }, { on := 4, ground := Ground.phase }, { on := 5, ground := Ground.phase }, { on := 6, ground := Ground.phase }, { on := 7, ground := Ground.phase }, { on := 8, ground := Ground.phase }, { on := 9, ground := Ground.phase }, { on := 10, ground := Ground.phase }, { on := 11, ground := Ground.phase }, { on := 12, ground := Ground.phase }], guard := none }) (v := .pointer (some ⟨g, a, none⟩)) rfl (by kernel_rfl) (by kernel_rfl) (by kernel_rfl) (fun _ _ _ h => h) (Or.inl ⟨by kernel_rfl, fun w' hSw => by (try dsimp only at hSw); go_simp⟩) (by assumption) ?_
        try simp only [Act.put, List.setIfInBounds_toArray, List.set_cons_zero, List.set_cons_succ]
        refine wpAnyH_ready (rs := [14]) (by kernel_rfl) (by simp) ?_
        refine AllReadyH.cons (o := { dst := none, op := Op.store 3 (Operand.tmp 48) (Operand.tmp 47), type := 0, pos := "heap.go:24", after := #[{ on := 13, ground := Ground.data }, { on := 12, ground := Ground.data }, { on := 10, ground := Ground.chain }, { on := 0, ground := Ground.phase }, { on := 1, ground := Ground.phase }, { on := 2, ground := Ground.phase }, { on := 3, ground := Ground.phase }, { on := 4, ground := Ground.phase }, { on := 5, ground := Ground.phase }, { on := 6, ground := Ground.phase }, { on := 7, ground := Ground.phase }, { on := 8, ground := Ground.phase }, { on := 9, ground := Ground.phase }, { on := 10, ground := Ground.phase }, { on := 11, ground := Ground.phase }, { on := 12, ground := Ground.phase }], guard := none }) rfl (fun K hK => ?_) AllReadyH.nil
        go_simp
        have HH3 := Lib.hid (KD2.out.set a y)
        have HK3 : Hid (Keep (fun k => k ≠ H ∧ (Value.slice A n c).ownBlock ≠ some k) w (we.setCell ⟨g, a, none⟩ (.int .i64 y))) := ⟨KK2.out.os, KK2.out.tape, KK2.out.output, Nat.le_trans KK2.out.size (by simp), fun k hk hS => (Below.heap_setCell we ⟨g, a, none⟩ _ k (HOB.out k hS hk)).trans (KK2.out.block k hk hS)⟩
        have HHX3 : Hid ((we.setCell ⟨g, a, none⟩ (.int .i64 y)).cell? ⟨H, 0, none⟩ = some (.slice (some ⟨g, 0, none⟩) n1 c5) ∧ (we.setCell ⟨g, a, none⟩ (.int .i64 y)).cell? ⟨g, p, none⟩ = some (.int .i64 y)) := ⟨HH3.out.blk.cell 0, (by obtain ⟨g2, e2, _, _, _, _, _, hc2, _⟩ := HH3.out.form (by have := HN1.out; omega); obtain rfl : g = g2 := (by injection e2 with e; injection e); exact hc2 p y (by have h1 := HPA.out; have h2 := HZL.out; have h3 := HN1.out; rw [get_set_t (by omega), if_neg (by omega)]; exact HY.out))⟩
        clear hHeld
        refine hK.out _ _ HHX3.out (fun hHeld => ?_)
        clear hK K
        try simp only [Act.put, List.setIfInBounds_toArray, List.set_cons_zero, List.set_cons_succ]
        refine wpAnyH_done (by kernel_rfl) ?_ _
        refine NoPanic.normal ?_
        clear hHeld KD2 KK2 HHX2 ca fa
        generalize we.setCell ⟨g, a, none⟩ (.int .i64 y) = w7 at *
        go_wp2_with fail
        refine (HAB.out _).mono ?_
        rintro e v1 ⟨rfl, hw1⟩
        subst v1
        go_wp2_with fail
        obtain ⟨g3, hg3⟩ : ∃ g3, gk = g3 + 1 := ⟨gk - 1, by have h1 := HPA.out; have h2 := HM.out; omega⟩
        subst hg3
        go_roundg g3
        case measure => omega
        case rel => exact ⟨p, zs.set a y, rfl, by have h1 := HPA.out; have h2 := HM.out; omega, by have h1 := HPA.out; omega, HRN, HH3, HK3⟩
      · have hvd : decide (v < y) = false := by simp [hvy]
        have HE : Hid (HeapOk (zs.set a v)) := HR.out.done (.inr ⟨y, by rw [HPA.out.1]; exact HY.out, by omega⟩)
        have HPP := Lib.hid HR.out.perm
        rw [hvd]
        have HH2 := Lib.hid (KD.out.set a v)
        have HK2 : Hid (Keep (fun k => k ≠ H ∧ (Value.slice A n c).ownBlock ≠ some k) w (wd.setCell ⟨g, a, none⟩ (.int .i64 v))) := ⟨KK.out.os, KK.out.tape, KK.out.output, Nat.le_trans KK.out.size (by simp), fun k hk hS => (Below.heap_setCell wd ⟨g, a, none⟩ _ k (HOB.out k hS hk)).trans (KK.out.block k hk hS)⟩
        have x0 := HHX.out.1
        clear KD KK HR
        go_wp2_with fail
        go_end0
        refine ⟨⟨_, rfl⟩, some ⟨g, 0, none⟩, c5, zs.set a v, HPP.out, HE.out, ?_, HK2.out, ?_⟩
        · rw [HN1.out]; exact HH2.out
        · rw [HN1.out]; exact HAT.out
end Go.Proofs.Ytaigpdpcliecpaa
