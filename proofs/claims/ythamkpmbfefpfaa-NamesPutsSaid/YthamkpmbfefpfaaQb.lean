/- Ranging over a function that tells numbers and has memory of its own. -/
import Derived.Test.YthamkpmbfefpfaaQz
namespace Go.Proofs.Ythamkpmbfefpfaa
open Go.RowKit Go.Shelf

/-- A function that tells values one by one, whatever it is asked by: S are the blocks that it reads, C those that who asks may turn; Ok: what may be told, End: what is told at the end. -/
def OneSeq {α : Type} (n : Nat) (P : Program) (gf : Nat) (lb : Array Value) (enc : α → Value) (Ok End : List α → Prop) (S : Nat → Prop) (w1 : World) : Prop :=
  ∀ (l : Nat) (J : List α → (Nat → Prop) → World → Prop) (Jx : World → Prop) (C0 : Nat → Prop) (W : World),
    Keep S w1 W → (∀ k, C0 k → ¬ S k ∧ k < W.heap.size) →
    (∀ cs C X Y, J cs C X → Keep (fun k => k < W.heap.size ∨ C k) X Y → J cs C Y) → (∀ X Y, Jx X → Keep (fun k => k < W.heap.size) X Y → Jx Y) →
    (∀ cs c C X, J cs C X → Ok (cs ++ [c]) → (∀ k, C k → ¬ S k ∧ k < X.heap.size) → W.heap.size ≤ X.heap.size →
      YieldAt Fence.wide n P l #[enc c] X fun e X' => (∃ C' : Nat → Prop, (∀ k, C' k → k < X'.heap.size ∧ (C k ∨ X.heap.size ≤ k)) ∧ Keep (fun k => ¬ C k) X X' ∧ e = .returned (.bool true) ∧ J (cs ++ [c]) C' X') ∨
        (e = .returned (.bool false) ∧ Keep (fun k => W.heap.size ≤ k ∧ ¬ C k) X X' ∧ Jx X')) →
    J [] C0 W →
    CallsIn Fence.wide n P gf (#[.func (.yield l) #[] #[]] ++ lb) W fun e X => (∃ v, e = .returned v) ∧ ((∃ cs C, End cs ∧ J cs C X) ∨ Jx X)

/-- How a range is left from within. -/
def jumpE : Option Nat → Exit
  | none => .ret
  | some i => .exit i
def jumpC : Option Nat → Code
  | none => .ret
  | some i => .exit i
/-- What a round hands on; N: where the range began. -/
def OnePost {α : Type} (jm : Option Nat) (N : Nat) (C : Nat → Prop) (I : List α → (Nat → Prop) → World → Prop) (Ix : World → Prop) (cs : List α) (X : World) : Exit → Act → World → Prop := fun e _ X' =>
  (∃ C' : Nat → Prop, (∀ k, C' k → k < X'.heap.size ∧ (C k ∨ X.heap.size ≤ k)) ∧ Keep (fun k => ¬ C k) X X' ∧ e = .normal ∧ I cs C' X') ∨ (e = jumpE jm ∧ Keep (fun k => N ≤ k ∧ ¬ C k) X X' ∧ Ix X')

theorem range_ones {n : Nat} {P : Program} {g : Operand} {ps : Array Tmp} {assign body : Code} {Q : Exit → Act → World → Prop} {a : Act} {w : World} (jm : Option Nat) (h1 : 1 ≤ n) {gf : Nat} {lb : Array Value} (hg : a.eval g = .func (.func gf) #[] lb)
    (eg : ∀ args w, (callFunc gf args).run P w = .ok (.enter gf args) w) {α : Type} {enc : α → Value} {Ok End : List α → Prop} {S : Nat → Prop} {w1 : World} (hseq : OneSeq (n - 1) P gf lb enc Ok End S w1) (hb : Keep S w1 w) (hS : ∀ k, S k → k < w.heap.size) (hps : ps.size = 1)
    (I : List α → (Nat → Prop) → World → Prop) (Ix : World → Prop) (C0 : Nat → Prop) (hC0 : ∀ k, C0 k → ¬ S k ∧ k < w.heap.size) (h0 : I [] C0 w)
    (hI : ∀ cs C X Y, I cs C X → Keep (fun k => k < w.heap.size ∨ C k) X Y → I cs C Y) (hIx : ∀ X Y, Ix X → Keep (fun k => k < w.heap.size) X Y → Ix Y)
    (Q1 : α → Act → World → Prop) (hQ1 : ∀ c a' X Y l o, Q1 c a' X → X.heap[l]? = some (.loop o) → Keep (fun k => k ≠ l) X Y → Q1 c a' Y)
    (hassign : ∀ (l : Nat) (cs : List α) (c : α) (C : Nat → Prop) (W : World) (K : Act → World → Prop), I cs C W → w.heap.size ≤ W.heap.size → (∀ a' W', Below W.heap.size W W' → Q1 c a' W' → K a' W') →
      assign.wpIn (Fence.wide.inRound l) (n - 1) P (Exit.then K (fun _ _ _ => False)) { tmps := (ps.zip #[enc c]).foldl (fun t (p, v) => t.setIfInBounds p v) a.tmps, defers := [] } W)
    (hbody : ∀ (l : Nat) (cs : List α) (c : α) (C : Nat → Prop) (a' : Act) (X : World), I cs C X → Ok (cs ++ [c]) → (∀ k, C k → ¬ S k ∧ k < X.heap.size) → w.heap.size ≤ X.heap.size → Q1 c a' X →
      body.wpIn (Fence.wide.inRound l) (n - 1) P (OnePost jm w.heap.size C I Ix (cs ++ [c]) X) a' X)
    (hdone : ∀ (cs : List α) (C : Nat → Prop) (D : Nat) (W : World), w.heap.size ≤ D → End cs → I cs C W → W.heap[D]? = some (.deferred (some [])) → Q .normal { a with defers := { target := .collected D, args := #[] } :: a.defers } W)
    (hstop : ∀ (D : Nat) (W : World), w.heap.size ≤ D → Ix W → W.heap[D]? = some (.deferred (some [])) → (jumpC jm).wpIn Fence.wide n P Q { a with defers := { target := .collected D, args := #[] } :: a.defers } W) :
    (Code.rangeFunc g ps assign body).wpIn Fence.wide n P Q a w := by
  refine wpIn_rangeFunc fun fn hfn => ?_
  rw [show Fence.wide.round = none from rfl]
  obtain ⟨rec, hrec⟩ : ∃ rec : LoopState → Option Code → Loop, rec = fun st pe => { state := st, pending := pe, fn, tmps := a.tmps, params := ps, assign, body, defers := w.heap.size } := ⟨_, rfl⟩
  obtain ⟨W1, hW1⟩ : ∃ W1, (w.alloc (.deferred (some []))).alloc (.loop (rec .ready none)) = W1 := ⟨_, rfl⟩
  have hL1 : W1.heap[w.heap.size + 1]? = some (.loop (rec .ready none)) := by
    rw [← hW1]; have := World.alloc_heap_new (w.alloc (.deferred (some []))) (.loop (rec .ready none)); rwa [World.size_alloc] at this
  have hK1 : W1.heap[w.heap.size]? = some (.deferred (some [])) := by
    rw [← hW1]; exact (Below.heap_alloc _ _ _ (by simp)).trans (World.alloc_heap_new w _)
  have hsz1 : W1.heap.size = w.heap.size + 2 := by rw [← hW1]; simp
  have hkw : Keep (fun k => k < w.heap.size ∨ C0 k) w W1 := by rw [← hW1]; exact ((Keep.refl _ w).alloc _).alloc _
  have hI1 : I [] C0 W1 := hI _ _ _ _ h0 hkw
  have hb1 : Keep S w1 W1 := by
    rw [← hW1]; exact (hb.alloc _).alloc _
  refine ⟨w.heap.size + 1, [{ target := .collected w.heap.size, args := #[] }], W1, { target := .fn (.func gf) lb, args := #[.func (.yield (w.heap.size + 1)) #[] #[]] }, W1, gf,
    #[.func (.yield (w.heap.size + 1)) #[] #[]] ++ lb, W1, ?_, ?_, ?_, ?_, fun _ => h1, ?_⟩
  · rw [← hW1, hrec]; exact run_enterLoop_outer _ _ _ _ _
  · simp only [resolve, hg]
    simp [go_sem]
  · intro f' hf'; trivial
  · simp [invoke, go_sem, eg]
  · refine (hseq (w.heap.size + 1)
      (fun cs C2 W => ∃ C : Nat → Prop, C2 = (fun k => C k ∨ k = w.heap.size ∨ k = w.heap.size + 1) ∧ I cs C W ∧ ¬ C w.heap.size ∧ ¬ C (w.heap.size + 1) ∧ W.heap[w.heap.size + 1]? = some (.loop (rec .ready none)) ∧ W.heap[w.heap.size]? = some (.deferred (some [])))
      (fun W => Ix W ∧ W.heap[w.heap.size + 1]? = some (.loop (rec .done (some (jumpC jm)))) ∧ W.heap[w.heap.size]? = some (.deferred (some [])))
      (fun k => C0 k ∨ k = w.heap.size ∨ k = w.heap.size + 1) W1 hb1 ?_ ?_ ?_ ?_ ⟨C0, rfl, hI1, fun h => by have := (hC0 _ h).2; omega, fun h => by have := (hC0 _ h).2; omega, hL1, hK1⟩).mono ?_
    · rintro k (h | rfl | rfl)
      · have := hC0 k h; exact ⟨this.1, by omega⟩
      · exact ⟨fun h => by have := hS _ h; omega, by omega⟩
      · exact ⟨fun h => by have := hS _ h; omega, by omega⟩
    · rintro cs C2 X Y ⟨C, rfl, hi, n1, n2, hl, hk⟩ hkeep
      exact ⟨C, rfl, hI _ _ _ _ hi (hkeep.mono fun k _ hk => by
        rcases hk with hk | hk
        · exact .inl (by omega)
        · exact .inr (.inl hk)), n1, n2, hkeep.obj hl (.inr (.inr (.inr rfl))), hkeep.obj hk (.inr (.inr (.inl rfl)))⟩
    · rintro X Y ⟨hi, hl, hk⟩ hkeep
      exact ⟨hIx _ _ hi (hkeep.mono fun k _ hk => by omega), hkeep.obj hl (by omega), hkeep.obj hk (by omega)⟩
    · rintro cs c C2 W0 ⟨C, rfl, hi0, n1, n2, hl0, hk0⟩ hpi hCk0 hsz0
      have hlt0 : w.heap.size + 1 < W0.heap.size := (Array.getElem?_eq_some_iff.1 hl0).1
      have hy := run_yield (P := P) (args := #[enc c]) hl0 (by rw [hrec]; exact hps.symm)
      rw [hrec] at hy
      refine ⟨fn, _, assign, body, hy, roundIn_of_wpIn hfn (hassign _ cs c C W0 _ hi0 (Nat.le_trans (by omega) hsz0) ?_)⟩
      clear hy
      intro a' W hb0 hq0
      have hk00 : Keep (fun _ => True) W0 W := Keep.of_all _ hb0
      have hl := hk00.obj hl0 trivial
      have hk := hk00.obj hk0 trivial
      have hi := hI _ _ _ _ hi0 (Keep.of_all _ hb0)
      have hsz := Nat.le_trans hsz0 hb0.size
      have hCk : ∀ k, (C k ∨ k = w.heap.size ∨ k = w.heap.size + 1) → ¬ S k ∧ k < W.heap.size := fun k h => ⟨(hCk0 k h).1, Nat.lt_of_lt_of_le (hCk0 k h).2 hb0.size⟩
      have hlt : w.heap.size + 1 < W.heap.size := Nat.lt_of_lt_of_le hlt0 hb0.size
      refine ⟨_, run_beginRound hl (by rw [hrec]), ?_⟩
      have hl2 : (W.putObj (w.heap.size + 1) (.loop { rec .ready none with state := .busy })).heap[w.heap.size + 1]? = some (.loop { rec .ready none with state := .busy }) := World.putObj_heap_same hlt
      have hk2 : (W.putObj (w.heap.size + 1) (.loop { rec .ready none with state := .busy })).heap[w.heap.size]? = some (.deferred (some [])) := (World.putObj_heap_other (by omega)).trans hk
      have hkeep2 : Keep (fun k => ¬ (C k ∨ k = w.heap.size ∨ k = w.heap.size + 1)) W (W.putObj (w.heap.size + 1) (.loop { rec .ready none with state := .busy })) := (Keep.refl _ W).put (.inr fun h => h (.inr (.inr rfl))) _
      have hi2 : I cs C (W.putObj (w.heap.size + 1) (.loop { rec .ready none with state := .busy })) := hI _ _ _ _ hi ((Keep.refl _ W).put (.inr fun h => by
        rcases h with h | h
        · omega
        · exact n2 h) _)
      have hsz2 : (W.putObj (w.heap.size + 1) (.loop { rec .ready none with state := .busy })).heap.size = W.heap.size := by simp [World.putObj]
      refine wpIn_mono (hbody _ cs c C a' _ hi2 hpi (fun k hk => by rw [hsz2]; exact hCk k (.inl hk)) (by rw [hsz2]; omega) (hQ1 _ _ _ _ _ _ hq0 hl ((Keep.refl _ W).put (.inr fun h => h rfl) _))) ?_
      rintro e a3 W3 (⟨C', hC', hk3, rfl, hi3⟩ | ⟨he, hk3, hi3⟩)
      · rw [hsz2] at hC'
        have hs0 := hb0.size
        have hl3 := hk3.obj hl2 n2
        have hD3 := hk3.obj hk2 n1
        have hk4 : Keep (fun k => ¬ (C k ∨ k = w.heap.size ∨ k = w.heap.size + 1)) W0 W3 := ((Keep.of_all _ hb0).trans hkeep2).trans (hk3.mono fun k _ h h2 => h (.inl h2))
        have n3 : ¬ C' w.heap.size := fun h => by
          rcases (hC' _ h).2 with h | h
          · exact n1 h
          · omega
        have n4 : ¬ C' (w.heap.size + 1) := fun h => by
          rcases (hC' _ h).2 with h | h
          · exact n2 h
          · omega
        have hr := run_endRound (P := P) none hl3
        refine ⟨_, _, hr, .inl ⟨(fun k => C' k ∨ k = w.heap.size ∨ k = w.heap.size + 1), fun k hk => ?_, hk4.put (.inr fun h => h (.inr (.inr rfl))) _, rfl, C', rfl, hI _ _ _ _ hi3 ((Keep.refl _ W3).put (.inr fun h => ?_) _), n3, n4, ?_, ?_⟩⟩
        · have hs3 := hk4.size
          simp only [World.putObj, Array.size_setIfInBounds]
          rcases hk with hk | rfl | rfl
          · have := hC' k hk
            exact ⟨this.1, this.2.elim (fun h => .inl (.inl h)) (fun h => .inr (by omega))⟩
          · exact ⟨by omega, .inl (.inr (.inl rfl))⟩
          · exact ⟨by omega, .inl (.inr (.inr rfl))⟩
        · rcases h with h | h
          · omega
          · exact n4 h
        · rw [World.putObj_heap_same (Array.getElem?_eq_some_iff.1 hl3).1, hrec]
          rfl
        · exact (World.putObj_heap_other (by omega)).trans hD3
      · have hl3 := hk3.obj hl2 ⟨Nat.le_succ _, n2⟩
        have hD3 := hk3.obj hk2 ⟨Nat.le_refl _, n1⟩
        have hr := run_endRound (P := P) (some (jumpC jm)) hl3
        have hk5 : Keep (fun k => W1.heap.size ≤ k ∧ ¬ (C k ∨ k = w.heap.size ∨ k = w.heap.size + 1)) W0 W3 := ((Keep.of_all _ hb0).trans (hkeep2.mono fun k _ h => h.2)).trans (hk3.mono fun k _ h => ⟨by omega, fun c => h.2 (.inl c)⟩)
        cases jm with
        | none =>
          obtain rfl : e = .ret := he
          refine ⟨_, _, hr, .inr ⟨rfl, hk5.put (.inr fun h => h.2 (.inr (.inr rfl))) _, hIx _ _ hi3 ((Keep.refl _ W3).put (.inr fun h => by omega) _), ?_, ?_⟩⟩
          · rw [World.putObj_heap_same (Array.getElem?_eq_some_iff.1 hl3).1, hrec]
            rfl
          · exact (World.putObj_heap_other (by omega)).trans hD3
        | some i =>
          obtain rfl : e = .exit i := he
          refine ⟨_, _, hr, .inr ⟨rfl, hk5.put (.inr fun h => h.2 (.inr (.inr rfl))) _, hIx _ _ hi3 ((Keep.refl _ W3).put (.inr fun h => by omega) _), ?_, ?_⟩⟩
          · rw [World.putObj_heap_same (Array.getElem?_eq_some_iff.1 hl3).1, hrec]
            rfl
          · exact (World.putObj_heap_other (by omega)).trans hD3
    · rintro e W2 ⟨⟨v, rfl⟩, (⟨cs, _, hall, C, rfl, hi, n1, n2, hl, hk⟩ | ⟨hi, hl, hk⟩)⟩
      · refine ⟨none, _, by have := run_endLoop (P := P) hl (by rw [hrec]; simp); rw [hrec] at this; exact this, hdone cs C _ _ (Nat.le_refl _) hall (hI _ _ _ _ hi ((Keep.refl _ W2).put (.inr fun h => ?_) _)) ((World.putObj_heap_other (by omega)).trans hk)⟩
        rcases h with h | h
        · omega
        · exact n2 h
      · exact ⟨some (jumpC jm), _, by have := run_endLoop (P := P) hl (by rw [hrec]; simp); rw [hrec] at this; exact this, hstop _ _ (Nat.le_refl _) (hIx _ _ hi ((Keep.refl _ W2).put (.inr fun h => by omega) _)) ((World.putObj_heap_other (by omega)).trans hk)⟩
end Go.Proofs.Ythamkpmbfefpfaa
