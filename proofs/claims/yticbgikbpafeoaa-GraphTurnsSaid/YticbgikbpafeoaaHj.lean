/- GraphTurns: ranging over a function whose question writes: the law for an invariant at hand; two rows in variables of their own, each of which grows. -/
import Derived.Test.YticbgikbpafeoaaHd
namespace Go.Proofs.Yticbgikbpafeoaa
open Go.RowKit

theorem range_own {α γ : Type} {F : Fence} {n : Nat} {P : Program} {g : Operand} {ps : Array Tmp} {assign body : Code} {Q : Exit → Act → World → Prop} {a : Act} {w : World}
    (hro : F.round = none) (h1 : 1 ≤ n) {gf : Nat} {lb : Array Value} (hg : a.eval g = .func (.func gf) #[] lb) (hFg : F.fn gf) (eg : ∀ args w, (callFunc gf args).run P w = .ok (.enter gf args) w)
    (N : Nat) (encs : α → Array Value) (hps : ∀ x, (encs x).size = ps.size) (s0 : γ) (S : γ → List α → Prop) (I : γ → List α → World → Prop) (Ax : α → Act → World → Prop)
    (h0 : ∀ o : Obj, o.isCells = false → I s0 [] ((w.alloc (.deferred (some []))).alloc o))
    (hIp : ∀ (s : γ) (pre : List α) (W : World) (l : Nat) (o o' : Obj), I s pre W → w.heap.size ≤ l → W.heap[l]? = some o → o.isCells = false → I s pre (W.putObj l o'))
    (hAp : ∀ (x : α) (a' : Act) (W : World) (l : Nat) (o o' : Obj), Ax x a' W → W.heap[l]? = some o → o.isCells = false → Ax x a' (W.putObj l o'))
    (hseq : ∀ (o : Obj) (W1 : World), o.isCells = false → W1.heap[w.heap.size + 1]? = some o → W1.heap[w.heap.size]? = some (.deferred (some [])) → I s0 [] W1 →
      (∀ s pre x W, I s pre W → pre.length < N → W.heap[w.heap.size + 1]? = some o → W.heap[w.heap.size]? = some (.deferred (some [])) →
        YieldAt F (n - 1 - 1) P (w.heap.size + 1) (encs x) W fun e W' => e = .returned (.bool true) ∧ I s (pre ++ [x]) W' ∧ W'.heap[w.heap.size + 1]? = some o ∧ W'.heap[w.heap.size]? = some (.deferred (some []))) →
      CallsIn F (n - 1) P gf (#[.func (.yield (w.heap.size + 1)) #[] #[]] ++ lb) W1 fun e W' => (∃ v, e = .returned v) ∧ ∃ s xs, S s xs ∧ I s xs W' ∧ W'.heap[w.heap.size + 1]? = some o ∧ W'.heap[w.heap.size]? = some (.deferred (some [])))
    (hassign : ∀ (l : Nat) (s : γ) (pre : List α) (x : α) (W : World) (K : Act → World → Prop), I s pre W → (∀ a' W', KeepsOthers W W' → I s pre W' → Ax x a' W' → K a' W') →
      assign.wpIn (F.inRound l) (n - 1 - 1) P (Exit.then K (fun _ _ _ => False)) { tmps := (ps.zip (encs x)).foldl (fun t (p, v) => t.setIfInBounds p v) a.tmps, defers := [] } W)
    (hbody : ∀ (l : Nat) (s : γ) (pre : List α) (x : α) (a' : Act) (W : World), I s pre W → Ax x a' W → pre.length < N → body.wpIn (F.inRound l) (n - 1 - 1) P (fun e _ W' => e = .normal ∧ KeepsOthers W W' ∧ I s (pre ++ [x]) W') a' W)
    (hdone : ∀ (s : γ) (xs : List α) (W : World), S s xs → I s xs W → W.heap[w.heap.size]? = some (.deferred (some [])) → Q .normal { a with defers := { target := .collected w.heap.size, args := #[] } :: a.defers } W) :
    (Code.rangeFunc g ps assign body).wpIn F n P Q a w := by
  refine wpIn_rangeFunc fun fn hfn => ?_
  rw [hro]
  let rc : LoopState → Obj := fun st => .loop { state := st, pending := none, fn, tmps := a.tmps, params := ps, assign, body, defers := w.heap.size }
  have hcells : ∀ st, (rc st).isCells = false := fun _ => rfl
  have hL := World.alloc_heap_new (w.alloc (.deferred (some []))) (rc .ready)
  rw [World.size_alloc] at hL
  have hD : ((w.alloc (.deferred (some []))).alloc (rc .ready)).heap[w.heap.size]? = some (.deferred (some [])) :=
    (Below.heap_alloc _ _ _ (by simp)).trans (World.alloc_heap_new w _)
  refine ⟨w.heap.size + 1, [{ target := .collected w.heap.size, args := #[] }], (w.alloc (.deferred (some []))).alloc (rc .ready), { target := .fn (.func gf) lb, args := #[.func (.yield (w.heap.size + 1)) #[] #[]] }, (w.alloc (.deferred (some []))).alloc (rc .ready), gf,
    #[.func (.yield (w.heap.size + 1)) #[] #[]] ++ lb, (w.alloc (.deferred (some []))).alloc (rc .ready), run_enterLoop_outer _ _ _ _ _, ?_, ?_, ?_, fun _ => h1, ?_⟩
  · simp only [resolve, hg]
    simp [go_sem]
  · intro f' hf'
    simp [Target.leads] at hf'
    subst hf'
    exact hFg
  · simp [invoke, go_sem, eg]
  · refine (hseq (rc .ready) _ (hcells _) hL hD (h0 _ (hcells _)) ?_).mono ?_
    · intro s pre x W hi hN hl hk
      refine ⟨fn, _, assign, body, run_yield hl (hps x), roundIn_of_wpIn hfn (hassign _ s pre x W _ hi fun a' Wa hko hia hax => ?_)⟩
      have hl2 := hko.same _ _ hl (hcells _)
      have hk2 := hko.same _ _ hk rfl
      have hlt := (Array.getElem?_eq_some_iff.1 hl2).1
      refine ⟨_, run_beginRound hl2 rfl, ?_⟩
      refine wpIn_mono (hbody _ s pre x a' _ (hIp _ _ _ _ _ _ hia (Nat.le_succ _) hl2 (hcells _)) (hAp _ _ _ _ _ _ hax hl2 (hcells _)) hN) ?_
      rintro e a3 W3 ⟨rfl, hko3, hi3⟩
      have hl3 := hko3.same _ _ (World.putObj_heap_same (o := rc .busy) hlt) (hcells _)
      have hk3 := hko3.same _ _ ((World.putObj_heap_other (by omega)).trans hk2) rfl
      exact ⟨_, _, run_endRound none hl3, rfl, hIp _ _ _ _ _ _ hi3 (Nat.le_succ _) hl3 (hcells _), World.putObj_heap_same (Array.getElem?_eq_some_iff.1 hl3).1, (World.putObj_heap_other (by omega)).trans hk3⟩
    · rintro e W2 ⟨⟨v, rfl⟩, s, xs, hS, hi, hl, hk⟩
      exact ⟨none, _, run_endLoop hl (by simp), hdone s xs _ hS (hIp _ _ _ _ _ _ hi (Nat.le_succ _) hl (hcells _)) ((World.putObj_heap_other (by omega)).trans hk)⟩
end Go.Proofs.Yticbgikbpafeoaa
