/- Pairs as the keys of a map of numbers: a key's count that is raised or lowered in place. -/
import Derived.Test.YtldjffeecbegjaaOl
import Derived.WideKeyEntry
import Derived.DeepKeys4
import Derived.Maps.Own
import Derived.Maps.OwnOps
import Derived.Maps.RangeWalk
import Derived.Maps.Views
namespace Go.Proofs.Ytldjffeecbegjaa
open Go.RowKit Go.Maps Go.WideElems Go.ChangeShapes Go.WideShapes

theorem pairLaw : WideMaps.KeyLaw Try.prog 27 := deep_law_laid laidOut (m := 2) (by omega) (of_decide_eq_true (by kernel_rfl)) (by kernel_rfl) (by kernel_rfl)
theorem pairKeyed : Keyed Try.prog 27 := Keyed.of_law pairLaw
/-- What a pair reads as, as a key. -/
def keyP (p : Pr) : Lit := .string (keyBytes [.int .i64 p.1, .int .i64 p.2])
def wfP (p : Pr) : Prop := (Lit.int .i64 p.1).wf = true ∧ (Lit.int .i64 p.2).wf = true
def agP (p : Pr) : Value := .agg #[.int .i64 p.1, .int .i64 p.2]
theorem pair_shape : ∃ f0 f1 : Field, Try.prog.underlying 27 = some (.struct #[f0, f1]) ∧ (f0.name != "_") = true ∧ (f1.name != "_") = true ∧ f0.offset = 0 ∧ f1.offset = 1 ∧ Try.prog.cellsOf f0.type = 1 ∧ Try.prog.cellsOf f1.type = 1 ∧
    Try.prog.underlying f0.type = some (.int .i64) ∧ Try.prog.underlying f1.type = some (.int .i64) ∧ Try.prog.cellsOf 27 = 2 ∧ Try.prog.keyType 27 = true :=
  ⟨_, _, Try.underlying27, by decide, by decide, rfl, rfl, by kernel_rfl, by kernel_rfl, by kernel_rfl, by kernel_rfl, by kernel_rfl, by kernel_rfl⟩
theorem lits_pr (m : Nat) (x y : Value) : Try.prog.keyLits (m + 1 + 1) 27 [x, y] = (Try.prog.keyLits (m + 1) 3 [x]).bind fun a => (Try.prog.keyLits (m + 1) 3 [y]).map fun b => a ++ b := by
  conv => lhs; unfold Program.keyLits
  simp only [Try.underlying27]
  rw [if_pos ⟨by show 2 = _; kernel_rfl, by kernel_rfl⟩, List.mapM_cons, List.mapM_cons, List.mapM_nil]
  have c : Try.prog.cellsOf 3 = 1 := by kernel_rfl
  simp only [c, List.drop_zero, List.take_succ_cons, List.take_zero, List.drop_succ_cons, List.drop_zero]
  cases Try.prog.keyLits (m + 1) 3 [x] <;> cases Try.prog.keyLits (m + 1) 3 [y] <;> simp
theorem lits_int {m : Nat} {x : Value} {l : List Lit} (h : Try.prog.keyLits (m + 1) 3 [x] = some l) : ∃ a, x = .int .i64 a ∧ (Lit.int .i64 a).wf = true ∧ l = [.int .i64 a] := by
  cases x <;> simp [Program.keyLits, Try.underlying3] at h
  rename_i q a
  obtain ⟨⟨rfl, hw⟩, rfl⟩ := h
  exact ⟨a, rfl, hw, rfl⟩
theorem keyOf_pr (p : Pr) (h : wfP p) : keyOf Try.prog 27 (agP p) = some (keyP p) := by
  obtain ⟨h1, h2⟩ := h
  have hk : Try.prog.keyType 27 = true := by kernel_rfl
  have hc : Try.prog.cellsOf 27 = 2 := by kernel_rfl
  obtain ⟨m, hm⟩ : ∃ m, Try.prog.types.size = m + 1 := ⟨Try.prog.types.size - 1, by decide⟩
  unfold keyOf agP
  simp only [Try.underlying27]
  rw [if_pos (by simp [hk, Value.formed, Try.underlying27, hc]), hm]
  simp only [Value.cells]
  rw [lits_pr]
  simp [Program.keyLits, Try.underlying3, h1, h2, keyP]
theorem keyOf_pr_inv {v : Value} {kl : Lit} (h : keyOf Try.prog 27 v = some kl) : ∃ p : Pr, v = agP p ∧ wfP p ∧ kl = keyP p := by
  obtain ⟨m, hm⟩ : ∃ m, Try.prog.types.size = m + 1 := ⟨Try.prog.types.size - 1, by decide⟩
  have hc : Try.prog.cellsOf 27 = 2 := by kernel_rfl
  unfold keyOf at h
  simp only [Try.underlying27] at h
  split at h
  · rename_i hf
    rw [Bool.and_eq_true] at hf
    have hf2 := hf.2
    cases v <;> simp [Value.formed, Try.underlying27] at hf2
    rename_i cs
    obtain ⟨l⟩ := cs
    match l, hf2 with
    | [x, y], _ =>
      rw [hm] at h
      simp only [Value.cells] at h
      rw [lits_pr] at h
      cases h1 : Try.prog.keyLits (m + 1) 3 [x] with
      | none => rw [h1] at h; cases h
      | some l1 =>
        cases h2 : Try.prog.keyLits (m + 1) 3 [y] with
        | none => rw [h1, h2] at h; cases h
        | some l2 =>
          obtain ⟨a, rfl, ha, rfl⟩ := lits_int h1
          obtain ⟨b, rfl, hb, rfl⟩ := lits_int h2
          rw [h1, h2] at h
          simp at h
          exact ⟨(a, b), rfl, ⟨ha, hb⟩, h.symm⟩
    | [], hf2 => simp [hc] at hf2
    | [_], hf2 => simp [hc] at hf2
    | _ :: _ :: _ :: _, hf2 => simp [hc] at hf2
  · cases h
theorem keyP_ne {p q : Pr} (hp : wfP p) (hq : wfP q) (h : p ≠ q) : keyP p ≠ keyP q := fun e => by
  have h1 := keyOf_pr p hp
  have h2 := keyOf_pr q hq
  rw [e] at h1
  have := pairKeyed.inj h1 h2
  unfold agP at this
  injection this with this
  apply h
  simp at this
  exact Prod.ext this.1 this.2
theorem keyP_is (p : Pr) : WideAt.IsKeyLit (keyP p) := trivial

theorem setBlock_heap {w : World} {b : Nat} {es : Array MapEntry} {clock : Nat} {o' : Obj} (h : w.heap[b]? = some (.map es clock)) : (ChangeMaps.setBlock w b o').heap[b]? = some o' := Go.ChangeMaps.heap_setBlock_same h _
theorem setBlock_twice (w : World) (b : Nat) (o o' : Obj) : ChangeMaps.setBlock (ChangeMaps.setBlock w b o) b o' = ChangeMaps.setBlock w b o' := by
  unfold ChangeMaps.setBlock
  simp
theorem setBlock_self {w : World} {b : Nat} {o : Obj} (h : w.heap[b]? = some o) : ChangeMaps.setBlock w b o = w := by
  unfold ChangeMaps.setBlock
  cases w with
  | mk heap tape drawn os output =>
    congr 1
    apply Array.ext_getElem?
    intro i
    rw [Array.getElem?_setIfInBounds]
    split
    · rename_i hi
      subst hi
      rw [if_pos (Array.getElem?_eq_some_iff.1 h).1]
      exact h.symm
    · rfl
theorem setBlock_grown {w : World} {b : Nat} {es : Array MapEntry} {clock : Nat} {o' : Obj} (h : w.heap[b]? = some (.map es clock)) : w.grownBy (ChangeMaps.setBlock w b o') (some b) :=
  ⟨rfl, rfl, rfl, by simp [ChangeMaps.setBlock], fun i _ hi => Go.ChangeMaps.heap_setBlock_other h _ (fun e => hi (by rw [e]))⟩

theorem ok_val {α : Type} {a b : α} {w w' : World} (h : Result.ok a w = Result.ok b w') : a = b := by cases h; rfl
theorem ok_world {α : Type} {a b : α} {w w' : World} (h : Result.ok a w = Result.ok b w') : w = w' := by cases h; rfl

section
variable {H : Type} {P : Program} {w : World} {t k e : TypeId} {b n : Nat} {D : DataW H}
/-- A count at a key raised, or lowered, in place: the look-up, in whichever order to the entry's laying, and the store. -/
theorem bump (K : WideMaps.KeyLaw P k) (ht : P.underlying t = some (.map k e)) (he : P.underlying e = some (.int .i64)) (hz : ∀ u : World, (zeroValue e).run P u = .ok (.int .i64 0) u) (h : w.ownsMap P k (plainElem P e) b n D) (hn : n < maxLen)
    {key : Value} {kl : Lit} (hkey : keyOf P k key = some kl) :
    ∃ (c : Int) (v0 : Value) (st : Nat) (w1 : World), D.atKey kl (.lit (.int .i64 0)) = .lit (.int .i64 c) ∧ (Lit.int .i64 c).wf = true ∧ (Instr.lookup t (.map (some b)) key false).run P w = .ok (.int .i64 c) w ∧
      (Instr.mapEntry t (.map (some b)) key).run P w = .ok (.tuple #[v0, .int .i64 st]) w1 ∧ (Instr.lookup t (.map (some b)) key false).run P w1 = .ok (.int .i64 c) w1 ∧ w.grownBy w1 (some b) ∧
      ∀ c' : Int, (Lit.int .i64 c').wf = true → ∃ w2, (Instr.entryStore t (.map (some b)) (.int .i64 st) (.int .i64 c')).run P w1 = .ok () w2 ∧ w2.ownsMap P k (plainElem P e) b (n + 1) (D.put kl (.lit (.int .i64 c'))) ∧ w.grownBy w2 (some b) := by
  have h0 := h
  obtain ⟨c, hl, hat, hwc⟩ := h.lookup_int (Keyed.of_law K) ht he (hz w) hkey
  obtain ⟨es, clock, hb, F, hs, hD⟩ := h
  obtain ⟨v0, st, es1, clock1, hme, hor, hst⟩ := entry_then_store K ht hz hb F hkey
  have hb1 := setBlock_heap (o' := .map es1 clock1) hb
  have hg1 := setBlock_grown (o' := .map es1 clock1) hb
  obtain ⟨W1, hW1⟩ : ∃ W1, ChangeMaps.setBlock w b (.map es1 clock1) = W1 := ⟨_, rfl⟩
  rw [hW1] at hb1 hg1 hme
  refine ⟨c, v0, st, W1, hat, hwc, hl, hme, ?_, hg1, fun c' hc' => ?_⟩
  · rcases K.find w hkey es.toList F.keys with ⟨h1, h2⟩ | ⟨j, e0, h1, h2, h3⟩
    · have hrun : (Instr.mapEntry t (.map (some b)) key).run P w = .ok (.tuple #[.int .i64 0, goInt clock]) (ChangeMaps.setBlock w b (.map (es.push ⟨key, .int .i64 0, clock⟩) (clock + 1))) := by
        simp [Instr.mapEntry, run_underlying ht, MapKept.run_getObj_map hb, K.check w false hkey, h1, hz, MapKept.run_setObj_map _ hb, Result.andThen, ChangeMaps.setBlock]
      have hl0 : (Instr.lookup t (.map (some b)) key false).run P w = .ok (.int .i64 0) w := by
        simp [Instr.lookup, run_underlying ht, MapKept.run_getObj_map hb, K.check w _ hkey, h1, hz, Result.andThen]
      have hc0 : Value.int .i64 c = .int .i64 0 := ok_val (hl.symm.trans hl0)
      have hw1 := ok_world (hme.symm.trans hrun)
      clear hW1
      subst hw1
      rw [hc0]
      have hb2 := setBlock_heap (o' := .map (es.push ⟨key, .int .i64 0, clock⟩) (clock + 1)) hb
      have hkeys : ∀ x ∈ (es.push ⟨key, .int .i64 0, clock⟩).toList, ∃ l, keyOf P k x.key = some l := fun x hx => by
        rw [Array.toList_push, List.mem_append, List.mem_singleton] at hx
        rcases hx with hx | rfl
        · exact F.keys x hx
        · exact ⟨_, hkey⟩
      rcases K.find (ChangeMaps.setBlock w b (.map (es.push ⟨key, .int .i64 0, clock⟩) (clock + 1))) hkey _ hkeys with ⟨g1, g2⟩ | ⟨j, e1, g1, g2, g3⟩
      · exact absurd rfl (g2 ⟨key, .int .i64 0, clock⟩ (by simp))
      · have hv : e1.val = .int .i64 0 := by
          have hm := List.mem_of_getElem? g2
          rw [Array.toList_push, List.mem_append, List.mem_singleton] at hm
          rcases hm with hm | rfl
          · exact absurd g3 (h2 e1 hm)
          · rfl
        rw [Array.toList_push] at g1
        simp [Instr.lookup, run_underlying ht, MapKept.run_getObj_map hb2, K.check _ _ hkey, g1, hv, Result.andThen]
    · have hj : es[j]? = some e0 := by simpa using h2
      have hsame : es.modify j (fun e => { e with key := key }) = es := by
        apply Array.ext'
        rw [Array.toList_modify, ChangeMaps.modify_eq_set _ _ _ _ h2, show ({ e0 with key := key } : MapEntry) = e0 by rw [← h3]]
        exact set_self _ _ _ h2
      have hrun : (Instr.mapEntry t (.map (some b)) key).run P w = .ok (.tuple #[e0.val, goInt e0.born]) (ChangeMaps.setBlock w b (.map es clock)) := by
        simp [Instr.mapEntry, run_underlying ht, MapKept.run_getObj_map hb, K.check w false hkey, h1, hj, h3, K.stays w hkey, hsame, MapKept.run_setObj_map _ hb, Result.andThen, ChangeMaps.setBlock]
      have hw1 := ok_world (hme.symm.trans hrun)
      rw [setBlock_self hb] at hw1
      clear hW1
      subst hw1
      exact hl
  · obtain ⟨es', clock', hs1, hs2⟩ := hst W1 (.int .i64 c') hb1
    obtain ⟨w', hr, r1, r2⟩ := h0.update (Keyed.of_law K) ht hn hkey (plainElem_int he hc')
    have hr := ok_world (hs2.symm.trans hr)
    subst hr
    rw [← hW1, setBlock_twice] at hs1
    rw [hW1] at hs1
    exact ⟨_, hs1, r1, r2⟩
end
end Go.Proofs.Ytldjffeecbegjaa
