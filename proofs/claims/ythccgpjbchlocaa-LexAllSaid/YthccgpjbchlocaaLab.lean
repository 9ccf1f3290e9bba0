/- The document's answers of layer lex (package yardarmref02): Next, as a contract of the translated call. -/
import Derived.Test.YthccgpjbchlocaaLaa
import Derived.Test.YthccgpjbchlocaaLg
import Derived.Deep.DeepCutAuto
namespace Go.Proofs.Ythccgpjbchlocaa
open Go.RowKit

/-- What Next answers behind a gap. -/
def NextIs (s : ByteArray) (q : Nat) (gl : Bool) (w : World) (e : Ending) (w' : World) : Prop :=
  e = .returned (ansV (measA (s.data.toList.drop q) q gl)) ∧ Below w.heap.size w w'
theorem carry_block {W W' : World} {b : Nat} {o : Obj} (h : W.heap[b]? = some o) (hb : Below W.heap.size W W') : W'.heap[b]? = some o :=
  (hb.block b (block_lt h)).trans h
theorem carry_new {W : World} {b : Nat} {o o' : Obj} (h : W.heap[b]? = some o) : (W.alloc o').heap[b]? = some o :=
  (Below.heap_alloc W _ _ (block_lt h)).trans h

theorem next_stopped {s : ByteArray} {q : Nat} {gl : Bool} {w w' : World} (h : q = s.size) (hb : Below w.heap.size w w') :
    NextIs s q gl w (.returned (.tuple #[.agg #[.int .i64 5, .int .i64 q, .string ⟨#[]⟩, .bool false], .int .i64 q, .int .i64 0])) w' := by
  refine ⟨?_, hb⟩
  rw [drop_end (by omega : ¬ q < s.size)]
  rfl
theorem head_of {s : ByteArray} {q : Nat} (h : q < s.size) : ∃ m, s.data.toList.drop q = (s[q]'h) :: m := by
  have hl : q < s.data.toList.length := by rw [← Lib.size_eq]; exact h
  exact ⟨_, List.drop_eq_getElem_cons hl⟩
theorem next_lf {s : ByteArray} {q : Nat} {gl : Bool} {w w' : World} (h : q < s.size) (hc : clsL (s.data.toList.drop q) = 10) (hb : Below w.heap.size w w') :
    NextIs s q gl w (.returned (.tuple #[.agg #[.int .i64 4, .int .i64 q, .string ⟨#[10]⟩, .bool false], .int .i64 ((q + 1 : Nat) : Int), .int .i64 0])) w' := by
  refine ⟨?_, hb⟩
  obtain ⟨m, hm⟩ := head_of h
  rw [hm] at hc ⊢
  have h10 := (cls_is (n := 10) (by decide)).1 hc
  have he : (s[q]'h) = 10 := UInt8.toNat.inj h10
  unfold measA measE measK measN
  rw [he]
  rfl
theorem next_sg {s : ByteArray} {q d : Nat} {gl : Bool} {w w' : World} (h : q < s.size) (h10 : ¬ clsL (s.data.toList.drop q) = 10) (hc : clsL (s.data.toList.drop q) = 46 ∨ clsL (s.data.toList.drop q) = 45) (hd : (decL (s.data.toList.drop q)).2 = d) (hb : Below w.heap.size w w') :
    NextIs s q gl w (.returned (.tuple #[.agg #[.int .i64 3, .int .i64 q, .string (s.extract q (q + d)), .bool gl], .int .i64 ((q + d : Nat) : Int), .int .i64 0])) w' := by
  refine ⟨?_, hb⟩
  rw [extract_mid, hd.symm]
  obtain ⟨m, hm⟩ := head_of h
  rw [hm] at h10 hc ⊢
  have n10 : ¬ (s[q]'h).toNat = 10 := fun e => h10 ((cls_is (n := 10) (by decide)).2 e)
  have hx : (s[q]'h).toNat = 46 ∨ (s[q]'h).toNat = 45 := hc.imp (cls_is (n := 46) (by decide)).1 (cls_is (n := 45) (by decide)).1
  have hl : (decL ((s[q]'h) :: m)).2 = 1 := by rw [decL_low (show bt ((s[q]'h) :: m) 0 < 128 by show (s[q]'h).toNat < 128; omega)]
  rw [hl]
  unfold measA measE measK measN
  simp only [if_neg n10, if_pos hx]
  simp [ansV]
theorem isLt_dg {c : Int} (h : isDg c = true) : isLt c = false := by
  unfold isDg isLt at *
  simp at *
  omega
theorem nm_facts {s : ByteArray} {q : Nat} (h : q < s.size) (h3 : isDg (clsL (s.data.toList.drop q)) = true) : isD (s[q]'h) = true ∧ measE (s.data.toList.drop q) = numErr (s.data.toList.drop q) ∧ measN (s.data.toList.drop q) = numN (s.data.toList.drop q) ∧ measK (s.data.toList.drop q) = 2 := by
  obtain ⟨m, hm⟩ := head_of h
  rw [hm] at h3 ⊢
  rw [isDg_items] at h3
  have hi := h3
  unfold isD at hi
  simp at hi
  have n10 : ¬ (s[q]'h).toNat = 10 := by omega
  have n46 : ¬ ((s[q]'h).toNat = 46 ∨ (s[q]'h).toNat = 45) := by omega
  unfold measE measK measN
  simp only [if_neg n10, if_neg n46, if_pos h3]
  exact ⟨h3, trivial, trivial, trivial⟩
theorem wd_facts {s : ByteArray} {q : Nat} (h : q < s.size) (h1 : ¬ clsL (s.data.toList.drop q) = 10) (h2 : ¬ (clsL (s.data.toList.drop q) = 46 ∨ clsL (s.data.toList.drop q) = 45)) (h3 : isDg (clsL (s.data.toList.drop q)) = false) : measE (s.data.toList.drop q) = wordErr (s.data.toList.drop q) ∧ measN (s.data.toList.drop q) = wordN (s.data.toList.drop q) ∧ measK (s.data.toList.drop q) = 1 := by
  obtain ⟨m, hm⟩ := head_of h
  rw [hm] at h1 h2 h3 ⊢
  rw [isDg_items] at h3
  have n10 : ¬ (s[q]'h).toNat = 10 := fun e => h1 ((cls_is (n := 10) (by decide)).2 e)
  have n46 : ¬ ((s[q]'h).toNat = 46 ∨ (s[q]'h).toNat = 45) := fun e => h2 (e.imp (cls_is (n := 46) (by decide)).2 (cls_is (n := 45) (by decide)).2)
  have n3 : ¬ isD (s[q]'h) = true := by simp [h3]
  unfold measE measK measN
  simp only [if_neg n10, if_neg n46, if_neg n3]
  exact ⟨trivial, trivial, trivial⟩
theorem next_nmE {s : ByteArray} {q : Nat} {gl : Bool} {E : Int} {N : Nat} {w w' : World} (h : q < s.size) (h3 : isDg (clsL (s.data.toList.drop q)) = true) (hE : numErr (s.data.toList.drop q) = E) (hN : numN (s.data.toList.drop q) = N) (h0 : E ≠ 0) (hb : Below w.heap.size w w') :
    NextIs s q gl w (.returned (.tuple #[.agg #[.int .i64 0, .int .i64 0, .string ⟨#[]⟩, .bool false], .int .i64 ((q + N : Nat) : Int), .int .i64 E])) w' := by
  refine ⟨?_, hb⟩
  obtain ⟨_, e1, e2, e3⟩ := nm_facts h h3
  unfold measA
  rw [e1, e2, e3, hE, hN, if_neg h0]
  rfl
theorem num_text {l : List UInt8} (h : numErr l = 0) : numT l = l.take (numN l) ∧ (numT l).length = numN l := by
  have := numErr_zero.1 h
  unfold numT numN
  rw [if_pos h, if_neg (by simp [this.1]), if_pos this.2, take_while]
  exact ⟨rfl, rfl⟩
theorem next_nm {s x : ByteArray} {q : Nat} {gl : Bool} {N : Nat} {w w' : World} (h : q < s.size) (h3 : isDg (clsL (s.data.toList.drop q)) = true) (hE : numErr (s.data.toList.drop q) = 0) (hN : numN (s.data.toList.drop q) = N) (hx : ofL (numT (s.data.toList.drop q)) = x) (hb : Below w.heap.size w w') :
    NextIs s q gl w (.returned (.tuple #[.agg #[.int .i64 2, .int .i64 q, .string x, .bool gl], .int .i64 ((q + N : Nat) : Int), .int .i64 0])) w' := by
  refine ⟨?_, hb⟩
  obtain ⟨_, e1, e2, e3⟩ := nm_facts h h3
  unfold measA
  rw [e1, e2, e3, hE, if_pos rfl, ← hx, (num_text hE).1, hN]
  simp [ansV, ofL]
theorem next_no {s : ByteArray} {q : Nat} {gl : Bool} {w w' : World} (h : q < s.size) (h1 : ¬ clsL (s.data.toList.drop q) = 10) (h2 : ¬ (clsL (s.data.toList.drop q) = 46 ∨ clsL (s.data.toList.drop q) = 45)) (h3 : isDg (clsL (s.data.toList.drop q)) = false) (h4 : isLt (clsL (s.data.toList.drop q)) = false) (hb : Below w.heap.size w w') :
    NextIs s q gl w (.returned (.tuple #[.agg #[.int .i64 0, .int .i64 0, .string ⟨#[]⟩, .bool false], .int .i64 q, .int .i64 120])) w' := by
  refine ⟨?_, hb⟩
  obtain ⟨e1, e2, e3⟩ := wd_facts h h1 h2 h3
  have hn : wordN (s.data.toList.drop q) = 0 := by
    unfold wordN
    rw [items_cons (drop_ne h), wordI_no (by unfold wordGo; rw [h4]; rfl)]
  have hbd : wordBad (s.data.toList.drop q) = true := by unfold wordBad; rw [hn]; rfl
  unfold measA
  rw [e1, e2, e3, wordErr_yes hbd, hn]
  rfl
theorem next_wdE {s : ByteArray} {q : Nat} {gl : Bool} {N : Nat} {w w' : World} (h : q < s.size) (h1 : ¬ clsL (s.data.toList.drop q) = 10) (h2 : ¬ (clsL (s.data.toList.drop q) = 46 ∨ clsL (s.data.toList.drop q) = 45)) (h3 : isDg (clsL (s.data.toList.drop q)) = false) (hN : wordN (s.data.toList.drop q) = N) (hF : (wordI 0 (items (s.data.toList.drop q))).2.1 = true) (hb : Below w.heap.size w w') :
    NextIs s q gl w (.returned (.tuple #[.agg #[.int .i64 0, .int .i64 0, .string ⟨#[]⟩, .bool false], .int .i64 ((q + N : Nat) : Int), .int .i64 120])) w' := by
  refine ⟨?_, hb⟩
  obtain ⟨e1, e2, e3⟩ := wd_facts h h1 h2 h3
  have hbd : wordBad (s.data.toList.drop q) = true := by unfold wordBad; rw [hF, Bool.or_true]
  unfold measA
  rw [e1, e2, e3, wordErr_yes hbd, hN]
  rfl
theorem next_wd {s : ByteArray} {q : Nat} {gl : Bool} {N : Nat} {w w' : World} (h : q < s.size) (h1 : ¬ clsL (s.data.toList.drop q) = 10) (h2 : ¬ (clsL (s.data.toList.drop q) = 46 ∨ clsL (s.data.toList.drop q) = 45)) (h3 : isDg (clsL (s.data.toList.drop q)) = false) (hN : wordN (s.data.toList.drop q) = N) (hF : (wordI 0 (items (s.data.toList.drop q))).2.1 = false) (h0 : N ≠ 0) (hb : Below w.heap.size w w') :
    NextIs s q gl w (.returned (.tuple #[.agg #[.int .i64 1, .int .i64 q, .string (s.extract q (q + N)), .bool gl], .int .i64 ((q + N : Nat) : Int), .int .i64 0])) w' := by
  refine ⟨?_, hb⟩
  obtain ⟨e1, e2, e3⟩ := wd_facts h h1 h2 h3
  have hbd : wordBad (s.data.toList.drop q) = false := by unfold wordBad; rw [hF, Bool.or_false, hN, decide_eq_false h0]
  unfold measA
  rw [e1, e2, e3, wordErr_no hbd, if_pos rfl, hN, extract_mid]
  simp [ansV]
end Go.Proofs.Ythccgpjbchlocaa
