/- Layer names: Fine, Find, Name: contracts. -/
import Derived.Test.YthamkpmbfefpfaaNe
import Derived.Test.YthamkpmbfefpfaaLn
namespace Go.Proofs.Ythamkpmbfefpfaa
open Go.RowKit Go.Shelf Go.Maps

theorem Reads.on_ {w w' : World} {size n : Nat} {A : Option Addr} {xs : List Value} (h : Reads w w.heap.size size A n xs) (hb : Below w.heap.size w w') : Reads w' w'.heap.size size A n xs := (h.below hb).more hb.size

set_option maxHeartbeats 1000000 in
theorem fine_any (A : Option Addr) (n c : Nat) (ns : List ByteArray) (hn : n ≤ 1000) (hss : ∀ s ∈ ns, s.size ≤ 9223372036854775807) (w : World) (hR : Reads w w.heap.size 1 A n (strs ns)) :
    Calls Try.prog 11 #[.agg #[.slice A n c]] w fun e w' => e = .returned (.int .i64 (fineE nameB ns)) ∧ Below w.heap.size w w' := by
  obtain ⟨bx, b0, -⟩ := nbox w #[.slice A n c] 24
  have HO := Lib.hid (opened_any A n c ns hn hss _ (hR.on_ b0))
  have B0 := Lib.hid b0
  have z0 := bx.cell 0
  clear hR hss b0 bx
  go_enter Try.func11, Try.ntmps11
  go_wp2_with fail
  refine HO.out.mono ?_
  rintro e w1 ⟨Bn, M, rfl, _, _, _, b1⟩
  have B1 := Lib.hid (B0.out.trans (b1.mono B0.out.size))
  clear b1 z0 HO
  go_wp2_with fail
  go_ret
  exact ⟨rfl, B1.out⟩

/-- What is found. -/
def findB (ns : List ByteArray) (s : ByteArray) : Bool := goodB nameB ns && decide (s ∈ ns)
def findN (ns : List ByteArray) (s : ByteArray) : Int := if findB ns s = true then (idxN ns s : Int) else 0
def FindIs (ns : List ByteArray) (s : ByteArray) (w : World) (e : Ending) (w' : World) : Prop := e = .returned (.tuple #[.int .i64 (findN ns s), .bool (findB ns s)]) ∧ Below w.heap.size w w'
section
variable {ns : List ByteArray} {s : ByteArray}
theorem find_bad (h : goodB nameB ns = false) : findB ns s = false ∧ findN ns s = 0 := by
  have : findB ns s = false := by unfold findB; rw [h]; rfl
  exact ⟨this, by unfold findN; rw [this]; rfl⟩
theorem find_out (h : s ∉ ns) : findB ns s = false ∧ findN ns s = 0 := by
  have : findB ns s = false := by unfold findB; rw [decide_eq_false h, Bool.and_false]
  exact ⟨this, by unfold findN; rw [this]; rfl⟩
theorem find_in (hg : goodB nameB ns = true) (h : s ∈ ns) : findB ns s = true ∧ findN ns s = (idxN ns s : Int) := by
  have : findB ns s = true := by unfold findB; rw [hg, decide_eq_true h]; rfl
  exact ⟨this, by unfold findN; rw [if_pos this]⟩
end

set_option maxRecDepth 100000 in
set_option maxHeartbeats 2000000 in
theorem find_any (A : Option Addr) (n c : Nat) (ns : List ByteArray) (s : ByteArray) (hs : s.size ≤ 9223372036854775807) (hn : n ≤ 1000) (hss : ∀ s ∈ ns, s.size ≤ 9223372036854775807) (w : World) (hR : Reads w w.heap.size 1 A n (strs ns)) :
    Calls Try.prog 15 #[.agg #[.slice A n c], .string s] w (FindIs ns s w) := by
  obtain ⟨bx, b0, -⟩ := nbox w #[.slice A n c] 24
  have HO := Lib.hid (opened_any A n c ns hn hss _ (hR.on_ b0))
  have hl := strs_len hR
  have B0 := Lib.hid b0
  have BX := Lib.hid bx
  have z0 := bx.cell 0
  clear hR hss b0 bx
  cases hg : goodB nameB ns
  · have HF := Lib.hid (find_bad (s := s) hg)
    unfold OpenIs at HO
    rw [fine_no hg] at HO
    clear hg hl
    go_enter Try.func15, Try.ntmps15
    go_wp2_with fail
    refine HO.out.mono ?_
    rintro e w1 ⟨Bn, M, rfl, _, _, _, b1⟩
    have B1 := Lib.hid (B0.out.trans (b1.mono B0.out.size))
    clear b1 z0 HO BX
    go_wp2_with fail
    go_ret2
    exact ⟨by rw [HF.out.1, HF.out.2]; rfl, B1.out⟩
  · unfold OpenIs at HO
    rw [fine_ok hg] at HO
    have HG := Lib.hid hg
    have HLL := Lib.hid hl
    clear hl
    have hcase : (s ∈ ns ∧ ((idxN ns s : Int) == (n : Int)) = false) ∨ (s ∉ ns ∧ ((idxN ns s : Int) == (n : Int)) = true) := by
      by_cases h : s ∈ ns
      · have := idx_lt h
        have := HLL.out
        exact .inl ⟨h, by simp; omega⟩
      · have := idx_out h
        have := HLL.out
        exact .inr ⟨h, by simp; omega⟩
    rcases hcase with ⟨hm, hb⟩ | ⟨hm, hb⟩
    · have HF := Lib.hid (find_in hg hm)
      clear hg hm
      go_enter Try.func15, Try.ntmps15
      go_wp2_with fail
      refine HO.out.mono ?_
      rintro e w1 ⟨Bn, M, rfl, hnum, hB, hM, b1⟩
      have HN := Lib.hid (number_any Bn M ns s hs (by have := HLL.out; omega) w1 (hnum HG.out))
      have B1 := Lib.hid (B0.out.trans (b1.mono B0.out.size))
      have BX1 := Lib.hid (BX.out.below b1 BX.out.lt)
      have HBM := Lib.hid (And.intro hB hM)
      clear b1 z0 HO BX hnum hB hM
      go_wp2_with fail
      refine HN.out.mono ?_
      rintro e w2 ⟨rfl, _, hk⟩
      have z1 := (hk.blk BX1.out (by have := HBM.out; have := BX1.out.lt; simp at *; omega)).cell 0
      have B2 : Hid (Below w.heap.size w w2) := B1.out.trans (hk.below B1.out.size fun j hj => by have := HBM.out; have := B0.out.size; omega)
      clear hk HN BX1
      go_wp2_with fail
      go_ret2
      exact ⟨by rw [HF.out.1, HF.out.2]; rfl, B2.out⟩
    · have HF := Lib.hid (find_out hm)
      clear hg hm
      go_enter Try.func15, Try.ntmps15
      go_wp2_with fail
      refine HO.out.mono ?_
      rintro e w1 ⟨Bn, M, rfl, hnum, hB, hM, b1⟩
      have HN := Lib.hid (number_any Bn M ns s hs (by have := HLL.out; omega) w1 (hnum HG.out))
      have B1 := Lib.hid (B0.out.trans (b1.mono B0.out.size))
      have BX1 := Lib.hid (BX.out.below b1 BX.out.lt)
      have HBM := Lib.hid (And.intro hB hM)
      clear b1 z0 HO BX hnum hB hM
      go_wp2_with fail
      refine HN.out.mono ?_
      rintro e w2 ⟨rfl, _, hk⟩
      have z1 := (hk.blk BX1.out (by have := HBM.out; have := BX1.out.lt; simp at *; omega)).cell 0
      have B2 : Hid (Below w.heap.size w w2) := B1.out.trans (hk.below B1.out.size fun j hj => by have := HBM.out; have := B0.out.size; omega)
      clear hk HN BX1
      go_wp2_with fail
      go_ret2
      exact ⟨by rw [HF.out.1, HF.out.2]; rfl, B2.out⟩

/-- The name of a number. -/
def nameE (ns : List ByteArray) (i : Int) : Int := if goodB nameB ns = true then (if 0 ≤ i ∧ i < (ns.length : Int) then 0 else 4) else 201
def nameT (ns : List ByteArray) (i : Int) : ByteArray := if nameE ns i = 0 then ns.getD i.toNat ⟨#[]⟩ else ⟨#[]⟩
def NameIs (ns : List ByteArray) (i : Int) (w : World) (e : Ending) (w' : World) : Prop := e = .returned (.tuple #[.string (nameT ns i), .int .i64 (nameE ns i)]) ∧ Below w.heap.size w w'
section
variable {ns : List ByteArray} {i : Int}
theorem name_bad (h : goodB nameB ns = false) : nameE ns i = 201 ∧ nameT ns i = ⟨#[]⟩ := by
  have : nameE ns i = 201 := by unfold nameE; rw [h]; rfl
  exact ⟨this, by unfold nameT; rw [this]; rfl⟩
theorem name_out (h : goodB nameB ns = true) (hi : ¬ (0 ≤ i ∧ i < (ns.length : Int))) : nameE ns i = 4 ∧ nameT ns i = ⟨#[]⟩ := by
  have : nameE ns i = 4 := by unfold nameE; rw [if_pos h, if_neg hi]
  exact ⟨this, by unfold nameT; rw [this]; rfl⟩
theorem name_at {k : Nat} {s : ByteArray} (h : goodB nameB ns = true) (hs : ns[k]? = some s) : nameE ns (k : Int) = 0 ∧ nameT ns (k : Int) = s := by
  have hk := (List.getElem?_eq_some_iff.1 hs).1
  have : nameE ns (k : Int) = 0 := by unfold nameE; rw [if_pos h, if_pos ⟨by omega, by omega⟩]
  refine ⟨this, ?_⟩
  unfold nameT
  rw [if_pos this, Int.toNat_natCast, List.getD_eq_getElem?_getD, hs]
  rfl
end
theorem name_size {s : ByteArray} (h : nameB s = true) : s.size ≤ 24 := by
  unfold nameB at h
  rw [Lib.size_eq]
  rcases Nat.lt_or_ge 24 s.data.toList.length with h2 | h2
  · rw [wordB_long h2] at h
    cases h
  · exact h2

set_option maxRecDepth 100000 in
set_option maxHeartbeats 2000000 in
theorem name_any (A : Option Addr) (n c : Nat) (ns : List ByteArray) (i : Int) (hn : n ≤ 1000) (hss : ∀ s ∈ ns, s.size ≤ 9223372036854775807) (w : World) (hR : Reads w w.heap.size 1 A n (strs ns)) :
    Calls Try.prog 16 #[.agg #[.slice A n c], .int .i64 i] w (NameIs ns i w) := by
  obtain ⟨bx, b0, -⟩ := nbox w #[.slice A n c] 24
  have HO := Lib.hid (fine_any A n c ns hn hss _ (hR.on_ b0))
  have hl := strs_len hR
  have HR := Lib.hid (hR.on_ b0)
  have B0 := Lib.hid b0
  have BX := Lib.hid bx
  have z0 := bx.cell 0
  clear hR hss b0 bx
  cases hg : goodB nameB ns
  · have HF := Lib.hid (name_bad (i := i) hg)
    rw [fine_no hg] at HO
    clear hg hl HR
    go_enter Try.func16, Try.ntmps16
    go_wp2_with fail
    refine HO.out.mono ?_
    rintro e w1 ⟨rfl, b1⟩
    have B1 := Lib.hid (B0.out.trans (b1.mono B0.out.size))
    clear b1 z0 HO BX
    go_wp2_with fail
    go_ret2
    exact ⟨by rw [HF.out.1, HF.out.2]; rfl, B1.out⟩
  · rw [fine_ok hg] at HO
    by_cases hi : 0 ≤ i ∧ i < (n : Int)
    · obtain ⟨k, rfl⟩ : ∃ k : Nat, i = (k : Int) := ⟨i.toNat, by omega⟩
      obtain ⟨s, hs⟩ : ∃ s, ns[k]? = some s := ⟨ns[k]'(by omega), List.getElem?_eq_getElem _⟩
      have HF := Lib.hid (name_at hg hs)
      have HS := Lib.hid hs
      have HSZ := Lib.hid (name_size ((good_iff.1 hg).2.2 s (List.mem_of_getElem? hs)))
      have h1 : (k : Int) < (n : Int) := hi.2
      have h2 : ¬ (k : Int) ≥ (n : Int) := by omega
      have h3 : ¬ (k : Int) < 0 := by omega
      clear hg hl hs hi
      go_enter Try.func16, Try.ntmps16
      go_wp2_with fail
      refine HO.out.mono ?_
      rintro e w1 ⟨rfl, b1⟩
      have B1 := Lib.hid (B0.out.trans (b1.mono B0.out.size))
      obtain ⟨b, o, rfl, _, g0⟩ := str_at (HR.out.on_ b1) HS.out
      have z1 := (BX.out.below b1 BX.out.lt).cell 0
      have HC := Lib.hid (sclone_any s (by have := HSZ.out; omega) w1)
      clear b1 z0 HO BX HR
      go_wp2_with fail
      refine HC.out.mono ?_
      rintro e w2 ⟨rfl, b2⟩
      have B2 := Lib.hid (B1.out.trans (b2.mono B1.out.size))
      clear b2 z1 g0
      go_wp2_with fail
      go_ret2
      exact ⟨by rw [HF.out.1, HF.out.2]; rfl, B2.out⟩
    · have HF := Lib.hid (name_out (i := i) hg (by rw [hl]; exact hi))
      clear hg hl HR
      by_cases h3 : i < 0
      · clear hi
        go_enter Try.func16, Try.ntmps16
        go_wp2_with fail
        refine HO.out.mono ?_
        rintro e w1 ⟨rfl, b1⟩
        have B1 := Lib.hid (B0.out.trans (b1.mono B0.out.size))
        have z1 := (BX.out.below b1 BX.out.lt).cell 0
        clear b1 z0 HO BX
        go_wp2_with fail
        go_ret2
        exact ⟨by rw [HF.out.1, HF.out.2]; rfl, B1.out⟩
      · have h2 : i ≥ (n : Int) := by omega
        clear hi
        go_enter Try.func16, Try.ntmps16
        go_wp2_with fail
        refine HO.out.mono ?_
        rintro e w1 ⟨rfl, b1⟩
        have B1 := Lib.hid (B0.out.trans (b1.mono B0.out.size))
        have z1 := (BX.out.below b1 BX.out.lt).cell 0
        clear b1 z0 HO BX
        go_wp2_with fail
        go_ret2
        exact ⟨by rw [HF.out.1, HF.out.2]; rfl, B1.out⟩
end Go.Proofs.Ythamkpmbfefpfaa
