/- Layer digit: what Read and Head answer of numbers' texts; no walk. -/
import Derived.Test.YtfbbjfjckaojeaaDoorDw
import Derived.Test.YtfbbjfjckaojeaaDoorDt
namespace Go.Proofs.YtfbbjfjckaojeaaDoor
open Go.Lib

/-- A text of bytes, as the program's string. -/
def ofL (l : List UInt8) : ByteArray := ⟨l.toArray⟩
theorem ofL_list (l : List UInt8) : (ofL l).data.toList = l := by unfold ofL; simp
theorem ofL_back (s : ByteArray) : ofL s.data.toList = s := by unfold ofL; simp

theorem negS_cons (l : List UInt8) : negS (ofL (45 :: l)) = true := by unfold negS; rw [ofL_list]; rfl
theorem tlS_cons (l : List UInt8) : tlS (ofL (45 :: l)) = l := by unfold tlS Lib.trimPrefix; rw [ofL_list]; rfl
theorem negS_of {l : List UInt8} (h : l.head? ≠ some 45) : negS (ofL l) = false := by
  unfold negS hasPrefix
  rw [ofL_list]
  cases l with
  | nil => rfl
  | cons c l =>
    have hc : c ≠ 45 := fun e => h (by rw [e]; rfl)
    have hc' : (45 : UInt8) ≠ c := fun e => hc e.symm
    simp [List.isPrefixOf, hc']
theorem tlS_of {l : List UInt8} (h : l.head? ≠ some 45) : tlS (ofL l) = l := by
  have := negS_of h
  unfold negS at this
  unfold tlS trimPrefix
  rw [ofL_list] at *
  rw [if_neg (by rw [this]; simp)]
theorem dec_no45 (u : Nat) (m : List UInt8) : (decDigits u ++ m).head? ≠ some 45 := by
  rw [head_app (dec_ne u)]
  intro e
  have ha := dec_all u
  cases hd : decDigits u with
  | nil => exact absurd hd (dec_ne u)
  | cons c l =>
    rw [hd] at e ha
    simp at e ha
    rw [e] at ha
    exact absurd ha.1 (by decide)

theorem itoa_neg {n : Int} (h : n < 0) : itoa n = 45 :: decDigits n.natAbs := by unfold itoa; rw [if_pos h]
theorem itoa_pos {n : Int} (h : 0 ≤ n) : itoa n = decDigits n.toNat := by unfold itoa; rw [if_neg (by omega)]

theorem read_itoa {n : Int} (h : fitB n = true) : readN (ofL (itoa n)) = n ∧ readE (ofL (itoa n)) = 0 := by
  unfold readN readE
  by_cases hn : n < 0
  · rw [itoa_neg hn, negS_cons, tlS_cons, looksL_dec (fun _ => by omega), if_pos rfl, if_pos rfl]
    have e : sval true (decDigits n.natAbs) = n := by unfold sval; rw [if_pos rfl, dec_val]; omega
    rw [e]
    exact ⟨fitN_of h, rErr_yes h⟩
  · rw [itoa_pos (by omega)]
    have h45 := dec_no45 n.toNat []
    rw [List.append_nil] at h45
    rw [negS_of h45, tlS_of h45, looksL_dec (fun e => by cases e), if_pos rfl, if_pos rfl]
    have e : sval false (decDigits n.toNat) = n := by unfold sval; rw [if_neg (by simp), dec_val]; omega
    rw [e]
    exact ⟨fitN_of h, rErr_yes h⟩

theorem rErr_zero {z : Int} (h : rErr z = 0) : fitB z = true := by
  cases hf : fitB z
  · rw [rErr_no hf] at h; cases h
  · rfl
theorem read_back {s : ByteArray} (h : readE s = 0) : ofL (itoa (readN s)) = s ∧ fitB (readN s) = true := by
  unfold readE at h
  cases hl : looksL (tlS s) (negS s)
  · rw [if_neg (by rw [hl]; simp)] at h; cases h
  · rw [if_pos hl] at h
    have hf := rErr_zero h
    have hN : readN s = sval (negS s) (tlS s) := by unfold readN; rw [if_pos hl, fitN_of hf]
    rw [hN]
    refine ⟨?_, hf⟩
    obtain ⟨h1, h2⟩ := looksL_back hl
    obtain ⟨l, rfl⟩ : ∃ l, s = ofL l := ⟨s.data.toList, (ofL_back s).symm⟩
    congr 1
    by_cases hd : l.head? = some 45
    · obtain ⟨m, rfl⟩ : ∃ m, l = 45 :: m := by
        cases l with
        | nil => cases hd
        | cons c m => simp at hd; exact ⟨m, by rw [hd]⟩
      rw [negS_cons, tlS_cons] at *
      have := h2 rfl
      unfold sval
      rw [if_pos rfl, itoa_neg (by omega)]
      congr 1
      rw [show (-(dval m : Int)).natAbs = dval m by omega, h1]
    · rw [negS_of hd, tlS_of hd] at *
      unfold sval
      rw [if_neg (by simp), itoa_pos (by omega), Int.toNat_natCast, h1]
theorem read_none {s : ByteArray} (h : readE s ≠ 0) : readN s = 0 := by
  unfold readE at h
  unfold readN
  cases hl : looksL (tlS s) (negS s)
  · rw [if_neg (by simp)]
  · rw [if_pos hl] at h
    rw [if_pos rfl]
    cases hf : fitB (sval (negS s) (tlS s))
    · exact fitN_not hf
    · exact absurd (rErr_yes hf) h

theorem head_itoa (n : Int) (m : List UInt8) : headN (ofL (itoa n ++ 120 :: m)) = (itoa n).length := by
  unfold headN
  by_cases hn : n < 0
  · rw [itoa_neg hn, List.cons_append, tlS_cons, ofL_list, runL_append (dec_all _) (by decide)]
    have : decDigits n.natAbs ≠ [] := dec_ne _
    have hlen : 1 ≤ (decDigits n.natAbs).length := by cases hd : decDigits n.natAbs with | nil => exact absurd hd this | cons => simp
    rw [if_neg (by omega)]
    simp only [List.length_cons, List.length_append]
    omega
  · rw [itoa_pos (by omega), tlS_of (dec_no45 _ _), ofL_list, runL_append (dec_all _) (by decide)]
    have : decDigits n.toNat ≠ [] := dec_ne _
    have hlen : 1 ≤ (decDigits n.toNat).length := by cases hd : decDigits n.toNat with | nil => exact absurd hd this | cons => simp
    rw [if_neg (by omega)]
    simp only [List.length_cons, List.length_append]
    omega

theorem extract_ofL (l m : List UInt8) : (ofL (l ++ m)).extract 0 l.length = ofL l ∧ (ofL (l ++ m)).extract l.length (ofL (l ++ m)).size = ofL m := by
  have hs : (ofL (l ++ m)).size = l.length + m.length := by rw [size_eq, ofL_list, List.length_append]
  rw [hs]
  refine ⟨?_, ?_⟩
  · apply ByteArray.ext
    apply Array.ext'
    simp [ofL]
  · apply ByteArray.ext
    apply Array.ext'
    simp [ofL]
theorem extract_join (s : ByteArray) (k : Nat) : s.extract 0 k ++ s.extract k s.size = s := by
  apply ByteArray.ext
  apply Array.ext'
  simp only [ByteArray.data_append, ByteArray.data_extract]
  simp
  rw [size_eq]
  exact List.take_of_length_le (by omega)
theorem headN_le (s : ByteArray) : headN s ≤ s.size := by
  have h1 := tlS_le s
  have h2 := runL_le (tlS s)
  rw [size_eq]
  unfold headN
  split <;> omega
end Go.Proofs.YtfbbjfjckaojeaaDoor
