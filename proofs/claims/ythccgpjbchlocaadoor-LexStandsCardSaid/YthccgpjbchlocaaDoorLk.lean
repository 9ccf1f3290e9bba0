/- Layer lex: what Spell gives, as a contract of the translated call. -/
import Derived.Test.YthccgpjbchlocaaDoorLi
import Derived.Test.YthccgpjbchlocaaDoorLj
namespace Go.Proofs.YthccgpjbchlocaaDoor
open Go.RowKit

/-- The text of tokens, behind one of kind ahead. -/
def spellF (ahead : Int) : List Tk → List UInt8
  | [] => []
  | t :: ts => (if (!t.gl && t.k != 4 && ahead != 4) = true then [32] else []) ++ (t.tx ++ spellF t.k ts)
def spellL (ts : List Tk) : List UInt8 := spellF 4 ts

theorem cellsT_at {t : Tk} : ∀ {ts : List Tk} {k : Nat} (j : Nat), ts[k]? = some t → j < 4 → (cellsT ts)[k * 4 + j]? = (tkCells t)[j]?
  | [], k, j, h, _ => by simp at h
  | u :: ts, 0, j, h, hj => by
    simp at h
    subst h
    show (tkCells u ++ cellsT ts)[0 * 4 + j]? = _
    rw [List.getElem?_append_left (by unfold tkCells; simp; omega), Nat.zero_mul, Nat.zero_add]
  | u :: ts, k + 1, j, h, hj => by
    simp only [List.getElem?_cons_succ] at h
    show (tkCells u ++ cellsT ts)[(k + 1) * 4 + j]? = _
    rw [List.getElem?_append_right (by unfold tkCells; simp; omega)]
    have : (k + 1) * 4 + j - (tkCells u).length = k * 4 + j := by unfold tkCells; simp; omega
    rw [this]
    exact cellsT_at j h hj
theorem cellsT_length (ts : List Tk) : (cellsT ts).length = ts.length * 4 := by
  induction ts with
  | nil => rfl
  | cons t ts ih =>
    show (tkCells t ++ cellsT ts).length = _
    rw [List.length_append, ih, List.length_cons]
    unfold tkCells
    simp
    omega
/-- A token of a slice, cell by cell. -/
theorem tok_cells {w : World} {B n k : Nat} {A : Option Addr} {ts : List Tk} {t : Tk} (h : Reads w B 4 A n (cellsT ts)) (ht : ts[k]? = some t) :
    ∃ ad, A = some ad ∧ w.cell? (ad.add (k * 4)) = some (.int .i64 t.k) ∧ w.cell? ⟨(ad.add (k * 4)).block, (ad.add (k * 4)).off + 1, none⟩ = some (.int .i64 t.a) ∧
      w.cell? ⟨(ad.add (k * 4)).block, (ad.add (k * 4)).off + 2, none⟩ = some (.string ⟨t.tx.toArray⟩) ∧ w.cell? ⟨(ad.add (k * 4)).block, (ad.add (k * 4)).off + 3, none⟩ = some (.bool t.gl) ∧ ad.block < B := by
  have hk := (List.getElem?_eq_some_iff.1 ht).1
  have hl := h.1
  rw [cellsT_length] at hl
  obtain ⟨ad, rfl, hb, hc⟩ := h.2 (by omega)
  refine ⟨ad, rfl, ?_, ?_, ?_, ?_, hb⟩
  · exact hc (k * 4 + 0) _ (cellsT_at 0 ht (by omega))
  · have := hc (k * 4 + 1) _ (cellsT_at 1 ht (by omega))
    rwa [← add_of_add] at this
  · have := hc (k * 4 + 2) _ (cellsT_at 2 ht (by omega))
    rwa [← add_of_add] at this
  · have := hc (k * 4 + 3) _ (cellsT_at 3 ht (by omega))
    rwa [← add_of_add] at this
theorem bld_alloc {B b : Nat} {bs : List Value} {w : World} (h : Bld B b bs w) (o : Obj) : Bld B b bs (w.alloc o) := by
  rcases h with ⟨hB, v, hb, hown, hne⟩ | ⟨hB, v, hb, hown, hne⟩
  · exact .inl ⟨hB, v, (Below.heap_alloc w o b (Array.getElem?_eq_some_iff.1 hb).1).trans hb, hown.alloc o, hne⟩
  · exact .inr ⟨hB, v, (Below.heap_alloc w o b (Array.getElem?_eq_some_iff.1 hb).1).trans hb, hown.alloc o, hne⟩
theorem bld_new (w : World) : Bld w.heap.size w.heap.size [] (w.alloc (.cells #[.pointer none, .slice none 0 0] 52)) :=
  .inl ⟨Nat.le_refl _, _, block_new w _, World.ownsRow_nil _ _ _ _, by simp [Value.ownBlock]⟩
theorem bld_lt {B b : Nat} {bs : List Value} {w : World} (h : Bld B b bs w) : b < w.heap.size := by
  rcases h with ⟨hB, v, hb, hown, hne⟩ | ⟨hB, v, hb, hown, hne⟩
  · exact (Array.getElem?_eq_some_iff.1 hb).1
  · exact (Array.getElem?_eq_some_iff.1 hb).1
theorem spell_len (ah : Int) (ts : List Tk) : ∀ k, (spellF ah (ts.drop k)).length ≥ 0 := fun _ => Nat.zero_le _
theorem spellF_cons {ah : Int} {ts : List Tk} {k : Nat} {t : Tk} (ht : ts[k]? = some t) : spellF ah (ts.drop k) = (if (!t.gl && t.k != 4 && ah != 4) = true then [32] else []) ++ (t.tx ++ spellF t.k (ts.drop (k + 1))) := by
  obtain ⟨hk, rfl⟩ := List.getElem?_eq_some_iff.1 ht
  rw [List.drop_eq_getElem_cons hk, spellF]

set_option maxRecDepth 100000 in
set_option maxHeartbeats 4000000 in
theorem spell_any (A : Option Addr) (n c : Nat) (ts : List Tk) (hn : n = ts.length) (hn1 : n ≤ 1000000) (hs : (spellL ts).length ≤ 1000000) (w : World) (hR : Reads w w.heap.size 4 A n (cellsT ts)) :
    Calls Tryd.prog 12 #[.slice A n c] w fun e w' => e = .returned (.string ⟨(spellL ts).toArray⟩) ∧ Below w.heap.size w w' := by
  have HN := Lib.hid hn
  clear hn
  go_enter Tryd.func12, Tryd.ntmps12
  go_wp2_with fail
  go_loopw [4, 9] (fun a i wr => ∃ (k : Nat) (ah : Int) (acc : List UInt8), i = .int .i64 k ∧ a = .int .i64 ah ∧ k ≤ n ∧ Hid (acc ++ spellF ah (ts.drop k) = spellL ts) ∧ Hid (Bld w.heap.size w.heap.size (Lib.byteCells acc) wr) ∧ Below w.heap.size w wr) (fun _ i _ => n - (intOf i).toNat)
  case atStart => exact ⟨0, 4, [], rfl, rfl, Nat.zero_le _, rfl, bld_new w, (Below.refl _ _).alloc (Nat.le_refl _) _⟩
  case round =>
    obtain ⟨k, ah, acc, rfl, rfl, hk, hacc, hB, hBe⟩ := hrel
    by_cases hkn : k < n
    · obtain ⟨t, ht⟩ : ∃ t, ts[k]? = some t := ⟨ts[k]'(by rw [← HN.out]; exact hkn), List.getElem?_eq_getElem _⟩
      obtain ⟨ad, rfl, g0, g1, g2, g3, had⟩ := tok_cells (hR.below hBe) ht
      have hsp := spellF_cons (ah := ah) ht
      have hle : acc.length + ((spellF ah (ts.drop k)).length) ≤ 1000000 := by rw [← List.length_append, hacc.out]; exact hs
      rw [hsp, List.length_append, List.length_append] at hle
      have hsz := hBe.size
      have hts : (⟨t.tx.toArray⟩ : ByteArray).size = t.tx.length := by rw [Lib.size_eq]
      have HTS := Lib.hid hts
      clear hts ht
      rw [hsp] at hacc
      clear hsp
      cases hgl : t.gl
      · rw [hgl] at g3 hacc hle
        by_cases hk4 : t.k = 4
        · have hkb : (t.k != 4) = false := by simpa using hk4
          have HK4 := Lib.hid hk4
          clear hk4 hgl
          rw [hkb] at hacc hle
          simp only [Bool.not_false, Bool.false_and, Bool.and_false, Bool.false_eq_true, if_false, List.nil_append, List.length_nil] at hacc hle
          have HB1 := Lib.hid (bld_alloc hB.out (.cells #[.int .i64 t.k, .int .i64 t.a, .string ⟨t.tx.toArray⟩, .bool false] 29))
          have HBe1 := Lib.hid (hBe.alloc hsz (.cells #[.int .i64 t.k, .int .i64 t.a, .string ⟨t.tx.toArray⟩, .bool false] 29))
          have hsz1 : w.heap.size ≤ (wr.alloc (.cells #[.int .i64 t.k, .int .i64 t.a, .string ⟨t.tx.toArray⟩, .bool false] 29)).heap.size := by simp; omega
          have HBK := Lib.hid (block_new wr (.cells #[.int .i64 t.k, .int .i64 t.a, .string ⟨t.tx.toArray⟩, .bool false] 29))
          have hwr : w.heap.size < wr.heap.size := bld_lt hB.out
          clear hB hBe hsz
          go_wp2_with fail
          refine (wstring_any w.heap.size w.heap.size _ ⟨t.tx.toArray⟩ _ HB1.out (by rw [Lib.byteCells_length, HTS.out]; omega) hsz1).mono ?_
          rintro e w3 ⟨rfl, hb3, be3, ok3⟩
          have HB3 : Hid (Bld w.heap.size w.heap.size (Lib.byteCells (acc ++ t.tx)) w3) := by rw [Lib.byteCells_append]; exact hb3
          have HK3 := Lib.hid (ok3 _ _ HBK.out (by simp; omega) (fun c fz e => by cases e))
          have HBe3 := Lib.hid (HBe1.out.trans be3)
          clear hb3 be3 ok3
          obtain ⟨⟨q0, q1, q2, q3⟩, _⟩ := four_cells HK3.out
          go_wp2_with fail
          go_roundw
          case rel => exact ⟨k + 1, _, acc ++ t.tx, by go_num, rfl, by omega, by rw [← hacc.out]; simp [Hid], HB3.out, HBe3.out⟩
          case measure => simp [intOf]; omega
        · have hkb : (t.k != 4) = true := by simpa using hk4
          have HK4 := Lib.hid hk4
          clear hk4 hgl
          rw [hkb] at hacc hle
          by_cases ha4 : ah = 4
          · have hab : (ah != 4) = false := by simpa using ha4
            have HA4 := Lib.hid ha4
            clear ha4
            rw [hab] at hacc hle
            simp only [Bool.not_false, Bool.true_and, Bool.and_false, Bool.false_eq_true, if_false, List.nil_append, List.length_nil] at hacc hle
            have HB1 := Lib.hid (bld_alloc hB.out (.cells #[.int .i64 t.k, .int .i64 t.a, .string ⟨t.tx.toArray⟩, .bool false] 29))
            have HBe1 := Lib.hid (hBe.alloc hsz (.cells #[.int .i64 t.k, .int .i64 t.a, .string ⟨t.tx.toArray⟩, .bool false] 29))
            have hsz1 : w.heap.size ≤ (wr.alloc (.cells #[.int .i64 t.k, .int .i64 t.a, .string ⟨t.tx.toArray⟩, .bool false] 29)).heap.size := by simp; omega
            have HBK := Lib.hid (block_new wr (.cells #[.int .i64 t.k, .int .i64 t.a, .string ⟨t.tx.toArray⟩, .bool false] 29))
            have hwr : w.heap.size < wr.heap.size := bld_lt hB.out
            clear hB hBe hsz
            go_wp2_with fail
            refine (wstring_any w.heap.size w.heap.size _ ⟨t.tx.toArray⟩ _ HB1.out (by rw [Lib.byteCells_length, HTS.out]; omega) hsz1).mono ?_
            rintro e w3 ⟨rfl, hb3, be3, ok3⟩
            have HB3 : Hid (Bld w.heap.size w.heap.size (Lib.byteCells (acc ++ t.tx)) w3) := by rw [Lib.byteCells_append]; exact hb3
            have HK3 := Lib.hid (ok3 _ _ HBK.out (by simp; omega) (fun c fz e => by cases e))
            have HBe3 := Lib.hid (HBe1.out.trans be3)
            clear hb3 be3 ok3
            obtain ⟨⟨q0, q1, q2, q3⟩, _⟩ := four_cells HK3.out
            go_wp2_with fail
            go_roundw
            case rel => exact ⟨k + 1, _, acc ++ t.tx, by go_num, rfl, by omega, by rw [← hacc.out]; simp [Hid], HB3.out, HBe3.out⟩
            case measure => simp [intOf]; omega
          · have hab : (ah != 4) = true := by simpa using ha4
            have HA4 := Lib.hid ha4
            clear ha4
            rw [hab] at hacc hle
            simp only [Bool.not_false, Bool.true_and, if_true, List.length_singleton] at hacc hle
            have HB1 := Lib.hid (bld_alloc hB.out (.cells #[.int .i64 t.k, .int .i64 t.a, .string ⟨t.tx.toArray⟩, .bool false] 29))
            have HBe1 := Lib.hid (hBe.alloc hsz (.cells #[.int .i64 t.k, .int .i64 t.a, .string ⟨t.tx.toArray⟩, .bool false] 29))
            have hsz1 : w.heap.size ≤ (wr.alloc (.cells #[.int .i64 t.k, .int .i64 t.a, .string ⟨t.tx.toArray⟩, .bool false] 29)).heap.size := by simp; omega
            have HBK := Lib.hid (block_new wr (.cells #[.int .i64 t.k, .int .i64 t.a, .string ⟨t.tx.toArray⟩, .bool false] 29))
            have hwr : w.heap.size < wr.heap.size := bld_lt hB.out
            clear hB hBe hsz
            go_wp2_with fail
            refine (wbyte_any w.heap.size w.heap.size _ 32 _ HB1.out (by rw [Lib.byteCells_length]; omega) hsz1).mono ?_
            rintro e w2 ⟨rfl, hb2, be2, ok2⟩
            have HB2 : Hid (Bld w.heap.size w.heap.size (Lib.byteCells (acc ++ [32])) w2) := by rw [Lib.byteCells_append]; exact hb2
            have HK2 := Lib.hid (ok2 _ _ HBK.out (by simp; omega) (fun c fz e => by cases e))
            have HBe2 := Lib.hid (HBe1.out.trans be2)
            have hsz2 := HBe2.out.size
            clear hb2 be2 ok2
            obtain ⟨⟨q0, q1, q2, q3⟩, _⟩ := four_cells HK2.out
            go_wp2_with fail
            refine (wstring_any w.heap.size w.heap.size _ ⟨t.tx.toArray⟩ _ HB2.out (by rw [Lib.byteCells_length, HTS.out]; simp; omega) hsz2).mono ?_
            rintro e w3 ⟨rfl, hb3, be3, ok3⟩
            have HB3 : Hid (Bld w.heap.size w.heap.size (Lib.byteCells ((acc ++ [32]) ++ t.tx)) w3) := by rw [Lib.byteCells_append (acc ++ [32])]; exact hb3
            have HK3 := Lib.hid (ok3 _ _ HK2.out (by simp; omega) (fun c fz e => by cases e))
            have HBe3 := Lib.hid (HBe2.out.trans be3)
            clear hb3 be3 ok3 q0 q1 q2 q3
            obtain ⟨⟨q0, q1, q2, q3⟩, _⟩ := four_cells HK3.out
            go_wp2_with fail
            go_roundw
            case rel => exact ⟨k + 1, _, (acc ++ [32]) ++ t.tx, by go_num, rfl, by omega, by rw [← hacc.out]; simp [Hid], HB3.out, HBe3.out⟩
            case measure => simp [intOf]; omega
      · rw [hgl] at g3 hacc hle
        clear hgl
        simp only [Bool.not_true, Bool.false_and, Bool.false_eq_true, if_false, List.nil_append, List.length_nil] at hacc hle
        have HB1 := Lib.hid (bld_alloc hB.out (.cells #[.int .i64 t.k, .int .i64 t.a, .string ⟨t.tx.toArray⟩, .bool true] 29))
        have HBe1 := Lib.hid (hBe.alloc hsz (.cells #[.int .i64 t.k, .int .i64 t.a, .string ⟨t.tx.toArray⟩, .bool true] 29))
        have hsz1 : w.heap.size ≤ (wr.alloc (.cells #[.int .i64 t.k, .int .i64 t.a, .string ⟨t.tx.toArray⟩, .bool true] 29)).heap.size := by simp; omega
        have HBK := Lib.hid (block_new wr (.cells #[.int .i64 t.k, .int .i64 t.a, .string ⟨t.tx.toArray⟩, .bool true] 29))
        have hwr : w.heap.size < wr.heap.size := bld_lt hB.out
        clear hB hBe hsz
        go_wp2_with fail
        refine (wstring_any w.heap.size w.heap.size _ ⟨t.tx.toArray⟩ _ HB1.out (by rw [Lib.byteCells_length, HTS.out]; omega) hsz1).mono ?_
        rintro e w3 ⟨rfl, hb3, be3, ok3⟩
        have HB3 : Hid (Bld w.heap.size w.heap.size (Lib.byteCells (acc ++ t.tx)) w3) := by rw [Lib.byteCells_append]; exact hb3
        have HK3 := Lib.hid (ok3 _ _ HBK.out (by simp; omega) (fun c fz e => by cases e))
        have HBe3 := Lib.hid (HBe1.out.trans be3)
        clear hb3 be3 ok3
        obtain ⟨⟨q0, q1, q2, q3⟩, _⟩ := four_cells HK3.out
        go_wp2_with fail
        go_roundw
        case rel => exact ⟨k + 1, _, acc ++ t.tx, by go_num, rfl, by omega, by rw [← hacc.out]; simp [Hid], HB3.out, HBe3.out⟩
        case measure => simp [intOf]; omega
    · have hkn' : k = n := by omega
      have HF : Hid (acc = spellL ts) := by
        rw [← hacc.out, hkn', HN.out, List.drop_length]
        simp [spellF, Hid]
      have hsz := hBe.size
      have HB1 := Lib.hid (Tryd.Builder_String_any w.heap.size w.heap.size acc wr hB.out hsz)
      rw [HF.out] at HB1
      clear hkn'
      go_wp2_with fail
      refine HB1.out.mono ?_
      rintro e w3 ⟨rfl, be3⟩
      have HBe3 := Lib.hid (hBe.trans be3)
      go_wp2_with fail
      go_ret
      exact ⟨rfl, HBe3.out⟩
end Go.Proofs.YthccgpjbchlocaaDoor
