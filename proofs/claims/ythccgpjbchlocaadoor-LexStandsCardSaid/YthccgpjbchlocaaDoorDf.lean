/- Layer digit: what Read gives, as a contract of the translated call. -/
import Derived.Test.YthccgpjbchlocaaDoorDd
import Derived.Test.YthccgpjbchlocaaDoorDe
import Derived.Lib.OthersKept
namespace Go.Proofs.YthccgpjbchlocaaDoor
open Go.RowKit

/-- The text behind a minus, or the whole, as the program's string. -/
def tlB (s : ByteArray) : ByteArray := ⟨(tlS s).toArray⟩
theorem tlB_list (s : ByteArray) : (tlB s).data.toList = tlS s := by unfold tlB; simp

/-- A number's sign, given to a digit. -/
def sgn (neg : Bool) (r : Nat) : Int := if neg = true then -((r - 48 : Nat) : Int) else ((r - 48 : Nat) : Int)
theorem sgn_bd (neg : Bool) {r : Nat} (h : r ≤ 57) : -9 ≤ sgn neg r ∧ sgn neg r ≤ 9 := by unfold sgn; cases neg <;> simp <;> omega
theorem sgn_neg {r : Nat} (h : 48 ≤ r) : sgn true r = -((r : Int) - 48) := by unfold sgn; simp; omega
theorem sgn_pos {r : Nat} (h : 48 ≤ r) : sgn false r = (r : Int) - 48 := by unfold sgn; simp; omega
theorem iterPos_at {w : World} {k : Nat} {s : ByteArray} {p : Nat} (h : w.heap[k]? = some (.stringIter s p)) : w.iterPos k = p := by unfold World.iterPos; rw [h]

set_option maxHeartbeats 400000 in
theorem signed_neg (s : ByteArray) (h : negS s = true) (w : World) :
    Calls Tryd.prog 63 #[.string s] w fun e w' => e = .returned (.tuple #[.string (tlB s), .func (Fn.func 69) #[] #[.pointer (some ⟨w.heap.size, 0, none⟩)]]) ∧ w' = w.alloc (.cells #[.bool true] 4) := by
  have := signed_any s w
  rw [h] at this
  exact this

theorem signed_pos (s : ByteArray) (h : negS s = false) (w : World) :
    Calls Tryd.prog 63 #[.string s] w fun e w' => e = .returned (.tuple #[.string (tlB s), .func (Fn.func 69) #[] #[.pointer (some ⟨w.heap.size, 0, none⟩)]]) ∧ w' = w.alloc (.cells #[.bool false] 4) := by
  have := signed_any s w
  rw [h] at this
  exact this

theorem add_fit (a b : Int) (ha : fitB a = true) (hb0 : -9 ≤ b) (hb1 : b ≤ 9) (w : World) :
    Calls Tryd.prog 67 #[.int .i64 a, .int .i64 b] w fun e w' => e = .returned (.tuple #[.int .i64 (fitN (a + b)), .bool (fitB (a + b))]) ∧ Below w.heap.size w w' :=
  add_any a b ((fitB_iff a).1 ha).1 ((fitB_iff a).1 ha).2 (by omega) (by omega) w

theorem mul10_any (a : Int) (h : fitB a = true) (w : World) :
    Calls Tryd.prog 66 #[.int .i64 a, .int .i64 10] w fun e w' => e = .returned (.tuple #[.int .i64 (fitN (a * 10)), .bool (fitB (a * 10))]) ∧ Below w.heap.size w w' :=
  mul_any a 10 ((fitB_iff a).1 h).1 ((fitB_iff a).1 h).2 (by decide) (by decide) w

set_option maxHeartbeats 1600000 in
theorem read_neg (s : ByteArray) (hneg : negS s = true) (hlk : looksL (tlS s) true = true) (w : World) :
    Calls Tryd.prog 62 #[.string s] w fun e w' => e = .returned (.tuple #[.int .i64 (fitN (sval true (tlS s))), .int .i64 (rErr (sval true (tlS s)))]) ∧ Below w.heap.size w w' := by
  have H1 := Lib.hid fun W => signed_neg s hneg W
  have H2 := Lib.hid fun W => looks_any (tlB s) true W
  rw [tlB_list, hlk] at H2
  have hall : (tlB s).data.toList.all isD = true := by rw [tlB_list]; exact looksL_all hlk
  have HALL := Lib.hid hall
  rw [← tlB_list s]
  generalize tlB s = t at *
  clear hall hlk hneg
  go_enter Tryd.func62, Tryd.ntmps62
  go_wp2_with fail
  refine (H1.out _).mono ?_
  rintro e w1 ⟨rfl, rfl⟩
  go_wp2_with fail
  refine (sign_neg 1 (by decide) (by decide) w.heap.size _ (by simp)).mono ?_
  rintro e w2 ⟨rfl, rfl⟩
  go_wp2_with fail
  refine (H2.out _).mono ?_
  rintro e w3 ⟨rfl, b3⟩
  have hs3 : w.heap.size < w3.heap.size := by have := b3.size; simp at this; omega
  have hB3 : Below w.heap.size w w3 := ((Below.refl _ _).alloc (Nat.le_refl _) _).trans (b3.mono (by simp))
  have hc3 : w3.cell? ⟨w.heap.size, 0, none⟩ = some (.bool true) := (b3.cell (p := ⟨w.heap.size, 0, none⟩) (by simp)).trans (by simp)
  clear b3
  go_wp2_with fail
  go_loopw [6] (fun v wr => ∃ (p : Nat) (n : Int), v = .int .i64 n ∧ p ≤ t.size ∧ wr.heap[w3.heap.size]? = some (.stringIter t p) ∧ Below w3.heap.size w3 wr ∧ Hid (n = sval true (t.data.toList.take p) ∧ fitB n = true)) (fun _ wr => t.size - wr.iterPos w3.heap.size)
  case atStart => exact ⟨0, 0, rfl, Nat.zero_le _, World.iter_heap _ _ _, (Below.refl _ _).alloc (Nat.le_refl _) _, rfl, rfl⟩
  case round =>
    obtain ⟨p, n, rfl, hp, hit, hB, hn⟩ := hrel
    have hsz : w3.heap.size < wr.heap.size := (Array.getElem?_eq_some_iff.1 hit).1
    by_cases hlt : p < t.size
    · have hpl : p < t.data.toList.length := by rw [← Lib.size_eq]; exact hlt
      have hd : isD (t[p]'hlt) = true := by rw [at_data t p hlt]; exact List.all_eq_true.1 HALL.out _ (List.getElem_mem hpl)
      have hdec := next_digit t p hlt hd
      have hd' := (isD_iff _).1 hd
      have hst : sval true (t.data.toList.take (p + 1)) = n * 10 + sgn true (t[p]'hlt).toNat := by rw [hn.out.1]; exact sval_step hpl
      have HST := Lib.hid hst
      have HIT := Lib.hid hit
      have hnx : ∀ ty, (Instr.next (.pointer (some ⟨w3.heap.size, 0, none⟩)) true ty).run Tryd.prog wr = .ok (.tuple #[.bool true, .int .i64 p, .int .i32 ((t[p]'hlt).toNat : Nat)]) (wr.iterAt w3.heap.size t (p + 1)) := fun ty => by rw [Lib.run_next_any_at wr w3.heap.size t p ty hit hlt, hdec]
      have hB2 : Below w3.heap.size w3 (wr.iterAt w3.heap.size t (p + 1)) := Lib.below_iterAt hB (Nat.le_refl _) t (p + 1)
      have hit2 : Hid ((wr.iterAt w3.heap.size t (p + 1)).heap[w3.heap.size]? = some (.stringIter t (p + 1))) := Lib.iterAt_heap wr w3.heap.size t p (p + 1) hit
      have hsz2 : w3.heap.size < (wr.iterAt w3.heap.size t (p + 1)).heap.size := by rw [Lib.iterAt_size]; exact hsz
      generalize (t[p]'hlt).toNat = r at *
      obtain ⟨wq, hwq⟩ : ∃ wq, wq = wr.iterAt w3.heap.size t (p + 1) := ⟨_, rfl⟩
      rw [← hwq] at hnx hB2 hit2 hsz2
      clear hd hdec hst hwq hit hB
      have H3 := Lib.hid fun W => mul10_any n hn.out.2 W
      go_wp2_with fail
      refine (H3.out _).mono ?_
      rintro e w4 ⟨rfl, b4⟩
      have hB4 := hB2.trans (b4.mono (Nat.le_of_lt hsz2))
      have hsz4 : w3.heap.size < w4.heap.size := Nat.lt_of_lt_of_le hsz2 b4.size
      cases hf : fitB (n * 10)
      · have hno : fitB (sval true t.data.toList) = false := sval_no10 hpl (by rw [← hn.out.1]; exact hf)
        have HN := Lib.hid hno
        clear hno hf
        go_wp2_with fail
        go_ret2
        exact ⟨by rw [rErr_no HN.out, fitN_not HN.out]; rfl, hB3.trans (hB4.mono (Nat.le_of_lt hs3))⟩
      · have hft : Hid (fitN (n * 10) = n * 10) := fitN_of hf
        have HF := Lib.hid hf
        rw [hft.out]
        clear hf
        have hit4 : Hid (w4.heap[w3.heap.size]? = some (.stringIter t (p + 1))) := (b4.block _ hsz2).trans hit2.out
        have hc4 : w4.cell? ⟨w.heap.size, 0, none⟩ = some (.bool true) := (hB4.cell (p := ⟨w.heap.size, 0, none⟩) hs3).trans hc3
        have hsg : Hid (sgn true r = -((r : Int) - 48)) := sgn_neg (by omega)
        have hbd := sgn_bd true (r := r) (by omega)
        have H5 := Lib.hid fun W => add_fit (n * 10) (sgn true r) HF.out hbd.1 hbd.2 W
        rw [hsg.out] at H5
        go_wp2_with fail
        refine (sign_neg _ (by omega) (by omega) w.heap.size _ hc4).mono ?_
        rintro e w5 ⟨rfl, rfl⟩
        go_wp2_with fail
        refine (H5.out _).mono ?_
        rintro e w6 ⟨rfl, b6⟩
        have hB6 := hB4.trans (b6.mono (Nat.le_of_lt hsz4))
        have hit6 : Hid (w6.heap[w3.heap.size]? = some (.stringIter t (p + 1))) := (b6.block _ hsz4).trans hit4.out
        have HV : Hid (n * 10 + (-((r : Int) - 48)) = sval true (t.data.toList.take (p + 1))) := by rw [← hsg.out]; exact HST.out.symm
        rw [HV.out]
        cases hf2 : fitB (sval true (t.data.toList.take (p + 1)))
        · have HN : Hid (fitB (sval true t.data.toList) = false) := sval_no hf2
          clear hf2
          go_wp2_with fail
          go_ret2
          exact ⟨by rw [rErr_no HN.out, fitN_not HN.out]; rfl, hB3.trans (hB6.mono (Nat.le_of_lt hs3))⟩
        · have HF2 := Lib.hid hf2
          clear hf2
          go_wp2_with fail
          go_roundw
          case rel => exact ⟨p + 1, _, rfl, by omega, hit6.out, hB6, fitN_of HF2.out, by rw [fitN_of HF2.out]; exact HF2.out⟩
          case measure => rw [iterPos_at hit6.out, iterPos_at HIT.out]; omega
    · have hnx : ∀ ty, (Instr.next (.pointer (some ⟨w3.heap.size, 0, none⟩)) true ty).run Tryd.prog wr = _ := fun ty => Lib.run_next_end_at wr w3.heap.size t p ty hit hlt
      have hlen : p = t.data.toList.length := by rw [← Lib.size_eq]; omega
      have HN : Hid (n = sval true t.data.toList ∧ fitB (sval true t.data.toList) = true) := by
        have := hn.out
        rw [hlen, List.take_length] at this
        exact ⟨this.1, by rw [← this.1]; exact this.2⟩
      clear hlen hit
      go_wp2_with fail
      go_ret2
      exact ⟨by rw [rErr_yes HN.out.2, fitN_of HN.out.2, ← HN.out.1]; rfl, hB3.trans (hB.mono (Nat.le_of_lt hs3))⟩

set_option maxHeartbeats 1600000 in
theorem read_pos (s : ByteArray) (hneg : negS s = false) (hlk : looksL (tlS s) false = true) (w : World) :
    Calls Tryd.prog 62 #[.string s] w fun e w' => e = .returned (.tuple #[.int .i64 (fitN (sval false (tlS s))), .int .i64 (rErr (sval false (tlS s)))]) ∧ Below w.heap.size w w' := by
  have H1 := Lib.hid fun W => signed_pos s hneg W
  have H2 := Lib.hid fun W => looks_any (tlB s) false W
  rw [tlB_list, hlk] at H2
  have hall : (tlB s).data.toList.all isD = true := by rw [tlB_list]; exact looksL_all hlk
  have HALL := Lib.hid hall
  rw [← tlB_list s]
  generalize tlB s = t at *
  clear hall hlk hneg
  go_enter Tryd.func62, Tryd.ntmps62
  go_wp2_with fail
  refine (H1.out _).mono ?_
  rintro e w1 ⟨rfl, rfl⟩
  go_wp2_with fail
  refine (sign_pos 1 w.heap.size _ (by simp)).mono ?_
  rintro e w2 ⟨rfl, rfl⟩
  go_wp2_with fail
  refine (H2.out _).mono ?_
  rintro e w3 ⟨rfl, b3⟩
  have hs3 : w.heap.size < w3.heap.size := by have := b3.size; simp at this; omega
  have hB3 : Below w.heap.size w w3 := ((Below.refl _ _).alloc (Nat.le_refl _) _).trans (b3.mono (by simp))
  have hc3 : w3.cell? ⟨w.heap.size, 0, none⟩ = some (.bool false) := (b3.cell (p := ⟨w.heap.size, 0, none⟩) (by simp)).trans (by simp)
  clear b3
  go_wp2_with fail
  go_loopw [6] (fun v wr => ∃ (p : Nat) (n : Int), v = .int .i64 n ∧ p ≤ t.size ∧ wr.heap[w3.heap.size]? = some (.stringIter t p) ∧ Below w3.heap.size w3 wr ∧ Hid (n = sval false (t.data.toList.take p) ∧ fitB n = true)) (fun _ wr => t.size - wr.iterPos w3.heap.size)
  case atStart => exact ⟨0, 0, rfl, Nat.zero_le _, World.iter_heap _ _ _, (Below.refl _ _).alloc (Nat.le_refl _) _, rfl, rfl⟩
  case round =>
    obtain ⟨p, n, rfl, hp, hit, hB, hn⟩ := hrel
    have hsz : w3.heap.size < wr.heap.size := (Array.getElem?_eq_some_iff.1 hit).1
    by_cases hlt : p < t.size
    · have hpl : p < t.data.toList.length := by rw [← Lib.size_eq]; exact hlt
      have hd : isD (t[p]'hlt) = true := by rw [at_data t p hlt]; exact List.all_eq_true.1 HALL.out _ (List.getElem_mem hpl)
      have hdec := next_digit t p hlt hd
      have hd' := (isD_iff _).1 hd
      have hst : sval false (t.data.toList.take (p + 1)) = n * 10 + sgn false (t[p]'hlt).toNat := by rw [hn.out.1]; exact sval_step hpl
      have HST := Lib.hid hst
      have HIT := Lib.hid hit
      have hnx : ∀ ty, (Instr.next (.pointer (some ⟨w3.heap.size, 0, none⟩)) true ty).run Tryd.prog wr = .ok (.tuple #[.bool true, .int .i64 p, .int .i32 ((t[p]'hlt).toNat : Nat)]) (wr.iterAt w3.heap.size t (p + 1)) := fun ty => by rw [Lib.run_next_any_at wr w3.heap.size t p ty hit hlt, hdec]
      have hB2 : Below w3.heap.size w3 (wr.iterAt w3.heap.size t (p + 1)) := Lib.below_iterAt hB (Nat.le_refl _) t (p + 1)
      have hit2 : Hid ((wr.iterAt w3.heap.size t (p + 1)).heap[w3.heap.size]? = some (.stringIter t (p + 1))) := Lib.iterAt_heap wr w3.heap.size t p (p + 1) hit
      have hsz2 : w3.heap.size < (wr.iterAt w3.heap.size t (p + 1)).heap.size := by rw [Lib.iterAt_size]; exact hsz
      generalize (t[p]'hlt).toNat = r at *
      obtain ⟨wq, hwq⟩ : ∃ wq, wq = wr.iterAt w3.heap.size t (p + 1) := ⟨_, rfl⟩
      rw [← hwq] at hnx hB2 hit2 hsz2
      clear hd hdec hst hwq hit hB
      have H3 := Lib.hid fun W => mul10_any n hn.out.2 W
      go_wp2_with fail
      refine (H3.out _).mono ?_
      rintro e w4 ⟨rfl, b4⟩
      have hB4 := hB2.trans (b4.mono (Nat.le_of_lt hsz2))
      have hsz4 : w3.heap.size < w4.heap.size := Nat.lt_of_lt_of_le hsz2 b4.size
      cases hf : fitB (n * 10)
      · have hno : fitB (sval false t.data.toList) = false := sval_no10 hpl (by rw [← hn.out.1]; exact hf)
        have HN := Lib.hid hno
        clear hno hf
        go_wp2_with fail
        go_ret2
        exact ⟨by rw [rErr_no HN.out, fitN_not HN.out]; rfl, hB3.trans (hB4.mono (Nat.le_of_lt hs3))⟩
      · have hft : Hid (fitN (n * 10) = n * 10) := fitN_of hf
        have HF := Lib.hid hf
        rw [hft.out]
        clear hf
        have hit4 : Hid (w4.heap[w3.heap.size]? = some (.stringIter t (p + 1))) := (b4.block _ hsz2).trans hit2.out
        have hc4 : w4.cell? ⟨w.heap.size, 0, none⟩ = some (.bool false) := (hB4.cell (p := ⟨w.heap.size, 0, none⟩) hs3).trans hc3
        have hsg : Hid (sgn false r = (r : Int) - 48) := sgn_pos (by omega)
        have hbd := sgn_bd false (r := r) (by omega)
        have H5 := Lib.hid fun W => add_fit (n * 10) (sgn false r) HF.out hbd.1 hbd.2 W
        rw [hsg.out] at H5
        go_wp2_with fail
        refine (sign_pos _ w.heap.size _ hc4).mono ?_
        rintro e w5 ⟨rfl, rfl⟩
        go_wp2_with fail
        refine (H5.out _).mono ?_
        rintro e w6 ⟨rfl, b6⟩
        have hB6 := hB4.trans (b6.mono (Nat.le_of_lt hsz4))
        have hit6 : Hid (w6.heap[w3.heap.size]? = some (.stringIter t (p + 1))) := (b6.block _ hsz4).trans hit4.out
        have HV : Hid (n * 10 + ((r : Int) - 48) = sval false (t.data.toList.take (p + 1))) := by rw [← hsg.out]; exact HST.out.symm
        rw [HV.out]
        cases hf2 : fitB (sval false (t.data.toList.take (p + 1)))
        · have HN : Hid (fitB (sval false t.data.toList) = false) := sval_no hf2
          clear hf2
          go_wp2_with fail
          go_ret2
          exact ⟨by rw [rErr_no HN.out, fitN_not HN.out]; rfl, hB3.trans (hB6.mono (Nat.le_of_lt hs3))⟩
        · have HF2 := Lib.hid hf2
          clear hf2
          go_wp2_with fail
          go_roundw
          case rel => exact ⟨p + 1, _, rfl, by omega, hit6.out, hB6, fitN_of HF2.out, by rw [fitN_of HF2.out]; exact HF2.out⟩
          case measure => rw [iterPos_at hit6.out, iterPos_at HIT.out]; omega
    · have hnx : ∀ ty, (Instr.next (.pointer (some ⟨w3.heap.size, 0, none⟩)) true ty).run Tryd.prog wr = _ := fun ty => Lib.run_next_end_at wr w3.heap.size t p ty hit hlt
      have hlen : p = t.data.toList.length := by rw [← Lib.size_eq]; omega
      have HN : Hid (n = sval false t.data.toList ∧ fitB (sval false t.data.toList) = true) := by
        have := hn.out
        rw [hlen, List.take_length] at this
        exact ⟨this.1, by rw [← this.1]; exact this.2⟩
      clear hlen hit
      go_wp2_with fail
      go_ret2
      exact ⟨by rw [rErr_yes HN.out.2, fitN_of HN.out.2, ← HN.out.1]; rfl, hB3.trans (hB.mono (Nat.le_of_lt hs3))⟩

set_option maxHeartbeats 400000 in
theorem read_not_neg (s : ByteArray) (hneg : negS s = true) (hlk : looksL (tlS s) true = false) (w : World) :
    Calls Tryd.prog 62 #[.string s] w fun e w' => e = .returned (.tuple #[.int .i64 0, .int .i64 110]) ∧ Below w.heap.size w w' := by
  have H1 := Lib.hid fun W => signed_neg s hneg W
  have H2 := Lib.hid fun W => looks_any (tlB s) true W
  rw [tlB_list, hlk] at H2
  generalize tlB s = t at *
  clear hlk hneg
  go_enter Tryd.func62, Tryd.ntmps62
  go_wp2_with fail
  refine (H1.out _).mono ?_
  rintro e w1 ⟨rfl, rfl⟩
  go_wp2_with fail
  refine (sign_neg 1 (by decide) (by decide) w.heap.size _ (by simp)).mono ?_
  rintro e w2 ⟨rfl, rfl⟩
  go_wp2_with fail
  refine (H2.out _).mono ?_
  rintro e w3 ⟨rfl, b3⟩
  go_wp2_with fail
  go_ret2
  exact ⟨rfl, ((Below.refl _ _).alloc (Nat.le_refl _) _).trans (b3.mono (by simp))⟩

set_option maxHeartbeats 400000 in
theorem read_not_pos (s : ByteArray) (hneg : negS s = false) (hlk : looksL (tlS s) false = false) (w : World) :
    Calls Tryd.prog 62 #[.string s] w fun e w' => e = .returned (.tuple #[.int .i64 0, .int .i64 110]) ∧ Below w.heap.size w w' := by
  have H1 := Lib.hid fun W => signed_pos s hneg W
  have H2 := Lib.hid fun W => looks_any (tlB s) false W
  rw [tlB_list, hlk] at H2
  generalize tlB s = t at *
  clear hlk hneg
  go_enter Tryd.func62, Tryd.ntmps62
  go_wp2_with fail
  refine (H1.out _).mono ?_
  rintro e w1 ⟨rfl, rfl⟩
  go_wp2_with fail
  refine (sign_pos 1 w.heap.size _ (by simp)).mono ?_
  rintro e w2 ⟨rfl, rfl⟩
  go_wp2_with fail
  refine (H2.out _).mono ?_
  rintro e w3 ⟨rfl, b3⟩
  go_wp2_with fail
  go_ret2
  exact ⟨rfl, ((Below.refl _ _).alloc (Nat.le_refl _) _).trans (b3.mono (by simp))⟩

/-- What Read answers: the number, and the error. -/
def readN (s : ByteArray) : Int := if looksL (tlS s) (negS s) = true then fitN (sval (negS s) (tlS s)) else 0
def readE (s : ByteArray) : Int := if looksL (tlS s) (negS s) = true then rErr (sval (negS s) (tlS s)) else 110

theorem read_any (s : ByteArray) (w : World) :
    Calls Tryd.prog 62 #[.string s] w fun e w' => e = .returned (.tuple #[.int .i64 (readN s), .int .i64 (readE s)]) ∧ Below w.heap.size w w' := by
  unfold readN readE
  cases hn : negS s <;> cases hl : looksL (tlS s) (negS s) <;> rw [hn] at hl <;> rw [hl]
  · exact read_not_pos s hn hl w
  · exact read_pos s hn hl w
  · exact read_not_neg s hn hl w
  · exact read_neg s hn hl w
end Go.Proofs.YthccgpjbchlocaaDoor
