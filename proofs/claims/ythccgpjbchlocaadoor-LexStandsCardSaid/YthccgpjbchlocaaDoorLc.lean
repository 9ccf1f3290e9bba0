/- Layer lex: what run gives with the gap's closure; gap. -/
import Derived.Test.YthccgpjbchlocaaDoorLb
import Derived.Test.YthccgpjbchlocaaDoorLw
namespace Go.Proofs.YthccgpjbchlocaaDoor
open Go.RowKit

/-- How run ends: at which byte, and what the closure's variable holds. -/
def RunGap (s : ByteArray) (K : Nat) (w : World) (e : Ending) (w' : World) : Prop :=
  ∃ (n : Nat) (rem : Bool), e = .returned (.int .i64 n) ∧ n ≤ s.size ∧ w'.cell? ⟨K, 0, none⟩ = some (.bool rem) ∧ Below K w w' ∧ GapEnd s.data.toList n (rem && decide (n < s.size) && decide (bt (s.data.toList.drop n) 0 ≠ 10))

set_option maxHeartbeats 1600000 in
theorem runGap_any (s : ByteArray) (K : Nat) (w : World) (hK : K < w.heap.size) (hc : w.cell? ⟨K, 0, none⟩ = some (.bool false)) (hf : w.frozen? ⟨K, 0, none⟩ = false) :
    Calls Tryd.prog 33 #[.string s, .func (Fn.func 53) #[] #[.pointer (some ⟨K, 0, none⟩)]] w (RunGap s K w) := by
  have HC := Lib.hid hc
  have HF := Lib.hid hf
  clear hc hf
  go_enter Tryd.func33, Tryd.ntmps33
  go_wp2_with fail
  go_loopw [] (fun wr => ∃ (p : Nat) (rem : Bool), p ≤ s.size ∧ wr.heap[w.heap.size]? = some (.stringIter s p) ∧ Below K w wr ∧ wr.cell? ⟨K, 0, none⟩ = some (.bool rem) ∧ wr.frozen? ⟨K, 0, none⟩ = false ∧ GapAt s.data.toList p rem) (fun wr => s.size - wr.iterPos w.heap.size)
  case atStart =>
    have hb : Below w.heap.size w (w.iter s 0) := (Below.refl _ _).alloc (Nat.le_refl _) _
    exact ⟨0, false, Nat.zero_le _, World.iter_heap _ _ _, hb.mono (Nat.le_of_lt hK), (hb.cell (p := ⟨K, 0, none⟩) hK).trans HC.out, (hb.frozen (p := ⟨K, 0, none⟩) hK).trans HF.out, GapAt.zero _⟩
  case round =>
    obtain ⟨p, rem, hp, hit, hB, hcr, hfr, hI⟩ := hrel
    have hsz : w.heap.size < wr.heap.size := (Array.getElem?_eq_some_iff.1 hit).1
    have hKk : K ≠ w.heap.size := by omega
    by_cases hlt : p < s.size
    · have hne := drop_ne hlt
      have hwd := width_le hlt
      have hw1 := (decL_width (s.data.toList.drop p)).1
      have hit1 := Lib.iterAt_heap wr w.heap.size s p (p + (decL (s.data.toList.drop p)).2) hit
      have hk1 := iter_keeps wr w.heap.size K 0 s (p + (decL (s.data.toList.drop p)).2) hKk
      have hB1 := Lib.below_iterAt hB (Nat.le_of_lt hK) s (p + (decL (s.data.toList.drop p)).2)
      have hnx : ∀ ty, (Instr.next (.pointer (some ⟨w.heap.size, 0, none⟩)) true ty).run Tryd.prog wr = .ok (.tuple #[.bool true, .int .i64 p, .int .i32 ((decL (s.data.toList.drop p)).1 : Nat)]) (wr.iterAt w.heap.size s (p + (decL (s.data.toList.drop p)).2)) := fun ty => by rw [Lib.run_next_any_at wr w.heap.size s p ty hit hlt, decode_drop]
      have hHW := isWrong_any (s.extract p s.size)
      rw [extract_list] at hHW
      have HW := Lib.hid hHW
      have hG1 := fun W h1 h2 => gapClo_any p ((decL (s.data.toList.drop p)).1 : Nat) rem K W h1 h2
      have hSt := fun hb hgo => hI.stop hne hb hgo
      have hGo := fun hb hgo => hI.go hne hb hgo
      have hBa := fun hb => hI.bad hne hb
      obtain ⟨t, ht⟩ : ∃ t, s.extract p s.size = t := ⟨_, rfl⟩
      rw [ht] at HW
      have HIT := Lib.hid hit
      have HIT1 := Lib.hid hit1
      obtain ⟨wq, hwq⟩ : ∃ wq, wq = wr.iterAt w.heap.size s (p + (decL (s.data.toList.drop p)).2) := ⟨_, rfl⟩
      rw [← hwq] at hnx HIT1 hk1 hB1
      have hcq : wq.cell? ⟨K, 0, none⟩ = some (.bool rem) := hk1.1.trans hcr
      have hfq : wq.frozen? ⟨K, 0, none⟩ = false := hk1.2.trans hfr
      have HCQ := Lib.hid hcq
      have HFQ := Lib.hid hfq
      have hset := fun v => World.cell?_setCell_same' wq ⟨K, 0, none⟩ v (by rw [hcq]; rfl)
      have HSET := Lib.hid hset
      have hfset : ∀ v, (wq.setCell ⟨K, 0, none⟩ v).frozen? ⟨K, 0, none⟩ = false := fun v => by rw [World.frozen?_setCell]; exact hfq
      have HFSET := Lib.hid hfset
      clear hit hit1 hk1 hB hcr hfr hHW hne hwq hI hcq hfq hset hfset
      generalize (decL (s.data.toList.drop p)).1 = r at *
      generalize (decL (s.data.toList.drop p)).2 = d at *
      cases hbad : bad (s.data.toList.drop p)
      · rw [hbad] at HW
        cases hgo : gapGo rem (r : Nat)
        · have hst := hSt hbad hgo
          have HG := Lib.hid hG1
          rw [hgo] at HG
          have hfin : RunGap s K w (.returned (.int .i64 p)) (wq.setCell ⟨K, 0, none⟩ (.bool (rem || (r : Int) == 35))) :=
            ⟨p, rem, rfl, hp, by rw [HSET.out, hst.2], hB1.setCell (p := ⟨K, 0, none⟩) (Nat.le_refl _) _, by rw [decide_eq_true hlt, Bool.and_true]; exact hst.1⟩
          have HFIN := Lib.hid hfin
          clear hfin hst hgo hbad hSt hGo hBa hG1
          go_wp2_with fail
          refine (HW.out _).mono ?_
          rintro e w1 ⟨rfl, rfl⟩
          go_wp2_with fail
          refine (HG.out _ HCQ.out HFQ.out).mono ?_
          rintro e w2 ⟨rfl, rfl⟩
          go_wp2_with fail
          go_ret
          exact HFIN.out
        · have hst := Lib.hid (hGo hbad hgo)
          have HG := Lib.hid hG1
          rw [hgo] at HG
          have HB2 := Lib.hid (hB1.setCell (p := ⟨K, 0, none⟩) (Nat.le_refl _) (.bool (rem || (r : Int) == 35)))
          have HIT2 : Hid ((wq.setCell ⟨K, 0, none⟩ (.bool (rem || (r : Int) == 35))).heap[w.heap.size]? = some (.stringIter s (p + d))) := (Below.heap_setCell _ _ _ _ (fun e => hKk e.symm)).trans HIT1.out
          clear hgo hbad hSt hGo hBa hG1 hB1
          go_wp2_with fail
          refine (HW.out _).mono ?_
          rintro e w1 ⟨rfl, rfl⟩
          go_wp2_with fail
          refine (HG.out _ HCQ.out HFQ.out).mono ?_
          rintro e w2 ⟨rfl, rfl⟩
          go_wp2_with fail
          go_roundw
          case rel => exact ⟨p + d, _, hwd, HIT2.out, HB2.out, HSET.out _, HFSET.out _, hst.out⟩
          case measure => rw [iterPos_is HIT2.out, iterPos_is HIT.out]; omega
      · rw [hbad] at HW
        have hst := hBa hbad
        have hfin : RunGap s K w (.returned (.int .i64 p)) wq :=
          ⟨p, rem, rfl, hp, HCQ.out, hB1, by rw [decide_eq_true hlt, Bool.and_true]; exact hst⟩
        have HFIN := Lib.hid hfin
        clear hfin hst hbad hSt hGo hBa hG1
        go_wp2_with fail
        refine (HW.out _).mono ?_
        rintro e w1 ⟨rfl, rfl⟩
        go_wp2_with fail
        go_ret
        exact HFIN.out
    · have hnx : ∀ ty, (Instr.next (.pointer (some ⟨w.heap.size, 0, none⟩)) true ty).run Tryd.prog wr = _ := fun ty => Lib.run_next_end_at wr w.heap.size s p ty hit hlt
      have hfi := hI.fin (drop_end hlt)
      obtain rfl : p = s.size := by omega
      have hfin : RunGap s K w (.returned (.int .i64 s.size)) wr := ⟨s.size, rem, rfl, hp, hcr, hB, by rw [decide_eq_false hlt, Bool.and_false, Bool.false_and]; exact hfi⟩
      have HFIN := Lib.hid hfin
      clear hfin hfi hI hit hcr hfr hB hlt
      go_wp2_with fail
      go_ret
      exact HFIN.out

theorem gapEnd_is {l : List UInt8} {n : Nat} {b : Bool} (h : GapEnd l n b) : n = (gapI false (items l)).1 ∧ (gapI false (items l)).2.1 = b := ⟨h.1.symm, h.2⟩
set_option maxHeartbeats 800000 in
theorem gap_any (s : ByteArray) (w : World) :
    Calls Tryd.prog 40 #[.string s] w fun e w' => e = .returned (.tuple #[.int .i64 (gapN s.data.toList), .int .i64 (gapE s.data.toList)]) ∧ Below w.heap.size w w' := by
  have H := Lib.hid fun W h1 h2 h3 => runGap_any s w.heap.size W h1 h2 h3
  go_enter Tryd.func40, Tryd.ntmps40
  go_wp2_with fail
  refine (H.out _ (by simp) (by simp) (by simp)).mono ?_
  rintro e w1 ⟨n, rem, rfl, hn, hc, hB, hE⟩
  have hB2 : Below w.heap.size w w1 := ((Below.refl _ _).alloc (Nat.le_refl _) _).trans hB
  obtain ⟨hn1, hbd⟩ := gapEnd_is hE
  have HN : Hid (n = gapN s.data.toList) := hn1
  clear hn1 hE hB
  have HBD : Hid (gapB s.data.toList = _) := hbd
  clear hbd
  cases rem
  · have HE : Hid (gapE s.data.toList = 0) := gapE_no (by rw [HBD.out]; simp)
    go_wp2_with fail
    go_ret2
    exact ⟨by rw [← HN.out, HE.out]; rfl, hB2⟩
  · by_cases hlt : n < s.size
    · have hby := byte_drop hlt
      by_cases h10 : (s[n]'hlt).toNat = 10
      · have HE : Hid (gapE s.data.toList = 0) := gapE_no (by rw [HBD.out, hby]; simp [h10])
        have hb : (((s[n]'hlt).toNat : Int) != 10) = false := by simp; omega
        clear h10 hby
        go_wp2_with fail
        go_ret2
        exact ⟨by rw [← HN.out, HE.out]; rfl, hB2⟩
      · have HE : Hid (gapE s.data.toList = 120) := gapE_yes (by rw [HBD.out, hby]; simp [h10, hlt])
        have hb : (((s[n]'hlt).toNat : Int) != 10) = true := by simp; omega
        clear h10 hby
        go_wp2_with fail
        go_ret2
        exact ⟨by rw [← HN.out, HE.out]; rfl, hB2⟩
    · have HE : Hid (gapE s.data.toList = 0) := gapE_no (by rw [HBD.out]; simp [hlt])
      go_wp2_with fail
      go_ret2
      exact ⟨by rw [← HN.out, HE.out]; rfl, hB2⟩
end Go.Proofs.YthccgpjbchlocaaDoor
