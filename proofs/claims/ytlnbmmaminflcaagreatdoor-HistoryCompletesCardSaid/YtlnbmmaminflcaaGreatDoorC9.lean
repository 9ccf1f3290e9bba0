/- Layer history: histories as plain data, what they speak of, numbered anew, completed: plain facts. -/
import Derived.Lib.OthersKept
import Derived.BigQuiet
import Derived.Deep.QuietTactic
import Derived.Test.YtlnbmmaminflcaaGreatDoorC6
import Derived.Test.YtlnbmmaminflcaaGreatDoorC8
import Derived.Test.YtlnbmmaminflcaaGreatDoorShelf
import Derived.Test.YtlnbmmaminflcaaGreatDoorC1
-- holds: YtlnbmmaminflcaaGreatDoorSLb YtlnbmmaminflcaaGreatDoorSLd YtlnbmmaminflcaaGreatDoorSIa
namespace Go.Proofs.YtlnbmmaminflcaaGreatDoor
open Go.RowKit

set_option maxHeartbeats 400000 in
theorem isWrong_any (s : ByteArray) (w : World) :
 Calls Tryz.prog 134 #[.string s, .int .i32 ((decL s.data.toList).1 : Nat)] w fun e w' => e = .returned (.bool (bad s.data.toList)) ∧ w = w' := by
 have h := wrong_pref s.data.toList
 have HP : Hid (∀ w : World, Calls Tryz.prog 137 #[.string s, .string ⟨#[239, 191, 189]⟩] w fun e w' => e = .returned (.bool (Lib.hasPrefix s.data.toList [239, 191, 189])) ∧ w = w') := fun w =>
  (Tryz.strings_HasPrefix s ⟨#[239, 191, 189]⟩ w).mono fun e w' hp => ⟨hp.1, hp.2.symm⟩
 generalize Lib.hasPrefix s.data.toList [239, 191, 189] = p at *
 rw [← h]
 clear h
 generalize (decL s.data.toList).1 = r at *
 by_cases hr : r = 65533
 ·have hrb : ((r : Int) == 65533) = true := by simp; omega
  rw [decide_eq_true hr, Bool.true_and]
  clear hr
  go_enter Tryz.func134, Tryz.ntmps134
  go_wp2_with fail
  refine (HP.out _).mono ?_
  rintro e w1 ⟨rfl, rfl⟩
  go_wp2_with fail
  go_ret
  exact ⟨rfl, rfl⟩
 ·have hrb : ((r : Int) == 65533) = false := by simp; omega
  rw [decide_eq_false hr, Bool.false_and]
  clear hr
  go_enter Tryz.func134, Tryz.ntmps134
  go_wp2_with fail
  go_ret
  exact ⟨rfl, rfl⟩


set_option maxHeartbeats 800000 in
theorem wordClo_no (u : Nat) (r : Int) (K : Nat) (w : World) (h : wordGo u r = false) :
 Calls Tryz.prog 127 #[.int .i64 u, .int .i32 r, .pointer (some ⟨K, 0, none⟩)] w fun e w' => e = .returned (.bool false) ∧ w = w' := by
 have HL := Lib.hid fun w => isLetter_any r w
 have HD := Lib.hid fun w => isDg_any r w
 unfold wordGo at h
 have hl : isLt r = false := by simp at h; exact h.1
 rw [hl] at HL h
 rw [Bool.false_or] at h
 clear hl
 by_cases hu : u = 0
 ·have hub : ((u : Int) == 0) = true := by simp; omega
  clear h hu
  go_enter Tryz.func127, Tryz.ntmps127
  go_wp2_with fail
  refine (HL.out _).mono ?_
  rintro e w1 ⟨rfl, rfl⟩
  go_wp2_with fail
  go_ret
  exact ⟨rfl, rfl⟩
 ·have hub : ((u : Int) == 0) = false := by simp; omega
  have hd : isDg r = false := by simp at h; exact h hu
  rw [hd] at HD
  clear h hd hu
  go_enter Tryz.func127, Tryz.ntmps127
  go_wp2_with fail
  refine (HL.out _).mono ?_
  rintro e w1 ⟨rfl, rfl⟩
  go_wp2_with fail
  refine (HD.out _).mono ?_
  rintro e w1 ⟨rfl, rfl⟩
  go_wp2_with fail
  go_ret
  exact ⟨rfl, rfl⟩

set_option maxHeartbeats 800000 in
theorem wordClo_yes (u n : Nat) (r : Int) (b : Bool) (K : Nat) (w : World) (hc : w.cell? ⟨K, 0, none⟩ = some (.bool b)) (hf : w.frozen? ⟨K, 0, none⟩ = false) (h : wordGo u r = true) (hn : Lib.runeLen r = n) (hn4 : n ≤ 4) (hu9 : u ≤ 9223372036854775800) :
 Calls Tryz.prog 127 #[.int .i64 u, .int .i32 r, .pointer (some ⟨K, 0, none⟩)] w fun e w' => e = .returned (.bool (!decide (24 < u + n))) ∧ w' = w.setCell ⟨K, 0, none⟩ (.bool (decide (24 < u + n))) := by
 have HL := Lib.hid fun w => isLetter_any r w
 have HD := Lib.hid fun w => isDg_any r w
 have HR : Hid (∀ w : World, Calls Tryz.prog 130 #[.int .i32 r] w fun e w' => e = .returned (.int .i64 n) ∧ w = w') := fun w => by
  rw [← hn]; exact (Tryz.utf8_RuneLen r w).mono fun e w' hp => ⟨hp.1, hp.2.symm⟩
 have hc2 := World.cell?_setCell_same' w ⟨K, 0, none⟩ (.bool (decide (24 < u + n))) (by rw [hc]; rfl)
 clear hn
 unfold wordGo at h
 have hd24 : decide (24 < u + n) = decide ((24 : Int) < (u : Int) + n) := by rw [decide_eq_decide]; omega
 rw [hd24] at hc2 ⊢
 cases hl : isLt r
 ·rw [hl] at HL h
  rw [Bool.false_or] at h
  have hu : u ≠ 0 := by simp at h; exact h.1
  have hd : isDg r = true := by simp at h; exact h.2
  rw [hd] at HD
  have hub : ((u : Int) == 0) = false := by simp; omega
  clear h hd hl hd24
  cases h24 : decide ((24 : Int) < (u : Int) + n)
  all_goals
   rw [h24] at hc2
   go_enter Tryz.func127, Tryz.ntmps127
   go_wp2_with fail
   refine (HL.out _).mono ?_
   rintro e w1 ⟨rfl, rfl⟩
   go_wp2_with fail
   refine (HD.out _).mono ?_
   rintro e w1 ⟨rfl, rfl⟩
   go_wp2_with fail
   refine (HR.out _).mono ?_
   rintro e w1 ⟨rfl, rfl⟩
   go_wp2_with fail
   go_ret
   exact ⟨rfl, rfl⟩
 ·rw [hl] at HL
  clear h hl hd24
  cases h24 : decide ((24 : Int) < (u : Int) + n)
  all_goals
   rw [h24] at hc2
   go_enter Tryz.func127, Tryz.ntmps127
   go_wp2_with fail
   refine (HL.out _).mono ?_
   rintro e w1 ⟨rfl, rfl⟩
   go_wp2_with fail
   refine (HR.out _).mono ?_
   rintro e w1 ⟨rfl, rfl⟩
   go_wp2_with fail
   go_ret
   exact ⟨rfl, rfl⟩
end Go.Proofs.YtlnbmmaminflcaaGreatDoor
namespace Go.Proofs.YtlnbmmaminflcaaGreatDoor
open Go.RowKit

def RunWord (s : ByteArray) (K : Nat) (w : World) (e : Ending) (w' : World) : Prop :=
 ∃ (n : Nat) (full : Bool), e = .returned (.int .i64 n) ∧ n ≤ s.size ∧ w'.cell? ⟨K, 0, none⟩ = some (.bool full) ∧ Below K w w' ∧ WordEnd s.data.toList n full

theorem wordI_ge : ∀ (I : List It) (u : Nat), u ≤ (wordI u I).1
 | [], u => Nat.le_refl _
 | (c, bs) :: I, u => by
  cases hg : wordGo u c
  ·rw [wordI_no hg]; exact Nat.le_refl _
  ·by_cases h24 : 24 < u + bs.length
   ·unfold wordI
    rw [if_pos hg, if_pos h24]
    exact Nat.le_refl _
   ·rw [wordI_go hg h24]
    exact Nat.le_trans (Nat.le_add_right _ _) (wordI_ge I _)
theorem WordAt.le24 {l : List UInt8} {p : Nat} (h : WordAt l p) : p ≤ 24 := by
 unfold WordAt at h
 have h1 := wordI_le (items l) 0 (by omega)
 have h2 := wordI_ge (items (l.drop p)) p
 rw [h] at h1
 omega

set_option maxHeartbeats 1600000 in
theorem runWord_any (s : ByteArray) (K : Nat) (w : World) (hK : K < w.heap.size) (hc : w.cell? ⟨K, 0, none⟩ = some (.bool false)) (hf : w.frozen? ⟨K, 0, none⟩ = false) (_hs : s.size ≤ 9223372036854775807) :
 Calls Tryz.prog 126 #[.string s, .func (Fn.func 127) #[] #[.pointer (some ⟨K, 0, none⟩)]] w (RunWord s K w) := by
 have HC := Lib.hid hc
 have HF := Lib.hid hf
 clear hc hf
 go_enter Tryz.func126, Tryz.ntmps126
 go_wp2_with fail
 go_loopw [] (fun wr => ∃ p : Nat, p ≤ s.size ∧ wr.heap[w.heap.size]? = some (.stringIter s p) ∧ Below K w wr ∧ wr.cell? ⟨K, 0, none⟩ = some (.bool false) ∧ wr.frozen? ⟨K, 0, none⟩ = false ∧ WordAt s.data.toList p) (fun wr => s.size - wr.iterPos w.heap.size)
 case atStart =>
  have hb : Below w.heap.size w (w.iter s 0) := (Below.refl _ _).alloc (Nat.le_refl _) _
  exact ⟨0, Nat.zero_le _, World.iter_heap _ _ _, hb.mono (Nat.le_of_lt hK), (hb.cell (p := ⟨K, 0, none⟩) hK).trans HC.out, (hb.frozen (p := ⟨K, 0, none⟩) hK).trans HF.out, WordAt.zero _⟩
 case round =>
  obtain ⟨p, hp, hit, hB, hcr, hfr, hI⟩ := hrel
  have hsz : w.heap.size < wr.heap.size := (Array.getElem?_eq_some_iff.1 hit).1
  have hKk : K ≠ w.heap.size := by omega
  by_cases hlt : p < s.size
  ·have hne := drop_ne hlt
   have hwd := width_le hlt
   have hw1 := (decL_width (s.data.toList.drop p)).1
   have hw4 := (decL_width (s.data.toList.drop p)).2
   have hit1 := Lib.iterAt_heap wr w.heap.size s p (p + (decL (s.data.toList.drop p)).2) hit
   have hk1 := iter_keeps wr w.heap.size K 0 s (p + (decL (s.data.toList.drop p)).2) hKk
   have hB1 := Lib.below_iterAt hB (Nat.le_of_lt hK) s (p + (decL (s.data.toList.drop p)).2)
   have hnx : ∀ ty, (Instr.next (.pointer (some ⟨w.heap.size, 0, none⟩)) true ty).run Tryz.prog wr = .ok (.tuple #[.bool true, .int .i64 p, .int .i32 ((decL (s.data.toList.drop p)).1 : Nat)]) (wr.iterAt w.heap.size s (p + (decL (s.data.toList.drop p)).2)) := fun ty => by rw [Lib.run_next_any_at wr w.heap.size s p ty hit hlt, decode_drop]
   have hHW := isWrong_any (s.extract p s.size)
   rw [extract_list] at hHW
   have HW := Lib.hid hHW
   have hrl : bad (s.data.toList.drop p) = false → Lib.runeLen (((decL (s.data.toList.drop p)).1 : Nat) : Int) = ((decL (s.data.toList.drop p)).2 : Nat) := fun h => runeLen_dec h
   have hp24 := hI.le24
   have hSt := fun h => hI.stop hne h
   have hGo := fun hb hgo h => hI.go hne hb hgo h
   have hFu := fun hb hgo h => hI.full hne hb hgo h
   obtain ⟨t, ht⟩ : ∃ t, s.extract p s.size = t := ⟨_, rfl⟩
   rw [ht] at HW
   have HIT := Lib.hid hit
   have HIT1 := Lib.hid hit1
   obtain ⟨wq, hwq⟩ : ∃ wq, wq = wr.iterAt w.heap.size s (p + (decL (s.data.toList.drop p)).2) := ⟨_, rfl⟩
   rw [← hwq] at hnx HIT1 hk1 hB1
   have hcq : wq.cell? ⟨K, 0, none⟩ = some (.bool false) := hk1.1.trans hcr
   have hfq : wq.frozen? ⟨K, 0, none⟩ = false := hk1.2.trans hfr
   have HCQ := Lib.hid hcq
   have HFQ := Lib.hid hfq
   have hset := fun v => World.cell?_setCell_same' wq ⟨K, 0, none⟩ v (by rw [hcq]; rfl)
   have HSET := Lib.hid hset
   have hfset : ∀ v, (wq.setCell ⟨K, 0, none⟩ v).frozen? ⟨K, 0, none⟩ = false := fun v => by rw [World.frozen?_setCell]; exact hfq
   have HFSET := Lib.hid hfset
   clear hit hit1 hk1 hB hcr hfr hHW hne hwq hI hcq hfq hset hfset
   generalize (decL (s.data.toList.drop p)).1 = r at *
   generalize (decL (s.data.toList.drop p)).2 = d at *
   cases hbad : bad (s.data.toList.drop p)
   ·rw [hbad] at HW
    cases hgo : wordGo p (r : Nat)
    ·have hst := hSt (.inr ⟨hbad, hgo⟩)
     have HG := Lib.hid fun W => wordClo_no p r K W hgo
     have hfin : RunWord s K w (.returned (.int .i64 p)) wq := ⟨p, false, rfl, hp, HCQ.out, hB1, hst⟩
     have HFIN := Lib.hid hfin
     clear hfin hst hgo hbad hSt hGo hFu hrl
     go_wp2_with fail
     refine (HW.out _).mono ?_
     rintro e w1 ⟨rfl, rfl⟩
     go_wp2_with fail
     refine (HG.out _).mono ?_
     rintro e w2 ⟨rfl, rfl⟩
     go_wp2_with fail
     go_ret
     exact HFIN.out
    ·have HG := Lib.hid fun W h1 h2 => wordClo_yes p d r false K W h1 h2 hgo (hrl hbad) hw4 (by omega)
     by_cases h24 : 24 < p + d
     ·have hst := hFu hbad hgo h24
      rw [decide_eq_true h24] at HG
      have hfin : RunWord s K w (.returned (.int .i64 p)) (wq.setCell ⟨K, 0, none⟩ (.bool true)) :=
       ⟨p, true, rfl, hp, HSET.out _, hB1.setCell (p := ⟨K, 0, none⟩) (Nat.le_refl _) _, hst⟩
      have HFIN := Lib.hid hfin
      clear hfin hst hgo hbad hSt hGo hFu hrl
      go_wp2_with fail
      refine (HW.out _).mono ?_
      rintro e w1 ⟨rfl, rfl⟩
      go_wp2_with fail
      refine (HG.out _ HCQ.out HFQ.out).mono ?_
      rintro e w2 ⟨rfl, rfl⟩
      go_wp2_with fail
      go_ret
      exact HFIN.out
     ·have hst := Lib.hid (hGo hbad hgo h24)
      rw [decide_eq_false h24] at HG
      have HB2 := Lib.hid (hB1.setCell (p := ⟨K, 0, none⟩) (Nat.le_refl _) (.bool false))
      have HIT2 : Hid ((wq.setCell ⟨K, 0, none⟩ (.bool false)).heap[w.heap.size]? = some (.stringIter s (p + d))) := (Below.heap_setCell _ _ _ _ (fun e => hKk e.symm)).trans HIT1.out
      clear hgo hbad hSt hGo hFu hrl hB1
      go_wp2_with fail
      refine (HW.out _).mono ?_
      rintro e w1 ⟨rfl, rfl⟩
      go_wp2_with fail
      refine (HG.out _ HCQ.out HFQ.out).mono ?_
      rintro e w2 ⟨rfl, rfl⟩
      go_wp2_with fail
      go_roundw
      case rel => exact ⟨p + d, hwd, HIT2.out, HB2.out, HSET.out _, HFSET.out _, hst.out⟩
      case measure => rw [iterPos_is HIT2.out, iterPos_is HIT.out]; omega
   ·rw [hbad] at HW
    have hst := hSt (.inl hbad)
    have hfin : RunWord s K w (.returned (.int .i64 p)) wq := ⟨p, false, rfl, hp, HCQ.out, hB1, hst⟩
    have HFIN := Lib.hid hfin
    clear hfin hst hbad hSt hGo hFu hrl
    go_wp2_with fail
    refine (HW.out _).mono ?_
    rintro e w1 ⟨rfl, rfl⟩
    go_wp2_with fail
    go_ret
    exact HFIN.out
  ·have hnx : ∀ ty, (Instr.next (.pointer (some ⟨w.heap.size, 0, none⟩)) true ty).run Tryz.prog wr = _ := fun ty => Lib.run_next_end_at wr w.heap.size s p ty hit hlt
   have hfi := hI.fin (drop_end hlt)
   obtain rfl : p = s.size := by omega
   have hfin : RunWord s K w (.returned (.int .i64 s.size)) wr := ⟨s.size, false, rfl, hp, hcr, hB, hfi⟩
   have HFIN := Lib.hid hfin
   clear hfin hfi hI hit hcr hfr hB hlt
   go_wp2_with fail
   go_ret
   exact HFIN.out

set_option maxHeartbeats 800000 in
theorem word_any (s : ByteArray) (hs : s.size ≤ 9223372036854775807) (w : World) :
 Calls Tryz.prog 115 #[.string s] w fun e w' => e = .returned (.tuple #[.int .i64 (wordN s.data.toList), .int .i64 (wordErr s.data.toList)]) ∧ Below w.heap.size w w' := by
 have H := Lib.hid fun W h1 h2 h3 => runWord_any s w.heap.size W h1 h2 h3 hs
 go_enter Tryz.func115, Tryz.ntmps115
 go_wp2_with fail
 refine (H.out _ (by simp) (by simp) (by simp)).mono ?_
 rintro e w1 ⟨n, full, rfl, hn, hc, hB, hE⟩
 have hB2 : Below w.heap.size w w1 := ((Below.refl _ _).alloc (Nat.le_refl _) _).trans hB
 have HN : Hid (wordN s.data.toList = n) := hE.1
 have HBD : Hid (wordBad s.data.toList = (decide (n = 0) || full)) := by
  show wordBad s.data.toList = _
  unfold wordBad
  rw [HN.out, hE.2]
 clear hE hB
 by_cases h0 : n = 0
 ·have hb : ((n : Int) == 0) = true := by simp; omega
  have HE : Hid (wordErr s.data.toList = 120) := wordErr_yes (by rw [HBD.out, decide_eq_true h0]; rfl)
  clear h0
  go_wp2_with fail
  go_ret2
  exact ⟨by rw [HN.out, HE.out]; rfl, hB2⟩
 ·have hb : ((n : Int) == 0) = false := by simp; omega
  cases full
  ·have HE : Hid (wordErr s.data.toList = 0) := wordErr_no (by rw [HBD.out, decide_eq_false h0]; rfl)
   clear h0
   go_wp2_with fail
   go_ret2
   exact ⟨by rw [HN.out, HE.out]; rfl, hB2⟩
  ·have HE : Hid (wordErr s.data.toList = 120) := wordErr_yes (by rw [HBD.out, Bool.or_true])
   clear h0
   go_wp2_with fail
   go_ret2
   exact ⟨by rw [HN.out, HE.out]; rfl, hB2⟩

def wordB (l : List UInt8) : Bool := decide (wordErr l = 0) && decide (wordN l = l.length)
set_option maxHeartbeats 800000 in
theorem Word_any (s : ByteArray) (hs : s.size ≤ 9223372036854775807) (w : World) :
 Calls Tryz.prog 97 #[.string s] w fun e w' => e = .returned (.bool (wordB s.data.toList)) ∧ Below w.heap.size w w' := by
 have H := Lib.hid (word_any s hs w)
 have HS := Lib.hid (Lib.size_eq s)
 by_cases h0 : wordErr s.data.toList = 0
 ·have hb : (wordErr s.data.toList == 0) = true := by simpa using h0
  by_cases hn : wordN s.data.toList = s.size
  ·have hnb : ((wordN s.data.toList : Int) == (s.size : Int)) = true := by simp; omega
   have HR : Hid (wordB s.data.toList = true) := by show wordB _ = true; unfold wordB; rw [decide_eq_true h0, decide_eq_true (by rw [hn, HS.out])]; rfl
   clear h0 hn
   go_enter Tryz.func97, Tryz.ntmps97
   go_wp2_with fail
   refine H.out.mono ?_
   rintro e w1 ⟨rfl, hB⟩
   go_wp2_with fail
   go_ret
   exact ⟨by rw [HR.out]; rfl, hB⟩
  ·have hnb : ((wordN s.data.toList : Int) == (s.size : Int)) = false := by simp; omega
   have HR : Hid (wordB s.data.toList = false) := by show wordB _ = false; unfold wordB; rw [decide_eq_false (show ¬ wordN s.data.toList = s.data.toList.length by rw [← HS.out]; exact hn), Bool.and_false]
   clear h0 hn
   go_enter Tryz.func97, Tryz.ntmps97
   go_wp2_with fail
   refine H.out.mono ?_
   rintro e w1 ⟨rfl, hB⟩
   go_wp2_with fail
   go_ret
   exact ⟨by rw [HR.out]; rfl, hB⟩
 ·have hb : (wordErr s.data.toList == 0) = false := by simpa using h0
  have HR : Hid (wordB s.data.toList = false) := by show wordB _ = false; unfold wordB; rw [decide_eq_false h0]; rfl
  clear h0
  go_enter Tryz.func97, Tryz.ntmps97
  go_wp2_with fail
  refine H.out.mono ?_
  rintro e w1 ⟨rfl, hB⟩
  go_wp2_with fail
  go_ret
  exact ⟨by rw [HR.out]; rfl, hB⟩
end Go.Proofs.YtlnbmmaminflcaaGreatDoor
namespace Go.Proofs.YtlnbmmaminflcaaGreatDoor

structure SeenP where
 o : Int
 t : Int
 k : Int
deriving DecidableEq
structure EvP where
 kd : Int
 t : Int
 s : Int
 lev : Int
 o : Int
 vt : Int
 vk : Int
 p : Int
 scan : List SeenP
deriving DecidableEq
structure OrdP where
 o : Int
 ts : List Int
deriving DecidableEq
structure MatP where
 p : Int
 o : Int
 fi : Bool
 ts : List Int
deriving DecidableEq
structure WantP where
 s : Int
 b : Int
deriving DecidableEq
structure Hist where
 tr : List ByteArray
 se : List ByteArray
 ob : List ByteArray
 pr : List ByteArray
 ev : List EvP
 od : List OrdP
 ma : List MatP
 wa : List WantP
deriving DecidableEq

def refsV (t k : Int) : List (Nat × Int) := if k = 0 then [] else [(0, t)]
def refsS (s : SeenP) : List (Nat × Int) := (2, s.o) :: refsV s.t s.k
def refsK (e : EvP) : List (Nat × Int) :=
 if e.kd = 1 then [(1, e.s)] else if e.kd = 2 ∨ e.kd = 3 then (2, e.o) :: refsV e.vt e.vk else if e.kd = 4 then (3, e.p) :: e.scan.flatMap refsS else []
def refsE (e : EvP) : List (Nat × Int) := (0, e.t) :: refsK e
def refsT (ts : List Int) : List (Nat × Int) := ts.map fun t => (0, t)
def refsO (r : OrdP) : List (Nat × Int) := (2, r.o) :: refsT r.ts
def refsM (r : MatP) : List (Nat × Int) := (3, r.p) :: (2, r.o) :: refsT r.ts
def refsW (r : WantP) : List (Nat × Int) := [(1, r.s)]
def refs (H : Hist) : List (Nat × Int) := H.ev.flatMap refsE ++ (H.od.flatMap refsO ++ (H.ma.flatMap refsM ++ H.wa.flatMap refsW))

def reV (f : Nat → Int → Int) (t k : Int) : Int := if k = 0 then t else f 0 t
def reS (f : Nat → Int → Int) (s : SeenP) : SeenP := ⟨f 2 s.o, reV f s.t s.k, s.k⟩
def reE (f : Nat → Int → Int) (e : EvP) : EvP :=
 if e.kd = 1 then ⟨e.kd, f 0 e.t, f 1 e.s, e.lev, e.o, e.vt, e.vk, e.p, e.scan⟩
 else if e.kd = 2 ∨ e.kd = 3 then ⟨e.kd, f 0 e.t, e.s, e.lev, f 2 e.o, reV f e.vt e.vk, e.vk, e.p, e.scan⟩
 else if e.kd = 4 then ⟨e.kd, f 0 e.t, e.s, e.lev, e.o, e.vt, e.vk, f 3 e.p, e.scan.map (reS f)⟩
 else ⟨e.kd, f 0 e.t, e.s, e.lev, e.o, e.vt, e.vk, e.p, e.scan⟩
def reO (f : Nat → Int → Int) (r : OrdP) : OrdP := ⟨f 2 r.o, r.ts.map (f 0)⟩
def reM (f : Nat → Int → Int) (r : MatP) : MatP := ⟨f 3 r.p, f 2 r.o, r.fi, r.ts.map (f 0)⟩
def reW (f : Nat → Int → Int) (r : WantP) : WantP := ⟨f 1 r.s, r.b⟩
def reH (f : Nat → Int → Int) (H : Hist) : Hist := { H with ev := H.ev.map (reE f), od := H.od.map (reO f), ma := H.ma.map (reM f), wa := H.wa.map (reW f) }
section
variable {f : Nat → Int → Int} {e : EvP} {t k : Int}
def reP (f : Nat → Int → Int) (p : Nat × Int) : Nat × Int := (p.1, f p.1 p.2)
theorem refsV_re (t k : Int) : refsV (reV f t k) k = (refsV t k).map (reP f) := by
 unfold refsV reV; split <;> rfl
theorem refsS_re (s : SeenP) : refsS (reS f s) = (refsS s).map (reP f) := by
 unfold refsS reS
 simp only [refsV_re, List.map_cons]; rfl
theorem reE_kd (e : EvP) : (reE f e).kd = e.kd := by unfold reE; (repeat' split) <;> rfl
theorem reE_vk (e : EvP) : (reE f e).vk = e.vk := by unfold reE; (repeat' split) <;> rfl
theorem reE_t (e : EvP) : (reE f e).t = f 0 e.t := by unfold reE; (repeat' split) <;> rfl
theorem scan_re (l : List SeenP) : (l.map (reS f)).flatMap refsS = (l.flatMap refsS).map (reP f) := by
 simp only [List.map_flatMap, List.flatMap_map, refsS_re]
theorem refsE_re (e : EvP) : refsE (reE f e) = (refsE e).map (reP f) := by
 unfold refsE
 rw [reE_t, List.map_cons]
 congr 1
 unfold refsK
 rw [reE_kd]
 unfold reE
 by_cases h1 : e.kd = 1
 ·rw [if_pos h1, if_pos h1, if_pos h1]; rfl
 ·by_cases h2 : e.kd = 2 ∨ e.kd = 3
  ·rw [if_neg h1, if_neg h1, if_neg h1, if_pos h2, if_pos h2, if_pos h2, List.map_cons, ← refsV_re]; rfl
  ·by_cases h4 : e.kd = 4
   ·rw [if_neg h1, if_neg h1, if_neg h1, if_neg h2, if_neg h2, if_neg h2, if_pos h4, if_pos h4, if_pos h4, List.map_cons, ← scan_re]; rfl
   ·rw [if_neg h1, if_neg h1, if_neg h1, if_neg h2, if_neg h2, if_neg h2, if_neg h4, if_neg h4]; rfl
theorem refsT_re (ts : List Int) : refsT (ts.map (f 0)) = (refsT ts).map (reP f) := by
 unfold refsT; rw [List.map_map, List.map_map]; rfl
theorem refsO_re (r : OrdP) : refsO (reO f r) = (refsO r).map (reP f) := by
 unfold refsO reO; simp only [refsT_re, List.map_cons]; rfl
theorem refsM_re (r : MatP) : refsM (reM f r) = (refsM r).map (reP f) := by
 unfold refsM reM; simp only [refsT_re, List.map_cons]; rfl
theorem refsW_re (r : WantP) : refsW (reW f r) = (refsW r).map (reP f) := rfl
theorem refs_re (H : Hist) : refs (reH f H) = (refs H).map (reP f) := by
 unfold refs reH
 simp only [List.map_append, List.map_flatMap, List.flatMap_map, refsE_re, refsO_re, refsM_re, refsW_re]
theorem reE_one (h : e.kd = 1) : reE f e = ⟨e.kd, f 0 e.t, f 1 e.s, e.lev, e.o, e.vt, e.vk, e.p, e.scan⟩ := by unfold reE; rw [if_pos h]
theorem reE_two (h : e.kd = 2 ∨ e.kd = 3) : reE f e = ⟨e.kd, f 0 e.t, e.s, e.lev, f 2 e.o, reV f e.vt e.vk, e.vk, e.p, e.scan⟩ := by unfold reE; rw [if_neg (by omega), if_pos h]
theorem reE_four (h : e.kd = 4) : reE f e = ⟨e.kd, f 0 e.t, e.s, e.lev, e.o, e.vt, e.vk, f 3 e.p, e.scan.map (reS f)⟩ := by unfold reE; rw [if_neg (by omega), if_neg (by omega), if_pos h]
theorem reE_end (h : ¬ e.kd = 1 ∧ ¬ (e.kd = 2 ∨ e.kd = 3) ∧ ¬ e.kd = 4) : reE f e = ⟨e.kd, f 0 e.t, e.s, e.lev, e.o, e.vt, e.vk, e.p, e.scan⟩ := by unfold reE; rw [if_neg h.1, if_neg h.2.1, if_neg h.2.2]
end

def addI (l : List Int) (n : Int) : List Int := if n ∈ l then l else l ++ [n]
def firstsF (l : List Int) (r : List Int) : List Int := r.foldl addI l
def ofSort (s : Nat) (r : List (Nat × Int)) : List Int := (r.filter fun p => p.1 == s).map (·.2)
def spk (s : Nat) (r : List (Nat × Int)) : List Int := firstsF [] (ofSort s r)
def idxI : List Int → Int → Nat
 | [], _ => 0
 | x :: xs, s => if x = s then 0 else idxI xs s + 1
section
variable {l l2 r : List Int} {n m : Int} {i : Nat}
theorem addI_in (h : n ∈ l) : addI l n = l := by unfold addI; rw [if_pos h]
theorem addI_out (h : n ∉ l) : addI l n = l ++ [n] := by unfold addI; rw [if_neg h]
theorem mem_addI : m ∈ addI l n ↔ m ∈ l ∨ m = n := by
 unfold addI
 split
 ·exact ⟨.inl, fun h => h.elim id fun h => by rw [h]; assumption⟩
 ·simp
theorem firstsF_cons : firstsF l (n :: r) = firstsF (addI l n) r := rfl
theorem firstsF_append (a b : List Int) : firstsF l (a ++ b) = firstsF (firstsF l a) b := by unfold firstsF; rw [List.foldl_append]
theorem mem_firstsF : ∀ {r l : List Int}, m ∈ firstsF l r ↔ m ∈ l ∨ m ∈ r
 | [], l => by simp [firstsF]
 | n :: r, l => by
  rw [firstsF_cons, mem_firstsF, mem_addI, List.mem_cons, or_assoc]
theorem addI_nodup (h : l.Nodup) : (addI l n).Nodup := by
 unfold addI
 split
 ·exact h
 ·rename_i hn
  rw [List.nodup_append]
  exact ⟨h, by simp, fun a ha b hb => by simp at hb; subst hb; exact fun e => hn (e ▸ ha)⟩
theorem firstsF_nodup : ∀ {r l : List Int}, l.Nodup → (firstsF l r).Nodup
 | [], _, h => h
 | n :: r, l, h => firstsF_nodup (r := r) (l := addI l n) (addI_nodup h)
theorem addI_pre : ∃ t, addI l n = l ++ t := by
 unfold addI
 split
 ·exact ⟨[], by simp⟩
 ·exact ⟨[n], rfl⟩
theorem firstsF_pre : ∀ {r l : List Int}, ∃ t, firstsF l r = l ++ t
 | [], l => ⟨[], by simp [firstsF]⟩
 | n :: r, l => by
  obtain ⟨t, ht⟩ := addI_pre (l := l) (n := n)
  obtain ⟨u, hu⟩ := firstsF_pre (r := r) (l := addI l n)
  exact ⟨t ++ u, by rw [firstsF_cons, hu, ht, List.append_assoc]⟩
theorem idxI_more : ∀ {l : List Int} (t : List Int), n ∈ l → idxI (l ++ t) n = idxI l n
 | x :: xs, t, h => by
  rw [List.cons_append]
  unfold idxI
  split
  ·rfl
  ·rename_i e
   rcases List.mem_cons.1 h with h | h
   ·exact absurd h.symm e
   ·rw [idxI_more t h]
theorem idxI_new (h : n ∉ l) : idxI (l ++ [n]) n = l.length := by
 induction l with
 | nil => simp [idxI]
 | cons x xs ih =>
  rw [List.cons_append]
  unfold idxI
  rw [if_neg (fun e => h (by simp [e])), ih (fun e => h (by simp [e]))]
  rfl
def upI (n : Nat) : List Int := (List.range n).map fun (i : Nat) => (i : Int)
theorem upI_len (n : Nat) : (upI n).length = n := by unfold upI; simp
theorem upI_at {n i : Nat} (h : i < n) : (upI n)[i]? = some (i : Int) := by unfold upI; rw [List.getElem?_map, List.getElem?_range h]; rfl
theorem mem_upI {n : Nat} : m ∈ upI n ↔ 0 ≤ m ∧ m < n := by
 unfold upI
 simp only [List.mem_map, List.mem_range]
 exact ⟨fun ⟨i, hi, e⟩ => by omega, fun h => ⟨m.toNat, by omega, by omega⟩⟩
theorem upI_succ (n : Nat) : upI (n + 1) = upI n ++ [(n : Int)] := by unfold upI; rw [List.range_succ, List.map_append]; rfl
end

theorem ofSort_append (s : Nat) (a b : List (Nat × Int)) : ofSort s (a ++ b) = ofSort s a ++ ofSort s b := by unfold ofSort; rw [List.filter_append, List.map_append]
theorem mem_ofSort {s : Nat} {n : Int} {r : List (Nat × Int)} : n ∈ ofSort s r ↔ (s, n) ∈ r := by
 unfold ofSort
 simp only [List.mem_map, List.mem_filter, beq_iff_eq]
 exact ⟨fun ⟨p, ⟨h, e⟩, e2⟩ => by obtain ⟨a, b⟩ := p; simp only at e e2; subst e; subst e2; exact h, fun h => ⟨_, ⟨h, rfl⟩, rfl⟩⟩
theorem mem_spk {s : Nat} {n : Int} {r : List (Nat × Int)} : n ∈ spk s r ↔ (s, n) ∈ r := by
 unfold spk; rw [mem_firstsF, mem_ofSort]; simp
theorem spk_nodup (s : Nat) (r : List (Nat × Int)) : (spk s r).Nodup := firstsF_nodup (by simp)
theorem spk_snoc (s : Nat) (r : List (Nat × Int)) (q : Nat) (n : Int) : spk s (r ++ [(q, n)]) = if q = s then addI (spk s r) n else spk s r := by
 unfold spk
 rw [ofSort_append, firstsF_append]
 unfold ofSort
 by_cases h : q = s
 ·subst h; simp [firstsF]
 ·simp [h, firstsF]
theorem spk_pre (s : Nat) (a b : List (Nat × Int)) : ∃ t, spk s (a ++ b) = spk s a ++ t := by
 unfold spk
 rw [ofSort_append, firstsF_append]
 exact firstsF_pre
def anewI (r : List (Nat × Int)) (s : Nat) (n : Int) : Int := (idxI (spk s r) n : Int)
def Hist.many (H : Hist) (s : Nat) : Nat := if s = 0 then H.tr.length else if s = 1 then H.se.length else if s = 2 then H.ob.length else H.pr.length
def Hist.names (H : Hist) (s : Nat) : List ByteArray := if s = 0 then H.tr else if s = 1 then H.se else if s = 2 then H.ob else H.pr
theorem many_len (H : Hist) (s : Nat) : H.many s = (H.names s).length := by unfold Hist.many Hist.names; (repeat' split) <;> rfl
def namedN (l : List ByteArray) (ns : List Int) : List ByteArray := ns.map fun n => l.getD n.toNat ⟨#[]⟩
def numP (H : Hist) : Hist :=
 { reH (anewI (refs H)) H with tr := namedN H.tr (spk 0 (refs H)), se := namedN H.se (spk 1 (refs H)), ob := namedN H.ob (spk 2 (refs H)), pr := namedN H.pr (spk 3 (refs H)) }
theorem refs_num (H : Hist) : refs (numP H) = (refs H).map (reP (anewI (refs H))) := refs_re H
def ordP (H : Hist) : Prop := ∀ s, s < 4 → spk s (refs H) = upI (H.many s)
theorem refs_sort {H : Hist} : ∀ p ∈ refs H, p.1 < 4 := by
 intro p hp
 have hT : ∀ ts, p ∈ refsT ts → p.1 < 4 := fun ts h => by obtain ⟨t, _, rfl⟩ := List.mem_map.1 h; exact Nat.zero_lt_succ _
 have hV : ∀ t k, p ∈ refsV t k → p.1 < 4 := fun t k h => by unfold refsV at h; split at h <;> simp at h; subst h; exact Nat.zero_lt_succ _
 have hS : ∀ s, p ∈ refsS s → p.1 < 4 := fun s h => by
  rcases List.mem_cons.1 h with rfl | h
  ·show 2 < 4; omega
  ·exact hV _ _ h
 unfold refs at hp
 rcases List.mem_append.1 hp with h | h
 ·obtain ⟨e, _, h⟩ := List.mem_flatMap.1 h
  rcases List.mem_cons.1 h with rfl | h
  ·show 0 < 4; omega
  ·unfold refsK at h
   split at h
   ·simp at h; subst h; show 1 < 4; omega
   ·split at h
    ·rcases List.mem_cons.1 h with rfl | h
     ·show 2 < 4; omega
     ·exact hV _ _ h
    ·split at h
     ·rcases List.mem_cons.1 h with rfl | h
      ·show 3 < 4; omega
      ·obtain ⟨s, _, h⟩ := List.mem_flatMap.1 h
       exact hS _ h
     ·simp at h
 ·rcases List.mem_append.1 h with h | h
  ·obtain ⟨e, _, h⟩ := List.mem_flatMap.1 h
   rcases List.mem_cons.1 h with rfl | h
   ·show 2 < 4; omega
   ·exact hT _ h
  ·rcases List.mem_append.1 h with h | h
   ·obtain ⟨e, _, h⟩ := List.mem_flatMap.1 h
    rcases List.mem_cons.1 h with rfl | h
    ·show 3 < 4; omega
    ·rcases List.mem_cons.1 h with rfl | h
     ·show 2 < 4; omega
     ·exact hT _ h
   ·obtain ⟨e, _, h⟩ := List.mem_flatMap.1 h
    simp [refsW] at h
    subst h
    show 1 < 4; omega
def isN (n : Int) (many : Nat) : Bool := decide (0 ≤ n ∧ n < many)
theorem isN_iff {n : Int} {m : Nat} : isN n m = true ↔ 0 ≤ n ∧ n < m := by unfold isN; simp
def toldB (t k : Int) : Bool := if k = 0 then decide (t = 0) else decide (0 < k) && decide (k ≤ 999)
def verB (t k : Int) (many : Nat) : Bool := decide (t = 0 ∧ k = 0) || (isN t many && (decide (1 ≤ k) && decide (k ≤ 999)))
def bareE (e : EvP) : EvP :=
 if e.kd = 1 then ⟨e.kd, e.t, e.s, e.lev, 0, 0, 0, 0, []⟩
 else if e.kd = 2 ∨ e.kd = 3 then ⟨e.kd, e.t, 0, 0, e.o, e.vt, e.vk, 0, []⟩
 else if e.kd = 4 then ⟨e.kd, e.t, 0, 0, 0, 0, 0, e.p, e.scan⟩
 else ⟨e.kd, e.t, 0, 0, 0, 0, 0, 0, []⟩
def mayE (e : EvP) : Bool :=
 if e.kd = 1 then levB e.lev
 else if e.kd = 2 then (decide (e.vt = e.t) && decide (0 < e.vk)) && toldB e.vt e.vk
 else if e.kd = 3 then toldB e.vt e.vk
 else if e.kd = 4 then decide (e.scan.length ≤ 40) && e.scan.all fun s => toldB s.t s.k
 else true
def fineE (e : EvP) : Bool := decide (1 ≤ e.kd ∧ e.kd ≤ 6) && (mayE e && decide (e = bareE e))
def Hist.inR (H : Hist) (p : Nat × Int) : Bool := isN p.2 (H.many p.1)
def wrdB (s : ByteArray) : Bool := wordB s.data.toList
def namesB (l : List ByteArray) : Bool := l.all wrdB && decide l.Nodup
def fineH (H : Hist) : Bool := H.ev.all fineE && H.wa.all fun r => guB r.b
def nmsB (H : Hist) : Bool := (namesB H.tr && namesB H.se) && (namesB H.ob && namesB H.pr)
def shapedB (H : Hist) : Bool := (nmsB H && fineH H) && (refs H).all H.inR
def ordB (H : Hist) : Bool := (List.range 4).all fun s => decide (spk s (refs H) = upI (H.many s))
theorem ordB_iff {H : Hist} : ordB H = true ↔ ordP H := by unfold ordB ordP; simp
def rightB (H : Hist) : Bool := shapedB H && ordB H
structure Small (H : Hist) : Prop where
 tr : H.tr.length ≤ 60
 se : H.se.length ≤ 60
 ob : H.ob.length ≤ 60
 pr : H.pr.length ≤ 60
 ev : H.ev.length ≤ 200
 od : H.od.length ≤ 60
 ma : H.ma.length ≤ 60
 wa : H.wa.length ≤ 60
 sc : ∀ e ∈ H.ev, e.scan.length ≤ 60
 ot : ∀ r ∈ H.od, r.ts.length ≤ 60
 mt : ∀ r ∈ H.ma, r.ts.length ≤ 60
 tx : ∀ s, s < 4 → ∀ b ∈ H.names s, b.size ≤ 100
section
variable {H : Hist} {e : EvP} {s : Nat}
theorem Small.many (h : Small H) (s : Nat) : H.many s ≤ 60 := by
 have := h.tr; have := h.se; have := h.ob; have := h.pr
 unfold Hist.many
 (repeat' split) <;> assumption
theorem verB_told {t k : Int} {many : Nat} : verB t k many = (toldB t k && ((refsV t k).all fun p => isN p.2 many)) := by
 unfold verB toldB refsV
 by_cases h : k = 0
 ·subst h; simp
 ·by_cases h1 : 1 ≤ k
  ·have : 0 < k := by omega
   simp [h, h1, this, Bool.and_comm]
  ·have : ¬ 0 < k := by omega
   simp [h, h1, this]
def revB (nt ns no np : Nat) (e : EvP) : Bool :=
 isN e.t nt &&
  (if e.kd = 1 then (decide (bareE e = e) && isN e.s ns) && levB e.lev
  else if e.kd = 2 ∨ e.kd = 3 then (if e.kd = 2 ∧ (e.vk < 1 ∨ e.vt ≠ e.t) then false else (decide (bareE e = e) && isN e.o no) && verB e.vt e.vk nt)
  else if e.kd = 4 then (e.scan.all fun s => isN s.o no && verB s.t s.k nt) && ((decide (bareE e = e) && isN e.p np) && decide (e.scan.length ≤ 40))
  else decide (bareE e = e) && decide (e.kd = 5 ∨ e.kd = 6))
theorem isN_inR0 {n : Int} : isN n H.tr.length = H.inR (0, n) := rfl
theorem isN_inR1 {n : Int} : isN n H.se.length = H.inR (1, n) := rfl
theorem isN_inR2 {n : Int} : isN n H.ob.length = H.inR (2, n) := rfl
theorem isN_inR3 {n : Int} : isN n H.pr.length = H.inR (3, n) := rfl
theorem refsV_inR {t k : Int} : ((refsV t k).all fun p => isN p.2 H.tr.length) = (refsV t k).all H.inR := by
 unfold refsV
 split
 ·rfl
 ·simp [isN_inR0]
theorem all_and {α : Type} (l : List α) (p q : α → Bool) : (l.all fun x => p x && q x) = (l.all p && l.all q) := by
 induction l with
 | nil => rfl
 | cons x l ih => simp only [List.all_cons, ih]; cases p x <;> cases q x <;> cases l.all p <;> cases l.all q <;> rfl
theorem revB_is : revB H.tr.length H.se.length H.ob.length H.pr.length e = (fineE e && (refsE e).all H.inR) := by
 have hb : decide (bareE e = e) = decide (e = bareE e) := by rw [decide_eq_decide]; exact ⟨Eq.symm, Eq.symm⟩
 unfold revB fineE refsE refsK mayE
 rw [hb, List.all_cons, isN_inR0]
 by_cases h1 : e.kd = 1
 ·simp only [h1, if_true, isN_inR1, List.all_cons, List.all_nil]
  cases H.inR (0, e.t) <;> cases H.inR (1, e.s) <;> cases levB e.lev <;> cases decide (e = bareE e) <;> rfl
 ·by_cases h2 : e.kd = 2
  ·simp only [h2, true_or, if_true, isN_inR2, verB_told, refsV_inR, true_and]
   by_cases hx : e.vk < 1 ∨ e.vt ≠ e.t
   ·have : (decide (e.vt = e.t) && decide (0 < e.vk)) = false := by
     rcases hx with h | h
     ·have : ¬ 0 < e.vk := by omega
      simp [this]
     ·simp [h]
    simp [hx, this]
   ·have h3 : e.vt = e.t := by omega
    have h4 : 0 < e.vk := by omega
    have h5 : ¬ (e.vk < 1 ∨ e.vt ≠ e.t) := hx
    rw [if_neg h5]
    simp only [h3, h4, decide_true, Int.reduceEq, if_false, List.all_cons]
    rw [← h3]
    generalize (refsV e.vt e.vk).all H.inR = r
    generalize decide (e = bareE e) = q
    generalize toldB e.vt e.vk = z
    generalize H.inR (0, e.vt) = x
    generalize H.inR (2, e.o) = y
    revert x y z q r
    decide
  ·by_cases h3 : e.kd = 3
   ·simp only [h3, or_true, if_true, isN_inR2, List.all_cons, verB_told, refsV_inR, Int.reduceEq, if_false, false_and, false_or]
    cases H.inR (0, e.t) <;> cases H.inR (2, e.o) <;> cases toldB e.vt e.vk <;> cases decide (e = bareE e) <;> cases (refsV e.vt e.vk).all H.inR <;> simp
   ·by_cases h4 : e.kd = 4
    ·have hs : (e.scan.all fun s => isN s.o H.ob.length && verB s.t s.k H.tr.length) = ((e.scan.all fun s => toldB s.t s.k) && (e.scan.flatMap refsS).all H.inR) := by
      rw [List.all_flatMap, ← all_and]
      congr 1
      funext s
      unfold refsS
      rw [List.all_cons, verB_told, refsV_inR, isN_inR2]
      cases H.inR (2, s.o) <;> cases toldB s.t s.k <;> rfl
     simp only [h4, if_true, hs, isN_inR3, List.all_cons, Int.reduceEq, if_false, or_self]
     cases H.inR (0, e.t) <;> cases H.inR (3, e.p) <;> cases decide (e.scan.length ≤ 40) <;> cases decide (e = bareE e) <;> cases (e.scan.all fun s => toldB s.t s.k) <;> cases (e.scan.flatMap refsS).all H.inR <;> simp
    ·have h23 : ¬ (e.kd = 2 ∨ e.kd = 3) := by omega
     simp only [h1, h2, h3, h4, if_false, or_self, List.all_nil, Bool.and_true, Bool.true_and]
     by_cases h5 : e.kd = 5 ∨ e.kd = 6
     ·have : 1 ≤ e.kd ∧ e.kd ≤ 6 := by omega
      simp only [h5, this, decide_true, and_self]
      cases H.inR (0, e.t) <;> cases decide (e = bareE e) <;> rfl
     ·have : ¬ (1 ≤ e.kd ∧ e.kd ≤ 6) := by omega
      simp [h5, this]
theorem fine_bare (h : fineE e = true) : bareE e = e := by unfold fineE at h; simp at h; exact h.2.2.symm
theorem fine_scan (h : fineE e = true) (hk : e.kd ≠ 4) : e.scan = [] := by
 have h2 := fine_bare h
 unfold bareE at h2
 rw [← h2]
 (repeat' split) <;> first | rfl | omega
variable {f : Nat → Int → Int}
end

section
variable {H : Hist} {s : Nat} {n : Int}
theorem shaped_in (h : shapedB H = true) {p : Nat × Int} (hp : p ∈ refs H) : 0 ≤ p.2 ∧ p.2 < H.many p.1 := by
 unfold shapedB at h
 simp only [Bool.and_eq_true, List.all_eq_true] at h
 exact isN_iff.1 (h.2 p hp)
theorem shaped_ev (h : shapedB H = true) {e : EvP} (he : e ∈ H.ev) : fineE e = true := by
 unfold shapedB fineH at h
 simp only [Bool.and_eq_true, List.all_eq_true] at h
 exact h.1.2.1 e he
theorem namesB_iff {l : List ByteArray} : namesB l = true ↔ (∀ x ∈ l, wrdB x = true) ∧ l.Nodup := by unfold namesB; simp
theorem right_shaped (h : rightB H = true) : shapedB H = true := by
 unfold rightB at h
 exact (Bool.and_eq_true_iff.1 h).1
end

def hasB (H : Hist) (t kd : Int) : Bool := H.ev.any fun e => decide (e.t = t) && decide (e.kd = kd)
def openB (H : Hist) (t : Int) : Bool := hasB H t 1 && (!hasB H t 5 && !hasB H t 6)
def leftL (H : Hist) : List Int := (upI H.tr.length).filter (openB H)
def abortE (t : Int) : EvP := ⟨6, t, 0, 0, 0, 0, 0, 0, []⟩
def comP (H : Hist) : Hist := { H with ev := H.ev ++ (leftL H).map abortE }
def ofP (H : Hist) (t : Int) : List Int := (upI H.ev.length).filter fun i => decide ((H.ev.map (·.t))[i.toNat]? = some t)
section
variable {H : Hist} {t : Int}
theorem hasB_iff {kd : Int} : hasB H t kd = true ↔ ∃ e ∈ H.ev, e.t = t ∧ e.kd = kd := by unfold hasB; simp
theorem refs_t {e : EvP} (he : e ∈ H.ev) : (0, e.t) ∈ refs H := List.mem_append_left _ (List.mem_flatMap.2 ⟨e, he, List.mem_cons_self ..⟩)
theorem left_len (H : Hist) : (leftL H).length ≤ H.tr.length := by
 unfold leftL
 have := List.length_filter_le (openB H) (upI H.tr.length)
 rwa [upI_len] at this
end
end Go.Proofs.YtlnbmmaminflcaaGreatDoor
