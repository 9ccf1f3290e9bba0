/- The document's answers of layer history: Has, Of: contracts. -/
import Derived.Sort.CutIn
import Derived.Test.YtlnbmmaminflcaaGreatDoorM20
import Derived.Test.YtlnbmmaminflcaaGreatDoorM21
import Derived.Test.YtlnbmmaminflcaaGreatDoorM22
import Derived.Test.YtlnbmmaminflcaaGreatDoorM17
import Derived.Test.YtlnbmmaminflcaaGreatDoorM16
import Derived.Test.YtlnbmmaminflcaaGreatDoorM19
import Derived.Lib.AppendIntMem
import Derived.Maps.AppendAt
import Derived.Laws.StructEq
import Derived.Deep.LoopGhost
-- holds: YtlnbmmaminflcaaGreatDoorVIn YtlnbmmaminflcaaGreatDoorVIv YtlnbmmaminflcaaGreatDoorVIva YtlnbmmaminflcaaGreatDoorVIq YtlnbmmaminflcaaGreatDoorVIs YtlnbmmaminflcaaGreatDoorVJb YtlnbmmaminflcaaGreatDoorVJc YtlnbmmaminflcaaGreatDoorVJd YtlnbmmaminflcaaGreatDoorVJe
namespace Go.Proofs.YtlnbmmaminflcaaGreatDoor
open Go.RowKit Go.Shelf
attribute [local go_sem] Oper.semAt_some

def HistM.sort (m : HistM) (k : Nat) : SH × List ByteArray := if k = 0 then m.tr else if k = 1 then m.se else if k = 2 then m.ob else m.pr
theorem sort_names (m : HistM) (k : Nat) : (m.sort k).2 = m.pl.names k := by unfold HistM.sort Hist.names HistM.pl; (repeat' split) <;> rfl
theorem HRd.sort {W : World} {B : Nat} {m : HistM} (h : HRd W B m) (k : Nat) : Reads W B 1 (m.sort k).1.A (m.sort k).1.n (strs (m.sort k).2) := by
 unfold HistM.sort
 split
 ·exact h.tr
 ·split
  ·exact h.se
  ·split
   ·exact h.ob
   ·exact h.pr
theorem cs_sort (m : HistM) : ∀ k, k < 4 → m.cs[k]? = some (.slice (m.sort k).1.A (m.sort k).1.n (m.sort k).1.c) := by
 intro k hk
 have : k = 0 ∨ k = 1 ∨ k = 2 ∨ k = 3 := by omega
 rcases this with rfl | rfl | rfl | rfl <;> rfl
theorem nmsB_sorts (m : HistM) : nmsB m.pl = (List.range 4).all fun k => namesB (m.sort k).2 := by
 unfold nmsB
 show _ = (namesB m.tr.2 && (namesB m.se.2 && (namesB m.ob.2 && (namesB m.pr.2 && true))))
 rw [Bool.and_true, Bool.and_assoc]
 rfl
theorem Small.sort {m : HistM} (h : Small m.pl) (k : Nat) : (m.sort k).2.length ≤ 60 := by
 rw [sort_names, ← many_len]
 exact h.many k
theorem Small.sizes {m : HistM} (h : Small m.pl) {k : Nat} (hk : k < 4) : ∀ s ∈ (m.sort k).2, s.size ≤ 100 := by
 rw [sort_names]
 exact h.tx k hk
theorem names_up {m : HistM} {k : Nat} (h : (List.range k).all (fun k => namesB (m.sort k).2) = true) (hs : namesB (m.sort k).2 = true) : (List.range (k + 1)).all (fun k => namesB (m.sort k).2) = true := by
 rw [List.range_succ, List.all_append, h]
 simp [hs]
theorem names_not {m : HistM} {k : Nat} (hk : k < 4) (hs : namesB (m.sort k).2 = false) : shapedB m.pl = false := by
 have : nmsB m.pl = false := by
  rw [nmsB_sorts, Bool.eq_false_iff]
  intro h
  have := List.all_eq_true.1 h k (by simp [hk])
  rw [hs] at this
  cases this
 unfold shapedB
 rw [this]
 rfl
theorem idx4_0 (B : Nat) (W : World) : (Instr.index 75 (.agg #[.pointer (some ⟨B, 0, none⟩), .pointer (some ⟨B, 1, none⟩), .pointer (some ⟨B, 2, none⟩), .pointer (some ⟨B, 3, none⟩)]) (.int .i64 0)).run Tryz.prog W = .ok (.pointer (some ⟨B, 0, none⟩)) W := by kernel_rfl
theorem idx4_1 (B : Nat) (W : World) : (Instr.index 75 (.agg #[.pointer (some ⟨B, 0, none⟩), .pointer (some ⟨B, 1, none⟩), .pointer (some ⟨B, 2, none⟩), .pointer (some ⟨B, 3, none⟩)]) (.int .i64 1)).run Tryz.prog W = .ok (.pointer (some ⟨B, 1, none⟩)) W := by kernel_rfl
theorem idx4_2 (B : Nat) (W : World) : (Instr.index 75 (.agg #[.pointer (some ⟨B, 0, none⟩), .pointer (some ⟨B, 1, none⟩), .pointer (some ⟨B, 2, none⟩), .pointer (some ⟨B, 3, none⟩)]) (.int .i64 2)).run Tryz.prog W = .ok (.pointer (some ⟨B, 2, none⟩)) W := by kernel_rfl
theorem idx4_3 (B : Nat) (W : World) : (Instr.index 75 (.agg #[.pointer (some ⟨B, 0, none⟩), .pointer (some ⟨B, 1, none⟩), .pointer (some ⟨B, 2, none⟩), .pointer (some ⟨B, 3, none⟩)]) (.int .i64 3)).run Tryz.prog W = .ok (.pointer (some ⟨B, 3, none⟩)) W := by kernel_rfl
theorem idx4 {k : Nat} (hk : k < 4) (B : Nat) (W : World) : (Instr.index 75 (.agg #[.pointer (some ⟨B, 0, none⟩), .pointer (some ⟨B, 1, none⟩), .pointer (some ⟨B, 2, none⟩), .pointer (some ⟨B, 3, none⟩)]) (.int .i64 (k : Int))).run Tryz.prog W = .ok (.pointer (some ⟨B, k, none⟩)) W := by
 have : k = 0 ∨ k = 1 ∨ k = 2 ∨ k = 3 := by omega
 rcases this with rfl | rfl | rfl | rfl
 ·exact idx4_0 B W
 ·exact idx4_1 B W
 ·exact idx4_2 B W
 ·exact idx4_3 B W
theorem most_ge (k : Nat) (hk : k < 4) : 60 ≤ (([300, 60, 300, 60] : List Int).getD k 0) := by
 have : k = 0 ∨ k = 1 ∨ k = 2 ∨ k = 3 := by omega
 rcases this with rfl | rfl | rfl | rfl <;> decide
theorem ptr4_at (B : Nat) : ∀ s, s < 4 → (#[.pointer (some ⟨B, 0, none⟩), .pointer (some ⟨B, 1, none⟩), .pointer (some ⟨B, 2, none⟩), .pointer (some ⟨B, 3, none⟩)] : Array Value)[s]? = some (.pointer (some ⟨B, s, none⟩)) := by
 intro s hs
 have : s = 0 ∨ s = 1 ∨ s = 2 ∨ s = 3 := by omega
 rcases this with rfl | rfl | rfl | rfl <;> rfl
theorem fine_shaped {H : Hist} (h : fineH H = false) : shapedB H = false := by unfold shapedB; rw [h, Bool.and_false, Bool.false_and]
theorem not_shaped {H : Hist} (h : (refs H).all H.inR = false) : shapedB H = false := by unfold shapedB; rw [h, Bool.and_false]
theorem all_shaped {m : HistM} (h1 : (List.range 4).all (fun k => namesB (m.sort k).2) = true) (h2 : fineH m.pl = true) (h3 : (refs m.pl).all m.pl.inR = true) : shapedB m.pl = true := by
 unfold shapedB
 rw [nmsB_sorts, h1, h2, h3]
 rfl
theorem all_upto {W : World} {m : HistM} (hl : Lnk W (plcs m) (refs m.pl)) (h : ∀ j, j < (plcs m).length → ∀ p, (refs m.pl)[j]? = some p → m.pl.inR p = true) : (refs m.pl).all m.pl.inR = true := by
 rw [List.all_eq_true]
 intro p hp
 obtain ⟨j, hj⟩ := List.mem_iff_getElem?.1 hp
 exact h j (by rw [hl.len]; exact (List.getElem?_eq_some_iff.1 hj).1) p hj
def looseE (H : Hist) : Int := if shapedB H = true then 0 else 210
theorem looseE_ok {H : Hist} (h : shapedB H = true) : looseE H = 0 := by unfold looseE; rw [if_pos h]
theorem looseE_no {H : Hist} (h : shapedB H = false) : looseE H = 210 := by unfold looseE; rw [h]; rfl

structure LooseI (m : HistM) (Bh Ba : Nat) (w X : World) (r : Int) : Prop where
 below : Below w.heap.size w X
 bh : Blk X Bh 28 m.cs
 ba : Blk X Ba 75 #[.pointer (some ⟨Bh, 0, none⟩), .pointer (some ⟨Bh, 1, none⟩), .pointer (some ⟨Bh, 2, none⟩), .pointer (some ⟨Bh, 3, none⟩)]
 be : Blk X (Bh + 1) 32 #[.int .i64 r]
section
variable {m : HistM} {Bh Ba : Nat} {w X Y : World} {r : Int}
theorem LooseI.on (h : LooseI m Bh Ba w X r) (hb : Below X.heap.size X Y) : LooseI m Bh Ba w Y r := ⟨h.below.trans (hb.mono h.below.size), h.bh.below hb h.bh.lt, h.ba.below hb h.ba.lt, h.be.below hb h.be.lt⟩
theorem LooseI.calm {B : Nat} (h : LooseI m Bh Ba w X r) (hc : Calm B X Y) (hw : w.heap.size ≤ B) : LooseI m Bh Ba w Y r := ⟨h.below.trans (Keep.below hc h.below.size fun k hk => .inl (by omega)), hc.blk h.bh, hc.blk h.ba, hc.blk h.be⟩
theorem LooseI.keep {S : Nat → Prop} (h : LooseI m Bh Ba w X r) (hk : Keep S X Y) (hS : ∀ k, (k < w.heap.size ∨ ∃ t cs, Blk X k t cs) → S k) : LooseI m Bh Ba w Y r :=
 ⟨h.below.trans (hk.below h.below.size fun k hk => hS k (.inl hk)), hk.blk h.bh (hS _ (.inr ⟨_, _, h.bh⟩)), hk.blk h.ba (hS _ (.inr ⟨_, _, h.ba⟩)), hk.blk h.be (hS _ (.inr ⟨_, _, h.be⟩))⟩
theorem blk_not_mark {k D : Nat} {t : TypeId} {cs : Array Value} (hb : Blk X k t cs) (hD : X.heap[D]? = some (.deferred (some []))) : k ≠ D := by
 rintro rfl
 unfold Blk at hb
 rw [hb] at hD
 cases hD
theorem LooseI.wrong (h : LooseI m Bh Ba w X r) (hBh : w.heap.size ≤ Bh) (u : Int) : LooseI m Bh Ba w (X.setCell ⟨Bh + 1, 0, none⟩ (.int .i64 u)) u :=
 ⟨h.below.setCell (p := ⟨Bh + 1, 0, none⟩) (Nat.le_succ_of_le hBh) _, h.bh.far (p := ⟨Bh + 1, 0, none⟩) (by show Bh ≠ Bh + 1; omega) _, h.ba.far (p := ⟨Bh + 1, 0, none⟩) (Blk.ne_ h.ba h.be (by decide)) _, by have := h.be.set_ 0 (.int .i64 u); simpa using this⟩
end

set_option maxRecDepth 100000 in
set_option maxHeartbeats 16000000 in
theorem loose_any (m : HistM) (hS : Small m.pl) (w : World) (hT : Tabs w) (hm : HRd w w.heap.size m) : Calls Tryz.prog 31 #[.agg #[.slice m.tr.1.A m.tr.1.n m.tr.1.c, .slice m.se.1.A m.se.1.n m.se.1.c, .slice m.ob.1.A m.ob.1.n m.ob.1.c, .slice m.pr.1.A m.pr.1.n m.pr.1.c, .slice m.ev.1.A m.ev.1.n m.ev.1.c, .slice m.od.1.A m.od.1.n m.od.1.c, .slice m.ma.1.A m.ma.1.n m.ma.1.c, .slice m.wa.1.A m.wa.1.n m.wa.1.c]] w fun e w' => e = .returned (.int .i64 (looseE m.pl)) ∧ Below w.heap.size w w' := by
 obtain ⟨kh, ke, b0, hs0⟩ := itwo w #[.slice m.tr.1.A m.tr.1.n m.tr.1.c, .slice m.se.1.A m.se.1.n m.se.1.c, .slice m.ob.1.A m.ob.1.n m.ob.1.c, .slice m.pr.1.A m.pr.1.n m.pr.1.c, .slice m.ev.1.A m.ev.1.n m.ev.1.c, .slice m.od.1.A m.od.1.n m.od.1.c, .slice m.ma.1.A m.ma.1.n m.ma.1.c, .slice m.wa.1.A m.wa.1.n m.wa.1.c] #[.int .i64 0] 28 32
 have HN := Lib.hid (names_any w.heap.size ((w.alloc (.cells #[.slice m.tr.1.A m.tr.1.n m.tr.1.c, .slice m.se.1.A m.se.1.n m.se.1.c, .slice m.ob.1.A m.ob.1.n m.ob.1.c, .slice m.pr.1.A m.pr.1.n m.pr.1.c, .slice m.ev.1.A m.ev.1.n m.ev.1.c, .slice m.od.1.A m.od.1.n m.od.1.c, .slice m.ma.1.A m.ma.1.n m.ma.1.c, .slice m.wa.1.A m.wa.1.n m.wa.1.c] 28)).alloc (.cells #[.int .i64 0] 32)))
 have KH := Lib.hid kh
 have KE := Lib.hid ke
 have B0 := Lib.hid b0
 have HS0 := Lib.hid hs0
 have HT := Lib.hid hT
 clear kh ke b0 hs0 hT
 refine (callsIn_wide (n := 6)).1 (callsIn_of_wp_marks Tryz.func31 rfl trivial ?_ rfl)
 simp only [Tryz.ntmps31, List.size_toArray, List.length_cons, List.length_nil, Nat.reduceAdd, Nat.reduceSub, Array.replicate_succ, Array.replicate_zero, List.push_toArray, List.append_toArray, List.nil_append, List.cons_append]
 refine wpIn_wide.2 ?_
 go_wp2_with fail
 refine HN.out.mono ?_
 rintro e w1 ⟨rfl, b1⟩
 have hb1 := B0.out.trans (b1.mono B0.out.size)
 have KH := Lib.hid (KH.out.below b1 KH.out.lt)
 have KE := Lib.hid (KE.out.below b1 KE.out.lt)
 obtain ⟨ka, ba, hsa⟩ := ibox w1 #[.pointer (some ⟨w.heap.size, 0, none⟩), .pointer (some ⟨w.heap.size, 1, none⟩), .pointer (some ⟨w.heap.size, 2, none⟩), .pointer (some ⟨w.heap.size, 3, none⟩)] 75
 have hI : LooseI m w.heap.size w1.heap.size w (w1.alloc (.cells #[.pointer (some ⟨w.heap.size, 0, none⟩), .pointer (some ⟨w.heap.size, 1, none⟩), .pointer (some ⟨w.heap.size, 2, none⟩), .pointer (some ⟨w.heap.size, 3, none⟩)] 75)) 0 := ⟨hb1.trans (ba.mono hb1.size), KH.out.below ba KH.out.lt, ka, KE.out.below ba KE.out.lt⟩
 have HI := Lib.hid hI
 have z3 := ka.cell
 clear b1 hb1 HN KH KE B0 HS0 hI ba hsa
 go_wp2_with fail
 generalize w1.alloc (.cells #[.pointer (some ⟨w.heap.size, 0, none⟩), .pointer (some ⟨w.heap.size, 1, none⟩), .pointer (some ⟨w.heap.size, 2, none⟩), .pointer (some ⟨w.heap.size, 3, none⟩)] 75) = W1 at *
 clear ka z3
 generalize w1.heap.size = Ba at *
 obtain ⟨Bh, hBh⟩ : ∃ Bh, Bh = w.heap.size := ⟨_, rfl⟩
 have HBH : Hid (w.heap.size ≤ Bh) := by show _ ≤ _; omega
 rw [← hBh] at HI ⊢
 clear hBh
 go_loopw [10] (fun v wr => ∃ k : Nat, k ≤ 4 ∧ v = .int .i64 k ∧ Hid ((List.range k).all (fun k => namesB (m.sort k).2) = true) ∧ Hid (LooseI m Bh Ba w wr 0)) (fun v _ => 4 - (intOf v).toNat)
 case atStart => exact ⟨0, by omega, rfl, rfl, HI⟩
 case round =>
  clear HI
  obtain ⟨k, hk, rfl, HNM, HI⟩ := hrel
  by_cases hk4 : k < 4
  ·have hkl : (k : Int) < 4 := by omega
   have z1 : wr.cell? ⟨Bh, k, none⟩ = some (.slice (m.sort k).1.A (m.sort k).1.n (m.sort k).1.c) := (HI.out.bh.cell k).trans (cs_sort m k hk4)
   have z2 := (HT.out.on HI.out.below (Nat.le_refl _)).m k hk4
   have hM := most_ge k hk4
   generalize ([300, 60, 300, 60] : List Int).getD k 0 = M at *
   have hsz := hS.sort k
   have hln := strs_len (hm.sort k)
   have hgt : ¬ ((m.sort k).1.n : Int) > M := by omega
   have HC := Lib.hid (apart_any (m.sort k).1.A (m.sort k).1.n (m.sort k).1.c (m.sort k).2 (by omega) (hS.sizes hk4) wr.drew (((hm.sort k).below HI.out.below.drew).more HI.out.below.drew.size))
   have hix := idx4 hk4 Bh wr
   clear hsz hln
   go_wp2_with fail
   go_still_tail 12, (by kernel_rfl)
   change wpList _ _ _ _ _ wr.drew
   have HI := Lib.hid (HI.out.on ((Below.refl _ _).drew))
   generalize wr.drew = wd at *
   go_wp2_with fail
   refine HC.out.mono ?_
   rintro e w5 ⟨rfl, b5⟩
   have HI := Lib.hid (HI.out.on b5)
   clear b5 HC z1 z2
   cases hx : namesB (m.sort k).2
   ·have HX := Lib.hid (looseE_no (names_not hk4 hx))
    have f5 := HI.out.be.frozen 0
    have c5 := HI.out.be.cell 0
    clear hx
    go_wp2_with fail
    have HI := Lib.hid (HI.out.wrong HBH.out 210)
    refine leaves_marks (B := 0) (C := fun _ => False) [] _ (MarksAt.nil _ _ _) fun w6 hk => ?_
    have HI := Lib.hid (HI.out.keep hk fun _ _ => by simp)
    have r0 := HI.out.be.cell 0
    refine ⟨.int .i64 210, by simp [results, Tryz.results31, go_sem, r0], by rw [HX.out], HI.out.below⟩
   ·have HNM := Lib.hid (names_up HNM.out hx)
    clear hx
    go_wp2_with fail
    go_roundw
    case rel => exact ⟨k + 1, by omega, by go_num, HNM, HI⟩
    case measure => simp [intOf]; omega
  ·obtain rfl : k = 4 := by omega
   simp only [show ((4 : Nat) : Int) = 4 from rfl]
   clear hk hk4
   have HC := Lib.hid (fine11_any Bh m hS wr (HT.out.on HI.out.below (Nat.le_refl _)) ((hm.on HI.out.below).more HI.out.below.size) HI.out.bh)
   go_wp2_with fail
   refine HC.out.mono ?_
   rintro e w5 ⟨rfl, b5⟩
   have HI := Lib.hid (HI.out.on b5)
   clear b5 HC
   cases hx : fineH m.pl
   ·have HX := Lib.hid (looseE_no (fine_shaped hx))
    have f5 := HI.out.be.frozen 0
    have c5 := HI.out.be.cell 0
    clear hx
    go_wp2_with fail
    have HI := Lib.hid (HI.out.wrong HBH.out 210)
    refine leaves_marks (B := 0) (C := fun _ => False) [] _ (MarksAt.nil _ _ _) fun w6 hk => ?_
    have HI := Lib.hid (HI.out.keep hk fun _ _ => by simp)
    have r0 := HI.out.be.cell 0
    refine ⟨.int .i64 210, by simp [results, Tryz.results31, go_sem, r0], by rw [HX.out], HI.out.below⟩
   have HFN := Lib.hid hx
   clear hx
   go_wp2_with fail
   refine (spoken_any ⟨Bh, 0, none⟩ w5).mono ?_
   rintro e w6 ⟨rfl, rfl⟩
   obtain ⟨kp, bp, hsp⟩ := ibox w5 #[.pointer (some ⟨Bh, 0, none⟩)] 72
   have HI := Lib.hid (HI.out.on bp)
   have KP := Lib.hid kp
   clear kp bp hsp
   go_wp2_with fail
   generalize w5.alloc (.cells #[.pointer (some ⟨Bh, 0, none⟩)] 72) = W6 at *
   generalize w5.heap.size = Bp at *
   refine (wpIn_wide (n := 6)).1 ?_
   have HLE : Hid (w.heap.size ≤ W6.heap.size) := HI.out.below.size
   refine range_sp none (by omega) (gf := 64) (lb := #[.pointer (some ⟨Bp, 0, none⟩)]) rfl eg_spoken (cs := plcs m) (Sk := SkH m Bh) (spoken_seq _ Bp Bh m hm.fit (hm.fit.low hS) W6 KP.out) 33 34 6 7 rfl
    (fun k X => LooseI m Bh Ba w X 0 ∧ ∀ j, j < k → ∀ p, (refs m.pl)[j]? = some p → m.pl.inR p = true) (fun X => LooseI m Bh Ba w X 210 ∧ (refs m.pl).all m.pl.inR = false) ?hSk ⟨HI.out, fun j hj => absurd hj (Nat.not_lt_zero _)⟩ ?hI ?hIx ?assign ?body ?done ?stop
   case hSk =>
    rintro k X ⟨h, _⟩
    exact (hm.on h.below).skel h.bh
   case hI =>
    rintro k X Y ⟨h, h2⟩ hc
    exact ⟨h.calm hc HLE.out, h2⟩
   case hIx =>
    rintro X Y ⟨h, h2⟩ hc
    exact ⟨h.calm hc HLE.out, h2⟩
   case assign =>
    intro l x y W K hK
    simp only [List.setIfInBounds_toArray, List.set_cons_zero, List.set_cons_succ] at hK ⊢
    gi_wp2_with fail
    exact hK
   case body =>
    rintro l k s p X hcs ⟨hi, hk⟩ hsz
    obtain ⟨n, hrf, hcell0⟩ := Lnk.at_ (hm.on hi.below).lnk hcs
    have hs4 : s < 4 := refs_sort (H := m.pl) (s, n) (List.mem_of_getElem? hrf)
    have hcell : X.drew.cell? p = some (.int .i64 n) := hcell0
    have hba : X.drew.cell? ⟨Ba, s, none⟩ = some (.pointer (some ⟨Bh, s, none⟩)) := (hi.ba.drew.cell s).trans (ptr4_at Bh s hs4)
    have hbh : X.drew.cell? ⟨Bh, s, none⟩ = some (.slice (m.sort s).1.A (m.sort s).1.n (m.sort s).1.c) := (hi.bh.drew.cell s).trans (cs_sort m s hs4)
    have hs0 : ¬ (s : Int) < 0 := by omega
    have hs5 : (s : Int) < 4 := by omega
    have HI := Lib.hid hi
    have HK := Lib.hid hk
    have HRF := Lib.hid hrf
    have hmany : m.pl.many s = (m.sort s).1.n := by rw [many_len, ← sort_names]; exact strs_len (hm.sort s)
    have HMN := Lib.hid hmany
    simp only [List.setIfInBounds_toArray, List.set_cons_zero, List.set_cons_succ]
    clear hcs hi hk hrf hcell0 hsz hmany
    by_cases h0 : n < 0
    ·have HBAD : Hid ((refs m.pl).all m.pl.inR = false) := by
      show _ = _
      rw [Bool.eq_false_iff]
      intro h
      have := isN_iff.1 (List.all_eq_true.1 h _ (List.mem_of_getElem? HRF.out))
      omega
     have f5 := HI.out.be.drew.frozen 0
     have c5 := HI.out.be.drew.cell 0
     have HX : Hid (SpPost none (fun k X => LooseI m Bh Ba w X 0 ∧ ∀ j, j < k → ∀ p, (refs m.pl)[j]? = some p → m.pl.inR p = true) (fun X => LooseI m Bh Ba w X 210 ∧ (refs m.pl).all m.pl.inR = false) k X .ret ⟨#[], []⟩ (X.drew.setCell ⟨Bh + 1, 0, none⟩ (.int .i64 210))) := .inr ⟨rfl, ⟨(HI.out.on ((Below.refl _ _).drew)).wrong HBH.out 210, HBAD.out⟩, (Rk.of_below ((Below.refl _ _).drew)).trans (Rk.set HI.out.be.drew (by decide) _ _)⟩
     clear HBAD
     gi_wp2_with fail
     refine region_round (S := fun W => W.cell? p = some (.int .i64 n) ∧ W.cell? ⟨Ba, s, none⟩ = some (.pointer (some ⟨Bh, s, none⟩)) ∧ W.cell? ⟨Bh, s, none⟩ = some (.slice (m.sort s).1.A (m.sort s).1.n (m.sort s).1.c)) (by kernel_rfl) (by kernel_rfl) ⟨hcell, hba, hbh⟩ (fun hHeld => ?_)
     refine tkv 0 (some 35) (.pointer (some p)) rfl rfl (fun w' hSw => by go_simp) ?_
     try simp only [Act.put, sA, sB, sC]
     refine tkv 1 (some 36) (.pointer (some p)) rfl rfl (fun w' hSw => by go_simp) ?_
     try simp only [Act.put, sA, sB, sC]
     refine tkv 2 (some 37) (.int .i64 n) rfl rfl (fun w' hSw => by (obtain ⟨q1, q2, q3⟩ := hSw; go_simp)) ?_
     try simp only [Act.put, sA, sB, sC]
     refine tkv 3 (some 38) (.bool true) rfl rfl (fun w' hSw => by go_simp) ?_
     try simp only [Act.put, sA, sB, sC]
     refine tkv 4 (some 39) (.bool true) rfl rfl (fun w' hSw => by go_simp) ?_
     try simp only [Act.put, sA, sB, sC]
     refine tku 5 (some 40) rfl rfl ?_
     refine tku 6 (some 41) rfl rfl ?_
     refine tku 7 (some 42) rfl rfl ?_
     refine tku 8 (some 43) rfl rfl ?_
     refine tku 9 (some 44) rfl rfl ?_
     refine tku 10 (some 45) rfl rfl ?_
     refine tku 11 (some 46) rfl rfl ?_
     refine tku 12 (some 47) rfl rfl ?_
     refine tku 13 (some 48) rfl rfl ?_
     refine tku 14 (some 49) rfl rfl ?_
     try simp only [Act.put, sA, sB, sC]
     refine tkv 15 (some 50) (.bool true) rfl rfl (fun w' hSw => by go_simp) ?_
     try simp only [Act.put, sA, sB, sC]
     refine wpAnyH_done (by kernel_rfl) ?_ _
     refine OnlyN.normal ?_
     gi_wp2_with fail
     exact HX.out
    ·by_cases h1 : n ≥ ((m.sort s).1.n : Int)
     ·have HBAD : Hid ((refs m.pl).all m.pl.inR = false) := by
       show _ = _
       rw [Bool.eq_false_iff]
       intro h
       have := isN_iff.1 (List.all_eq_true.1 h _ (List.mem_of_getElem? HRF.out))
       have := HMN.out
       simp only at *
       omega
      have f5 := HI.out.be.drew.frozen 0
      have c5 := HI.out.be.drew.cell 0
      have HX : Hid (SpPost none (fun k X => LooseI m Bh Ba w X 0 ∧ ∀ j, j < k → ∀ p, (refs m.pl)[j]? = some p → m.pl.inR p = true) (fun X => LooseI m Bh Ba w X 210 ∧ (refs m.pl).all m.pl.inR = false) k X .ret ⟨#[], []⟩ (X.drew.setCell ⟨Bh + 1, 0, none⟩ (.int .i64 210))) := .inr ⟨rfl, ⟨(HI.out.on ((Below.refl _ _).drew)).wrong HBH.out 210, HBAD.out⟩, (Rk.of_below ((Below.refl _ _).drew)).trans (Rk.set HI.out.be.drew (by decide) _ _)⟩
      clear HBAD
      gi_wp2_with fail
      refine region_round (S := fun W => W.cell? p = some (.int .i64 n) ∧ W.cell? ⟨Ba, s, none⟩ = some (.pointer (some ⟨Bh, s, none⟩)) ∧ W.cell? ⟨Bh, s, none⟩ = some (.slice (m.sort s).1.A (m.sort s).1.n (m.sort s).1.c)) (by kernel_rfl) (by kernel_rfl) ⟨hcell, hba, hbh⟩ (fun hHeld => ?_)
      refine tkv 0 (some 35) (.pointer (some p)) rfl rfl (fun w' hSw => by go_simp) ?_
      try simp only [Act.put, sA, sB, sC]
      refine tkv 1 (some 36) (.pointer (some p)) rfl rfl (fun w' hSw => by go_simp) ?_
      try simp only [Act.put, sA, sB, sC]
      refine tkv 2 (some 37) (.int .i64 n) rfl rfl (fun w' hSw => by (obtain ⟨q1, q2, q3⟩ := hSw; go_simp)) ?_
      try simp only [Act.put, sA, sB, sC]
      refine tkv 3 (some 38) (.bool false) rfl rfl (fun w' hSw => by go_simp) ?_
      try simp only [Act.put, sA, sB, sC]
      refine tkv 4 (some 39) (.bool false) rfl rfl (fun w' hSw => by go_simp) ?_
      try simp only [Act.put, sA, sB, sC]
      refine tkv 5 (some 40) (.pointer (some p)) rfl rfl (fun w' hSw => by go_simp) ?_
      try simp only [Act.put, sA, sB, sC]
      refine tkv 6 (some 41) (.pointer (some p)) rfl rfl (fun w' hSw => by go_simp) ?_
      try simp only [Act.put, sA, sB, sC]
      refine tkv 7 (some 42) (.int .i64 n) rfl rfl (fun w' hSw => by (obtain ⟨q1, q2, q3⟩ := hSw; go_simp)) ?_
      try simp only [Act.put, sA, sB, sC]
      refine tkv 8 (some 43) (.int .i64 (s : Nat)) rfl rfl (fun w' hSw => by go_simp) ?_
      try simp only [Act.put, sA, sB, sC]
      refine tkv 9 (some 44) (.pointer (some ⟨Ba, s, none⟩)) rfl rfl (fun w' hSw => by go_simp) ?_
      try simp only [Act.put, sA, sB, sC]
      refine tkv 10 (some 45) (.pointer (some ⟨Bh, s, none⟩)) rfl rfl (fun w' hSw => by (obtain ⟨q1, q2, q3⟩ := hSw; go_simp)) ?_
      try simp only [Act.put, sA, sB, sC]
      refine tkv 11 (some 46) (.pointer (some ⟨Bh, s, none⟩)) rfl rfl (fun w' hSw => by go_simp) ?_
      try simp only [Act.put, sA, sB, sC]
      refine tkv 12 (some 47) (.slice (m.sort s).1.A (m.sort s).1.n (m.sort s).1.c) rfl rfl (fun w' hSw => by (obtain ⟨q1, q2, q3⟩ := hSw; go_simp)) ?_
      try simp only [Act.put, sA, sB, sC]
      refine tkv 13 (some 48) (.int .i64 ((m.sort s).1.n : Nat)) rfl rfl (fun w' hSw => by go_simp) ?_
      try simp only [Act.put, sA, sB, sC]
      refine tkv 14 (some 49) (.bool true) rfl rfl (fun w' hSw => by go_simp) ?_
      try simp only [Act.put, sA, sB, sC]
      refine tkv 15 (some 50) (.bool true) rfl rfl (fun w' hSw => by go_simp) ?_
      try simp only [Act.put, sA, sB, sC]
      refine wpAnyH_done (by kernel_rfl) ?_ _
      refine OnlyN.normal ?_
      gi_wp2_with fail
      exact HX.out
     ·have HX : Hid (SpPost none (fun k X => LooseI m Bh Ba w X 0 ∧ ∀ j, j < k → ∀ p, (refs m.pl)[j]? = some p → m.pl.inR p = true) (fun X => LooseI m Bh Ba w X 210 ∧ (refs m.pl).all m.pl.inR = false) k X .normal ⟨#[], []⟩ X.drew) := by
       refine .inl ⟨rfl, ⟨HI.out.on ((Below.refl _ _).drew), fun j hj q hq => ?_⟩, Rk.of_below ((Below.refl _ _).drew)⟩
       rcases Nat.lt_or_ge j k with h2 | h2
       ·exact HK.out j h2 q hq
       ·obtain rfl : j = k := by omega
        rw [HRF.out] at hq
        injection hq with hq
        subst hq
        refine isN_iff.2 ⟨by omega, ?_⟩
        show n < (m.pl.many s : Nat)
        rw [HMN.out]
        omega
      gi_wp2_with fail
      refine region_round (S := fun W => W.cell? p = some (.int .i64 n) ∧ W.cell? ⟨Ba, s, none⟩ = some (.pointer (some ⟨Bh, s, none⟩)) ∧ W.cell? ⟨Bh, s, none⟩ = some (.slice (m.sort s).1.A (m.sort s).1.n (m.sort s).1.c)) (by kernel_rfl) (by kernel_rfl) ⟨hcell, hba, hbh⟩ (fun hHeld => ?_)
      refine tkv 0 (some 35) (.pointer (some p)) rfl rfl (fun w' hSw => by go_simp) ?_
      try simp only [Act.put, sA, sB, sC]
      refine tkv 1 (some 36) (.pointer (some p)) rfl rfl (fun w' hSw => by go_simp) ?_
      try simp only [Act.put, sA, sB, sC]
      refine tkv 2 (some 37) (.int .i64 n) rfl rfl (fun w' hSw => by (obtain ⟨q1, q2, q3⟩ := hSw; go_simp)) ?_
      try simp only [Act.put, sA, sB, sC]
      refine tkv 3 (some 38) (.bool false) rfl rfl (fun w' hSw => by go_simp) ?_
      try simp only [Act.put, sA, sB, sC]
      refine tkv 4 (some 39) (.bool false) rfl rfl (fun w' hSw => by go_simp) ?_
      try simp only [Act.put, sA, sB, sC]
      refine tkv 5 (some 40) (.pointer (some p)) rfl rfl (fun w' hSw => by go_simp) ?_
      try simp only [Act.put, sA, sB, sC]
      refine tkv 6 (some 41) (.pointer (some p)) rfl rfl (fun w' hSw => by go_simp) ?_
      try simp only [Act.put, sA, sB, sC]
      refine tkv 7 (some 42) (.int .i64 n) rfl rfl (fun w' hSw => by (obtain ⟨q1, q2, q3⟩ := hSw; go_simp)) ?_
      try simp only [Act.put, sA, sB, sC]
      refine tkv 8 (some 43) (.int .i64 (s : Nat)) rfl rfl (fun w' hSw => by go_simp) ?_
      try simp only [Act.put, sA, sB, sC]
      refine tkv 9 (some 44) (.pointer (some ⟨Ba, s, none⟩)) rfl rfl (fun w' hSw => by go_simp) ?_
      try simp only [Act.put, sA, sB, sC]
      refine tkv 10 (some 45) (.pointer (some ⟨Bh, s, none⟩)) rfl rfl (fun w' hSw => by (obtain ⟨q1, q2, q3⟩ := hSw; go_simp)) ?_
      try simp only [Act.put, sA, sB, sC]
      refine tkv 11 (some 46) (.pointer (some ⟨Bh, s, none⟩)) rfl rfl (fun w' hSw => by go_simp) ?_
      try simp only [Act.put, sA, sB, sC]
      refine tkv 12 (some 47) (.slice (m.sort s).1.A (m.sort s).1.n (m.sort s).1.c) rfl rfl (fun w' hSw => by (obtain ⟨q1, q2, q3⟩ := hSw; go_simp)) ?_
      try simp only [Act.put, sA, sB, sC]
      refine tkv 13 (some 48) (.int .i64 ((m.sort s).1.n : Nat)) rfl rfl (fun w' hSw => by go_simp) ?_
      try simp only [Act.put, sA, sB, sC]
      refine tkv 14 (some 49) (.bool false) rfl rfl (fun w' hSw => by go_simp) ?_
      try simp only [Act.put, sA, sB, sC]
      refine tkv 15 (some 50) (.bool false) rfl rfl (fun w' hSw => by go_simp) ?_
      try simp only [Act.put, sA, sB, sC]
      refine wpAnyH_done (by kernel_rfl) ?_ _
      refine OnlyN.normal ?_
      gi_wp2_with fail
      exact HX.out
   case done =>
    rintro D W hD ⟨hi, hk⟩ hdef
    have HX := Lib.hid (looseE_ok (all_shaped HNM.out HFN.out (all_upto hm.lnk hk)))
    have HI := Lib.hid hi
    have HDF := Lib.hid hdef
    have HDL : Hid (w.heap.size ≤ D) := Nat.le_trans HLE.out hD
    have f5 := hi.be.frozen 0
    have c5 := hi.be.cell 0
    clear hi hk hdef hD
    unfold mkMark
    gi_wp2_with fail
    go_wp2_with fail
    have HI2 := Lib.hid (HI.out.wrong HBH.out 0)
    have hmk : MarksAt w.heap.size (fun _ => False) [D] (W.setCell ⟨Bh + 1, 0, none⟩ (.int .i64 0)) := ⟨by simp, fun E hE => by
     rw [List.mem_singleton] at hE
     subst hE
     exact ⟨HDL.out, id, (((Keep.refl (fun j => j ≠ Bh + 1) W).set (.inr fun h => h rfl) 0 (.int .i64 0)).obj HDF.out (Ne.symm (blk_not_mark HI.out.be HDF.out)))⟩⟩
    refine leaves_marks [D] _ hmk fun w9 hk => ?_
    have HI := Lib.hid (HI2.out.keep hk fun k h => by
     rw [List.mem_singleton]
     rcases h with h | ⟨t, cs, h⟩
     ·have := HDL.out; omega
     ·exact blk_not_mark h (hmk.all D (.head _)).2.2)
    have r0 := HI.out.be.cell 0
    refine ⟨.int .i64 0, by simp [results, Tryz.results31, go_sem, r0], by rw [HX.out], HI.out.below⟩
   case stop =>
    rintro D W hD ⟨hi, hb⟩ hdef
    have HX := Lib.hid (looseE_no (not_shaped hb))
    have HI := Lib.hid hi
    have HDF := Lib.hid hdef
    have HDL : Hid (w.heap.size ≤ D) := Nat.le_trans HLE.out hD
    clear hi hb hdef hD
    show Code.wpIn _ _ _ Code.ret _ _ _
    unfold mkMark
    gi_wp2_with fail
    have hmk : MarksAt w.heap.size (fun _ => False) [D] W := ⟨by simp, fun E hE => by
     rw [List.mem_singleton] at hE
     subst hE
     exact ⟨HDL.out, id, HDF.out⟩⟩
    refine leaves_marks [D] _ hmk fun w9 hk => ?_
    have HI := Lib.hid (HI.out.keep hk fun k h => by
     rw [List.mem_singleton]
     rcases h with h | ⟨t, cs, h⟩
     ·have := HDL.out; omega
     ·exact blk_not_mark h HDF.out)
    have r0 := HI.out.be.cell 0
    refine ⟨.int .i64 210, by simp [results, Tryz.results31, go_sem, r0], by rw [HX.out], HI.out.below⟩
end Go.Proofs.YtlnbmmaminflcaaGreatDoor
namespace Go.Proofs.YtlnbmmaminflcaaGreatDoor
open Go.RowKit Go.Shelf

def setSort (h : HistM) (k : Nat) (x : SH × List ByteArray) : HistM :=
 if k = 0 then { h with tr := x } else if k = 1 then { h with se := x } else if k = 2 then { h with ob := x } else { h with pr := x }
def HistM.nms (h : HistM) : List (List Value × SH) := [(strs h.tr.2, h.tr.1), (strs h.se.2, h.se.1), (strs h.ob.2, h.ob.1), (strs h.pr.2, h.pr.1)]
section
variable {h : HistM} {k s : Nat} {x : SH × List ByteArray}
theorem set_sort (hk : k < 4) : (setSort h k x).sort k = x := by
 have : k = 0 ∨ k = 1 ∨ k = 2 ∨ k = 3 := by omega
 rcases this with rfl | rfl | rfl | rfl <;> rfl
theorem set_other (hk : k < 4) (hs : s < 4) (hne : s ≠ k) : (setSort h k x).sort s = h.sort s := by
 have h1 : k = 0 ∨ k = 1 ∨ k = 2 ∨ k = 3 := by omega
 have h2 : s = 0 ∨ s = 1 ∨ s = 2 ∨ s = 3 := by omega
 rcases h1 with rfl | rfl | rfl | rfl <;> rcases h2 with rfl | rfl | rfl | rfl <;> first | rfl | omega
theorem set_rest (hk : k < 4) : (setSort h k x).ev = h.ev ∧ (setSort h k x).od = h.od ∧ (setSort h k x).ma = h.ma ∧ (setSort h k x).wa = h.wa := by
 have : k = 0 ∨ k = 1 ∨ k = 2 ∨ k = 3 := by omega
 rcases this with rfl | rfl | rfl | rfl <;> exact ⟨rfl, rfl, rfl, rfl⟩
theorem set_cs (hk : k < 4) : (setSort h k x).cs = h.cs.setIfInBounds k (.slice x.1.A x.1.n x.1.c) := by
 have : k = 0 ∨ k = 1 ∨ k = 2 ∨ k = 3 := by omega
 rcases this with rfl | rfl | rfl | rfl <;> rfl
theorem set_nms (hk : k < 4) : (setSort h k x).nms = h.nms.set k (strs x.2, x.1) := by
 have : k = 0 ∨ k = 1 ∨ k = 2 ∨ k = 3 := by omega
 rcases this with rfl | rfl | rfl | rfl <;> rfl
theorem nms_at (hk : k < 4) : h.nms[k]? = some (strs (h.sort k).2, (h.sort k).1) := by
 have : k = 0 ∨ k = 1 ∨ k = 2 ∨ k = 3 := by omega
 rcases this with rfl | rfl | rfl | rfl <;> rfl
end

def zeroH : Array Value := #[.slice none 0 0, .slice none 0 0, .slice none 0 0, .slice none 0 0, .slice none 0 0, .slice none 0 0, .slice none 0 0, .slice none 0 0]
structure CpI (Bh B3 : Nat) (w X : World) (h : HistM) (scs its : List (List Value × SH)) : Prop where
 below : Below w.heap.size w X
 b3 : Blk X B3 28 h.cs
 br : Blk X (Bh + 1) 28 zeroH
 ne : B3 ≠ Bh ∧ B3 ≠ Bh + 1 ∧ w.heap.size ≤ B3 ∧ w.heap.size ≤ Bh
 nm : RG 9 1 w.heap.size X h.nms
 ev : X.ownsRow w.heap.size 39 9 (.slice h.ev.1.A h.ev.1.n h.ev.1.c) h.ev.1.n (h.ev.2.flatMap evCs)
 od : X.ownsRow w.heap.size 61 2 (.slice h.od.1.A h.od.1.n h.od.1.c) h.od.1.n (h.od.2.flatMap odCs)
 ma : X.ownsRow w.heap.size 64 4 (.slice h.ma.1.A h.ma.1.n h.ma.1.c) h.ma.1.n (h.ma.2.flatMap maCs)
 wa : X.ownsRow w.heap.size 67 2 (.slice h.wa.1.A h.wa.1.n h.wa.1.c) h.wa.1.n (h.wa.2.flatMap waCs)
 sc : RG 59 3 w.heap.size X scs
 it : RG 3 1 w.heap.size X its
section
variable {Bh B3 k i : Nat} {w X Y : World} {h : HistM} {scs its : List (List Value × SH)} {t : TypeId}
theorem CpI.on (c : CpI Bh B3 w X h scs its) (hb : Below X.heap.size X Y) : CpI Bh B3 w Y h scs its :=
 ⟨c.below.trans (hb.mono c.below.size), c.b3.below hb c.b3.lt, c.br.below hb c.br.lt, c.ne, c.nm.on hb, own_on c.ev hb, own_on c.od hb, own_on c.ma hb, own_on c.wa hb, c.sc.on hb, c.it.on hb⟩
theorem CpI.done (c : CpI Bh B3 w X h (h.ev.2.map fun p => (p.1.scan.flatMap seCs, p.2)) ((h.od.2.map fun p => (ints p.1.ts, p.2)) ++ h.ma.2.map fun p => (ints p.1.ts, p.2))) : HOwn w.heap.size X h := ⟨c.nm, c.ev, c.od, c.ma, c.wa, c.sc, c.it⟩
theorem box_turn {g : Nat} {cs : Array Value} (hb : Blk X g t cs) (j : Nat) (u : Value) : KeepT t X (X.setCell ⟨g, j, none⟩ u) := KeepT.set hb j u
theorem CpI.text (c : CpI Bh B3 w X h scs its) (hk : k < 4) {A' : Option Addr} {c' : Nat} {us : List ByteArray}
 (ho : Y.ownsRow w.heap.size 9 1 (.slice A' ((h.sort k).1.n + us.length) c') ((h.sort k).1.n + us.length) (strs (h.sort k).2 ++ strs us)) (hg : X.grownBy Y (Value.slice (h.sort k).1.A (h.sort k).1.n (h.sort k).1.c).ownBlock)
 (hat : (Value.slice A' ((h.sort k).1.n + us.length) c').ownBlock = (Value.slice (h.sort k).1.A (h.sort k).1.n (h.sort k).1.c).ownBlock ∨ (Value.slice A' ((h.sort k).1.n + us.length) c').ownBlock = some X.heap.size) :
 CpI Bh B3 w (Y.setCell ⟨B3, k, none⟩ (.slice A' ((h.sort k).1.n + us.length) c')) (setSort h k (⟨A', (h.sort k).1.n + us.length, c'⟩, (h.sort k).2 ++ us)) scs its := by
 have hold := c.nm.own k _ (nms_at hk)
 have k1 : KeepT 9 X Y := KeepT.grown hold hg
 have b3Y := k1.blk c.b3 (by decide)
 have k2 := box_turn b3Y k (.slice A' ((h.sort k).1.n + us.length) c')
 obtain ⟨e1, e2, e3, e4⟩ := set_rest (h := h) (x := (⟨A', (h.sort k).1.n + us.length, c'⟩, (h.sort k).2 ++ us)) hk
 have hnm := c.nm.grow (nms_at hk) ho hg hat
 constructor
 ·exact (c.below.grown hg c.below.size fun g hg2 => (own_in_block hold hg2).1).setCell (p := ⟨B3, k, none⟩) c.ne.2.2.1 _
 ·rw [set_cs hk]
  exact b3Y.set_ k _
 ·exact (k1.blk c.br (by decide)).far (p := ⟨B3, k, none⟩) (Ne.symm c.ne.2.1) _
 ·exact c.ne
 ·rw [set_nms hk]
  rw [← strs_append] at hnm
  exact hnm.keepT k2 (by decide)
 ·rw [e1]; exact k2.own (k1.own c.ev (by decide)) (by decide)
 ·rw [e2]; exact k2.own (k1.own c.od (by decide)) (by decide)
 ·rw [e3]; exact k2.own (k1.own c.ma (by decide)) (by decide)
 ·rw [e4]; exact k2.own (k1.own c.wa (by decide)) (by decide)
 ·exact (c.sc.keepT k1 (by decide)).keepT k2 (by decide)
 ·exact (c.it.keepT k1 (by decide)).keepT k2 (by decide)
theorem CpI.scan (c : CpI Bh B3 w X h scs its) {g n cc : Nat} (hA : h.ev.1 = ⟨some ⟨g, 0, none⟩, n, cc⟩) {e : EvP} {h0 hd : SH} (hi : h.ev.2[i]? = some (e, h0)) (hb : Below X.heap.size X Y)
 (ho : Y.ownsRow X.heap.size 59 3 (.slice hd.A hd.n hd.c) hd.n (e.scan.flatMap seCs)) :
 CpI Bh B3 w (Y.setCell ⟨g, i * 9 + 8, none⟩ (.slice hd.A hd.n hd.c)) { h with ev := (h.ev.1, h.ev.2.set i (e, hd)) } (scs ++ [(e.scan.flatMap seCs, hd)]) its := by
 have d := c.on hb
 have hev := d.ev
 rw [hA] at hev
 have st := (hev.stored (i * 9 + 8) (.slice hd.A hd.n hd.c)).1
 rw [fm_set evCs_len hi (by omega) (x' := (e, hd)) rfl] at st
 obtain ⟨hB, _, cur, hbk⟩ := own_in hev (g := g) rfl
 have k2 : KeepT 39 Y (Y.setCell ⟨g, i * 9 + 8, none⟩ (.slice hd.A hd.n hd.c)) := box_turn hbk _ _
 constructor
 ·exact d.below.setCell (p := ⟨g, i * 9 + 8, none⟩) hB _
 ·exact k2.blk d.b3 (by decide)
 ·exact k2.blk d.br (by decide)
 ·exact c.ne
 ·exact d.nm.keepT k2 (by decide)
 ·rw [hA]; exact st
 ·exact k2.own d.od (by decide)
 ·exact k2.own d.ma (by decide)
 ·exact k2.own d.wa (by decide)
 ·exact (c.sc.add hb c.below.size ho).keepT k2 (by decide)
 ·exact d.it.keepT k2 (by decide)
theorem CpI.ord (c : CpI Bh B3 w X h scs its) {g n cc : Nat} (hA : h.od.1 = ⟨some ⟨g, 0, none⟩, n, cc⟩) {e : OrdP} {h0 hd : SH} (hi : h.od.2[i]? = some (e, h0)) (hb : Below X.heap.size X Y)
 (ho : Y.ownsRow X.heap.size 3 1 (.slice hd.A hd.n hd.c) hd.n (ints e.ts)) :
 CpI Bh B3 w (Y.setCell ⟨g, i * 2 + 1, none⟩ (.slice hd.A hd.n hd.c)) { h with od := (h.od.1, h.od.2.set i (e, hd)) } scs (its ++ [(ints e.ts, hd)]) := by
 have d := c.on hb
 have hev := d.od
 rw [hA] at hev
 have st := (hev.stored (i * 2 + 1) (.slice hd.A hd.n hd.c)).1
 rw [fm_set odCs_len hi (by omega) (x' := (e, hd)) rfl] at st
 obtain ⟨hB, _, cur, hbk⟩ := own_in hev (g := g) rfl
 have k2 : KeepT 61 Y (Y.setCell ⟨g, i * 2 + 1, none⟩ (.slice hd.A hd.n hd.c)) := box_turn hbk _ _
 constructor
 ·exact d.below.setCell (p := ⟨g, i * 2 + 1, none⟩) hB _
 ·exact k2.blk d.b3 (by decide)
 ·exact k2.blk d.br (by decide)
 ·exact c.ne
 ·exact d.nm.keepT k2 (by decide)
 ·exact k2.own d.ev (by decide)
 ·rw [hA]; exact st
 ·exact k2.own d.ma (by decide)
 ·exact k2.own d.wa (by decide)
 ·exact d.sc.keepT k2 (by decide)
 ·exact (c.it.add hb c.below.size ho).keepT k2 (by decide)
theorem CpI.mat (c : CpI Bh B3 w X h scs its) {g n cc : Nat} (hA : h.ma.1 = ⟨some ⟨g, 0, none⟩, n, cc⟩) {e : MatP} {h0 hd : SH} (hi : h.ma.2[i]? = some (e, h0)) (hb : Below X.heap.size X Y)
 (ho : Y.ownsRow X.heap.size 3 1 (.slice hd.A hd.n hd.c) hd.n (ints e.ts)) :
 CpI Bh B3 w (Y.setCell ⟨g, i * 4 + 3, none⟩ (.slice hd.A hd.n hd.c)) { h with ma := (h.ma.1, h.ma.2.set i (e, hd)) } scs (its ++ [(ints e.ts, hd)]) := by
 have d := c.on hb
 have hev := d.ma
 rw [hA] at hev
 have st := (hev.stored (i * 4 + 3) (.slice hd.A hd.n hd.c)).1
 rw [fm_set maCs_len hi (by omega) (x' := (e, hd)) rfl] at st
 obtain ⟨hB, _, cur, hbk⟩ := own_in hev (g := g) rfl
 have k2 : KeepT 64 Y (Y.setCell ⟨g, i * 4 + 3, none⟩ (.slice hd.A hd.n hd.c)) := box_turn hbk _ _
 constructor
 ·exact d.below.setCell (p := ⟨g, i * 4 + 3, none⟩) hB _
 ·exact k2.blk d.b3 (by decide)
 ·exact k2.blk d.br (by decide)
 ·exact c.ne
 ·exact d.nm.keepT k2 (by decide)
 ·exact k2.own d.ev (by decide)
 ·exact k2.own d.od (by decide)
 ·rw [hA]; exact st
 ·exact k2.own d.wa (by decide)
 ·exact d.sc.keepT k2 (by decide)
 ·exact (c.it.add hb c.below.size ho).keepT k2 (by decide)
end
end Go.Proofs.YtlnbmmaminflcaaGreatDoor
namespace Go.Proofs.YtlnbmmaminflcaaGreatDoor
open Go.RowKit Go.Shelf

def scOf (p : EvP × SH) : List Value × SH := (p.1.scan.flatMap seCs, p.2)
def toOf (p : OrdP × SH) : List Value × SH := (ints p.1.ts, p.2)
def tmOf (p : MatP × SH) : List Value × SH := (ints p.1.ts, p.2)
def PlL (m h : HistM) : Prop := h.pl = m.pl ∧ h.ev.1.n = m.ev.1.n ∧ h.od.1.n = m.od.1.n ∧ h.ma.1.n = m.ma.1.n ∧ h.wa.1.n = m.wa.1.n
theorem take_set {α : Type} {l : List α} {i : Nat} {x y : α} (h : l[i]? = some y) : (l.set i x).take (i + 1) = l.take i ++ [x] := by
 have hi := (List.getElem?_eq_some_iff.1 h).1
 rw [List.take_add_one, List.getElem?_set_self hi, List.take_set_of_le (Nat.le_refl _)]
 rfl
theorem map_set_same {α β : Type} {f : α → β} {l : List α} {i : Nat} {x y : α} (h : l[i]? = some y) (hf : f x = f y) : (l.set i x).map f = l.map f := by
 rw [List.map_set]
 obtain ⟨hi, rfl⟩ := List.getElem?_eq_some_iff.1 h
 rw [hf]
 refine List.ext_getElem? fun k => ?_
 rw [List.getElem?_set]
 split
 ·rename_i e
  subst e
  rw [if_pos (by simpa using hi), List.getElem?_map, List.getElem?_eq_getElem hi]
  rfl
 ·rfl
theorem fst_at {α β : Type} {l : List (α × β)} {l' : List (α × β)} (h : l.map (·.1) = l'.map (·.1)) {i : Nat} {x : α} {y : β} (hi : l'[i]? = some (x, y)) : ∃ z, l[i]? = some (x, z) := by
 have e : (l.map (·.1))[i]? = some x := by rw [h, List.getElem?_map, hi]; rfl
 rw [List.getElem?_map] at e
 cases hl : l[i]? with
 | none => rw [hl] at e; cases e
 | some p =>
  rw [hl] at e
  injection e with e
  obtain ⟨a, b⟩ := p
  subst e
  exact ⟨b, rfl⟩
theorem own_pos {w : World} {base s n c : Nat} {t : TypeId} {A : Option Addr} {xs : List Value} (h : w.ownsRow base t s (.slice A n c) n xs) (hn : 0 < n) : ∃ g, A = some ⟨g, 0, none⟩ := by
 rcases h.2 with ⟨_, e⟩ | ⟨g, cap, cur, e, _⟩
 ·omega
 ·injection e with e1 _ _
  exact ⟨g, e1⟩
theorem own_long {α : Type} {enc : α → List Value} {w : World} {base s n c : Nat} {t : TypeId} {A : Option Addr} {l : List α} (hs : ∀ x, (enc x).length = s) (hp : 0 < s) (h : w.ownsRow base t s (.slice A n c) n (l.flatMap enc)) : l.length = n := by
 have := h.1
 rw [fm_len hs] at this
 exact Nat.eq_of_mul_eq_mul_right hp this
def BoxC (m : HistM) (Bh B3 B4 : Nat) (X : World) : Prop := Blk X Bh 28 m.cs ∧ Blk X B4 75 #[.pointer (some ⟨B3, 0, none⟩), .pointer (some ⟨B3, 1, none⟩), .pointer (some ⟨B3, 2, none⟩), .pointer (some ⟨B3, 3, none⟩)]
theorem BoxC.on {m : HistM} {Bh B3 B4 : Nat} {X Y : World} (h : BoxC m Bh B3 B4 X) (hb : Below X.heap.size X Y) : BoxC m Bh B3 B4 Y := ⟨h.1.below hb h.1.lt, h.2.below hb h.2.lt⟩
theorem BoxC.keepT {m : HistM} {Bh B3 B4 : Nat} {X Y : World} {t : TypeId} (h : BoxC m Bh B3 B4 X) (hk : KeepT t X Y) (h1 : 28 ≠ t) (h2 : 75 ≠ t) : BoxC m Bh B3 B4 Y := ⟨hk.blk h.1 h1, hk.blk h.2 h2⟩
theorem BoxC.far {m : HistM} {Bh B3 B4 : Nat} {X : World} (h : BoxC m Bh B3 B4 X) {h3 : Array Value} (hb : Blk X B3 28 h3) (hne : B3 ≠ Bh) (i : Nat) (u : Value) : BoxC m Bh B3 B4 (X.setCell ⟨B3, i, none⟩ u) := ⟨h.1.far (p := ⟨B3, i, none⟩) (Ne.symm hne) _, h.2.far (p := ⟨B3, i, none⟩) (Blk.ne_ h.2 hb (by decide)) _⟩
def CpS (Bh B3 : Nat) (w X : World) (h : HistM) (i : Nat) : Prop := CpI Bh B3 w X h ((h.ev.2.take i).map scOf) []
def CpO (Bh B3 : Nat) (w X : World) (h : HistM) (i : Nat) : Prop := CpI Bh B3 w X h (h.ev.2.map scOf) ((h.od.2.take i).map toOf)
def CpM (Bh B3 : Nat) (w X : World) (h : HistM) (i : Nat) : Prop := CpI Bh B3 w X h (h.ev.2.map scOf) (h.od.2.map toOf ++ (h.ma.2.take i).map tmOf)
section
variable {Bh B3 B4 i : Nat} {w X : World} {m h : HistM} {scs its : List (List Value × SH)}
theorem CpI.scan_next (c : CpI Bh B3 w X h ((h.ev.2.take i).map scOf) its) (hp : PlL m h) {e : EvP} {hd0 : SH} (hi : m.ev.2[i]? = some (e, hd0)) :
 ∃ (g : Nat) (h0 : SH), h.ev.1.A = some ⟨g, 0, none⟩ ∧ ∀ Y, Below X.heap.size X Y → Y.cell? ⟨g, i * 9 + 8, none⟩ = some (.slice h0.A h0.n h0.c) ∧ Y.frozen? ⟨g, i * 9 + 8, none⟩ = false ∧ ∀ hd : SH, Y.ownsRow X.heap.size 59 3 (.slice hd.A hd.n hd.c) hd.n (e.scan.flatMap seCs) → BoxC m Bh B3 B4 Y →
  BoxC m Bh B3 B4 (Y.setCell ⟨g, i * 9 + 8, none⟩ (.slice hd.A hd.n hd.c)) ∧ ∃ h' : HistM, CpI Bh B3 w (Y.setCell ⟨g, i * 9 + 8, none⟩ (.slice hd.A hd.n hd.c)) h' ((h'.ev.2.take (i + 1)).map scOf) its ∧ PlL m h' ∧ h'.cs = h.cs ∧ h'.od = h.od ∧ h'.ma = h.ma := by
 have hq : h.ev.2.map (·.1) = m.ev.2.map (·.1) := congrArg Hist.ev hp.1
 obtain ⟨h0, hk⟩ := fst_at hq hi
 have hkl := (List.getElem?_eq_some_iff.1 hk).1
 have hl := own_long evCs_len (by omega) c.ev
 obtain ⟨g, hA⟩ := own_pos c.ev (by omega)
 have hA' : h.ev.1 = ⟨some ⟨g, 0, none⟩, h.ev.1.n, h.ev.1.c⟩ := by rw [← hA]
 refine ⟨g, h0, hA, fun Y hb => ?_⟩
 have d := (c.on hb).ev
 rw [hA] at d
 refine ⟨?_, d.frozenAt _, fun hd ho hx => ?_⟩
 ·rw [d.cellAt _ (by omega)]
  exact fm_at evCs_len hk (j := 8) rfl
 ·obtain ⟨hB, _, cur, hbk⟩ := own_in d (g := g) rfl
  have k2 : KeepT 39 Y (Y.setCell ⟨g, i * 9 + 8, none⟩ (.slice hd.A hd.n hd.c)) := box_turn hbk _ _
  refine ⟨hx.keepT k2 (by decide) (by decide), { h with ev := (h.ev.1, h.ev.2.set i (e, hd)) }, ?_, ⟨?_, hp.2⟩, rfl, rfl, rfl⟩
  ·have := c.scan hA' hk hb ho
   show CpI Bh B3 w _ _ (((h.ev.2.set i (e, hd)).take (i + 1)).map scOf) its
   rw [take_set hk, List.map_append]
   exact this
  ·rw [← hp.1]
   unfold HistM.pl
   simp only [Hist.mk.injEq, true_and, and_true]
   exact map_set_same hk rfl
theorem CpI.ord_next (c : CpI Bh B3 w X h scs ((h.od.2.take i).map toOf)) (hp : PlL m h) {e : OrdP} {hd0 : SH} (hi : m.od.2[i]? = some (e, hd0)) :
 ∃ (g : Nat) (h0 : SH), h.od.1.A = some ⟨g, 0, none⟩ ∧ ∀ Y, Below X.heap.size X Y → Y.cell? ⟨g, i * 2 + 1, none⟩ = some (.slice h0.A h0.n h0.c) ∧ Y.frozen? ⟨g, i * 2 + 1, none⟩ = false ∧ ∀ hd : SH, Y.ownsRow X.heap.size 3 1 (.slice hd.A hd.n hd.c) hd.n (ints e.ts) → BoxC m Bh B3 B4 Y →
  BoxC m Bh B3 B4 (Y.setCell ⟨g, i * 2 + 1, none⟩ (.slice hd.A hd.n hd.c)) ∧ ∃ h' : HistM, CpI Bh B3 w (Y.setCell ⟨g, i * 2 + 1, none⟩ (.slice hd.A hd.n hd.c)) h' scs ((h'.od.2.take (i + 1)).map toOf) ∧ PlL m h' ∧ h'.cs = h.cs ∧ h'.ev = h.ev ∧ h'.ma = h.ma := by
 have hq : h.od.2.map (·.1) = m.od.2.map (·.1) := congrArg Hist.od hp.1
 obtain ⟨h0, hk⟩ := fst_at hq hi
 have hkl := (List.getElem?_eq_some_iff.1 hk).1
 have hl := own_long odCs_len (by omega) c.od
 obtain ⟨g, hA⟩ := own_pos c.od (by omega)
 have hA' : h.od.1 = ⟨some ⟨g, 0, none⟩, h.od.1.n, h.od.1.c⟩ := by rw [← hA]
 refine ⟨g, h0, hA, fun Y hb => ?_⟩
 have d := (c.on hb).od
 rw [hA] at d
 refine ⟨?_, d.frozenAt _, fun hd ho hx => ?_⟩
 ·rw [d.cellAt _ (by omega)]
  exact fm_at odCs_len hk (j := 1) rfl
 ·obtain ⟨hB, _, cur, hbk⟩ := own_in d (g := g) rfl
  have k2 : KeepT 61 Y (Y.setCell ⟨g, i * 2 + 1, none⟩ (.slice hd.A hd.n hd.c)) := box_turn hbk _ _
  refine ⟨hx.keepT k2 (by decide) (by decide), { h with od := (h.od.1, h.od.2.set i (e, hd)) }, ?_, ⟨?_, hp.2⟩, rfl, rfl, rfl⟩
  ·have := c.ord hA' hk hb ho
   show CpI Bh B3 w _ _ scs (((h.od.2.set i (e, hd)).take (i + 1)).map toOf)
   rw [take_set hk, List.map_append]
   exact this
  ·rw [← hp.1]
   unfold HistM.pl
   simp only [Hist.mk.injEq, true_and, and_true]
   exact map_set_same hk rfl
theorem CpI.mat_next (c : CpI Bh B3 w X h scs (its ++ (h.ma.2.take i).map tmOf)) (hp : PlL m h) {e : MatP} {hd0 : SH} (hi : m.ma.2[i]? = some (e, hd0)) :
 ∃ (g : Nat) (h0 : SH), h.ma.1.A = some ⟨g, 0, none⟩ ∧ ∀ Y, Below X.heap.size X Y → Y.cell? ⟨g, i * 4 + 3, none⟩ = some (.slice h0.A h0.n h0.c) ∧ Y.frozen? ⟨g, i * 4 + 3, none⟩ = false ∧ ∀ hd : SH, Y.ownsRow X.heap.size 3 1 (.slice hd.A hd.n hd.c) hd.n (ints e.ts) → BoxC m Bh B3 B4 Y →
  BoxC m Bh B3 B4 (Y.setCell ⟨g, i * 4 + 3, none⟩ (.slice hd.A hd.n hd.c)) ∧ ∃ h' : HistM, CpI Bh B3 w (Y.setCell ⟨g, i * 4 + 3, none⟩ (.slice hd.A hd.n hd.c)) h' scs (its ++ (h'.ma.2.take (i + 1)).map tmOf) ∧ PlL m h' ∧ h'.cs = h.cs ∧ h'.ev = h.ev ∧ h'.od = h.od := by
 have hq : h.ma.2.map (·.1) = m.ma.2.map (·.1) := congrArg Hist.ma hp.1
 obtain ⟨h0, hk⟩ := fst_at hq hi
 have hkl := (List.getElem?_eq_some_iff.1 hk).1
 have hl := own_long maCs_len (by omega) c.ma
 obtain ⟨g, hA⟩ := own_pos c.ma (by omega)
 have hA' : h.ma.1 = ⟨some ⟨g, 0, none⟩, h.ma.1.n, h.ma.1.c⟩ := by rw [← hA]
 refine ⟨g, h0, hA, fun Y hb => ?_⟩
 have d := (c.on hb).ma
 rw [hA] at d
 refine ⟨?_, d.frozenAt _, fun hd ho hx => ?_⟩
 ·rw [d.cellAt _ (by omega)]
  exact fm_at maCs_len hk (j := 3) rfl
 ·obtain ⟨hB, _, cur, hbk⟩ := own_in d (g := g) rfl
  have k2 : KeepT 64 Y (Y.setCell ⟨g, i * 4 + 3, none⟩ (.slice hd.A hd.n hd.c)) := box_turn hbk _ _
  refine ⟨hx.keepT k2 (by decide) (by decide), { h with ma := (h.ma.1, h.ma.2.set i (e, hd)) }, ?_, ⟨?_, hp.2⟩, rfl, rfl, rfl⟩
  ·have := c.mat hA' hk hb ho
   show CpI Bh B3 w _ _ scs (its ++ ((h.ma.2.set i (e, hd)).take (i + 1)).map tmOf)
   rw [take_set hk, List.map_append]
   rw [← List.append_assoc]
   exact this
  ·rw [← hp.1]
   unfold HistM.pl
   simp only [Hist.mk.injEq, true_and, and_true]
   exact map_set_same hk rfl
end
end Go.Proofs.YtlnbmmaminflcaaGreatDoor
namespace Go.Proofs.YtlnbmmaminflcaaGreatDoor
open Go.RowKit Go.Shelf
attribute [local go_sem] Oper.semAt_some

def checkE (H : Hist) : Int := if rightB H = true then 0 else 210
theorem checkE_ok {H : Hist} (h : rightB H = true) : checkE H = 0 := by unfold checkE; rw [if_pos h]
theorem checkE_no {H : Hist} (h : rightB H = false) : checkE H = 210 := by unfold checkE; rw [h]; rfl
theorem right_unshaped {H : Hist} (h : shapedB H = false) : rightB H = false := by unfold rightB; rw [h]; rfl
structure MetI (m : HistM) (Bh Bm : Nat) (mt : Nat → Nat) (w X : World) : Prop where
 below : Below w.heap.size w X
 bh : Blk X Bh 28 m.cs
 bm : Blk X Bm 68 #[.int .i64 (mt 0 : Nat), .int .i64 (mt 1 : Nat), .int .i64 (mt 2 : Nat), .int .i64 (mt 3 : Nat)]
section
variable {m : HistM} {Bh Bm : Nat} {mt : Nat → Nat} {w X Y : World}
theorem MetI.on (h : MetI m Bh Bm mt w X) (hb : Below X.heap.size X Y) : MetI m Bh Bm mt w Y := ⟨h.below.trans (hb.mono h.below.size), h.bh.below hb h.bh.lt, h.bm.below hb h.bm.lt⟩
theorem MetI.calm {B : Nat} (h : MetI m Bh Bm mt w X) (hc : Calm B X Y) (hw : w.heap.size ≤ B) : MetI m Bh Bm mt w Y := ⟨h.below.trans (Keep.below hc h.below.size fun k hk => .inl (by omega)), hc.blk h.bh, hc.blk h.bm⟩
theorem MetI.keep {S : Nat → Prop} (h : MetI m Bh Bm mt w X) (hk : Keep S X Y) (hS : ∀ k, (k < w.heap.size ∨ ∃ t cs, Blk X k t cs) → S k) : MetI m Bh Bm mt w Y :=
 ⟨h.below.trans (hk.below h.below.size fun k hk => hS k (.inl hk)), hk.blk h.bh (hS _ (.inr ⟨_, _, h.bh⟩)), hk.blk h.bm (hS _ (.inr ⟨_, _, h.bm⟩))⟩
def upd (mt : Nat → Nat) (s : Nat) : Nat → Nat := fun q => if q = s then mt q + 1 else mt q
theorem mt_at (mt : Nat → Nat) : ∀ s, s < 4 → (#[.int .i64 (mt 0 : Nat), .int .i64 (mt 1 : Nat), .int .i64 (mt 2 : Nat), .int .i64 (mt 3 : Nat)] : Array Value)[s]? = some (.int .i64 (mt s : Nat)) := by
 intro s hs
 have : s = 0 ∨ s = 1 ∨ s = 2 ∨ s = 3 := by omega
 rcases this with rfl | rfl | rfl | rfl <;> rfl
theorem mt_set (mt : Nat → Nat) : ∀ s, s < 4 → (#[.int .i64 (mt 0 : Nat), .int .i64 (mt 1 : Nat), .int .i64 (mt 2 : Nat), .int .i64 (mt 3 : Nat)] : Array Value).setIfInBounds s (.int .i64 ((mt s : Nat) + 1)) = (let mt := upd mt s; #[.int .i64 (mt 0 : Nat), .int .i64 (mt 1 : Nat), .int .i64 (mt 2 : Nat), .int .i64 (mt 3 : Nat)]) := by
 intro s hs
 have : s = 0 ∨ s = 1 ∨ s = 2 ∨ s = 3 := by omega
 rcases this with rfl | rfl | rfl | rfl <;> simp [upd]
theorem MetI.step (h : MetI m Bh Bm mt w X) (hBm : w.heap.size ≤ Bm) {s : Nat} (hs : s < 4) : MetI m Bh Bm (upd mt s) w (X.setCell ⟨Bm, s, none⟩ (.int .i64 ((mt s : Nat) + 1))) :=
 ⟨h.below.setCell (p := ⟨Bm, s, none⟩) hBm _, h.bh.far (p := ⟨Bm, s, none⟩) (Blk.ne_ h.bh h.bm (by decide)) _, by have := h.bm.set_ s (.int .i64 ((mt s : Nat) + 1)); rw [mt_set mt s hs] at this; exact this⟩
end
def Met (H : Hist) (k : Nat) (mt : Nat → Nat) : Prop := ∀ s, s < 4 → spk s ((refs H).take k) = upI (mt s)
section
variable {H : Hist} {k s : Nat} {n : Int} {mt : Nat → Nat}
theorem Met.zero : Met H 0 (fun _ => 0) := fun s _ => by simp; rfl
theorem Met.next (h : Met H k mt) (hk : (refs H)[k]? = some (s, n)) (hn : n = mt s) : Met H (k + 1) (upd mt s) := by
 intro q hq
 rw [List.take_add_one, hk]
 show spk q ((refs H).take k ++ [(s, n)]) = _
 rw [spk_snoc]
 unfold upd
 by_cases e : s = q
 ·subst e
  rw [if_pos rfl, if_pos rfl, h s hq, addI_out (fun hm => by have := (mem_upI.1 hm).2; omega), upI_succ, hn]
 ·rw [if_neg e, if_neg (fun e2 => e e2.symm), h q hq]
theorem Met.same (h : Met H k mt) (hk : (refs H)[k]? = some (s, n)) (h0 : 0 ≤ n) (hn : n < mt s) : Met H (k + 1) mt := by
 intro q hq
 rw [List.take_add_one, hk]
 show spk q ((refs H).take k ++ [(s, n)]) = _
 rw [spk_snoc]
 by_cases e : s = q
 ·subst e
  rw [if_pos rfl, h s hq, addI_in (mem_upI.2 ⟨h0, hn⟩)]
 ·rw [if_neg e, h q hq]
theorem Met.wrong (h : Met H k mt) (hk : (refs H)[k]? = some (s, n)) (hs : s < 4) (hn : (mt s : Int) < n) : ¬ ordP H := by
 intro ho
 have h1 := ho s hs
 have e : refs H = ((refs H).take k ++ [(s, n)]) ++ (refs H).drop (k + 1) := by
  have := (List.take_append_drop (k + 1) (refs H)).symm
  rw [List.take_add_one, hk] at this
  exact this
 obtain ⟨t, ht⟩ := spk_pre s ((refs H).take k ++ [(s, n)]) ((refs H).drop (k + 1))
 rw [← e, spk_snoc, if_pos rfl, h s hs, addI_out (fun hm => by have := (mem_upI.1 hm).2; omega), List.append_assoc] at ht
 rw [h1] at ht
 have hl : mt s < H.many s := by
  have := congrArg List.length ht
  rw [upI_len, List.length_append, upI_len] at this
  simp at this
  omega
 have h2 : (upI (H.many s))[mt s]? = (upI (mt s) ++ ([n] ++ t))[mt s]? := by rw [ht]
 rw [upI_at hl, List.getElem?_append_right (by rw [upI_len]; omega), upI_len, Nat.sub_self] at h2
 simp at h2
 omega
theorem Met.all (h : Met H (refs H).length mt) (hs : shapedB H = true) : rightB H = true ↔ ∀ s, s < 4 → mt s = H.many s := by
 have e : (refs H).take (refs H).length = refs H := List.take_length
 unfold Met at h
 rw [e] at h
 unfold rightB
 rw [hs, Bool.true_and, ordB_iff]
 constructor
 ·intro ho s hs
  have := congrArg List.length ((h s hs).symm.trans (ho s hs))
  rwa [upI_len, upI_len] at this
 ·intro hm s hs
  rw [h s hs, hm s hs]
theorem right_not (h : ¬ ordP H) : rightB H = false := by
 unfold rightB
 cases hb : ordB H
 ·rw [Bool.and_false]
 ·exact absurd (ordB_iff.1 hb) h
end

theorem mt4_at (mt : Nat → Nat) : ∀ k, k < 4 → (#[.int .i64 (mt 0 : Nat), .int .i64 (mt 1 : Nat), .int .i64 (mt 2 : Nat), .int .i64 (mt 3 : Nat)] : Array Value)[k]? = some (.int .i64 (mt k : Nat)) := by
 intro k hk
 have : k = 0 ∨ k = 1 ∨ k = 2 ∨ k = 3 := by omega
 rcases this with rfl | rfl | rfl | rfl <;> rfl
set_option maxRecDepth 100000 in
set_option maxHeartbeats 16000000 in
theorem check11_any (m : HistM) (hS : Small m.pl) (w : World) (hT : Tabs w) (hm : HRd w w.heap.size m) : Calls Tryz.prog 9 #[.agg #[.slice m.tr.1.A m.tr.1.n m.tr.1.c, .slice m.se.1.A m.se.1.n m.se.1.c, .slice m.ob.1.A m.ob.1.n m.ob.1.c, .slice m.pr.1.A m.pr.1.n m.pr.1.c, .slice m.ev.1.A m.ev.1.n m.ev.1.c, .slice m.od.1.A m.od.1.n m.od.1.c, .slice m.ma.1.A m.ma.1.n m.ma.1.c, .slice m.wa.1.A m.wa.1.n m.wa.1.c]] w fun e w' => e = .returned (.int .i64 (checkE m.pl)) ∧ Below w.heap.size w w' := by
 obtain ⟨kh, b0, hs0⟩ := ibox w #[.slice m.tr.1.A m.tr.1.n m.tr.1.c, .slice m.se.1.A m.se.1.n m.se.1.c, .slice m.ob.1.A m.ob.1.n m.ob.1.c, .slice m.pr.1.A m.pr.1.n m.pr.1.c, .slice m.ev.1.A m.ev.1.n m.ev.1.c, .slice m.od.1.A m.od.1.n m.od.1.c, .slice m.ma.1.A m.ma.1.n m.ma.1.c, .slice m.wa.1.A m.wa.1.n m.wa.1.c] 28
 have HC := Lib.hid (loose_any m hS _ (hT.on b0 (Nat.le_refl _)) ((hm.on b0).more b0.size))
 have KH := Lib.hid kh
 have B0 := Lib.hid b0
 clear kh b0 hs0 hT
 refine (callsIn_wide (n := 6)).1 (callsIn_of_wp_marks Tryz.func9 rfl trivial ?_ rfl)
 simp only [Tryz.ntmps9, List.size_toArray, List.length_cons, List.length_nil, Nat.reduceAdd, Nat.reduceSub, Array.replicate_succ, Array.replicate_zero, List.push_toArray, List.append_toArray, List.nil_append, List.cons_append]
 gi_wp2_with fail
 refine wpIn_wide.2 (wp_scope_straight ?_)
 go_wp2_with fail
 refine HC.out.mono ?_
 rintro e w1 ⟨rfl, b1⟩
 have KH := Lib.hid (KH.out.below b1 KH.out.lt)
 have B1 := Lib.hid (B0.out.trans (b1.mono B0.out.size))
 clear b1 HC B0
 cases hx : shapedB m.pl
 ·have HX := Lib.hid (checkE_no (right_unshaped hx))
  rw [looseE_no hx]
  clear hx
  go_wp2_with fail
  rw [Exit.noGoto_ret]
  refine leaves_marks (B := 0) (C := fun _ => False) [] _ (MarksAt.nil _ _ _) fun w6 hk => ?_
  exact ⟨.int .i64 210, by simp [results, Tryz.results9, go_sem], by rw [HX.out], B1.out.trans (hk.below B1.out.size fun _ _ => by simp)⟩
 rw [looseE_ok hx]
 have HSH := Lib.hid hx
 obtain ⟨km, bm, hsm⟩ := ibox w1 #[.int .i64 0, .int .i64 0, .int .i64 0, .int .i64 0] 68
 have hI : MetI m w.heap.size w1.heap.size (fun _ => 0) w (w1.alloc (.cells #[.int .i64 0, .int .i64 0, .int .i64 0, .int .i64 0] 68)) := ⟨B1.out.trans (bm.mono B1.out.size), KH.out.below bm KH.out.lt, km⟩
 have HI := Lib.hid hI
 have HBM : Hid (w.heap.size ≤ w1.heap.size) := B1.out.size
 clear hx km bm hsm hI KH
 go_wp2_with fail
 refine (wpIn_wide (n := 6)).1 (wpIn_label ?_)
 generalize w1.alloc (.cells #[.int .i64 0, .int .i64 0, .int .i64 0, .int .i64 0] 68) = W1 at *
 clear B1
 generalize w1.heap.size = Bm at *
 obtain ⟨Bh, hBh⟩ : ∃ Bh, Bh = w.heap.size := ⟨_, rfl⟩
 rw [← hBh] at HI ⊢
 clear hBh
 go_wp2_with fail
 refine (spoken_any ⟨Bh, 0, none⟩ W1).mono ?_
 rintro e w6 ⟨rfl, rfl⟩
 obtain ⟨kp, bp, hsp⟩ := ibox W1 #[.pointer (some ⟨Bh, 0, none⟩)] 72
 have HI := Lib.hid (HI.out.on bp)
 have KP := Lib.hid kp
 clear kp bp hsp
 go_wp2_with fail
 generalize W1.alloc (.cells #[.pointer (some ⟨Bh, 0, none⟩)] 72) = W6 at *
 generalize W1.heap.size = Bp at *
 refine (wpIn_wide (n := 6)).1 ?_
 have HLE : Hid (w.heap.size ≤ W6.heap.size) := HI.out.below.size
 refine range_sp (some 0) (by omega) (gf := 64) (lb := #[.pointer (some ⟨Bp, 0, none⟩)]) rfl eg_spoken (cs := plcs m) (Sk := SkH m Bh) (spoken_seq _ Bp Bh m hm.fit (hm.fit.low hS) W6 KP.out) 15 16 5 6 rfl
  (fun k X => ∃ mt, MetI m Bh Bm mt w X ∧ Met m.pl k mt) (fun X => ∃ mt, MetI m Bh Bm mt w X ∧ (∃ s, s < 4 ∧ mt s ≠ m.pl.many s) ∧ rightB m.pl = false) ?hSk ⟨_, HI.out, Met.zero⟩ ?hI ?hIx ?assign ?body ?done ?stop
 case hSk =>
  rintro k X ⟨mt, h, _⟩
  exact (hm.on h.below).skel h.bh
 case hI =>
  rintro k X Y ⟨mt, h, h2⟩ hc
  exact ⟨mt, h.calm hc HLE.out, h2⟩
 case hIx =>
  rintro X Y ⟨mt, h, h2⟩ hc
  exact ⟨mt, h.calm hc HLE.out, h2⟩
 case assign =>
  intro l x y W K hK
  simp only [List.setIfInBounds_toArray, List.set_cons_zero, List.set_cons_succ] at hK ⊢
  gi_wp2_with fail
  exact hK
 case body =>
  rintro l k s p X hcs ⟨mt, hi, hk⟩ hsz
  obtain ⟨n, hrf, hcell0⟩ := Lnk.at_ (hm.on hi.below).lnk hcs
  have hs4 : s < 4 := refs_sort (H := m.pl) (s, n) (List.mem_of_getElem? hrf)
  have hin := shaped_in HSH.out (List.mem_of_getElem? hrf)
  have hm60 := hS.many s
  simp only at hin
  have hc1 : X.drew.cell? p = some (.int .i64 n) := hcell0
  have hm1 : X.drew.cell? ⟨Bm, s, none⟩ = some (.int .i64 (mt s : Nat)) := (hi.bm.drew.cell s).trans (mt_at mt s hs4)
  have hs0 : ¬ (s : Int) < 0 := by omega
  have hs5 : (s : Int) < 4 := by omega
  have HI := Lib.hid hi
  have HK := Lib.hid hk
  have HRF := Lib.hid hrf
  have HIN := Lib.hid hin
  simp only [List.setIfInBounds_toArray, List.set_cons_zero, List.set_cons_succ]
  clear hcs hi hk hrf hcell0 hsz hin
  by_cases h0 : n = mt s
  ·have hb : (n == (mt s : Int)) = true := by simp [h0]
   have hmtb : (mt s : Int) < 1000 := by have := HIN.out; omega
   have hw1 : IntKind.i64.wrap ((mt s : Int) + 1) = (mt s : Int) + 1 := by rw [IntKind.wrap_i64]; omega
   have f5 := HI.out.bm.drew.frozen s
   have HX : Hid (SpPost (some 0) (fun k X => ∃ mt, MetI m Bh Bm mt w X ∧ Met m.pl k mt) (fun X => ∃ mt, MetI m Bh Bm mt w X ∧ (∃ s, s < 4 ∧ mt s ≠ m.pl.many s) ∧ rightB m.pl = false) k X .normal ⟨#[], []⟩ (X.drew.setCell ⟨Bm, s, none⟩ (.int .i64 ((mt s : Nat) + 1)))) :=
    .inl ⟨rfl, ⟨upd mt s, (HI.out.on ((Below.refl _ _).drew)).step HBM.out hs4, HK.out.next HRF.out h0⟩, (Rk.of_below ((Below.refl _ _).drew)).trans (Rk.set HI.out.bm.drew (by decide) _ _)⟩
   clear h0
   gi_wp2_with fail
   refine region_round (S := fun W => W.cell? p = some (.int .i64 n) ∧ W.cell? ⟨Bm, s, none⟩ = some (.int .i64 (mt s : Nat))) (by kernel_rfl) (by kernel_rfl) ⟨hc1, hm1⟩ (fun hHeld => ?_)
   refine tkv 0 (some 18) (.pointer (some p)) rfl rfl (fun w' hSw => by go_simp) ?_
   try simp only [Act.put, sA, sB, sC]
   refine tkv 1 (some 19) (.pointer (some p)) rfl rfl (fun w' hSw => by go_simp) ?_
   try simp only [Act.put, sA, sB, sC]
   refine tkv 2 (some 20) (.int .i64 n) rfl rfl (fun w' hSw => by (obtain ⟨q1, q2⟩ := hSw; go_simp)) ?_
   try simp only [Act.put, sA, sB, sC]
   refine tkv 3 (some 21) (.int .i64 (s : Nat)) rfl rfl (fun w' hSw => by go_simp) ?_
   try simp only [Act.put, sA, sB, sC]
   refine tkv 4 (some 22) (.pointer (some ⟨Bm, s, none⟩)) rfl rfl (fun w' hSw => by go_simp) ?_
   try simp only [Act.put, sA, sB, sC]
   refine tkv 5 (some 23) (.int .i64 (mt s : Nat)) rfl rfl (fun w' hSw => by (obtain ⟨q1, q2⟩ := hSw; go_simp)) ?_
   try simp only [Act.put, sA, sB, sC]
   refine tkv 6 (some 24) (.bool true) rfl rfl (fun w' hSw => by go_simp) ?_
   try simp only [Act.put, sA, sB, sC]
   refine tkv 7 (some 17) (.bool true) rfl rfl (fun w' hSw => by go_simp) ?_
   try simp only [Act.put, sA, sB, sC]
   refine wpAnyH_done (by kernel_rfl) ?_ _
   refine OnlyN.normal ?_
   gi_wp2_with fail
   exact HX.out
  ·have hb : (n == (mt s : Int)) = false := by simpa using h0
   by_cases h1 : n > (mt s : Int)
   ·have HX : Hid (SpPost (some 0) (fun k X => ∃ mt, MetI m Bh Bm mt w X ∧ Met m.pl k mt) (fun X => ∃ mt, MetI m Bh Bm mt w X ∧ (∃ s, s < 4 ∧ mt s ≠ m.pl.many s) ∧ rightB m.pl = false) k X (.exit 0) ⟨#[], []⟩ X.drew.drew) :=
     .inr ⟨rfl, ⟨mt, HI.out.on (((Below.refl _ _).drew).drew), ⟨s, hs4, by have := HIN.out; omega⟩, right_not (HK.out.wrong HRF.out hs4 h1)⟩, Rk.of_below (((Below.refl _ _).drew).drew)⟩
    clear h0
    gi_wp2_with fail
    refine region_round (S := fun W => W.cell? p = some (.int .i64 n) ∧ W.cell? ⟨Bm, s, none⟩ = some (.int .i64 (mt s : Nat))) (by kernel_rfl) (by kernel_rfl) ⟨hc1, hm1⟩ (fun hHeld => ?_)
    refine tkv 0 (some 18) (.pointer (some p)) rfl rfl (fun w' hSw => by go_simp) ?_
    try simp only [Act.put, sA, sB, sC]
    refine tkv 1 (some 19) (.pointer (some p)) rfl rfl (fun w' hSw => by go_simp) ?_
    try simp only [Act.put, sA, sB, sC]
    refine tkv 2 (some 20) (.int .i64 n) rfl rfl (fun w' hSw => by (obtain ⟨q1, q2⟩ := hSw; go_simp)) ?_
    try simp only [Act.put, sA, sB, sC]
    refine tkv 3 (some 21) (.int .i64 (s : Nat)) rfl rfl (fun w' hSw => by go_simp) ?_
    try simp only [Act.put, sA, sB, sC]
    refine tkv 4 (some 22) (.pointer (some ⟨Bm, s, none⟩)) rfl rfl (fun w' hSw => by go_simp) ?_
    try simp only [Act.put, sA, sB, sC]
    refine tkv 5 (some 23) (.int .i64 (mt s : Nat)) rfl rfl (fun w' hSw => by (obtain ⟨q1, q2⟩ := hSw; go_simp)) ?_
    try simp only [Act.put, sA, sB, sC]
    refine tkv 6 (some 24) (.bool false) rfl rfl (fun w' hSw => by go_simp) ?_
    try simp only [Act.put, sA, sB, sC]
    refine tkv 7 (some 17) (.bool false) rfl rfl (fun w' hSw => by go_simp) ?_
    try simp only [Act.put, sA, sB, sC]
    refine wpAnyH_done (by kernel_rfl) ?_ _
    refine OnlyN.normal ?_
    have hc2 : X.drew.drew.cell? p = some (.int .i64 n) := hc1
    have hm2 : X.drew.drew.cell? ⟨Bm, s, none⟩ = some (.int .i64 (mt s : Nat)) := hm1
    gi_wp2_with fail
    refine region_round (S := fun W => W.cell? p = some (.int .i64 n) ∧ W.cell? ⟨Bm, s, none⟩ = some (.int .i64 (mt s : Nat))) (by kernel_rfl) (by kernel_rfl) ⟨hc2, hm2⟩ (fun hHeld => ?_)
    refine tkv 0 (some 31) (.pointer (some p)) rfl rfl (fun w' hSw => by go_simp) ?_
    try simp only [Act.put, sA, sB, sC]
    refine tkv 1 (some 32) (.pointer (some p)) rfl rfl (fun w' hSw => by go_simp) ?_
    try simp only [Act.put, sA, sB, sC]
    refine tkv 2 (some 33) (.int .i64 n) rfl rfl (fun w' hSw => by (obtain ⟨q1, q2⟩ := hSw; go_simp)) ?_
    try simp only [Act.put, sA, sB, sC]
    refine tkv 3 (some 34) (.int .i64 (s : Nat)) rfl rfl (fun w' hSw => by go_simp) ?_
    try simp only [Act.put, sA, sB, sC]
    refine tkv 4 (some 35) (.pointer (some ⟨Bm, s, none⟩)) rfl rfl (fun w' hSw => by go_simp) ?_
    try simp only [Act.put, sA, sB, sC]
    refine tkv 5 (some 36) (.int .i64 (mt s : Nat)) rfl rfl (fun w' hSw => by (obtain ⟨q1, q2⟩ := hSw; go_simp)) ?_
    try simp only [Act.put, sA, sB, sC]
    refine tkv 6 (some 37) (.bool true) rfl rfl (fun w' hSw => by go_simp) ?_
    try simp only [Act.put, sA, sB, sC]
    refine tkv 7 (some 30) (.bool true) rfl rfl (fun w' hSw => by go_simp) ?_
    try simp only [Act.put, sA, sB, sC]
    refine wpAnyH_done (by kernel_rfl) ?_ _
    refine OnlyN.normal ?_
    gi_wp2_with fail
    exact HX.out
   ·have HX : Hid (SpPost (some 0) (fun k X => ∃ mt, MetI m Bh Bm mt w X ∧ Met m.pl k mt) (fun X => ∃ mt, MetI m Bh Bm mt w X ∧ (∃ s, s < 4 ∧ mt s ≠ m.pl.many s) ∧ rightB m.pl = false) k X .normal ⟨#[], []⟩ X.drew.drew) :=
     .inl ⟨rfl, ⟨mt, HI.out.on (((Below.refl _ _).drew).drew), HK.out.same HRF.out HIN.out.1 (by omega)⟩, Rk.of_below (((Below.refl _ _).drew).drew)⟩
    clear h0
    gi_wp2_with fail
    refine region_round (S := fun W => W.cell? p = some (.int .i64 n) ∧ W.cell? ⟨Bm, s, none⟩ = some (.int .i64 (mt s : Nat))) (by kernel_rfl) (by kernel_rfl) ⟨hc1, hm1⟩ (fun hHeld => ?_)
    refine tkv 0 (some 18) (.pointer (some p)) rfl rfl (fun w' hSw => by go_simp) ?_
    try simp only [Act.put, sA, sB, sC]
    refine tkv 1 (some 19) (.pointer (some p)) rfl rfl (fun w' hSw => by go_simp) ?_
    try simp only [Act.put, sA, sB, sC]
    refine tkv 2 (some 20) (.int .i64 n) rfl rfl (fun w' hSw => by (obtain ⟨q1, q2⟩ := hSw; go_simp)) ?_
    try simp only [Act.put, sA, sB, sC]
    refine tkv 3 (some 21) (.int .i64 (s : Nat)) rfl rfl (fun w' hSw => by go_simp) ?_
    try simp only [Act.put, sA, sB, sC]
    refine tkv 4 (some 22) (.pointer (some ⟨Bm, s, none⟩)) rfl rfl (fun w' hSw => by go_simp) ?_
    try simp only [Act.put, sA, sB, sC]
    refine tkv 5 (some 23) (.int .i64 (mt s : Nat)) rfl rfl (fun w' hSw => by (obtain ⟨q1, q2⟩ := hSw; go_simp)) ?_
    try simp only [Act.put, sA, sB, sC]
    refine tkv 6 (some 24) (.bool false) rfl rfl (fun w' hSw => by go_simp) ?_
    try simp only [Act.put, sA, sB, sC]
    refine tkv 7 (some 17) (.bool false) rfl rfl (fun w' hSw => by go_simp) ?_
    try simp only [Act.put, sA, sB, sC]
    refine wpAnyH_done (by kernel_rfl) ?_ _
    refine OnlyN.normal ?_
    have hc2 : X.drew.drew.cell? p = some (.int .i64 n) := hc1
    have hm2 : X.drew.drew.cell? ⟨Bm, s, none⟩ = some (.int .i64 (mt s : Nat)) := hm1
    gi_wp2_with fail
    refine region_round (S := fun W => W.cell? p = some (.int .i64 n) ∧ W.cell? ⟨Bm, s, none⟩ = some (.int .i64 (mt s : Nat))) (by kernel_rfl) (by kernel_rfl) ⟨hc2, hm2⟩ (fun hHeld => ?_)
    refine tkv 0 (some 31) (.pointer (some p)) rfl rfl (fun w' hSw => by go_simp) ?_
    try simp only [Act.put, sA, sB, sC]
    refine tkv 1 (some 32) (.pointer (some p)) rfl rfl (fun w' hSw => by go_simp) ?_
    try simp only [Act.put, sA, sB, sC]
    refine tkv 2 (some 33) (.int .i64 n) rfl rfl (fun w' hSw => by (obtain ⟨q1, q2⟩ := hSw; go_simp)) ?_
    try simp only [Act.put, sA, sB, sC]
    refine tkv 3 (some 34) (.int .i64 (s : Nat)) rfl rfl (fun w' hSw => by go_simp) ?_
    try simp only [Act.put, sA, sB, sC]
    refine tkv 4 (some 35) (.pointer (some ⟨Bm, s, none⟩)) rfl rfl (fun w' hSw => by go_simp) ?_
    try simp only [Act.put, sA, sB, sC]
    refine tkv 5 (some 36) (.int .i64 (mt s : Nat)) rfl rfl (fun w' hSw => by (obtain ⟨q1, q2⟩ := hSw; go_simp)) ?_
    try simp only [Act.put, sA, sB, sC]
    refine tkv 6 (some 37) (.bool false) rfl rfl (fun w' hSw => by go_simp) ?_
    try simp only [Act.put, sA, sB, sC]
    refine tkv 7 (some 30) (.bool false) rfl rfl (fun w' hSw => by go_simp) ?_
    try simp only [Act.put, sA, sB, sC]
    refine wpAnyH_done (by kernel_rfl) ?_ _
    refine OnlyN.normal ?_
    gi_wp2_with fail
    exact HX.out
 case done =>
  rintro D W hD ⟨mt, hi, hk⟩ hdef
  have HALL : Hid (rightB m.pl = true ↔ ∀ s, s < 4 → mt s = m.pl.many s) := Met.all (by have := hk; rwa [(hm.lnk).len] at this) HSH.out
  have HI := Lib.hid hi
  have HDF := Lib.hid hdef
  have HDL : Hid (w.heap.size ≤ D) := Nat.le_trans HLE.out hD
  clear hi hk hdef hD
  unfold mkMark
  gi_wp2_with fail
  go_wp2_with fail
  refine (names_any Bh W).mono ?_
  rintro e w7 ⟨rfl, b7⟩
  have HI := Lib.hid (HI.out.on b7)
  have HDF := Lib.hid ((Keep.of_all (fun _ => True) b7).obj HDF.out trivial)
  clear b7
  go_wp2_with fail
  go_loopw [39] (fun v wr => ∃ k : Nat, k ≤ 4 ∧ v = .int .i64 k ∧ Hid (∀ s, s < k → mt s = m.pl.many s) ∧ Hid (MetI m Bh Bm mt w wr) ∧ Hid (wr.heap[D]? = some (.deferred (some [])))) (fun v _ => 4 - (intOf v).toNat)
  case atStart => exact ⟨0, by omega, rfl, fun s hs => absurd hs (Nat.not_lt_zero _), HI, HDF⟩
  case round =>
   clear HI HDF
   obtain ⟨k, hk, rfl, HEQ, HI, HDF⟩ := hrel
   by_cases hk4 : k < 4
   ·have hkl : (k : Int) < 4 := by omega
    have z1 : wr.cell? ⟨Bh, k, none⟩ = some (.slice (m.sort k).1.A (m.sort k).1.n (m.sort k).1.c) := (HI.out.bh.cell k).trans (cs_sort m k hk4)
    have z2 : wr.cell? ⟨Bm, k, none⟩ = some (.int .i64 (mt k : Nat)) := (HI.out.bm.cell k).trans (mt4_at mt k hk4)
    have hix := idx4 hk4 Bh wr
    have HMN : Hid (m.pl.many k = (m.sort k).1.n) := by show _ = _; rw [many_len, ← sort_names]; exact strs_len (hm.sort k)
    by_cases hq : mt k = (m.sort k).1.n
    ·have hb : ((mt k : Int) != ((m.sort k).1.n : Int)) = false := by simp; omega
     have HEQ : Hid (∀ s, s < k + 1 → mt s = m.pl.many s) := fun s hs => by
      rcases Nat.lt_or_ge s k with h | h
      ·exact HEQ.out s h
      ·obtain rfl : s = k := by omega
       rw [HMN.out]
       exact hq
     clear hq
     go_wp2_with fail
     go_quiet (fail)
     go_wp2_with fail
     go_roundw
     case rel => exact ⟨k + 1, by omega, by go_num, HEQ, HI.out.on (below_drewN (Below.refl _ _) _), HDF⟩
     case measure => simp [intOf]; omega
    ·have hb : ((mt k : Int) != ((m.sort k).1.n : Int)) = true := by simp; omega
     have HX : Hid (checkE m.pl = 210) := checkE_no (by
      rw [Bool.eq_false_iff]
      intro h
      have := HALL.out.1 h k hk4
      rw [HMN.out] at this
      exact hq this)
     clear hq
     go_wp2_with fail
     go_quiet (fail)
     go_wp2_with fail
     have HI := Lib.hid (HI.out.on (below_drewN (Below.refl _ _) nq))
     have HDF : Hid ((wr.drewN nq).heap[D]? = some (.deferred (some []))) := HDF.out
     have hmk : MarksAt w.heap.size (fun _ => False) [D] (wr.drewN nq) := ⟨by simp, fun E hE => by
      rw [List.mem_singleton] at hE
      subst hE
      exact ⟨HDL.out, id, HDF.out⟩⟩
     rw [Exit.noGoto_ret]
     refine leaves_marks [D] _ hmk fun w9 hk => ?_
     have HI := Lib.hid (HI.out.keep hk fun k h => by
      rw [List.mem_singleton]
      rcases h with h | ⟨t, cs, h⟩
      ·have := HDL.out; omega
      ·exact blk_not_mark h HDF.out)
     exact ⟨.int .i64 210, by simp [results, Tryz.results9, go_sem], by rw [HX.out], HI.out.below⟩
   ·obtain rfl : k = 4 := by omega
    simp only [show ((4 : Nat) : Int) = 4 from rfl]
    clear hk hk4
    have HX : Hid (checkE m.pl = 0) := checkE_ok (HALL.out.2 HEQ.out)
    go_wp2_with fail
    have hmk : MarksAt w.heap.size (fun _ => False) [D] wr := ⟨by simp, fun E hE => by
     rw [List.mem_singleton] at hE
     subst hE
     exact ⟨HDL.out, id, HDF.out⟩⟩
    rw [Exit.noGoto_ret]
    refine leaves_marks [D] _ hmk fun w9 hk => ?_
    have HI := Lib.hid (HI.out.keep hk fun k h => by
     rw [List.mem_singleton]
     rcases h with h | ⟨t, cs, h⟩
     ·have := HDL.out; omega
     ·exact blk_not_mark h HDF.out)
    exact ⟨.int .i64 0, by simp [results, Tryz.results9, go_sem], by rw [HX.out], HI.out.below⟩
 case stop =>
  rintro D W hD ⟨mt, hi, ⟨s0, hs0, hne⟩, hb⟩ hdef
  have HALL : Hid (rightB m.pl = true ↔ ∀ s, s < 4 → mt s = m.pl.many s) := ⟨fun h => (by rw [hb] at h; cases h), fun h => absurd (h s0 hs0) hne⟩
  have HI := Lib.hid hi
  have HDF := Lib.hid hdef
  have HDL : Hid (w.heap.size ≤ D) := Nat.le_trans HLE.out hD
  clear hi hb hne hs0 hdef hD
  show Code.wpIn _ _ _ (Code.exit 0) _ _ _
  unfold mkMark
  gi_wp2_with fail
  go_wp2_with fail
  refine (names_any Bh W).mono ?_
  rintro e w7 ⟨rfl, b7⟩
  have HI := Lib.hid (HI.out.on b7)
  have HDF := Lib.hid ((Keep.of_all (fun _ => True) b7).obj HDF.out trivial)
  clear b7
  go_wp2_with fail
  go_loopw [39] (fun v wr => ∃ k : Nat, k ≤ 4 ∧ v = .int .i64 k ∧ Hid (∀ s, s < k → mt s = m.pl.many s) ∧ Hid (MetI m Bh Bm mt w wr) ∧ Hid (wr.heap[D]? = some (.deferred (some [])))) (fun v _ => 4 - (intOf v).toNat)
  case atStart => exact ⟨0, by omega, rfl, fun s hs => absurd hs (Nat.not_lt_zero _), HI, HDF⟩
  case round =>
   clear HI HDF
   obtain ⟨k, hk, rfl, HEQ, HI, HDF⟩ := hrel
   by_cases hk4 : k < 4
   ·have hkl : (k : Int) < 4 := by omega
    have z1 : wr.cell? ⟨Bh, k, none⟩ = some (.slice (m.sort k).1.A (m.sort k).1.n (m.sort k).1.c) := (HI.out.bh.cell k).trans (cs_sort m k hk4)
    have z2 : wr.cell? ⟨Bm, k, none⟩ = some (.int .i64 (mt k : Nat)) := (HI.out.bm.cell k).trans (mt4_at mt k hk4)
    have hix := idx4 hk4 Bh wr
    have HMN : Hid (m.pl.many k = (m.sort k).1.n) := by show _ = _; rw [many_len, ← sort_names]; exact strs_len (hm.sort k)
    by_cases hq : mt k = (m.sort k).1.n
    ·have hb : ((mt k : Int) != ((m.sort k).1.n : Int)) = false := by simp; omega
     have HEQ : Hid (∀ s, s < k + 1 → mt s = m.pl.many s) := fun s hs => by
      rcases Nat.lt_or_ge s k with h | h
      ·exact HEQ.out s h
      ·obtain rfl : s = k := by omega
       rw [HMN.out]
       exact hq
     clear hq
     go_wp2_with fail
     go_quiet (fail)
     go_wp2_with fail
     go_roundw
     case rel => exact ⟨k + 1, by omega, by go_num, HEQ, HI.out.on (below_drewN (Below.refl _ _) _), HDF⟩
     case measure => simp [intOf]; omega
    ·have hb : ((mt k : Int) != ((m.sort k).1.n : Int)) = true := by simp; omega
     have HX : Hid (checkE m.pl = 210) := checkE_no (by
      rw [Bool.eq_false_iff]
      intro h
      have := HALL.out.1 h k hk4
      rw [HMN.out] at this
      exact hq this)
     clear hq
     go_wp2_with fail
     go_quiet (fail)
     go_wp2_with fail
     have HI := Lib.hid (HI.out.on (below_drewN (Below.refl _ _) nq))
     have HDF : Hid ((wr.drewN nq).heap[D]? = some (.deferred (some []))) := HDF.out
     have hmk : MarksAt w.heap.size (fun _ => False) [D] (wr.drewN nq) := ⟨by simp, fun E hE => by
      rw [List.mem_singleton] at hE
      subst hE
      exact ⟨HDL.out, id, HDF.out⟩⟩
     rw [Exit.noGoto_ret]
     refine leaves_marks [D] _ hmk fun w9 hk => ?_
     have HI := Lib.hid (HI.out.keep hk fun k h => by
      rw [List.mem_singleton]
      rcases h with h | ⟨t, cs, h⟩
      ·have := HDL.out; omega
      ·exact blk_not_mark h HDF.out)
     exact ⟨.int .i64 210, by simp [results, Tryz.results9, go_sem], by rw [HX.out], HI.out.below⟩
   ·obtain rfl : k = 4 := by omega
    simp only [show ((4 : Nat) : Int) = 4 from rfl]
    clear hk hk4
    have HX : Hid (checkE m.pl = 0) := checkE_ok (HALL.out.2 HEQ.out)
    go_wp2_with fail
    have hmk : MarksAt w.heap.size (fun _ => False) [D] wr := ⟨by simp, fun E hE => by
     rw [List.mem_singleton] at hE
     subst hE
     exact ⟨HDL.out, id, HDF.out⟩⟩
    rw [Exit.noGoto_ret]
    refine leaves_marks [D] _ hmk fun w9 hk => ?_
    have HI := Lib.hid (HI.out.keep hk fun k h => by
     rw [List.mem_singleton]
     rcases h with h | ⟨t, cs, h⟩
     ·have := HDL.out; omega
     ·exact blk_not_mark h HDF.out)
    exact ⟨.int .i64 0, by simp [results, Tryz.results9, go_sem], by rw [HX.out], HI.out.below⟩
end Go.Proofs.YtlnbmmaminflcaaGreatDoor
namespace Go.Proofs.YtlnbmmaminflcaaGreatDoor
open Go.RowKit Go.Shelf

structure GotI (w : World) (xs : List Int) (v : Value) (X : World) : Prop where
 own : X.ownsRow w.heap.size 3 1 v xs.length (ints xs)
 below : Below w.heap.size w X
section
variable {w X Y : World} {xs : List Int} {v v' : Value} {x : Int} {o : Obj}
theorem GotI.cast {ys : List Int} (h : GotI w xs v X) (e : ys = xs) : GotI w ys v X := by rw [e]; exact h
theorem GotI.on (h : GotI w xs v X) (hb : Below X.heap.size X Y) : GotI w xs v Y := ⟨own_on h.own hb, h.below.trans (hb.mono h.below.size)⟩
theorem GotI.alloc (h : GotI w xs v X) (o : Obj) : GotI w xs v (X.alloc o) := h.on ((Below.refl _ _).alloc (Nat.le_refl _) o)
theorem GotI.more (h : GotI w xs v X) (hown : Y.ownsRow w.heap.size 3 1 v' (xs.length + 1) (ints xs ++ [.int .i64 x])) (hg : X.grownBy Y v.ownBlock) : GotI w (xs ++ [x]) v' Y :=
 ⟨by rw [List.length_append, ints_append]; exact hown, h.below.grown hg h.below.size fun k hk => own_block11 h.own k hk⟩
end
theorem int_info11 : (Tryz.prog.info? 3).map (fun i => (i.zero, i.size, i.bytes)) = some (some (.int .i64 0), 1, 8) := by kernel_rfl
def ofK (H : Hist) (t : Int) (k : Nat) : List Int := (upI k).filter fun i => decide ((H.ev.map (·.t))[i.toNat]? = some t)
theorem ofK_all (H : Hist) (t : Int) : ofK H t H.ev.length = ofP H t := rfl
theorem ofK_len (H : Hist) (t : Int) (k : Nat) : (ofK H t k).length ≤ k := by
 have := List.length_filter_le (fun i => decide ((H.ev.map (·.t))[i.toNat]? = some t)) (upI k)
 rwa [upI_len] at this
theorem ofK_yes {H : Hist} {t : Int} {k : Nat} {e : EvP} (h : H.ev[k]? = some e) (ht : e.t = t) : ofK H t (k + 1) = ofK H t k ++ [(k : Int)] := by
 unfold ofK
 rw [upI_succ, List.filter_append]
 congr 1
 simp [h, ht]
theorem ofK_no {H : Hist} {t : Int} {k : Nat} {e : EvP} (h : H.ev[k]? = some e) (ht : e.t ≠ t) : ofK H t (k + 1) = ofK H t k := by
 unfold ofK
 rw [upI_succ, List.filter_append]
 simp [h, ht]
def OfIs (H : Hist) (t : Int) (w : World) : Ending → World → Prop := fun e w' => ∃ (A : Option Addr) (c : Nat) (xs : List Int), e = .returned (.tuple #[.slice A xs.length c, .int .i64 (checkE H)]) ∧ w'.ownsRow w.heap.size 3 1 (.slice A xs.length c) xs.length (ints xs) ∧ Below w.heap.size w w' ∧ xs = (if rightB H = true then ofP H t else [])

set_option maxRecDepth 100000 in
set_option maxHeartbeats 8000000 in
theorem of11_any (m : HistM) (t : Int) (hS : Small m.pl) (w : World) (hT : Tabs w) (hm : HRd w w.heap.size m) : Calls Tryz.prog 21 #[.agg #[.slice m.tr.1.A m.tr.1.n m.tr.1.c, .slice m.se.1.A m.se.1.n m.se.1.c, .slice m.ob.1.A m.ob.1.n m.ob.1.c, .slice m.pr.1.A m.pr.1.n m.pr.1.c, .slice m.ev.1.A m.ev.1.n m.ev.1.c, .slice m.od.1.A m.od.1.n m.od.1.c, .slice m.ma.1.A m.ma.1.n m.ma.1.c, .slice m.wa.1.A m.wa.1.n m.wa.1.c], .int .i64 t] w (OfIs m.pl t w) := by
 obtain ⟨i0, hi, hz0, hz1, hz2⟩ := info_parts int_info11
 obtain ⟨kh, b0, hs0⟩ := ibox w #[.slice m.tr.1.A m.tr.1.n m.tr.1.c, .slice m.se.1.A m.se.1.n m.se.1.c, .slice m.ob.1.A m.ob.1.n m.ob.1.c, .slice m.pr.1.A m.pr.1.n m.pr.1.c, .slice m.ev.1.A m.ev.1.n m.ev.1.c, .slice m.od.1.A m.od.1.n m.od.1.c, .slice m.ma.1.A m.ma.1.n m.ma.1.c, .slice m.wa.1.A m.wa.1.n m.wa.1.c] 28
 have HC := Lib.hid (check11_any m hS _ (hT.on b0 (Nat.le_refl _)) ((hm.on b0).more b0.size))
 have KH := Lib.hid kh
 have B0 := Lib.hid b0
 have HFIT := Lib.hid hm.fit
 clear kh b0 hs0
 go_enter Tryz.func21, Tryz.ntmps21
 go_wp2_with fail
 refine HC.out.mono ?_
 rintro e w1 ⟨rfl, b1⟩
 have KH := Lib.hid (KH.out.below b1 KH.out.lt)
 have B1 := Lib.hid (B0.out.trans (b1.mono B0.out.size))
 clear b1 HC B0
 cases hx : rightB m.pl
 ·have HX := Lib.hid (checkE_no hx)
  have HR := Lib.hid hx
  rw [checkE_no hx]
  clear hx
  go_wp2_with fail
  go_ret2
  exact ⟨none, 0, [], by rw [HX.out]; rfl, World.ownsRow_nil _ _ _ _, B1.out, by rw [HR.out]; rfl⟩
 ·have HX := Lib.hid (checkE_ok hx)
  have HR := Lib.hid hx
  rw [checkE_ok hx]
  clear hx
  have z4 : w1.cell? ⟨w.heap.size, 4, none⟩ = some (.slice m.ev.1.A m.ev.1.n m.ev.1.c) := KH.out.cell 4
  go_wp2_with fail
  have HLEN : Hid (m.pl.ev.length = m.ev.1.n) := by show m.pl.ev.length = _; rw [← HFIT.out.ev.1]; unfold HistM.pl; simp
  obtain ⟨n, hn⟩ : ∃ n, m.ev.1.n = n := ⟨_, rfl⟩
  have HN := Lib.hid hn
  have hn2 : n ≤ 200 := by have := hS.ev; have := HLEN.out; omega
  rw [hn] at HLEN z4 ⊢
  clear z4 hn
  go_loopw [7, 18] (fun v i wr => ∃ k : Nat, k ≤ n ∧ i = .int .i64 k ∧ Hid (GotI w (ofK m.pl t k) v wr)) (fun _ i _ => n - (intOf i).toNat)
  case atStart => exact ⟨0, Nat.zero_le _, rfl, ⟨World.ownsRow_nil _ _ _ _, B1.out⟩⟩
  case round =>
   obtain ⟨i, hk, rfl, HG⟩ := hrel
   by_cases hlt : i < n
   ·have hlt2 : (i : Int) < (n : Int) := by omega
    obtain ⟨p, hp⟩ : ∃ p, m.ev.2[i]? = some p := ⟨m.ev.2[i]'(by rw [HFIT.out.ev.1, HN.out]; exact hlt), List.getElem?_eq_getElem _⟩
    obtain ⟨b, o, hA, hb, hc⟩ := row_cells evCs_len (by omega) (hm.ev.below HG.out.below) hp
    rw [hA]
    have c0 : wr.cell? ⟨b, o + i * 9, none⟩ = some (.int .i64 p.1.kd) := hc 0 _ rfl
    have c1 : wr.cell? ⟨b, o + i * 9 + 1, none⟩ = some (.int .i64 p.1.t) := hc 1 _ rfl
    have c2 : wr.cell? ⟨b, o + i * 9 + 2, none⟩ = some (.int .i64 p.1.s) := hc 2 _ rfl
    have c3 : wr.cell? ⟨b, o + i * 9 + 3, none⟩ = some (.int .i64 p.1.lev) := hc 3 _ rfl
    have c4 : wr.cell? ⟨b, o + i * 9 + 4, none⟩ = some (.int .i64 p.1.o) := hc 4 _ rfl
    have c5 : wr.cell? ⟨b, o + i * 9 + 5, none⟩ = some (.int .i64 p.1.vt) := hc 5 _ rfl
    have c6 : wr.cell? ⟨b, o + i * 9 + 6, none⟩ = some (.int .i64 p.1.vk) := hc 6 _ rfl
    have c7 : wr.cell? ⟨b, o + i * 9 + 7, none⟩ = some (.int .i64 p.1.p) := hc 7 _ rfl
    have c8 : wr.cell? ⟨b, o + i * 9 + 8, none⟩ = some (.slice p.2.A p.2.n p.2.c) := hc 8 _ rfl
    have HE : Hid (m.pl.ev[i]? = some p.1) := by show m.pl.ev[i]? = _; unfold HistM.pl; simp [hp]
    have hfl := ofK_len m.pl t i
    have HFL := Lib.hid hfl
    have OW := Lib.hid (HG.out.alloc (.cells #[.int .i64 p.1.kd, .int .i64 p.1.t, .int .i64 p.1.s, .int .i64 p.1.lev, .int .i64 p.1.o, .int .i64 p.1.vt, .int .i64 p.1.vk, .int .i64 p.1.p, .slice p.2.A p.2.n p.2.c] 39))
    clear hc hp hA hfl
    by_cases ht : p.1.t = t
    ·have hbt : (p.1.t == t) = true := by simpa using ht
     have HY := Lib.hid (ofK_yes HE.out ht)
     have OW2 := Lib.hid (OW.out.alloc (.cells #[.int .i64 (i : Int)] 3))
     have hs1 := OW.out.below.size
     clear ht
     generalize hq : ofK m.pl t i = q at *
     have hql := HFL.out
     go_wp2_with (at_builtin; refine wpList_append_own _ rfl (.tmp 27) (.tmp 29) 45 rfl w.heap.size 3 i0 _ 1 8 Tryz.underlying45 hi hz0 hz1 hz2 rfl (by decide) _ _ _ rfl OW2.out.own ⟨wr.heap.size + 1, 0, none⟩ 1 1 [.int .i64 (i : Int)] rfl rfl (by have := cell_one_new (wr.alloc (.cells #[.int .i64 p.1.kd, .int .i64 p.1.t, .int .i64 p.1.s, .int .i64 p.1.lev, .int .i64 p.1.o, .int .i64 p.1.vt, .int .i64 p.1.vk, .int .i64 p.1.p, .slice p.2.A p.2.n p.2.c] 39)) (.int .i64 (i : Int)) 3; rwa [World.size_alloc] at this) (by simp [Value.oneCell']) (by unfold maxLen; omega) (by omega) (by simp at hs1 ⊢; omega) ?_; intro v' w2 hown' hgrow _)
     have HN2 : Hid (GotI w (ofK m.pl t (i + 1)) v' w2) := by show GotI _ _ _ _; rw [HY.out]; exact OW2.out.more hown' hgrow
     clear hown' hgrow OW2 OW HG hs1 hq hql
     go_wp2_with fail
     go_roundw
     case rel => exact ⟨i + 1, by omega, by go_num, HN2⟩
     case measure => simp [intOf]; omega
    ·have hbt : (p.1.t == t) = false := by simpa using ht
     have HN2 := Lib.hid (OW.out.cast (ofK_no HE.out ht))
     clear ht OW HG
     go_wp2_with fail
     go_roundw
     case rel => exact ⟨i + 1, by omega, by go_num, HN2⟩
     case measure => simp [intOf]; omega
   ·obtain rfl : i = n := by omega
    obtain ⟨A, c, rfl, h1, h2⟩ := own_form2 HG.out.own
    go_wp2_with fail
    go_ret2
    refine ⟨A, c, _, by rw [HX.out]; rfl, HG.out.own, HG.out.below, ?_⟩
    rw [HR.out, if_pos rfl, ← ofK_all, HLEN.out]
end Go.Proofs.YtlnbmmaminflcaaGreatDoor
namespace Go.Proofs.YtlnbmmaminflcaaGreatDoor
open Go.RowKit Go.Shelf

set_option maxHeartbeats 1000000 in
theorem is_any (n : Int) (m : Nat) (w : World) : Calls Tryz.prog 50 #[.int .i64 n, .int .i64 (m : Int)] w fun e w' => e = .returned (.bool (isN n m)) ∧ w' = w := by
 by_cases h0 : 0 ≤ n
 ·by_cases h1 : n < (m : Int)
  ·have HE : Hid (isN n m = true) := isN_iff.2 ⟨h0, h1⟩
   go_enter Tryz.func50, Tryz.ntmps50
   go_wp2_with fail
   go_ret
   exact ⟨by rw [HE.out]; rfl, rfl⟩
  ·have HE : Hid (isN n m = false) := by show _ = _; rw [Bool.eq_false_iff]; intro h; exact h1 (isN_iff.1 h).2
   go_enter Tryz.func50, Tryz.ntmps50
   go_wp2_with fail
   go_ret
   exact ⟨by rw [HE.out]; rfl, rfl⟩
 ·have HE : Hid (isN n m = false) := by show _ = _; rw [Bool.eq_false_iff]; intro h; exact h0 (isN_iff.1 h).1
  go_enter Tryz.func50, Tryz.ntmps50
  go_wp2_with fail
  go_ret
  exact ⟨by rw [HE.out]; rfl, rfl⟩

def atI (zs : List Int) (x : Int) : Int := if x ∈ zs then (idxI zs x : Int) else -1
theorem idxI_first {zs : List Int} {x : Int} {i : Nat} (h : zs[i]? = some x) (hn : x ∉ zs.take i) : idxI zs x = i := by
 have e := List.take_append_drop i zs
 have hi := (List.getElem?_eq_some_iff.1 h).1
 have hd : zs.drop i = x :: zs.drop (i + 1) := by
  rw [List.drop_eq_getElem_cons hi]
  congr 1
  rw [List.getElem?_eq_getElem hi] at h
  injection h
 have e2 : zs = (zs.take i ++ [x]) ++ zs.drop (i + 1) := by rw [List.append_assoc, ← show x :: zs.drop (i + 1) = [x] ++ zs.drop (i + 1) from rfl, ← hd, e]
 rw [e2, idxI_more _ (by simp), idxI_new hn, List.length_take]
 omega
set_option maxHeartbeats 2000000 in
theorem at11_any (A : Option Addr) (n c : Nat) (zs : List Int) (x : Int) (hn : n ≤ 1000000) (w : World) (hR : Reads w w.heap.size 1 A n (ints zs)) : Calls Tryz.prog 53 #[.slice A n c, .int .i64 x] w fun e w' => e = .returned (.int .i64 (atI zs x)) ∧ w' = w := by
 have HL := Lib.hid (ints_len hR)
 have HR := Lib.hid hR
 clear hR
 go_enter Tryz.func53, Tryz.ntmps53
 go_wp2_with fail
 go_loopw [9] (fun v wr => ∃ i : Nat, i ≤ n ∧ v = .int .i64 i ∧ Hid (x ∉ zs.take i) ∧ wr = w) (fun v _ => n - (intOf v).toNat)
 case atStart => exact ⟨0, Nat.zero_le _, rfl, by simp [Hid], rfl⟩
 case round =>
  obtain ⟨i, hi, rfl, HX, rfl⟩ := hrel
  by_cases hin : i < n
  ·have hlt : (i : Int) < (n : Int) := by omega
   obtain ⟨z, hz⟩ : ∃ z, zs[i]? = some z := ⟨zs[i]'(by rw [HL.out]; exact hin), List.getElem?_eq_getElem _⟩
   obtain ⟨b, o, rfl, hb, hc⟩ := int_at HR.out hz
   have HZ := Lib.hid hz
   clear hz hb
   by_cases hq : z = x
   ·have hbq : (z == x) = true := by simpa using hq
    have HQ := Lib.hid hq
    clear hq
    go_wp2_with fail
    go_ret
    refine ⟨?_, rfl⟩
    have hz2 := HZ.out
    rw [HQ.out] at hz2
    unfold atI
    rw [if_pos (List.mem_of_getElem? hz2), idxI_first hz2 HX.out]
    rfl
   ·have hbq : (z == x) = false := by simpa using hq
    have HN : Hid (x ∉ zs.take (i + 1)) := by
     show x ∉ _
     rw [List.take_add_one, HZ.out, List.mem_append]
     rintro (h | h)
     ·exact HX.out h
     ·simp at h
      exact hq h.symm
    clear hq
    go_wp2_with fail
    go_roundw
    case rel => exact ⟨i + 1, hin, by go_num, HN, trivial⟩
    case measure => simp [intOf]; omega
  ·obtain rfl : i = n := by omega
   go_wp2_with fail
   go_ret
   refine ⟨?_, rfl⟩
   have h := HX.out
   rw [List.take_of_length_le (Nat.le_of_eq HL.out)] at h
   unfold atI
   rw [if_neg h]
   rfl
def FirstIs (B : Nat) (v : Value) (zs : List Int) (x : Int) (w : World) (e : Ending) (w' : World) : Prop := ∃ (A : Option Addr) (c : Nat) (X : World), e = .returned (.slice A (addI zs x).length c) ∧ w'.ownsRow B 3 1 (.slice A (addI zs x).length c) (addI zs x).length (ints (addI zs x)) ∧
 Below w.heap.size w X ∧ X.grownBy w' v.ownBlock ∧ ((Value.slice A (addI zs x).length c).ownBlock = v.ownBlock ∨ (Value.slice A (addI zs x).length c).ownBlock = some X.heap.size)
set_option maxHeartbeats 2000000 in
theorem first11_any (B : Nat) (A : Option Addr) (n c : Nat) (zs : List Int) (x : Int) (hn : n ≤ 1000000) (w : World) (hB : B ≤ w.heap.size) (ho : w.ownsRow B 3 1 (.slice A n c) n (ints zs)) :
 Calls Tryz.prog 77 #[.slice A n c, .int .i64 x] w (FirstIs B (.slice A n c) zs x w) := by
 obtain ⟨i0, hi, hz0, hz1, hz2⟩ := info_parts int_info11
 have HC := Lib.hid (at11_any A n c zs x hn w (Reads.of_own ho))
 have hl : zs.length = n := by have := ho.1; unfold ints at this; simpa using this
 have HL := Lib.hid hl
 have HO := Lib.hid ho
 clear ho hl
 by_cases hm : x ∈ zs
 ·have HA : Hid (atI zs x = (idxI zs x : Int)) := by show _ = _; unfold atI; rw [if_pos hm]
  have HE := Lib.hid (addI_in hm)
  have hge : (idxI zs x : Int) ≥ 0 := by omega
  clear hm
  go_enter Tryz.func77, Tryz.ntmps77
  go_wp2_with fail
  refine HC.out.mono ?_
  rintro e w1 ⟨rfl, rfl⟩
  rw [HA.out]
  go_wp2_with fail
  go_ret
  refine ⟨A, c, w1, by rw [HE.out, HL.out]; rfl, by rw [HE.out, HL.out]; exact HO.out, Below.refl _ _, ⟨rfl, rfl, rfl, Nat.le_refl _, fun _ _ _ => rfl⟩, .inl (by rw [HE.out, HL.out])⟩
 ·have HA : Hid (atI zs x = -1) := by show _ = _; unfold atI; rw [if_neg hm]
  have HE := Lib.hid (addI_out hm)
  have hal : Below w.heap.size w (w.alloc (.cells #[.int .i64 x] 3)) := (Below.refl _ _).alloc (Nat.le_refl _) _
  have HO2 := Lib.hid (own_on HO.out hal)
  have HAL := Lib.hid hal
  have hs1 := hal.size
  clear hm hal
  go_enter Tryz.func77, Tryz.ntmps77
  go_wp2_with fail
  refine HC.out.mono ?_
  rintro e w1 ⟨rfl, rfl⟩
  rw [HA.out]
  go_wp2_with (at_builtin; refine wpList_append_own_at _ rfl (.tmp 10) (.tmp 12) 45 rfl B 3 i0 _ 1 8 Tryz.underlying45 hi hz0 hz1 hz2 rfl (by decide) _ _ _ rfl HO2.out ⟨w1.heap.size, 0, none⟩ 1 1 [.int .i64 x] rfl rfl (cell_one_new w1 (.int .i64 x) 3) (by simp [Value.oneCell']) (by unfold maxLen; omega) (by omega) (by omega) ?_; intro v' w2 hown' hgrow' _ hat'; obtain ⟨A2, c2, rfl, -, -⟩ := own_form2 hown')
  go_ret
  have e1 : (addI zs x).length = n + 1 := by rw [HE.out, List.length_append, HL.out]; rfl
  have e2 : ints (addI zs x) = ints zs ++ [.int .i64 x] := by rw [HE.out]; unfold ints; rw [List.map_append]; rfl
  exact ⟨A2, c2, _, by rw [e1]; rfl, by rw [e1, e2]; exact hown', HAL.out, hgrow', by rw [e1]; exact hat'⟩
end Go.Proofs.YtlnbmmaminflcaaGreatDoor
namespace Go.Proofs.YtlnbmmaminflcaaGreatDoor
open Go.RowKit Go.Shelf

theorem ne_rseen {a b : SeenP} (h : a ≠ b) : ((a.o == b.o) = false) ∨ ((a.o == b.o) = true ∧ (a.t == b.t) = false) ∨ ((a.o == b.o) = true ∧ (a.t == b.t) = true ∧ (a.k == b.k) = false) := by
 by_cases h0 : a.o ≠ b.o
 ·exact .inl (by simpa using h0)
 have h0 := Decidable.not_not.1 h0
 by_cases h1 : a.t ≠ b.t
 ·exact .inr (.inl ⟨by simpa using h0, by simpa using h1⟩)
 have h1 := Decidable.not_not.1 h1
 by_cases h2 : a.k ≠ b.k
 ·exact .inr (.inr (⟨by simpa using h0, by simpa using h1, by simpa using h2⟩))
 have h2 := Decidable.not_not.1 h2
 exact absurd (by cases a; cases b; simp_all) h
set_option maxRecDepth 100000 in
set_option maxHeartbeats 4000000 in
theorem rseen_any (A A2 : Option Addr) (n m c c2 : Nat) (xs ys : List SeenP) (hn : n ≤ 1000000) (w : World) (hR : Reads w w.heap.size 3 A n (xs.flatMap seCs)) (hR2 : Reads w w.heap.size 3 A2 m (ys.flatMap seCs)) :
 Calls Tryz.prog 36 #[.slice A n c, .slice A2 m c2] w fun e w' => e = .returned (.bool (decide (xs = ys))) ∧ Below w.heap.size w w' := by
 have HR := Lib.hid hR
 have HR2 := Lib.hid hR2
 have HL := Lib.hid (reads_len_s seCs_len (by omega) hR)
 have HL2 := Lib.hid (reads_len_s seCs_len (by omega) hR2)
 clear hR hR2
 by_cases hnm : n = m
 ·subst hnm
  go_enter Tryz.func36, Tryz.ntmps36
  go_wp2_with fail
  go_loopg [13] n (fun gg i wr => ∃ k : Nat, k + gg = n ∧ i = .int .i64 k ∧ Hid (xs.take k = ys.take k) ∧ Hid (Below w.heap.size w wr))
  case atStart => exact ⟨0, by omega, rfl, by simp [Hid], Below.refl _ _⟩
  case round =>
   obtain ⟨k, hk, rfl, ht, bk⟩ := hrel
   cases gk with
   | succ g2 =>
    have hlt : (k : Int) < (n : Int) := by omega
    obtain ⟨p, hp⟩ : ∃ p, xs[k]? = some p := ⟨xs[k]'(by rw [HL.out]; omega), List.getElem?_eq_getElem _⟩
    obtain ⟨q, hq⟩ : ∃ q, ys[k]? = some q := ⟨ys[k]'(by rw [HL2.out]; omega), List.getElem?_eq_getElem _⟩
    obtain ⟨b, o, rfl, hb, hc⟩ := row_cells seCs_len (by omega) (HR.out.below bk.out) hp
    obtain ⟨b2, o2, rfl, hb2, hc2⟩ := row_cells seCs_len (by omega) (HR2.out.below bk.out) hq
    have c0 : wr.cell? ⟨b, o + k * 3, none⟩ = some (.int .i64 p.o) := hc 0 _ rfl
    have d0 : wr.cell? ⟨b2, o2 + k * 3, none⟩ = some (.int .i64 q.o) := hc2 0 _ rfl
    have c1 : wr.cell? ⟨b, o + k * 3 + 1, none⟩ = some (.int .i64 p.t) := hc 1 _ rfl
    have d1 : wr.cell? ⟨b2, o2 + k * 3 + 1, none⟩ = some (.int .i64 q.t) := hc2 1 _ rfl
    have c2 : wr.cell? ⟨b, o + k * 3 + 2, none⟩ = some (.int .i64 p.k) := hc 2 _ rfl
    have d2 : wr.cell? ⟨b2, o2 + k * 3 + 2, none⟩ = some (.int .i64 q.k) := hc2 2 _ rfl
    have HK := Lib.hid hk
    clear hc hc2
    by_cases hpq : p = q
    ·subst hpq
     have HT : Hid (xs.take (k + 1) = ys.take (k + 1)) := by
      show _ = _
      rw [List.take_add_one, List.take_add_one, ht.out, hp, hq]
     clear hp hq hk
     go_wp2_with fail
     go_quiet (fail)
     go_wp2_with fail
     go_roundg g2
     case measure => omega
     case rel => exact ⟨k + 1, by have := HK.out; omega, by go_num, HT, below_drewN bk.out _⟩
    ·have HD : Hid (decide (xs = ys) = false) := by
      show _ = _
      rw [decide_eq_false_iff_not]
      rintro rfl
      rw [hp] at hq
      injection hq with hq
      exact hpq hq
     have hc := ne_rseen hpq
     clear hp hq hk hpq
     rcases hc with e0 | ⟨e0, e1⟩ | ⟨e0, e1, e2⟩
     all_goals
      go_wp2_with fail
      go_quiet (fail)
      go_wp2_with fail
      go_ret
      exact ⟨by rw [HD.out]; rfl, below_drewN bk.out _⟩
   | zero =>
    have hge : ¬ (k : Int) < (n : Int) := by omega
    have HD : Hid (decide (xs = ys) = true) := by
     show _ = _
     rw [decide_eq_true_eq]
     have := ht.out
     rwa [List.take_of_length_le (by rw [HL.out]; omega), List.take_of_length_le (by rw [HL2.out]; omega)] at this
    have HK := Lib.hid hk
    clear hk
    go_wp2_with fail
    go_ret
    exact ⟨by rw [HD.out]; rfl, bk.out⟩
 ·have hb : ((n : Int) != (m : Int)) = true := by simp; omega
  have HD : Hid (decide (xs = ys) = false) := by
   show _ = _
   rw [decide_eq_false_iff_not]
   rintro rfl
   exact hnm (HL.out.symm.trans HL2.out)
  clear hnm
  go_enter Tryz.func36, Tryz.ntmps36
  go_wp2_with fail
  go_ret
  exact ⟨by rw [HD.out]; rfl, Below.refl _ _⟩
set_option maxRecDepth 100000 in
set_option maxHeartbeats 4000000 in
theorem rnumbers_any (A A2 : Option Addr) (n m c c2 : Nat) (xs ys : List Int) (hn : n ≤ 1000000) (w : World) (hR : Reads w w.heap.size 1 A n (ints xs)) (hR2 : Reads w w.heap.size 1 A2 m (ints ys)) :
 Calls Tryz.prog 45 #[.slice A n c, .slice A2 m c2] w fun e w' => e = .returned (.bool (decide (xs = ys))) ∧ Below w.heap.size w w' := by
 have HR := Lib.hid hR
 have HR2 := Lib.hid hR2
 have HL := Lib.hid (ints_len hR)
 have HL2 := Lib.hid (ints_len hR2)
 clear hR hR2
 by_cases hnm : n = m
 ·subst hnm
  go_enter Tryz.func45, Tryz.ntmps45
  go_wp2_with fail
  go_loopg [13] n (fun gg i wr => ∃ k : Nat, k + gg = n ∧ i = .int .i64 k ∧ Hid (xs.take k = ys.take k) ∧ Hid (Below w.heap.size w wr))
  case atStart => exact ⟨0, by omega, rfl, by simp [Hid], Below.refl _ _⟩
  case round =>
   obtain ⟨k, hk, rfl, ht, bk⟩ := hrel
   cases gk with
   | succ g2 =>
    have hlt : (k : Int) < (n : Int) := by omega
    obtain ⟨p, hp⟩ : ∃ p, xs[k]? = some p := ⟨xs[k]'(by rw [HL.out]; omega), List.getElem?_eq_getElem _⟩
    obtain ⟨q, hq⟩ : ∃ q, ys[k]? = some q := ⟨ys[k]'(by rw [HL2.out]; omega), List.getElem?_eq_getElem _⟩
    obtain ⟨b, o, rfl, hb, hc⟩ := int_at (HR.out.below bk.out) hp
    obtain ⟨b2, o2, rfl, hb2, hc2⟩ := int_at (HR2.out.below bk.out) hq
    have HK := Lib.hid hk
    by_cases hpq : p = q
    ·subst hpq
     have HT : Hid (xs.take (k + 1) = ys.take (k + 1)) := by
      show _ = _
      rw [List.take_add_one, List.take_add_one, ht.out, hp, hq]
     clear hp hq hk
     go_wp2_with fail
     go_quiet (fail)
     go_wp2_with fail
     go_roundg g2
     case measure => omega
     case rel => exact ⟨k + 1, by have := HK.out; omega, by go_num, HT, below_drewN bk.out _⟩
    ·have HD : Hid (decide (xs = ys) = false) := by
      show _ = _
      rw [decide_eq_false_iff_not]
      rintro rfl
      rw [hp] at hq
      injection hq with hq
      exact hpq hq
     have hbq : (p != q) = true := by simpa using hpq
     clear hp hq hk hpq
     go_wp2_with fail
     go_quiet (fail)
     go_wp2_with fail
     go_ret
     exact ⟨by rw [HD.out]; rfl, below_drewN bk.out _⟩
   | zero =>
    have hge : ¬ (k : Int) < (n : Int) := by omega
    have HD : Hid (decide (xs = ys) = true) := by
     show _ = _
     rw [decide_eq_true_eq]
     have := ht.out
     rwa [List.take_of_length_le (by rw [HL.out]; omega), List.take_of_length_le (by rw [HL2.out]; omega)] at this
    have HK := Lib.hid hk
    clear hk
    go_wp2_with fail
    go_ret
    exact ⟨by rw [HD.out]; rfl, bk.out⟩
 ·have hb : ((n : Int) != (m : Int)) = true := by simp; omega
  have HD : Hid (decide (xs = ys) = false) := by
   show _ = _
   rw [decide_eq_false_iff_not]
   rintro rfl
   exact hnm (HL.out.symm.trans HL2.out)
  clear hnm
  go_enter Tryz.func45, Tryz.ntmps45
  go_wp2_with fail
  go_ret
  exact ⟨by rw [HD.out]; rfl, Below.refl _ _⟩
set_option maxRecDepth 100000 in
set_option maxHeartbeats 4000000 in
theorem rnames_any (A A2 : Option Addr) (n m c c2 : Nat) (xs ys : List ByteArray) (hn : n ≤ 1000000) (w : World) (hR : Reads w w.heap.size 1 A n (strs xs)) (hR2 : Reads w w.heap.size 1 A2 m (strs ys)) :
 Calls Tryz.prog 44 #[.slice A n c, .slice A2 m c2] w fun e w' => e = .returned (.bool (decide (xs = ys))) ∧ Below w.heap.size w w' := by
 have HR := Lib.hid hR
 have HR2 := Lib.hid hR2
 have HL := Lib.hid (strs_len hR)
 have HL2 := Lib.hid (strs_len hR2)
 clear hR hR2
 by_cases hnm : n = m
 ·subst hnm
  go_enter Tryz.func44, Tryz.ntmps44
  go_wp2_with fail
  go_loopg [13] n (fun gg i wr => ∃ k : Nat, k + gg = n ∧ i = .int .i64 k ∧ Hid (xs.take k = ys.take k) ∧ Hid (Below w.heap.size w wr))
  case atStart => exact ⟨0, by omega, rfl, by simp [Hid], Below.refl _ _⟩
  case round =>
   obtain ⟨k, hk, rfl, ht, bk⟩ := hrel
   cases gk with
   | succ g2 =>
    have hlt : (k : Int) < (n : Int) := by omega
    obtain ⟨p, hp⟩ : ∃ p, xs[k]? = some p := ⟨xs[k]'(by rw [HL.out]; omega), List.getElem?_eq_getElem _⟩
    obtain ⟨q, hq⟩ : ∃ q, ys[k]? = some q := ⟨ys[k]'(by rw [HL2.out]; omega), List.getElem?_eq_getElem _⟩
    obtain ⟨b, o, rfl, hb, hc⟩ := str_at (HR.out.below bk.out) hp
    obtain ⟨b2, o2, rfl, hb2, hc2⟩ := str_at (HR2.out.below bk.out) hq
    have HK := Lib.hid hk
    by_cases hpq : p = q
    ·subst hpq
     have HT : Hid (xs.take (k + 1) = ys.take (k + 1)) := by
      show _ = _
      rw [List.take_add_one, List.take_add_one, ht.out, hp, hq]
     clear hp hq hk
     go_wp2_with fail
     go_quiet (fail)
     go_wp2_with fail
     go_roundg g2
     case measure => omega
     case rel => exact ⟨k + 1, by have := HK.out; omega, by go_num, HT, below_drewN bk.out _⟩
    ·have HD : Hid (decide (xs = ys) = false) := by
      show _ = _
      rw [decide_eq_false_iff_not]
      rintro rfl
      rw [hp] at hq
      injection hq with hq
      exact hpq hq
     have hbq : (p.toList == q.toList) = false := str_no hpq
     clear hp hq hk hpq
     go_wp2_with fail
     go_quiet (fail)
     go_wp2_with fail
     go_ret
     exact ⟨by rw [HD.out]; rfl, below_drewN bk.out _⟩
   | zero =>
    have hge : ¬ (k : Int) < (n : Int) := by omega
    have HD : Hid (decide (xs = ys) = true) := by
     show _ = _
     rw [decide_eq_true_eq]
     have := ht.out
     rwa [List.take_of_length_le (by rw [HL.out]; omega), List.take_of_length_le (by rw [HL2.out]; omega)] at this
    have HK := Lib.hid hk
    clear hk
    go_wp2_with fail
    go_ret
    exact ⟨by rw [HD.out]; rfl, bk.out⟩
 ·have hb : ((n : Int) != (m : Int)) = true := by simp; omega
  have HD : Hid (decide (xs = ys) = false) := by
   show _ = _
   rw [decide_eq_false_iff_not]
   rintro rfl
   exact hnm (HL.out.symm.trans HL2.out)
  clear hnm
  go_enter Tryz.func44, Tryz.ntmps44
  go_wp2_with fail
  go_ret
  exact ⟨by rw [HD.out]; rfl, Below.refl _ _⟩
end Go.Proofs.YtlnbmmaminflcaaGreatDoor
namespace Go.Proofs.YtlnbmmaminflcaaGreatDoor
open Go.RowKit Go.Shelf

set_option maxRecDepth 100000 in
set_option maxHeartbeats 8000000 in
theorem rsameEvent_any (p q : EvP × SH) (hp : p.2.n ≤ 1000000) (hq : q.2.n ≤ 1000000) (w : World) (hR : Reads w w.heap.size 3 p.2.A p.2.n (p.1.scan.flatMap seCs)) (hR2 : Reads w w.heap.size 3 q.2.A q.2.n (q.1.scan.flatMap seCs)) :
 Calls Tryz.prog 12 #[.agg #[.int .i64 p.1.kd, .int .i64 p.1.t, .int .i64 p.1.s, .int .i64 p.1.lev, .int .i64 p.1.o, .int .i64 p.1.vt, .int .i64 p.1.vk, .int .i64 p.1.p, .slice p.2.A p.2.n p.2.c], .agg #[.int .i64 q.1.kd, .int .i64 q.1.t, .int .i64 q.1.s, .int .i64 q.1.lev, .int .i64 q.1.o, .int .i64 q.1.vt, .int .i64 q.1.vk, .int .i64 q.1.p, .slice q.2.A q.2.n q.2.c]] w fun e w' => e = .returned (.bool (decide (p.1 = q.1))) ∧ Below w.heap.size w w' := by
 have B2 : Hid (Below w.heap.size w ((w.alloc (.cells #[.int .i64 p.1.kd, .int .i64 p.1.t, .int .i64 p.1.s, .int .i64 p.1.lev, .int .i64 p.1.o, .int .i64 p.1.vt, .int .i64 p.1.vk, .int .i64 p.1.p, .slice p.2.A p.2.n p.2.c] 39)).alloc (.cells #[.int .i64 q.1.kd, .int .i64 q.1.t, .int .i64 q.1.s, .int .i64 q.1.lev, .int .i64 q.1.o, .int .i64 q.1.vt, .int .i64 q.1.vk, .int .i64 q.1.p, .slice q.2.A q.2.n q.2.c] 39))) := ((Below.refl _ w).alloc (Nat.le_refl _) _).alloc (by simp) _
 have HC := Lib.hid (rseen_any p.2.A q.2.A p.2.n q.2.n p.2.c q.2.c p.1.scan q.1.scan hp _ ((hR.below B2.out).more B2.out.size) ((hR2.below B2.out).more B2.out.size))
 clear hR hR2
 by_cases h0 : p.1.kd ≠ q.1.kd
 ·have HD : Hid (decide (p.1 = q.1) = false) := decide_eq_false fun e => h0 (by rw [e])
  have e0 : (p.1.kd == q.1.kd) = false := by simpa using h0
  clear HC h0
  go_enter Tryz.func12, Tryz.ntmps12
  go_wp2_with fail
  go_ret
  exact ⟨by rw [HD.out]; rfl, B2.out⟩
 have h0 := Decidable.not_not.1 h0
 by_cases h1 : p.1.t ≠ q.1.t
 ·have HD : Hid (decide (p.1 = q.1) = false) := decide_eq_false fun e => h1 (by rw [e])
  have e0 : (p.1.kd == q.1.kd) = true := by rw [h0]; simp
  have e1 : (p.1.t == q.1.t) = false := by simpa using h1
  clear HC h0 h1
  go_enter Tryz.func12, Tryz.ntmps12
  go_wp2_with fail
  go_ret
  exact ⟨by rw [HD.out]; rfl, B2.out⟩
 have h1 := Decidable.not_not.1 h1
 by_cases h2 : p.1.s ≠ q.1.s
 ·have HD : Hid (decide (p.1 = q.1) = false) := decide_eq_false fun e => h2 (by rw [e])
  have e0 : (p.1.kd == q.1.kd) = true := by rw [h0]; simp
  have e1 : (p.1.t == q.1.t) = true := by rw [h1]; simp
  have e2 : (p.1.s == q.1.s) = false := by simpa using h2
  clear HC h0 h1 h2
  go_enter Tryz.func12, Tryz.ntmps12
  go_wp2_with fail
  go_ret
  exact ⟨by rw [HD.out]; rfl, B2.out⟩
 have h2 := Decidable.not_not.1 h2
 by_cases h3 : p.1.lev ≠ q.1.lev
 ·have HD : Hid (decide (p.1 = q.1) = false) := decide_eq_false fun e => h3 (by rw [e])
  have e0 : (p.1.kd == q.1.kd) = true := by rw [h0]; simp
  have e1 : (p.1.t == q.1.t) = true := by rw [h1]; simp
  have e2 : (p.1.s == q.1.s) = true := by rw [h2]; simp
  have e3 : (p.1.lev == q.1.lev) = false := by simpa using h3
  clear HC h0 h1 h2 h3
  go_enter Tryz.func12, Tryz.ntmps12
  go_wp2_with fail
  go_ret
  exact ⟨by rw [HD.out]; rfl, B2.out⟩
 have h3 := Decidable.not_not.1 h3
 by_cases h4 : p.1.o ≠ q.1.o
 ·have HD : Hid (decide (p.1 = q.1) = false) := decide_eq_false fun e => h4 (by rw [e])
  have e0 : (p.1.kd == q.1.kd) = true := by rw [h0]; simp
  have e1 : (p.1.t == q.1.t) = true := by rw [h1]; simp
  have e2 : (p.1.s == q.1.s) = true := by rw [h2]; simp
  have e3 : (p.1.lev == q.1.lev) = true := by rw [h3]; simp
  have e4 : (p.1.o == q.1.o) = false := by simpa using h4
  clear HC h0 h1 h2 h3 h4
  go_enter Tryz.func12, Tryz.ntmps12
  go_wp2_with fail
  go_ret
  exact ⟨by rw [HD.out]; rfl, B2.out⟩
 have h4 := Decidable.not_not.1 h4
 by_cases h5 : p.1.vt ≠ q.1.vt
 ·have HD : Hid (decide (p.1 = q.1) = false) := decide_eq_false fun e => h5 (by rw [e])
  have e0 : (p.1.kd == q.1.kd) = true := by rw [h0]; simp
  have e1 : (p.1.t == q.1.t) = true := by rw [h1]; simp
  have e2 : (p.1.s == q.1.s) = true := by rw [h2]; simp
  have e3 : (p.1.lev == q.1.lev) = true := by rw [h3]; simp
  have e4 : (p.1.o == q.1.o) = true := by rw [h4]; simp
  have e5 : (p.1.vt == q.1.vt) = false := by simpa using h5
  clear HC h0 h1 h2 h3 h4 h5
  go_enter Tryz.func12, Tryz.ntmps12
  go_wp2_with fail
  go_ret
  exact ⟨by rw [HD.out]; rfl, B2.out⟩
 have h5 := Decidable.not_not.1 h5
 by_cases h6 : p.1.vk ≠ q.1.vk
 ·have HD : Hid (decide (p.1 = q.1) = false) := decide_eq_false fun e => h6 (by rw [e])
  have e0 : (p.1.kd == q.1.kd) = true := by rw [h0]; simp
  have e1 : (p.1.t == q.1.t) = true := by rw [h1]; simp
  have e2 : (p.1.s == q.1.s) = true := by rw [h2]; simp
  have e3 : (p.1.lev == q.1.lev) = true := by rw [h3]; simp
  have e4 : (p.1.o == q.1.o) = true := by rw [h4]; simp
  have e5 : (p.1.vt == q.1.vt) = true := by rw [h5]; simp
  have e6 : (p.1.vk == q.1.vk) = false := by simpa using h6
  clear HC h0 h1 h2 h3 h4 h5 h6
  go_enter Tryz.func12, Tryz.ntmps12
  go_wp2_with fail
  go_ret
  exact ⟨by rw [HD.out]; rfl, B2.out⟩
 have h6 := Decidable.not_not.1 h6
 by_cases h7 : p.1.p ≠ q.1.p
 ·have HD : Hid (decide (p.1 = q.1) = false) := decide_eq_false fun e => h7 (by rw [e])
  have e0 : (p.1.kd == q.1.kd) = true := by rw [h0]; simp
  have e1 : (p.1.t == q.1.t) = true := by rw [h1]; simp
  have e2 : (p.1.s == q.1.s) = true := by rw [h2]; simp
  have e3 : (p.1.lev == q.1.lev) = true := by rw [h3]; simp
  have e4 : (p.1.o == q.1.o) = true := by rw [h4]; simp
  have e5 : (p.1.vt == q.1.vt) = true := by rw [h5]; simp
  have e6 : (p.1.vk == q.1.vk) = true := by rw [h6]; simp
  have e7 : (p.1.p == q.1.p) = false := by simpa using h7
  clear HC h0 h1 h2 h3 h4 h5 h6 h7
  go_enter Tryz.func12, Tryz.ntmps12
  go_wp2_with fail
  go_ret
  exact ⟨by rw [HD.out]; rfl, B2.out⟩
 have h7 := Decidable.not_not.1 h7
 have e0 : (p.1.kd == q.1.kd) = true := by rw [h0]; simp
 have e1 : (p.1.t == q.1.t) = true := by rw [h1]; simp
 have e2 : (p.1.s == q.1.s) = true := by rw [h2]; simp
 have e3 : (p.1.lev == q.1.lev) = true := by rw [h3]; simp
 have e4 : (p.1.o == q.1.o) = true := by rw [h4]; simp
 have e5 : (p.1.vt == q.1.vt) = true := by rw [h5]; simp
 have e6 : (p.1.vk == q.1.vk) = true := by rw [h6]; simp
 have e7 : (p.1.p == q.1.p) = true := by rw [h7]; simp
 have HD : Hid (decide (p.1 = q.1) = decide (p.1.scan = q.1.scan)) := by show _ = _; rw [decide_eq_decide]; exact ⟨fun e => by rw [e], fun e => by cases p with | mk a x => cases q with | mk b y => cases a; cases b; simp_all⟩
 clear h0 h1 h2 h3 h4 h5 h6 h7
 go_enter Tryz.func12, Tryz.ntmps12
 go_wp2_with fail
 refine HC.out.mono ?_
 rintro e w1 ⟨rfl, b1⟩
 rw [← HD.out] at *
 have B3 := Lib.hid (B2.out.trans (b1.mono B2.out.size))
 clear b1 HC
 go_wp2_with fail
 go_ret
 exact ⟨rfl, B3.out⟩

set_option maxHeartbeats 4000000 in
theorem rversion_any (t k : Int) (m : Nat) (w : World) : Calls Tryz.prog 85 #[.agg #[.int .i64 t, .int .i64 k], .int .i64 (m : Int)] w fun e w' => e = .returned (.bool (verB t k m)) ∧ Below w.heap.size w w' := by
 have b1 : Below w.heap.size w (w.alloc (.cells #[.int .i64 t, .int .i64 k] 36)) := (Below.refl _ _).alloc (Nat.le_refl _) _
 by_cases h0 : t = 0 ∧ k = 0
 ·obtain ⟨rfl, rfl⟩ := h0
  have HE : Hid (verB 0 0 m = true) := by show _ = _; unfold verB; simp
  have B1 := Lib.hid b1
  clear b1
  go_enter Tryz.func85, Tryz.ntmps85
  go_wp2_with fail
  go_ret
  exact ⟨by rw [HE.out]; rfl, B1.out⟩
 ·have hv : ((t == 0) = false) ∨ ((t == 0) = true ∧ (k == 0) = false) := by
   by_cases ht : t = 0
   ·exact .inr ⟨by simpa using ht, by simpa using fun hk => h0 ⟨ht, hk⟩⟩
   ·exact .inl (by simpa using ht)
  cases hI : isN t m
  ·have HI := Lib.hid hI
   have HE : Hid (verB t k m = false) := by show _ = _; unfold verB; rw [decide_eq_false h0, hI]; rfl
   have B1 := Lib.hid b1
   clear b1 h0 hI
   rcases hv with e0 | ⟨e0, e1⟩
   all_goals
    go_enter Tryz.func85, Tryz.ntmps85
    go_wp2_with fail
    refine (is_any t m _).mono ?_
    rintro e w1 ⟨rfl, rfl⟩
    rw [HI.out]
    go_wp2_with fail
    go_ret
    exact ⟨by rw [HE.out]; rfl, B1.out⟩
  ·have HI := Lib.hid hI
   by_cases h1 : 1 ≤ k
   ·by_cases h2 : k ≤ 999
    ·have HE : Hid (verB t k m = true) := by show _ = _; unfold verB; rw [hI, decide_eq_true h1, decide_eq_true h2]; simp
     have B1 := Lib.hid b1
     clear b1 h0 hI
     rcases hv with e0 | ⟨e0, e1⟩
     all_goals
      go_enter Tryz.func85, Tryz.ntmps85
      go_wp2_with fail
      refine (is_any t m _).mono ?_
      rintro e w1 ⟨rfl, rfl⟩
      rw [HI.out]
      go_wp2_with fail
      go_ret
      exact ⟨by rw [HE.out]; rfl, B1.out⟩
    ·have HE : Hid (verB t k m = false) := by show _ = _; unfold verB; rw [decide_eq_false h0, decide_eq_false h2]; simp
     have HH := Lib.hid (decide_eq_false h2)
     have B1 := Lib.hid b1
     clear b1 h0 hI
     rcases hv with e0 | ⟨e0, e1⟩
     all_goals
      go_enter Tryz.func85, Tryz.ntmps85
      go_wp2_with fail
      refine (is_any t m _).mono ?_
      rintro e w1 ⟨rfl, rfl⟩
      rw [HI.out]
      go_wp2_with fail
      go_ret
      exact ⟨by rw [HE.out]; exact congrArg (fun b => Ending.returned (Value.bool b)) HH.out, B1.out⟩
   ·have HE : Hid (verB t k m = false) := by show _ = _; unfold verB; rw [decide_eq_false h0, decide_eq_false h1]; simp
    have B1 := Lib.hid b1
    clear b1 h0 hI
    rcases hv with e0 | ⟨e0, e1⟩
    all_goals
     go_enter Tryz.func85, Tryz.ntmps85
     go_wp2_with fail
     refine (is_any t m _).mono ?_
     rintro e w1 ⟨rfl, rfl⟩
     rw [HI.out]
     go_wp2_with fail
     go_ret
     exact ⟨by rw [HE.out]; rfl, B1.out⟩

def madeL (zs : List Int) (t k : Int) : List Int := if k = 0 then zs else addI zs t
def MadeIs (B : Nat) (v : Value) (zs : List Int) (t k : Int) (w : World) (e : Ending) (w' : World) : Prop := ∃ (A : Option Addr) (c : Nat) (X : World), e = .returned (.slice A (madeL zs t k).length c) ∧ w'.ownsRow B 3 1 (.slice A (madeL zs t k).length c) (madeL zs t k).length (ints (madeL zs t k)) ∧
 Below w.heap.size w X ∧ X.grownBy w' v.ownBlock ∧ ((Value.slice A (madeL zs t k).length c).ownBlock = v.ownBlock ∨ (Value.slice A (madeL zs t k).length c).ownBlock = some X.heap.size)
set_option maxHeartbeats 2000000 in
theorem made11_any (B : Nat) (A : Option Addr) (n c : Nat) (zs : List Int) (t k : Int) (hn : n ≤ 1000000) (w : World) (hB : B ≤ w.heap.size) (ho : w.ownsRow B 3 1 (.slice A n c) n (ints zs)) :
 Calls Tryz.prog 78 #[.slice A n c, .agg #[.int .i64 t, .int .i64 k]] w (MadeIs B (.slice A n c) zs t k w) := by
 have b1 : Below w.heap.size w (w.alloc (.cells #[.int .i64 t, .int .i64 k] 36)) := (Below.refl _ _).alloc (Nat.le_refl _) _
 have HC := Lib.hid (first11_any B A n c zs t hn _ (Nat.le_trans hB b1.size) (own_on ho b1))
 have hl : zs.length = n := by have := ho.1; unfold ints at this; simpa using this
 have HL := Lib.hid hl
 have HO := Lib.hid (own_on ho b1)
 have B1 := Lib.hid b1
 clear ho hl b1
 by_cases hk : k = 0
 ·have e0 : (k == 0) = true := by simpa using hk
  have HE : Hid (madeL zs t k = zs) := by show _ = _; unfold madeL; rw [if_pos hk]
  clear hk HC
  go_enter Tryz.func78, Tryz.ntmps78
  go_wp2_with fail
  go_ret
  exact ⟨A, c, _, by rw [HE.out, HL.out]; rfl, by rw [HE.out, HL.out]; exact HO.out, B1.out, ⟨rfl, rfl, rfl, Nat.le_refl _, fun _ _ _ => rfl⟩, .inl (by rw [HE.out, HL.out])⟩
 ·have e0 : (k == 0) = false := by simpa using hk
  have HE : Hid (madeL zs t k = addI zs t) := by show _ = _; unfold madeL; rw [if_neg hk]
  clear hk
  go_enter Tryz.func78, Tryz.ntmps78
  go_wp2_with fail
  refine HC.out.mono ?_
  rintro e w1 ⟨A2, c2, X, rfl, h1, h2, h3, h4⟩
  have H1 := Lib.hid h1
  have H2 := Lib.hid h2
  have H3 := Lib.hid h3
  have H4 := Lib.hid h4
  clear h1 h2 h3 h4 HC
  go_wp2_with fail
  go_ret
  exact ⟨A2, c2, X, by rw [HE.out]; rfl, by rw [HE.out]; exact H1.out, B1.out.trans (H2.out.mono B1.out.size), H3.out, by rw [HE.out]; exact H4.out⟩
end Go.Proofs.YtlnbmmaminflcaaGreatDoor
namespace Go.Proofs.YtlnbmmaminflcaaGreatDoor
open Go.RowKit Go.Shelf

def noneK (H : Hist) (t kd : Int) (i : Nat) : Prop := ∀ e ∈ H.ev.take i, ¬ (e.t = t ∧ e.kd = kd)
theorem noneK.next {H : Hist} {t kd : Int} {i : Nat} {e : EvP} (h : noneK H t kd i) (he : H.ev[i]? = some e) (hn : ¬ (e.t = t ∧ e.kd = kd)) : noneK H t kd (i + 1) := by
 intro x hx
 rw [List.take_add_one, he] at hx
 rcases List.mem_append.1 hx with hx | hx
 ·exact h x hx
 ·simp at hx
  subst hx
  exact hn
theorem noneK.all {H : Hist} {t kd : Int} {i : Nat} (h : noneK H t kd i) (hi : H.ev.length = i) : hasB H t kd = false := by
 rw [Bool.eq_false_iff]
 intro hh
 obtain ⟨e, he, h1, h2⟩ := hasB_iff.1 hh
 exact h e (by rw [List.take_of_length_le (Nat.le_of_eq hi)]; exact he) ⟨h1, h2⟩
end Go.Proofs.YtlnbmmaminflcaaGreatDoor
