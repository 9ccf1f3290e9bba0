/- The document's answers of layer names: Find, Right, Same: contracts; what the laws take of a table (own). -/
import Derived.Test.YthamkpmbfefpfaaNf
import Derived.Test.YthamkpmbfefpfaaLn
import Derived.Deep.LoopGhost
import Derived.Deep.Cut
import Derived.Maps.AppendAt
namespace Go.Proofs.Ythamkpmbfefpfaa
open Go.RowKit Go.Shelf

def rfN (ns : List ByteArray) (s : ByteArray) : Int := if s ∈ ns then (idxN ns s : Int) else 0
def RFind (ns : List ByteArray) (s : ByteArray) (w : World) (e : Ending) (w' : World) : Prop := e = .returned (.tuple #[.int .i64 (rfN ns s), .bool (decide (s ∈ ns))]) ∧ w = w'
theorem RFind.got {ns : List ByteArray} {s : ByteArray} {i : Nat} {w : World} (h : ns[i]? = some s) (hf : ∀ j, j < i → ns[j]? ≠ some s) : RFind ns s w (.returned (.tuple #[.int .i64 (i : Int), .bool true])) w := by
  have hm := List.mem_of_getElem? h
  refine ⟨?_, rfl⟩
  unfold rfN
  rw [if_pos hm, decide_eq_true hm, idx_of h hf]
theorem RFind.none_ {ns : List ByteArray} {s : ByteArray} {w : World} (hf : ∀ j, j < ns.length → ns[j]? ≠ some s) : RFind ns s w (.returned (.tuple #[.int .i64 0, .bool false])) w := by
  have hm : s ∉ ns := fun h => by
    have h1 := idx_in h
    exact hf _ (idx_lt h) h1
  refine ⟨?_, rfl⟩
  unfold rfN
  rw [if_neg hm, decide_eq_false hm]
set_option maxRecDepth 100000 in
set_option maxHeartbeats 2000000 in
theorem rfind_any (A : Option Addr) (n c : Nat) (ns : List ByteArray) (s : ByteArray) (hn : n ≤ 1000000) (w : World) (hR : Reads w w.heap.size 1 A n (strs ns)) :
    Calls Try.prog 14 #[.slice A n c, .string s] w (RFind ns s w) := by
  have HR := Lib.hid hR
  have HL := Lib.hid (strs_len hR)
  have HJ0 : Hid (∀ j, j < 0 → ns[j]? ≠ some s) := fun j h => by omega
  clear hR
  go_enter Try.func14, Try.ntmps14
  go_wp2_with fail
  go_loop [10] (fun i => ∃ j : Nat, j ≤ n ∧ i = .int .i64 j ∧ Hid (∀ q, q < j → ns[q]? ≠ some s)) (fun i => n - (intOf i).toNat)
  case atStart => exact ⟨0, by omega, rfl, HJ0⟩
  case round =>
    clear HJ0
    obtain ⟨j, hj, rfl, HJ⟩ := hrel
    by_cases hjn : j < n
    · have hjlt : (j : Int) < (n : Int) := by omega
      obtain ⟨x, hx⟩ : ∃ x, ns[j]? = some x := ⟨ns[j]'(by rw [HL.out]; exact hjn), List.getElem?_eq_getElem _⟩
      obtain ⟨b, o, rfl, _, g0⟩ := str_at HR.out hx
      by_cases hxs : x = s
      · have hb := str_yes hxs
        have HE := Lib.hid (RFind.got (w := w) (by rw [hx, hxs]) HJ.out)
        clear hx hxs
        go_wp2_with fail
        go_ret2
        exact HE.out
      · have hb := str_no hxs
        have HJ1 : Hid (∀ q, q < j + 1 → ns[q]? ≠ some s) := fun q hq => by
          rcases Nat.lt_or_ge q j with h | h
          · exact HJ.out q h
          · obtain rfl : q = j := by omega
            rw [hx]
            exact fun e => hxs (by injection e)
        clear hx hxs
        go_wp2_with fail
        go_round
        case rel => exact ⟨j + 1, by omega, by go_num, HJ1⟩
        case measure => simp [intOf]; omega
    · obtain rfl : j = n := by omega
      have HE := Lib.hid (RFind.none_ (w := w) (by rw [HL.out]; exact HJ.out))
      go_wp2_with fail
      go_ret2
      exact HE.out

/-- So far nothing is wrong with the names of a table. -/
def PreOk (ns : List ByteArray) (k : Nat) : Prop := (ns.take k).Nodup ∧ ∀ s ∈ ns.take k, nameB s = true
theorem PreOk.step {ns : List ByteArray} {k : Nat} {s : ByteArray} (h : PreOk ns k) (hs : ns[k]? = some s) (hp : nameB s = true) (hn : s ∉ ns.take k) : PreOk ns (k + 1) := by
  refine ⟨?_, fun t ht => ?_⟩
  · have := add_nodup (s := s) h.1
    rwa [add_out hn, ← take_snoc hs] at this
  · rw [take_snoc hs, List.mem_append] at ht
    rcases ht with ht | ht
    · exact h.2 t ht
    · simp at ht; rw [ht]; exact hp
theorem PreOk.end_ {ns : List ByteArray} (h : PreOk ns ns.length) : goodB nameB ns = decide (ns.length ≤ 300) := by
  obtain ⟨h1, h2⟩ := h
  rw [List.take_length] at h1 h2
  unfold goodB
  rw [decide_eq_decide]
  exact ⟨fun h => h.1, fun h => ⟨h, h1, h2⟩⟩
set_option maxRecDepth 100000 in
set_option maxHeartbeats 4000000 in
theorem rright_any (A : Option Addr) (n c : Nat) (ns : List ByteArray) (hn : n ≤ 1000) (hnc : n ≤ c) (w : World) (hR : Reads w w.heap.size 1 A n (strs ns)) :
    Calls Try.prog 10 #[.agg #[.slice A n c]] w fun e w' => e = .returned (.bool (goodB nameB ns)) ∧ Below w.heap.size w w' := by
  obtain ⟨bx, b0, -⟩ := nbox w #[.slice A n c] 24
  have HR := Lib.hid (hR.on_ b0)
  have HL := Lib.hid (strs_len hR)
  have B0 := Lib.hid b0
  have BX := Lib.hid bx
  have z0 := bx.cell 0
  have HJ0 : Hid (PreOk ns 0) := ⟨by simp, fun s h => by simp at h⟩
  clear hR b0 bx
  go_enter Try.func10, Try.ntmps10
  go_upto_region 1 with fail
  generalize w.alloc (.cells #[.slice A n c] 24) = W0 at *
  go_wp2_with fail
  clear z0
  have HB0 : Hid (Below W0.heap.size W0 W0) := Below.refl _ _
  go_loopw [10] (fun i wr => ∃ j : Nat, j ≤ n ∧ i = .int .i64 j ∧ Hid (PreOk ns j) ∧ Hid (Below W0.heap.size W0 wr)) (fun i _ => n - (intOf i).toNat)
  case atStart => exact ⟨0, by omega, rfl, HJ0, HB0⟩
  case round =>
    clear HJ0 HB0
    obtain ⟨j, hj, rfl, HJ, HB⟩ := hrel
    have z0 := (BX.out.below HB.out BX.out.lt).cell 0
    by_cases hjn : j < n
    · have hjlt : (j : Int) < (n : Int) := by omega
      have hjc : j ≤ c := by omega
      obtain ⟨x, hx⟩ : ∃ x, ns[j]? = some x := ⟨ns[j]'(by rw [HL.out]; exact hjn), List.getElem?_eq_getElem _⟩
      obtain ⟨b, o, rfl, _, g0⟩ := str_at (HR.out.on_ HB.out) hx
      have hsl := sliceS_h (some ⟨b, o, none⟩) n c j hjc wr
      have HF := Lib.hid (rfind_any (some ⟨b, o, none⟩) j c (ns.take j) x (by omega) wr (strs_cut (HR.out.on_ HB.out) (Nat.le_of_lt hjn)))
      unfold RFind at HF
      have HX := Lib.hid hx
      clear hx
      by_cases hm : x ∈ ns.take j
      · rw [decide_eq_true hm] at HF
        have HE := Lib.hid (not_good_twice (p := nameB) HX.out hm)
        clear hm
        go_wp2_with fail
        refine HF.out.mono ?_
        rintro e w1 ⟨rfl, rfl⟩
        go_wp2_with fail
        go_ret
        exact ⟨by rw [HE.out]; rfl, B0.out.trans (HB.out.mono B0.out.size)⟩
      · rw [decide_eq_false hm] at HF
        have HW := Lib.hid (rword_any x wr)
        have HNB : Hid (nameB x = wordB x.data.toList) := rfl
        have HM := Lib.hid hm
        clear hm
        generalize wordB x.data.toList = t at *
        cases t
        · have HE := Lib.hid (not_good_name (p := nameB) HX.out HNB.out)
          go_wp2_with fail
          refine HF.out.mono ?_
          rintro e w1 ⟨rfl, rfl⟩
          go_wp2_with fail
          refine HW.out.mono ?_
          rintro e w1 ⟨rfl, b1⟩
          have HB1 := Lib.hid (HB.out.trans (b1.mono HB.out.size))
          clear b1
          go_wp2_with fail
          go_ret
          exact ⟨by rw [HE.out]; rfl, B0.out.trans (HB1.out.mono B0.out.size)⟩
        · have HJ1 := Lib.hid (HJ.out.step HX.out HNB.out HM.out)
          go_wp2_with fail
          refine HF.out.mono ?_
          rintro e w1 ⟨rfl, rfl⟩
          go_wp2_with fail
          refine HW.out.mono ?_
          rintro e w1 ⟨rfl, b1⟩
          have HB1 := Lib.hid (HB.out.trans (b1.mono HB.out.size))
          clear b1
          go_wp2_with fail
          go_roundw
          case rel => exact ⟨j + 1, by omega, by go_num, HJ1, HB1⟩
          case measure => simp [intOf]; omega
    · obtain rfl : j = n := by omega
      have HE := Lib.hid ((by have := HJ.out; rw [← HL.out] at this; exact this : PreOk ns ns.length).end_)
      have HD : Hid (decide (ns.length ≤ 300) = decide ((j : Int) ≤ 300)) := by
        show _ = _
        rw [decide_eq_decide, HL.out]
        omega
      go_wp2_with fail
      go_ret
      exact ⟨by rw [HE.out, HD.out]; rfl, B0.out.trans (HB.out.mono B0.out.size)⟩

set_option maxRecDepth 100000 in
set_option maxHeartbeats 4000000 in
theorem rsame_any (A B : Option Addr) (n m c d : Nat) (xs ys : List ByteArray) (hn : n ≤ 1000000) (hm : m ≤ 1000000) (w : World) (h1 : Reads w w.heap.size 1 A n (strs xs)) (h2 : Reads w w.heap.size 1 B m (strs ys)) :
    Calls Try.prog 17 #[.agg #[.slice A n c], .agg #[.slice B m d]] w fun e w' => e = .returned (.bool (decide (xs = ys))) ∧ Below w.heap.size w w' := by
  obtain ⟨ka, kb, b0, -⟩ := ntwo w #[.slice A n c] #[.slice B m d] 24 24
  have HX := Lib.hid (h1.on_ b0)
  have HY := Lib.hid (h2.on_ b0)
  have HLX := Lib.hid (strs_len h1)
  have HLY := Lib.hid (strs_len h2)
  have B0 := Lib.hid b0
  have z0 := ka.cell 0
  have z1 := kb.cell 0
  clear h1 h2 b0 ka kb
  go_enter Try.func17, Try.ntmps17
  go_upto_region 1 with fail
  generalize (w.alloc (.cells #[.slice A n c] 24)).alloc (.cells #[.slice B m d] 24) = W0 at *
  by_cases hnm : n = m
  · subst hnm
    have HJ0 : Hid (∀ q, q < 0 → xs[q]? = ys[q]?) := fun q h => by omega
    go_wp2_with fail
    go_loop [17] (fun i => ∃ j : Nat, j ≤ n ∧ i = .int .i64 j ∧ Hid (∀ q, q < j → xs[q]? = ys[q]?)) (fun i => n - (intOf i).toNat)
    case atStart => exact ⟨0, by omega, rfl, HJ0⟩
    case round =>
      clear HJ0
      obtain ⟨j, hj, rfl, HJ⟩ := hrel
      by_cases hjn : j < n
      · have hjlt : (j : Int) < (n : Int) := by omega
        obtain ⟨x, hx⟩ : ∃ x, xs[j]? = some x := ⟨xs[j]'(by rw [HLX.out]; exact hjn), List.getElem?_eq_getElem _⟩
        obtain ⟨y, hy⟩ : ∃ y, ys[j]? = some y := ⟨ys[j]'(by rw [HLY.out]; exact hjn), List.getElem?_eq_getElem _⟩
        obtain ⟨b1, o1, rfl, _, g1⟩ := str_at HX.out hx
        obtain ⟨b2, o2, rfl, _, g2⟩ := str_at HY.out hy
        by_cases hxy : x = y
        · have hb := str_yes hxy
          have HJ1 : Hid (∀ q, q < j + 1 → xs[q]? = ys[q]?) := fun q hq => by
            rcases Nat.lt_or_ge q j with h | h
            · exact HJ.out q h
            · obtain rfl : q = j := by omega
              rw [hx, hy, hxy]
          clear hx hy hxy
          go_wp2_with fail
          go_round
          case rel => exact ⟨j + 1, by omega, by go_num, HJ1⟩
          case measure => simp [intOf]; omega
        · have hb := str_no hxy
          have HE : Hid (xs ≠ ys) := fun e => hxy (by rw [e, hy] at hx; injection hx with hx; exact hx.symm)
          clear hx hy hxy
          go_wp2_with fail
          go_ret
          exact ⟨by rw [decide_eq_false HE.out]; rfl, B0.out⟩
      · obtain rfl : j = n := by omega
        have HE : Hid (xs = ys) := by
          show _ = _
          refine List.ext_getElem? fun q => ?_
          rcases Nat.lt_or_ge q j with h | h
          · exact HJ.out q h
          · rw [List.getElem?_eq_none (by rw [HLX.out]; exact h), List.getElem?_eq_none (by rw [HLY.out]; exact h)]
        go_wp2_with fail
        go_ret
        exact ⟨by rw [decide_eq_true HE.out]; rfl, B0.out⟩
  · have hb : ((n : Int) != (m : Int)) = true := by simp; omega
    have HE : Hid (xs ≠ ys) := fun e => hnm (by rw [← HLX.out, ← HLY.out, e])
    clear hnm
    go_wp2_with fail
    go_ret
    exact ⟨by rw [decide_eq_false HE.out]; rfl, B0.out⟩

/-- What a law takes of a table: its first names, in memory of their own. -/
def OwnT (ss : List ByteArray) (w : World) (e : Ending) (w' : World) : Prop := ∃ (A : Option Addr) (n c : Nat), e = .returned (.agg #[.slice A n c]) ∧ w'.ownsRow w.heap.size 9 1 (.slice A n c) n (strs ss) ∧ Below w.heap.size w w'
set_option maxRecDepth 100000 in
set_option maxHeartbeats 2000000 in
theorem own_any (A : Option Addr) (n c : Nat) (ns : List ByteArray) (hnc : n ≤ c) (hcm : c ≤ 9223372036854775807) (w : World) (hR : Reads w w.heap.size 1 A n (strs ns)) :
    Calls Try.prog 9 #[.agg #[.slice A n c]] w (OwnT (ns.take 301) w) := by
  have hl := strs_len hR
  obtain ⟨ka, kr, b0, -⟩ := ntwo w #[.slice A n c] #[.slice none 0 0] 24 24
  have hmin : min (n : Int) 301 = ((min n 301 : Nat) : Int) := by omega
  have hq : min n 301 ≤ n ∧ min n 301 ≤ 301 := by omega
  have HC := Lib.hid (clones_any A (min n 301) c (ns.take (min n 301)) (by omega) _ (strs_cut (hR.on_ b0) hq.1))
  have e301 : ns.take (min n 301) = ns.take 301 := by
    rcases Nat.le_total n 301 with h | h
    · rw [Nat.min_eq_left h, List.take_of_length_le (by omega), List.take_of_length_le (by omega)]
    · rw [Nat.min_eq_right h]
  rw [e301] at HC
  have hsl := fun W => sliceS_h A n c (min n 301) (by omega) W
  have B0 := Lib.hid b0
  have KR := Lib.hid kr
  have z0 := ka.cell 0
  generalize min n 301 = q at *
  clear hR hl e301 ka kr b0
  go_enter Try.func9, Try.ntmps9
  go_wp2_with fail
  refine HC.out.mono ?_
  rintro e w1 ⟨A1, n1, c1, rfl, ho, b1⟩
  have H1 := Lib.hid (own_mono ho B0.out.size)
  have KR1 := Lib.hid (KR.out.below b1 KR.out.lt)
  have B1 := Lib.hid (B0.out.trans (b1.mono B0.out.size))
  have y0 := KR1.out.cell 0
  have f0 := KR1.out.frozen 0
  clear ho b1 z0 HC B0 KR
  go_wp2_with fail
  have kf : Blk (w1.setCell ⟨w.heap.size + 1, 0, none⟩ (.slice A1 n1 c1)) (w.heap.size + 1) 24 #[.slice A1 n1 c1] := by
    have := KR1.out.set_ 0 (.slice A1 n1 c1)
    simpa using this
  have r1 := kf.cell 0
  refine bodyPost_ret (v := .agg #[.slice A1 n1 c1]) (by simp [results, Try.results9, go_sem, r1]) rfl ?_
  have ho2 := ((Keep.refl (fun k => k ≠ w.heap.size + 1) w1).set (.inr fun e => e rfl) 0 (.slice A1 n1 c1)).own H1.out fun g hg e => own_blk_ne H1.out KR1.out (by decide) (by rw [hg, e])
  exact ⟨A1, n1, c1, rfl, ho2, B1.out.setCell (p := ⟨w.heap.size + 1, 0, none⟩) (Nat.le_succ _) _⟩
end Go.Proofs.Ythamkpmbfefpfaa
