/- The laws of layer names: what a law holds between its calls; wakes. -/
import Derived.Test.YthamkpmbfefpfaaNm
namespace Go.Proofs.Ythamkpmbfefpfaa
open Go.RowKit Go.Shelf

/-- A row of texts, of numbers, as it stands in memory. -/
structure RS where
  A : Option Addr
  n : Nat
  c : Nat
  l : List ByteArray
structure RI where
  A : Option Addr
  n : Nat
  c : Nat
  l : List Int
/-- What a law holds between its calls: tables in variables, rows of texts, rows of numbers. -/
structure EN (w0 : World) (T : List (Nat × RS)) (S : List RS) (I : List RI) (W : World) : Prop where
  below : Below w0.heap.size w0 W
  tabs : ∀ p ∈ T, Blk W p.1 24 #[.slice p.2.A p.2.n p.2.c] ∧ Reads W W.heap.size 1 p.2.A p.2.n (strs p.2.l)
  rows : ∀ r ∈ S, Reads W W.heap.size 1 r.A r.n (strs r.l)
  nums : ∀ r ∈ I, Reads W W.heap.size 1 r.A r.n (ints r.l)
section
variable {w0 W W' : World} {T : List (Nat × RS)} {S : List RS} {I : List RI} {A : Option Addr} {n c b : Nat} {ss : List ByteArray} {zs : List Int}
theorem EN.start (w : World) : EN w [] [] [] w := ⟨Below.refl _ _, fun _ h => by simp at h, fun _ h => by simp at h, fun _ h => by simp at h⟩
theorem EN.on (h : EN w0 T S I W) (hb : Below W.heap.size W W') : EN w0 T S I W' :=
  ⟨h.below.trans (hb.mono h.below.size), fun p hp => ⟨(h.tabs p hp).1.below hb (h.tabs p hp).1.lt, (h.tabs p hp).2.on_ hb⟩, fun r hr => (h.rows r hr).on_ hb, fun r hr => (h.nums r hr).on_ hb⟩
theorem EN.drew (h : EN w0 T S I W) : EN w0 T S I W.drew := h.on ((Below.refl _ _).drew)
theorem EN.drewN (h : EN w0 T S I W) (q : Nat) : EN w0 T S I (W.drewN q) := h.on (below_drewN (Below.refl _ _) q)
theorem EN.alloc (h : EN w0 T S I W) (o : Obj) : EN w0 T S I (W.alloc o) := h.on ((Below.refl _ _).alloc (Nat.le_refl _) o)
theorem EN.addS (h : EN w0 T S I W) (hr : Reads W W.heap.size 1 A n (strs ss)) : EN w0 T (⟨A, n, c, ss⟩ :: S) I W :=
  ⟨h.below, h.tabs, fun r hm => by
    rcases List.mem_cons.1 hm with rfl | hm
    · exact hr
    · exact h.rows r hm, h.nums⟩
theorem EN.addI (h : EN w0 T S I W) (hr : Reads W W.heap.size 1 A n (ints zs)) : EN w0 T S (⟨A, n, c, zs⟩ :: I) W :=
  ⟨h.below, h.tabs, h.rows, fun r hm => by
    rcases List.mem_cons.1 hm with rfl | hm
    · exact hr
    · exact h.nums r hm⟩
theorem EN.addT (h : EN w0 T S I W) (hr : Reads W W.heap.size 1 A n (strs ss)) : EN w0 ((W.heap.size, ⟨A, n, c, ss⟩) :: T) S I (W.alloc (.cells #[.slice A n c] 24)) := by
  have h2 := h.alloc (.cells #[.slice A n c] 24)
  refine ⟨h2.below, fun p hm => ?_, h2.rows, h2.nums⟩
  rcases List.mem_cons.1 hm with rfl | hm
  · exact ⟨Blk.new _ _ _, hr.on_ ((Below.refl _ _).alloc (Nat.le_refl _) _)⟩
  · exact h2.tabs p hm
theorem EN.c0 (h : EN w0 T S I W) (hm : (b, (⟨A, n, c, ss⟩ : RS)) ∈ T) : W.cell? ⟨b, 0, none⟩ = some (.slice A n c) := (h.tabs _ hm).1.cell 0
theorem EN.tb (h : EN w0 T S I W) (hm : (b, (⟨A, n, c, ss⟩ : RS)) ∈ T) : Reads W W.heap.size 1 A n (strs ss) := (h.tabs _ hm).2
theorem EN.rs (h : EN w0 T S I W) (hm : (⟨A, n, c, ss⟩ : RS) ∈ S) : Reads W W.heap.size 1 A n (strs ss) := h.rows _ hm
theorem EN.ri (h : EN w0 T S I W) (hm : (⟨A, n, c, zs⟩ : RI) ∈ I) : Reads W W.heap.size 1 A n (ints zs) := h.nums _ hm
end

theorem items_low_all : ∀ {l : List UInt8}, (l.all fun c => decide (c.toNat < 128)) = true → items l = l.map fun c => ((c.toNat : Int), [c])
  | [], _ => items_nil
  | c :: l, h => by
    simp only [List.all_cons, Bool.and_eq_true, decide_eq_true_eq] at h
    rw [items_low h.1, items_low_all h.2]
    rfl
def tA : ByteArray := ⟨#[97]⟩
def tB : ByteArray := ⟨#[98]⟩
def tC : ByteArray := ⟨#[99]⟩
def t1a : ByteArray := ⟨#[49, 97]⟩
theorem name_tA : nameB tA = true := by
  unfold nameB wordB wordErr wordBad wordN
  rw [show tA.data.toList = [97] from rfl, items_low_all (by decide)]
  kernel_rfl
theorem name_tB : nameB tB = true := by
  unfold nameB wordB wordErr wordBad wordN
  rw [show tB.data.toList = [98] from rfl, items_low_all (by decide)]
  kernel_rfl
theorem name_tC : nameB tC = true := by
  unfold nameB wordB wordErr wordBad wordN
  rw [show tC.data.toList = [99] from rfl, items_low_all (by decide)]
  kernel_rfl
theorem name_t1a : nameB t1a = false := by
  unfold nameB wordB wordErr wordBad wordN
  rw [show t1a.data.toList = [49, 97] from rfl, items_low_all (by decide)]
  kernel_rfl
theorem ab_ne : tA ∉ [tB] := by decide
theorem addB : addN [] tB = [tB] := add_out (by simp)
theorem addA : addN [tB] tA = [tB, tA] := add_out ab_ne
theorem addB2 : addN [tB, tA] tB = [tB, tA] := add_in (by simp)
theorem bab_all : putsE [] [tB, tA, tB] = 0 ∧ addsN [] [tB, tA, tB] = [tB, tA] ∧ allN [] [tB, tA, tB] = [0, 1, 0] := by
  refine ⟨?_, ?_, ?_⟩
  · rw [putsE_nil]
    unfold allE
    rw [if_pos (putE_new name_tB (by simp) (by simp)), addB]
    unfold allE
    rw [if_pos (putE_new name_tA ab_ne (by simp)), addA]
    unfold allE
    rw [if_pos (putE_in name_tB (by simp))]
    rfl
  · show addN (addN (addN [] tB) tA) tB = _
    rw [addB, addA, addB2]
  · show [(idxN [] tB : Int), (idxN (addN [] tB) tA : Int), (idxN (addN (addN [] tB) tA) tB : Int)] = _
    rw [addB, addA]
    decide
theorem ba_good : goodB nameB [tB, tA] = true := good_iff.2 ⟨by simp, by decide, fun s hs => by
  simp at hs
  rcases hs with rfl | rfl
  · exact name_tB
  · exact name_tA⟩
theorem acb_good : goodB nameB [tA, tC, tB] = true := good_iff.2 ⟨by simp, by decide, fun s hs => by
  simp at hs
  rcases hs with rfl | rfl | rfl
  · exact name_tA
  · exact name_tC
  · exact name_tB⟩
theorem aa_bad : goodB nameB [tA, tA] = false := Bool.eq_false_iff.2 fun h => by
  have := (good_iff.1 h).2.1
  simp at this
theorem ba_move : moveE nameB [tB, tA] [tA, tC, tB] = 0 ∧ numsN [tB, tA] [tA, tC, tB] = [2, 0] :=
  ⟨move_ok ba_good acb_good (fun s hs => by simp at hs; rcases hs with rfl | rfl <;> simp), by decide⟩
theorem small_name {s : ByteArray} {l : List ByteArray} (hl : l.all (fun s => decide (s.size ≤ 100)) = true) (hs : s ∈ l) : s.size ≤ 9223372036854775807 := by
  have := List.all_eq_true.1 hl s hs
  simp at this
  omega

set_option maxRecDepth 100000 in
set_option maxHeartbeats 8000000 in
theorem wakes10_any (w : World) : Calls Try.prog 8 #[] w fun e w' => e = .returned (.bool true) ∧ Below w.heap.size w w' := by
  have hl0 := str_lit w [tB, tA, tB] 9 #[.string ⟨#[98]⟩, .string ⟨#[97]⟩, .string ⟨#[98]⟩] rfl
  have HA := Lib.hid (all_any (some ⟨w.heap.size, 0, none⟩) 3 3 [tB, tA, tB] (by omega) (fun s hs => small_name (by decide) hs) _ hl0)
  unfold PutIs at HA
  rw [bab_all.1] at HA
  have E0 := Lib.hid ((EN.start w).alloc (.cells #[.string ⟨#[98]⟩, .string ⟨#[97]⟩, .string ⟨#[98]⟩] 9))
  clear hl0
  go_enter Try.func8, Try.ntmps8
  go_wp2_with fail
  refine HA.out.mono ?_
  rintro e w1 ⟨A1, n1, c1, R, m, d, ns', zs, rfl, ho1, ho2, hok, _, b1⟩
  obtain ⟨rfl, rfl⟩ := hok trivial
  rw [bab_all.2.1] at ho1
  rw [bab_all.2.2] at ho2
  obtain rfl : n1 = 2 := (strs_len (Reads.of_own ho1)).symm
  obtain rfl : m = 3 := (ints_len (Reads.of_own ho2)).symm
  have E1 := Lib.hid ((((E0.out.on b1).addI (c := d) (Reads.of_own ho2))).addT (c := c1) (Reads.of_own ho1))
  clear ho1 ho2 hok b1 HA E0
  go_upto_region 2 with fail
  generalize w1.alloc (.cells #[.slice A1 2 c1] 24) = w2 at *
  generalize w1.heap.size = B1 at *
  have z1 := E1.out.c0 (.head _)
  have hl0 := str_lit w2 [tA, tC, tB] 9 #[.string ⟨#[97]⟩, .string ⟨#[99]⟩, .string ⟨#[98]⟩] rfl
  have E2 := Lib.hid (E1.out.alloc (.cells #[.string ⟨#[97]⟩, .string ⟨#[99]⟩, .string ⟨#[98]⟩] 9))
  have HM := Lib.hid (move_any A1 2 c1 [tB, tA] (by omega) (fun s hs => small_name (by decide) hs) (some ⟨w2.heap.size, 0, none⟩) 3 3 [tA, tC, tB] (by omega) (fun s hs => small_name (by decide) hs) _ (E2.out.tb (.head _)) hl0)
  unfold MoveIs at HM
  rw [ba_move.1] at HM
  clear hl0 E1
  go_wp2_with fail
  refine HM.out.mono ?_
  rintro e w3 ⟨R2, m2, d2, zs, rfl, ho2, hok, _, b3⟩
  obtain rfl := hok trivial
  rw [ba_move.2] at ho2
  obtain rfl : m2 = 2 := (ints_len (Reads.of_own ho2)).symm
  have E3 := Lib.hid ((E2.out.on b3).addI (c := d2) (Reads.of_own ho2))
  clear ho2 hok b3 HM E2 z1
  have z1 := E3.out.c0 (.head _)
  have hl0 := str_lit w3 [tB, tA] 9 #[.string ⟨#[98]⟩, .string ⟨#[97]⟩] rfl
  have E4 := Lib.hid (E3.out.alloc (.cells #[.string ⟨#[98]⟩, .string ⟨#[97]⟩] 9))
  have HQ := Lib.hid (eqs_any A1 _ 2 2 c1 2 [tB, tA] [tB, tA] (by decide) (by decide) _ (E4.out.tb (.head _)) hl0)
  rw [decide_eq_true rfl] at HQ
  clear hl0 E3
  go_wp2_with fail
  refine HQ.out.mono ?_
  rintro e w5 ⟨rfl, b5⟩
  have E5 := Lib.hid (E4.out.on b5)
  have hl0 := int_lit w5 [0, 1, 0] 3 #[.int .i64 0, .int .i64 1, .int .i64 0] rfl
  have E6 := Lib.hid (E5.out.alloc (.cells #[.int .i64 0, .int .i64 1, .int .i64 0] 3))
  have HQ2 := Lib.hid (eqi_any R _ 3 3 d 3 [0, 1, 0] [0, 1, 0] (by decide) (by decide) _ (E6.out.ri (.tail _ (.head _))) hl0)
  rw [decide_eq_true rfl] at HQ2
  clear hl0 b5 E4 E5 HQ
  go_wp2_with fail
  refine HQ2.out.mono ?_
  rintro e w7 ⟨rfl, b5⟩
  have E5 := Lib.hid (E6.out.on b5)
  have hl0 := int_lit w7 [2, 0] 3 #[.int .i64 2, .int .i64 0] rfl
  have E7 := Lib.hid (E5.out.alloc (.cells #[.int .i64 2, .int .i64 0] 3))
  have HQ := Lib.hid (eqi_any R2 _ 2 2 d2 2 [2, 0] [2, 0] (by decide) (by decide) _ (E7.out.ri (.head _)) hl0)
  rw [decide_eq_true rfl] at HQ
  clear hl0 b5 E5 E6 HQ2
  go_wp2_with fail
  refine HQ.out.mono ?_
  rintro e w8 ⟨rfl, b5⟩
  have E8 := Lib.hid (E7.out.on b5)
  have HC := Lib.hid (check_any t1a (by decide) w8)
  rw [chk_no name_t1a] at HC
  unfold t1a at HC
  clear b5 E7 HQ
  go_wp2_with fail
  refine HC.out.mono ?_
  rintro e w9 ⟨rfl, b5⟩
  have E9 := Lib.hid (E8.out.on b5)
  have hl0 := str_lit w9 [tA, tA] 9 #[.string ⟨#[97]⟩, .string ⟨#[97]⟩] rfl
  have E10 := Lib.hid (E9.out.alloc (.cells #[.string ⟨#[97]⟩, .string ⟨#[97]⟩] 9))
  have HF := Lib.hid (fine_any (some ⟨w9.heap.size, 0, none⟩) 2 2 [tA, tA] (by decide) (fun s hs => small_name (by decide) hs) _ hl0)
  rw [fine_no aa_bad] at HF
  clear hl0 b5 E8 E9 HC
  go_wp2_with fail
  refine HF.out.mono ?_
  rintro e w11 ⟨rfl, b5⟩
  have E11 := Lib.hid (E10.out.on b5)
  clear b5 E10 HF
  go_wp2_with fail
  go_ret
  exact ⟨by simp, E11.out.below⟩
end Go.Proofs.Ythamkpmbfefpfaa
