/- Layer bits: the contracts once more, of sets as they stand in memory; what a law holds between its calls. -/
import Derived.Test.YtpkpfnilfabkaaaDoorBm
import Derived.Test.YtpkpfnilfabkaaaDoorBq
namespace Go.Proofs.YtpkpfnilfabkaaaDoor
open Go.RowKit

theorem OW.less_n {base n : Nat} {w : World} {A : Option Addr} {ws : List Nat} (h : OW base w A n ws) : ws.length = n := h.1
/-- A set that has been handed back. -/
def GotSet (ws : List Nat) (w : World) (e : Ending) (w' : World) : Prop :=
  ∃ s : SV, e = .returned (.agg #[.slice s.A s.n s.c]) ∧ s.ws = ws ∧ s.ok w' w'.heap.size ∧ OW w.heap.size w' s.A s.n s.ws ∧ Below w.heap.size w w'
def GotErr (ws : List Nat) (k : Int) (w : World) (e : Ending) (w' : World) : Prop :=
  ∃ s : SV, e = .returned (.tuple #[.agg #[.slice s.A s.n s.c], .int .i64 k]) ∧ s.ws = ws ∧ s.ok w' w'.heap.size ∧ OW w.heap.size w' s.A s.n s.ws ∧ Below w.heap.size w w'
theorem got_of {ws : List Nat} {w w' : World} {e : Ending} (h64 : W64 ws) (hl : ws.length ≤ 100000) (h : SetOk ws w e w') : GotSet ws w e w' := by
  obtain ⟨A, n, c, he, ho, hb⟩ := h
  have hn := ho.1
  exact ⟨⟨A, n, c, ws⟩, he, rfl, ⟨ho.reads, h64, by show n ≤ _; omega⟩, ho, hb⟩
theorem gotErr_of {ws : List Nat} {k : Int} {w w' : World} {e : Ending} (h64 : W64 ws) (hl : ws.length ≤ 100000) (h : SetErr ws k w e w') : GotErr ws k w e w' := by
  obtain ⟨A, n, c, he, ho, hb⟩ := h
  have hn := ho.1
  exact ⟨⟨A, n, c, ws⟩, he, rfl, ⟨ho.reads, h64, by show n ≤ _; omega⟩, ho, hb⟩
theorem setW_le (f : Nat → Bool) : (setW f).length ≤ 100000 := Nat.le_trans (set_len f) (by decide)

section
variable (s t : SV) (w : World)
theorem s_without (z : Int) (h0 : -9223372036854775808 ≤ z) (h1 : z ≤ 9223372036854775807) (hs : s.ok w w.heap.size) :
    Calls Tryd.prog 27 #[.agg #[.slice s.A s.n s.c], .int .i64 z] w (GotSet (setW fun n => inW s.ws n && !decide ((n : Int) = z)) w) :=
  (without_any s.A s.n s.c z h0 h1 s.ws hs.2.1 hs.2.2 w hs.1).mono fun _ _ h => got_of (can_set _).1 (setW_le _) h
theorem s_with (m : Nat) (hm : m < 10000) (hs : s.ok w w.heap.size) :
    Calls Tryd.prog 26 #[.agg #[.slice s.A s.n s.c], .int .i64 (m : Int)] w (GotErr (setW fun n => inW s.ws n || decide (n = m)) 0 w) :=
  (with_may s.A s.n s.c m s.ws hs.2.1 hs.2.2 hm w hs.1).mono fun _ _ h => gotErr_of (can_set _).1 (setW_le _) h
theorem s_with_no (z : Int) (hz : mayB z = false) :
    Calls Tryd.prog 26 #[.agg #[.slice s.A s.n s.c], .int .i64 z] w (GotErr [] 2 w) :=
  (with_no s.A s.n s.c z hz w).mono fun _ _ h => gotErr_of (by intro x hx; simp at hx) (by simp) h
theorem s_has (z : Int) (h0 : -9223372036854775808 ≤ z) (h1 : z ≤ 9223372036854775807) (hs : s.ok w w.heap.size) :
    Calls Tryd.prog 28 #[.agg #[.slice s.A s.n s.c], .int .i64 z] w fun e w' => e = .returned (.bool (hasZ s.ws z)) ∧ Below w.heap.size w w' :=
  has_any s.A s.n s.c s.ws hs.2.1 (by have := hs.2.2; omega) z h0 h1 w hs.1
theorem s_count (hs : s.ok w w.heap.size) :
    Calls Tryd.prog 17 #[.agg #[.slice s.A s.n s.c]] w fun e w' => e = .returned (.int .i64 ((numsF (inW s.ws)).length : Int)) ∧ Below w.heap.size w w' :=
  count_any s.A s.n s.c s.ws hs.2.1 (by have := hs.2.2; omega) w hs.1
theorem s_check (hs : s.ok w w.heap.size) :
    Calls Tryd.prog 12 #[.agg #[.slice s.A s.n s.c]] w fun e w' => e = .returned (.int .i64 (checkE s.ws)) ∧ Below w.heap.size w w' :=
  check_any s.A s.n s.c s.ws hs.2.1 (by have := hs.2.2; omega) w hs.1
theorem s_same (hs : s.ok w w.heap.size) (ht : t.ok w w.heap.size) :
    Calls Tryd.prog 14 #[.agg #[.slice s.A s.n s.c], .agg #[.slice t.A t.n t.c]] w fun e w' => e = .returned (.bool (sameF (inW s.ws) (inW t.ws))) ∧ Below w.heap.size w w' :=
  same_any s.A t.A s.n s.c t.n t.c s.ws t.ws hs.2.1 ht.2.1 hs.2.2 ht.2.2 w hs.1 ht.1
theorem s_within (hs : s.ok w w.heap.size) (ht : t.ok w w.heap.size) :
    Calls Tryd.prog 35 #[.agg #[.slice s.A s.n s.c], .agg #[.slice t.A t.n t.c]] w fun e w' => e = .returned (.bool (withinF (inW s.ws) (inW t.ws))) ∧ Below w.heap.size w w' :=
  within_any s.A t.A s.n s.c t.n t.c s.ws t.ws hs.2.1 ht.2.1 hs.2.2 ht.2.2 w hs.1 ht.1
theorem s_meet (hs : s.ok w w.heap.size) (ht : t.ok w w.heap.size) :
    Calls Tryd.prog 32 #[.agg #[.slice s.A s.n s.c], .agg #[.slice t.A t.n t.c]] w (GotSet (setW fun n => inW s.ws n && inW t.ws n) w) :=
  (meet_set s.A t.A s.n s.c t.n t.c s.ws t.ws hs.2.1 ht.2.1 hs.2.2 ht.2.2 w hs.1 ht.1).mono fun _ _ h => got_of (can_set _).1 (setW_le _) h
theorem s_minus (hs : s.ok w w.heap.size) (ht : t.ok w w.heap.size) :
    Calls Tryd.prog 33 #[.agg #[.slice s.A s.n s.c], .agg #[.slice t.A t.n t.c]] w (GotSet (setW fun n => inW s.ws n && !inW t.ws n) w) :=
  (minus_set s.A t.A s.n s.c t.n t.c s.ws t.ws hs.2.1 ht.2.1 hs.2.2 ht.2.2 w hs.1 ht.1).mono fun _ _ h => got_of (can_set _).1 (setW_le _) h
theorem s_list (hT : Tab w) (hs : s.ok w w.heap.size) :
    Calls Tryd.prog 16 #[.agg #[.slice s.A s.n s.c]] w (ListOk (numsF (inW s.ws)) w) :=
  list_any s.A s.n s.c s.ws hs.2.1 hs.2.2 w hT hs.1
end

/-- own: a copy of the first words. -/
theorem w_slice_h (A : Option Addr) (len cap h : Nat) (hh : h ≤ cap) (W : World) :
    (Instr.slice 22 (.slice A len cap) none (some (.int .i64 (h : Int))) none).run Tryd.prog W = .ok (.slice A h cap) W := by
  have e0 : Value.slice (if cap = 0 then A else A.map (·.add (0 * 1))) (h - 0) (cap - 0) = .slice A h cap := by
    have : (if cap = 0 then A else A.map (·.add (0 * 1))) = A := by
      split
      · rfl
      · cases A <;> simp [Addr.add]
    rw [this, Nat.sub_zero, Nat.sub_zero]
  rw [run_slice_h W 22 A len cap (show Tryd.prog.underlying 22 = some (.slice (Tryd.prog.elem 22)) by kernel_rfl) .i64 h (by omega) (by omega), elem_size]
  exact congrArg (fun v => Result.ok v W) e0
theorem OW.of_own {w : World} {base n c : Nat} {A : Option Addr} {ws : List Nat} (h : w.ownsRow base 51 1 (.slice A n c) n (wcells ws)) : OW base w A n ws := by
  have hl : ws.length = n := by have := h.1; rw [wcells_length] at this; omega
  refine ⟨hl, fun hn => ?_⟩
  rcases h.2 with ⟨hv, h0⟩ | ⟨g, cap, cur, hv, hb, hh, hnc, hcm, hsz, htk⟩
  · omega
  · injection hv with hA _ _
    refine ⟨g, cur, hA, hb, hh, fun j u hu => ?_⟩
    rw [← htk, List.getElem?_take] at hu
    split at hu
    · rw [Array.getElem?_toList] at hu; exact hu
    · cases hu

set_option maxHeartbeats 800000 in
theorem own_any (A : Option Addr) (n c : Nat) (ws : List Nat) (h64 : W64 ws) (hnc : n ≤ c) (hcm : c ≤ 9223372036854775807) (w : World) (hR : RW w w.heap.size A n ws) :
    Calls Tryd.prog 10 #[.agg #[.slice A n c]] w (GotSet (ws.take 160) w) := by
  have hl := hR.len
  obtain ⟨q0, q1, hsz, hb0⟩ := two_boxes w (.slice A n c) (.slice none 0 0) 24 24
  have HQ1 : Hid (Blk ((w.alloc (.cells #[.slice A n c] 24)).alloc (.cells #[.slice none 0 0] 24)) (w.heap.size + 1) 24 #[.slice none 0 0]) := by
    have := Blk.new (w.alloc (.cells #[.slice A n c] 24)) 24 #[.slice none 0 0]
    rwa [World.size_alloc] at this
  obtain ⟨k, hk⟩ : ∃ k, k = min n 160 := ⟨_, rfl⟩
  have hmx : min (n : Int) 160 = (k : Int) := by omega
  have hsl := w_slice_h A n c k (by omega)
  have HTK : Hid (ws.take k = ws.take 160) := by
    show _ = _
    rcases Nat.le_total n 160 with h | h
    · rw [List.take_of_length_le (by omega), List.take_of_length_le (by omega)]
    · rw [show k = 160 by omega]
  have HC := Lib.hid fun W (h : Below w.heap.size w W) => clone_u A k c (ws.take k) (by omega) W (((hR.below h).more h.size).take (by omega))
  have h6 := h64.take k
  have H6 := Lib.hid h6
  have hk2 : k ≤ 160 := by omega
  clear hR hl hk h6 q1
  go_enter Tryd.func10, Tryd.ntmps10
  go_wp2_with fail
  refine (HC.out _ hb0).mono ?_
  rintro e w1 ⟨A1, c1, rfl, hown, h1, h2, b1⟩
  have O1 : Hid (OW w.heap.size w1 A1 k (ws.take k)) := (OW.of_own hown).less hb0.size
  have B1 : Hid (Below w.heap.size w w1) := hb0.trans (b1.mono hb0.size)
  have HBX := Lib.hid (HQ1.out.below b1 (by omega))
  have zc := HBX.out.cell 0
  have zf := HBX.out.frozen 0
  have hz := World.cell?_setCell_same' w1 ⟨w.heap.size + 1, 0, none⟩ (.slice A1 k c1) (by rw [zc]; rfl)
  have HE := Lib.hid (got_of (by rw [← HTK.out]; exact H6.out) (by rw [List.length_take]; omega) (set_end (c := c1) O1.out HBX.out B1.out (by omega) HTK.out))
  clear hown b1 hb0 hsz q0
  go_wp2_with fail
  exact bodyPost_ret (v := .agg #[.slice A1 k c1]) (by simp [results, Tryd.results10, go_sem, hz]) rfl HE.out

/-- What a law holds between its calls: the sets in its variables, and the table. -/
structure Env (w : World) (L : List (Nat × SV)) (W : World) : Prop where
  below : Below w.heap.size w W
  tab : Tab W
  all : ∀ p ∈ L, Blk W p.1 24 #[.slice p.2.A p.2.n p.2.c] ∧ p.2.ok W W.heap.size
theorem SV.ok.more {w : World} {B B' : Nat} {s : SV} (h : s.ok w B) (hB : B ≤ B') : s.ok w B' := ⟨h.1.more hB, h.2.1, h.2.2⟩
theorem SV.ok.on {w w' : World} {s : SV} (h : s.ok w w.heap.size) (hb : Below w.heap.size w w') : s.ok w' w'.heap.size := (h.below hb).more hb.size
theorem Env.on {w W W' : World} {L : List (Nat × SV)} (h : Env w L W) (hb : Below W.heap.size W W') : Env w L W' :=
  ⟨h.below.trans (hb.mono h.below.size), h.tab.on hb, fun p hp => ⟨(h.all p hp).1.below hb (h.all p hp).1.lt, (h.all p hp).2.on hb⟩⟩
theorem Env.drew {w W : World} {L : List (Nat × SV)} (h : Env w L W) : Env w L W.drew :=
  ⟨below_drew' h.below, h.tab, fun p hp => ⟨(h.all p hp).1.drew, ⟨RW.drew (h.all p hp).2.1, (h.all p hp).2.2.1, (h.all p hp).2.2.2⟩⟩⟩
theorem Env.start {w : World} (hT : Tab w) : Env w [] w := ⟨Below.refl _ _, hT, fun p hp => by simp at hp⟩
theorem Env.add {w W : World} {L : List (Nat × SV)} (h : Env w L W) {s : SV} (hs : s.ok W W.heap.size) : Env w ((W.heap.size, s) :: L) (W.alloc (.cells #[.slice s.A s.n s.c] 24)) := by
  have hb : Below W.heap.size W (W.alloc (.cells #[.slice s.A s.n s.c] 24)) := (Below.refl _ _).alloc (Nat.le_refl _) _
  refine ⟨h.below.trans (hb.mono h.below.size), h.tab.on hb, fun p hp => ?_⟩
  rcases List.mem_cons.1 hp with rfl | hp
  · exact ⟨Blk.new _ _ _, hs.on hb⟩
  · exact ⟨(h.all p hp).1.alloc _, (h.all p hp).2.on hb⟩
theorem Env.cell {w W : World} {L : List (Nat × SV)} (h : Env w L W) {b : Nat} {s : SV} (hm : (b, s) ∈ L) : W.cell? ⟨b, 0, none⟩ = some (.slice s.A s.n s.c) := (h.all _ hm).1.cell 0
theorem Env.ok {w W : World} {L : List (Nat × SV)} (h : Env w L W) {b : Nat} {s : SV} (hm : (b, s) ∈ L) : s.ok W W.heap.size := (h.all _ hm).2
theorem Env.lt {w W : World} {L : List (Nat × SV)} (h : Env w L W) {b : Nat} {s : SV} (hm : (b, s) ∈ L) : b < W.heap.size := (h.all _ hm).1.lt
end Go.Proofs.YtpkpfnilfabkaaaDoor
