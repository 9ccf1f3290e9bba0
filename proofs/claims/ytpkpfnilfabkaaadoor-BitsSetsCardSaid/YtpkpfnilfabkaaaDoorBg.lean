/- Layer bits: widened and cut: contracts. -/
import Derived.Test.YtpkpfnilfabkaaaDoorBf
import Derived.Laws.MakeOwn
import Derived.Outline
namespace Go.Proofs.YtpkpfnilfabkaaaDoor
open Go.RowKit

/-- A row of words of the call's own, known whole. -/
def RO (base : Nat) (w : World) (A : Option Addr) (n : Nat) (ws : List Nat) : Prop :=
  ws.length = n ∧ (0 < n → ∃ g, A = some ⟨g, 0, none⟩ ∧ base ≤ g ∧ Blk w g 51 (wcells ws).toArray)
section
variable {w w' : World} {base n : Nat} {A : Option Addr} {ws : List Nat}
theorem RO.reads (h : RO base w A n ws) : RW w w.heap.size A n ws :=
  ⟨by rw [wcells_length, h.1]; omega, fun hn => by
    obtain ⟨g, hA, _, hb⟩ := h.2 hn
    exact ⟨_, hA, hb.lt, fun j u hu => by rw [Go.WideShapes.add_plain, hb.cell, Nat.zero_add, List.getElem?_toArray]; exact hu⟩⟩
theorem RO.below (h : RO base w A n ws) (hb : Below w.heap.size w w') : RO base w' A n ws :=
  ⟨h.1, fun hn => by
    obtain ⟨g, hA, hg, hk⟩ := h.2 hn
    exact ⟨g, hA, hg, hk.below hb hk.lt⟩⟩
theorem RO.less {base' : Nat} (h : RO base w A n ws) (hb : base' ≤ base) : RO base' w A n ws :=
  ⟨h.1, fun hn => by
    obtain ⟨g, hA, hg, hk⟩ := h.2 hn
    exact ⟨g, hA, by omega, hk⟩⟩
theorem RO.none_ : RO base w none 0 [] := ⟨rfl, fun h => absurd h (by omega)⟩
theorem RO.cut (h : RO base w A n ws) {k : Nat} (hk : k ≤ n) : OW base w A k (ws.take k) :=
  ⟨by rw [List.length_take, h.1]; omega, fun hn => by
    obtain ⟨g, hA, hg, hb⟩ := h.2 (by omega)
    exact ⟨g, _, hA, hg, hb, fun j u hu => by
      rw [wcells_take, List.getElem?_take] at hu
      split at hu
      · rw [List.getElem?_toArray]; exact hu
      · cases hu⟩⟩
end
/-- What cut hands back. -/
def CutOk (base : Nat) (ws : List Nat) (w : World) (e : Ending) (w' : World) : Prop :=
  ∃ A n c, e = .returned (.agg #[.slice A n c]) ∧ OW base w' A n ws ∧ Below w.heap.size w w'

theorem elem_size (W : World) : (sizeOf (Tryd.prog.elem 22)).run Tryd.prog W = .ok 1 W := by kernel_rfl
theorem w_slice_hm (A : Option Addr) (len cap h : Nat) (hh : h ≤ cap) (W : World) :
    (Instr.slice 22 (.slice A len cap) none (some (.int .i64 (h : Int))) (some (.int .i64 (h : Int)))).run Tryd.prog W = .ok (.slice A h h) W := by
  have e0 : Value.slice (if h = 0 then A else A.map (·.add (0 * 1))) (h - 0) (h - 0) = .slice A h h := by
    have : (if h = 0 then A else A.map (·.add (0 * 1))) = A := by
      split
      · rfl
      · cases A <;> simp [Addr.add]
    rw [this, Nat.sub_zero]
  rw [run_slice_hm W 22 A len cap (show Tryd.prog.underlying 22 = some (.slice (Tryd.prog.elem 22)) by kernel_rfl) .i64 .i64 h h (by omega) (by omega) (by omega), elem_size]
  exact congrArg (fun v => Result.ok v W) e0

theorem cut_end {base n k : Nat} {A : Option Addr} {ws : List Nat} {w : World} (h : RO base w A n ws) (hk : k ≤ n) (e : topW ws n = k) (t : TypeId) :
    OW base (w.alloc (.cells #[.slice A k k] t)) A k (trimW ws) ∧ Below w.heap.size w (w.alloc (.cells #[.slice A k k] t)) := by
  have b : Below w.heap.size w (w.alloc (.cells #[.slice A k k] t)) := (Below.refl _ _).alloc (Nat.le_refl _) _
  refine ⟨?_, b⟩
  unfold trimW
  rw [h.1, e]
  exact (h.cut hk).below b

set_option maxHeartbeats 800000 in
theorem cut_any (base : Nat) (A : Option Addr) (n c : Nat) (ws : List Nat) (hnc : n ≤ c) (hn : n ≤ 1000000) (w : World) (hR : RO base w A n ws) :
    Calls Tryd.prog 48 #[.slice A n c] w (CutOk base (trimW ws) w) := by
  have HR := Lib.hid hR
  have RW1 := Lib.hid (hR.reads)
  clear hR
  go_enter Tryd.func48, Tryd.ntmps48
  go_wp2_with fail
  go_loop [3] (fun s => ∃ k : Nat, k ≤ n ∧ s = .int .i64 k ∧ Hid (topW ws k = topW ws n)) (fun s => (intOf s).toNat)
  case atStart => exact ⟨n, Nat.le_refl _, rfl, rfl⟩
  case round =>
    obtain ⟨k, hk, rfl, HK⟩ := hrel
    have hsl := w_slice_hm A n c k (by omega)
    rcases Nat.eq_zero_or_pos k with h0 | h0
    · subst h0
      have hg : decide ((0 : Int) < 0) = false := by decide
      have HE := Lib.hid (cut_end (t := 24) HR.out hk HK.out.symm)
      go_wp2_with fail
      exact bodyPost_ret (v := .agg #[.slice A 0 0]) (by simp [results, Tryd.results48, go_sem]) rfl ⟨A, 0, 0, rfl, HE.out.1, HE.out.2⟩
    · obtain ⟨k, rfl⟩ : ∃ j, k = j + 1 := ⟨k - 1, by omega⟩
      obtain ⟨b, o, rfl, hb, hc⟩ := RW1.out.at_ (k := k) (by omega)
      have hpos : decide ((0 : Int) < (k : Int) + 1) = true := decide_eq_true (by omega)
      have hs1 : (k : Int) + 1 - 1 = (k : Int) := by omega
      have hcast : ((k + 1 : Nat) : Int) = (k : Int) + 1 := rfl
      rw [hcast] at hsl ⊢
      by_cases hz : ws.getD k 0 = 0
      · have HN : Hid (topW ws k = topW ws n) := by
          show _ = _
          rw [← HK.out]
          show _ = (if ws.getD k 0 = 0 then topW ws k else k + 1)
          rw [if_pos hz]
        rw [hz] at hc
        clear hz hsl
        go_wp2_with fail
        go_round
        case rel => exact ⟨k, by omega, rfl, HN⟩
        case measure => simp [intOf]
      · have hx0 : (((ws.getD k 0 : Nat) : Int) == 0) = false := by simpa using hz
        have HN : topW ws n = k + 1 := by
          rw [← HK.out]
          show (if ws.getD k 0 = 0 then topW ws k else k + 1) = _
          rw [if_neg hz]
        have HE := Lib.hid (cut_end (t := 24) HR.out hk HN)
        clear hz HN
        generalize ws.getD k 0 = x at *
        go_wp2_with fail
        exact bodyPost_ret (v := .agg #[.slice (some ⟨b, o, none⟩) (k + 1) (k + 1)]) (by simp [results, Tryd.results48, go_sem]) rfl ⟨_, _, _, rfl, HE.out.1, HE.out.2⟩

/-- A row widened by zeros. -/
def padW (ws : List Nat) (n : Nat) : List Nat := ws ++ List.replicate (n - ws.length) 0
theorem pad_length (ws : List Nat) (n : Nat) : (padW ws n).length = max n ws.length := by unfold padW; simp; omega
theorem pad_getD (ws : List Nat) (n j : Nat) : (padW ws n).getD j 0 = ws.getD j 0 := by
  unfold padW
  rw [List.getD_eq_getElem?_getD, List.getD_eq_getElem?_getD, List.getElem?_append]
  split
  · rfl
  · rw [List.getElem?_replicate, List.getElem?_eq_none (l := ws) (by omega)]
    split <;> rfl
theorem pad_64 {ws : List Nat} (h : W64 ws) (n : Nat) : W64 (padW ws n) := by
  intro x hx
  unfold padW at hx
  rcases List.mem_append.1 hx with hx | hx
  · exact h x hx
  · rw [List.eq_of_mem_replicate hx]; decide
theorem has_pad (ws : List Nat) (n m : Nat) : hasW (padW ws n) m = hasW ws m := by unfold hasW; rw [pad_getD]

theorem u64_info : (Tryd.prog.info? 51).map (fun i => (i.zero, i.size, i.bytes)) = some (some (.int .u64 0), 1, 8) := by kernel_rfl
theorem u64_size : (Tryd.prog.info? 51).map (·.size) = some 1 := by kernel_rfl
theorem made_words (n : Nat) : madeCells (Value.int .u64 0).cells (n * 1) = (wcells (List.replicate n 0)).toArray := by
  rw [wcells_zero]
  apply Array.ext
  · rw [size_madeCells]; simp
  · intro j h1 h2
    have hz : (Value.int .u64 0).cells = #[.int .u64 0] := by simp [Value.cells]
    simp [madeCells, hz, Nat.mod_one]
theorem w_make (n : Nat) (hn : n ≤ 1000000) (W : World) :
    (Instr.makeSlice 22 (.int .i64 (n : Int)) (.int .i64 (n : Int))).run Tryd.prog W = .ok (.slice (some ⟨W.heap.size, 0, none⟩) n n) (W.alloc (.cells (wcells (List.replicate n 0)).toArray 51)) := by
  obtain ⟨i0, hi, hz0, hz1, hz2⟩ := info_parts u64_info
  have hr := run_make (P := Tryd.prog) W 22 51 i0 _ Tryd.underlying22 hi hz0 .i64 .i64 n n (by omega) (by omega) (by rw [hz2]; omega) (by omega)
  simp only [Int.toNat_natCast] at hr
  rw [hz1, made_words] at hr
  exact hr

/-- What widened hands back. -/
def WideOk (ws : List Nat) (m : Nat) (w : World) (e : Ending) (w' : World) : Prop :=
  ∃ g, e = .returned (.slice (some ⟨g, 0, none⟩) (max m ws.length) (max m ws.length)) ∧ w.heap.size ≤ g ∧ Blk w' g 51 (wcells (padW ws m)).toArray ∧ Below w.heap.size w w'
theorem copy_words (w : World) (g N : Nat) (A : Option Addr) (n c : Nat) (ws : List Nat) (hN : n ≤ N)
    (hG : Blk w g 51 (wcells (List.replicate N 0)).toArray) (hsrc : Src w g 1 A n (wcells ws)) :
    ∃ w', (Builtin.copy_ #[22, 22] 3 #[.slice (some ⟨g, 0, none⟩) N N, .slice A n c]).run Tryd.prog w = .ok (goInt n) w' ∧
      Blk w' g 51 (wcells (padW ws N)).toArray ∧ w.grownBy w' (some g) := by
  have hl : ws.length = n := by have := hsrc.1; rw [wcells_length] at this; omega
  have hr := run_copy_src (P := Tryd.prog) w 22 22 3 51 g 0 N N 1 A n c (wcells (List.replicate N 0)).toArray 51 (wcells ws) Tryd.underlying22 u64_size hG hsrc hN
    (by rw [wcells_length, List.size_toArray, wcells_length, List.length_replicate]; omega) (wcells_one ws)
  have hcells : (wcells (List.replicate N 0)).toArray.toList.take 0 ++ wcells ws ++ (wcells (List.replicate N 0)).toArray.toList.drop (0 + (wcells ws).length) = wcells (padW ws N) := by
    unfold padW
    rw [wcells_append, wcells_zero, wcells_zero, wcells_length]
    simp
  rw [hcells] at hr
  obtain ⟨h1, h2⟩ := setRow_grown hG (wcells (padW ws N)).toArray
  exact ⟨_, hr, h2, h1⟩

theorem wide_end {w w' : World} {N m n : Nat} {ws : List Nat} (hN : N = max m n) (hl : ws.length = n) (hb : Blk w' w.heap.size 51 (wcells (padW ws N)).toArray)
    (hg : (w.alloc (.cells (wcells (List.replicate N 0)).toArray 51)).grownBy w' (some w.heap.size)) : WideOk ws m w (.returned (.slice (some ⟨w.heap.size, 0, none⟩) N N)) w' := by
  subst hN hl
  have e : padW ws (max m ws.length) = padW ws m := by
    unfold padW
    rw [show max m ws.length - ws.length = m - ws.length by omega]
  rw [e] at hb
  exact ⟨w.heap.size, rfl, Nat.le_refl _, hb, ((Below.refl _ _).alloc (Nat.le_refl _) _).grown hg (by simp) (fun k e => by cases e; exact Nat.le_refl _)⟩

set_option maxHeartbeats 800000 in
theorem widened_any (A : Option Addr) (n c m : Nat) (ws : List Nat) (hn : n ≤ 1000000) (hm : m ≤ 1000000) (w : World) (hR : RW w w.heap.size A n ws) :
    Calls Tryd.prog 50 #[.slice A n c, .int .i64 (m : Int)] w (WideOk ws m w) := by
  have hl := hR.len
  obtain ⟨N, hN⟩ : ∃ N, N = max m n := ⟨_, rfl⟩
  have hmx : max (m : Int) (n : Int) = (N : Int) := by omega
  have hmk := fun W => w_make N (by omega) W
  have hnN : n ≤ N := by omega
  have HE := Lib.hid (fun (w' : World) => wide_end (w := w) (w' := w') hN hl)
  have hs : Src (w.alloc (.cells (wcells (List.replicate N 0)).toArray 51)) w.heap.size 1 A n (wcells ws) :=
    Src.of_reads (hR.alloc (Nat.le_refl _) _) (by omega) (by simp) (Nat.le_refl _)
  obtain ⟨w2, hcp, hb2, hg2⟩ := copy_words (w.alloc (.cells (wcells (List.replicate N 0)).toArray 51)) w.heap.size N A n c ws hnN (Blk.new _ _ _) hs
  have HF := Lib.hid (HE.out w2 hb2 hg2)
  clear hb2 hg2 hs HE hR hN hl
  go_enter Tryd.func50, Tryd.ntmps50
  go_wp2_with fail
  go_ret
  exact HF.out
end Go.Proofs.YtpkpfnilfabkaaaDoor
