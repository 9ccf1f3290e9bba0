/- Layer bits: slices.IsSorted of numbers: its contract; plain facts on the numbers that come one by one. -/
import Derived.Test.YtpkpfnilfabkaaaDoorBs
import Derived.StillTailTactics
import Derived.Deep.LoopGhost
namespace Go.Proofs.YtpkpfnilfabkaaaDoor
open Go.RowKit

theorem mem_intsN {l : List Nat} {n : Nat} : ((n : Int) ∈ intsN l) ↔ n ∈ l := by
  unfold intsN
  rw [List.mem_map]
  exact ⟨fun ⟨a, ha, e⟩ => by have : a = n := by omega
                              rwa [← this], fun h => ⟨n, h, rfl⟩⟩
theorem ofF_intsN (l : List Nat) (n : Nat) : ofF (intsN l) n = decide (n ∈ l) := by
  unfold ofF
  exact decide_eq_decide.2 mem_intsN
theorem may_intsN {l : List Nat} (h : ∀ n ∈ l, n < 10000) : mayL (intsN l) := by
  intro z hz
  unfold intsN at hz
  obtain ⟨n, hn, rfl⟩ := List.mem_map.1 hz
  have := h n hn
  unfold mayB; simp; omega
theorem ofF_nums (xs : List Nat) : setW (ofF (intsN (numsF (inW xs)))) = setW (inW xs) := set_congr fun n hn => by
  rw [ofF_intsN]
  cases hb : inW xs n with
  | false =>
    refine decide_eq_false fun h => ?_
    have := (mem_nums.1 h).2
    rw [hb] at this; cases this
  | true => exact decide_eq_true (mem_nums.2 ⟨hn, hb⟩)
theorem intsN_getD {l : List Nat} {k : Nat} (h : k < l.length) : (intsN l).getD k 0 = ((l.getD k 0 : Nat) : Int) := by
  unfold intsN
  rw [List.getD_eq_getElem?_getD, List.getElem?_map, List.getD_eq_getElem?_getD, List.getElem?_eq_getElem h]
  rfl
theorem intsN_len (l : List Nat) : (intsN l).length = l.length := by unfold intsN; simp
/-- What comes behind the k-th number. -/
theorem drop_from {l : List Nat} (hs : l.Pairwise (· < ·)) {k : Nat} (hk : k < l.length) : (l.filter fun n => decide (l.getD k 0 + 1 ≤ n)) = l.drop (k + 1) := by
  have e0 : l.getD k 0 = l[k] := by rw [List.getD_eq_getElem?_getD, List.getElem?_eq_getElem hk]; rfl
  rw [e0]
  have e1 : (l.filter fun n => decide (l[k] + 1 ≤ n)) = (l.take (k + 1)).filter (fun n => decide (l[k] + 1 ≤ n)) ++ (l.drop (k + 1)).filter (fun n => decide (l[k] + 1 ≤ n)) := by
    rw [← List.filter_append, List.take_append_drop]
  rw [e1]
  have h1 : (l.take (k + 1)).filter (fun n => decide (l[k] + 1 ≤ n)) = [] := List.filter_eq_nil_iff.2 fun n hn => by
    obtain ⟨i, hi, rfl⟩ := List.getElem_of_mem hn
    rw [List.length_take] at hi
    rw [List.getElem_take]
    rcases Nat.lt_or_ge i k with h | h
    · have := List.pairwise_iff_getElem.1 hs i k (by omega) hk h
      simp; omega
    · have : i = k := by omega
      subst this; simp
  have h2 : (l.drop (k + 1)).filter (fun n => decide (l[k] + 1 ≤ n)) = l.drop (k + 1) := List.filter_eq_self.2 fun n hn => by
    obtain ⟨i, hi, rfl⟩ := List.getElem_of_mem hn
    rw [List.length_drop] at hi
    rw [List.getElem_drop]
    have := List.pairwise_iff_getElem.1 hs k (k + 1 + i) hk (by omega) (by omega)
    simp; omega
  rw [h1, h2, List.nil_append]
theorem first_drop {l : List Nat} {k : Nat} (hk : k < l.length) : firstN (l.drop k) = l.getD k 0 ∧ someN (l.drop k) = true := by
  rw [List.drop_eq_getElem_cons hk, List.getD_eq_getElem?_getD, List.getElem?_eq_getElem hk]
  exact ⟨rfl, rfl⟩
theorem first_none {l : List Nat} {k : Nat} (hk : l.length ≤ k) : firstN (l.drop k) = 0 ∧ someN (l.drop k) = false := by
  rw [List.drop_of_length_le hk]
  exact ⟨rfl, rfl⟩

/-- Numbers that rise. -/
def Rises (zs : List Int) : Prop := zs.Pairwise (· < ·)
theorem rises_intsN {l : List Nat} (h : l.Pairwise (· < ·)) : Rises (intsN l) := by
  unfold Rises intsN
  rw [List.pairwise_map]
  exact h.imp fun {a b} hab => by omega

set_option maxRecDepth 100000 in
set_option maxHeartbeats 2000000 in
theorem sorted_int (A : Option Addr) (n c : Nat) (zs : List Int) (hn : n ≤ 1000000) (hz : Rises zs) (w : World) (hR : RI w w.heap.size A n zs) :
    Calls Tryd.prog 37 #[.slice A n c] w fun e w' => e = .returned (.bool true) ∧ Below w.heap.size w w' := by
  have HR := Lib.hid hR
  have HL := Lib.hid hR.len
  have HZ := Lib.hid hz
  clear hR hz
  go_enter Tryd.func37, Tryd.ntmps37
  go_wp2_with fail
  go_loopg [3] n (fun gg i wr => ∃ z : Int, z = (n : Int) - 1 - ((n - gg : Nat) : Int) ∧ gg ≤ n ∧ i = .int .i64 z ∧ Hid (Below w.heap.size w wr))
  case atStart => exact ⟨_, by omega, Nat.le_refl _, rfl, Below.refl _ _⟩
  case round =>
    obtain ⟨z, hzz, hgn, rfl, bk⟩ := hrel
    by_cases hpos : 0 < z
    · obtain ⟨k, hk⟩ : ∃ k : Nat, z = ((k + 1 : Nat) : Int) := ⟨(z - 1).toNat, by omega⟩
      subst hk
      have hkn : k + 1 < n := by omega
      have hord : decide (zs.getD (k + 1) 0 < zs.getD k 0) = false := by
        have hl := HL.out
        have := List.pairwise_iff_getElem.1 HZ.out k (k + 1) (by omega) (by omega) (by omega)
        rw [List.getD_eq_getElem?_getD, List.getD_eq_getElem?_getD, List.getElem?_eq_getElem (show k + 1 < zs.length by omega), List.getElem?_eq_getElem (show k < zs.length by omega)]
        simp; omega
      obtain ⟨b, o, rfl, hb, g0⟩ := (HR.out.below bk.out).at_ hkn
      obtain ⟨b2, o2, hA2, hb2, x0⟩ := (HR.out.below bk.out).at_ (k := k) (by omega)
      injection hA2 with hA2
      injection hA2 with e1 e2 _
      subst e1; subst e2
      have HLS := Lib.hid fun w => Tryd.cmp_Less_int2 (zs.getD (k + 1) 0) (zs.getD k 0) w
      rw [hord] at HLS
      generalize zs.getD (k + 1) 0 = q at *
      generalize zs.getD k 0 = p at *
      have HG := Lib.hid hzz
      clear hzz hord
      have hs1 : IntKind.i64.wrap (k : Int) = (k : Int) := by rw [IntKind.wrap_i64]; omega
      have hi1 : (0 : Int) ≤ (k : Int) + 1 := by omega
      have ht1 : ((k : Int) + 1).toNat = k + 1 := by omega
      have hi2 : (k : Int) + 1 < (n : Int) := by omega
      have hi3 : (0 : Int) ≤ (k : Int) := by omega
      have hi4 : (k : Int) < (n : Int) := by omega
      go_wp2_with fail
      go_still_tail 9, (by kernel_rfl)
      change wpList _ _ _ _ _ wr.drew
      have HB : Hid (Below w.heap.size w wr.drew) := below_drew' bk.out
      clear bk g0 x0 hs1 ht1
      generalize wr.drew = wd at *
      go_wp2_with fail
      refine (HLS.out _).mono ?_
      rintro e w2 ⟨rfl, rfl⟩
      go_wp2_with fail
      go_roundg (gk - 1)
      case measure => have := HG.out; omega
      case rel => exact ⟨(k : Int), by have := HG.out; omega, by omega, by go_num, HB⟩
    · go_wp2_with fail
      go_ret
      exact ⟨rfl, bk.out⟩
end Go.Proofs.YtpkpfnilfabkaaaDoor
