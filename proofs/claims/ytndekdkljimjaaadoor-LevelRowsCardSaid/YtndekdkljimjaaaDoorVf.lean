/- Layer level: whether rows are assignments of one length (alike): contract. -/
import Derived.Test.YtndekdkljimjaaaDoorVb
import Derived.Test.YtndekdkljimjaaaDoorVe
import Derived.Deep.LoopGhost
namespace Go.Proofs.YtndekdkljimjaaaDoor
open Go.RowKit

/-- A row of numbers, as it lies in a row of them. -/
structure R9 where
  A : Option Addr
  n : Nat
  c : Nat
  l : List Int
def R9.cell (r : R9) : Value := .slice r.A r.n r.c
def Rows9 (w : World) (A : Option Addr) (m : Nat) (rs : List R9) : Prop :=
  Reads w w.heap.size 1 A m (rs.map R9.cell) ∧ ∀ r ∈ rs, Reads w w.heap.size 1 r.A r.n (ints r.l)
theorem Rows9.len {w : World} {A : Option Addr} {m : Nat} {rs : List R9} (h : Rows9 w A m rs) : rs.length = m := by
  have := h.1.1
  rw [List.length_map] at this
  omega
theorem Rows9.two {w : World} {A : Option Addr} {m k : Nat} {rs : List R9} (h : Rows9 w A m rs) (hk : k < m) :
    ∃ (b o : Nat) (r r0 : R9), A = some ⟨b, o, none⟩ ∧ rs[k]? = some r ∧ rs[0]? = some r0 ∧ w.cell? ⟨b, o + k, none⟩ = some (.slice r.A r.n r.c) ∧ w.cell? ⟨b, o, none⟩ = some (.slice r0.A r0.n r0.c) ∧ Reads w w.heap.size 1 r.A r.n (ints r.l) := by
  have hl := h.len
  obtain ⟨b, o, hA, hb, hc⟩ := reads_plain h.1 (by omega)
  have h0 : rs[k]? = some (rs[k]'(by omega)) := List.getElem?_eq_getElem _
  have h1 : rs[0]? = some (rs[0]'(by omega)) := List.getElem?_eq_getElem _
  refine ⟨b, o, _, _, hA, h0, h1, hc k _ (by rw [List.getElem?_map, h0]; rfl), ?_, h.2 _ (List.mem_of_getElem? h0)⟩
  have := hc 0 _ (by rw [List.getElem?_map, h1]; rfl)
  rwa [Nat.add_zero] at this

/-- What is wrong with assignments that stand together. -/
def alikeE (ls : List (List Int)) : Int := if ls.all (·.all levB) then (if ls.all (fun l => l.length == (ls.headD []).length) then 0 else 2) else 190
/-- What is wrong so far with their lengths. -/
def errTo (rs : List R9) (k : Nat) : Int := if (rs.take k).all (fun r => (r.n : Int) == (rs.headD ⟨none, 0, 0, []⟩).n) then 0 else 2
theorem errTo_step {rs : List R9} {k : Nat} {r r0 : R9} (hr : rs[k]? = some r) (hr0 : rs[0]? = some r0) :
    (((r.n : Int) != (r0.n : Int)) = false ∧ errTo rs (k + 1) = errTo rs k) ∨ (((r.n : Int) != (r0.n : Int)) = true ∧ errTo rs (k + 1) = 2) := by
  have hh : rs.headD ⟨none, 0, 0, []⟩ = r0 := by cases rs with
    | nil => simp at hr0
    | cons a rs => simpa using hr0
  have ht : rs.take (k + 1) = rs.take k ++ [r] := by rw [List.take_add_one, hr]; rfl
  unfold errTo
  rw [hh, ht, List.all_append]
  cases hb : ((r.n : Int) == (r0.n : Int))
  · right
    exact ⟨by unfold bne; rw [hb]; rfl, by simp [hb]⟩
  · left
    exact ⟨by unfold bne; rw [hb]; rfl, by simp [hb]⟩
theorem alikeE_no {rs : List R9} {r : R9} {k j : Nat} {v : Int} (hr : rs[k]? = some r) (hv : r.l[j]? = some v) (h : levB v = false) : alikeE (rs.map (·.l)) = 190 := by
  unfold alikeE
  rw [if_neg]
  intro hall
  rw [List.all_eq_true] at hall
  have h1 := hall r.l (List.mem_map.2 ⟨r, List.mem_of_getElem? hr, rfl⟩)
  rw [List.all_eq_true] at h1
  rw [h1 v (List.mem_of_getElem? hv)] at h
  cases h
theorem alikeE_end {rs : List R9} {m : Nat} (hm : rs.length = m) (hl : ∀ r ∈ rs, r.l.length = r.n) (h : ∀ i r, i < m → rs[i]? = some r → r.l.all levB = true) : alikeE (rs.map (·.l)) = errTo rs m := by
  unfold alikeE errTo
  rw [if_pos, ← hm, List.take_length]
  · have e : ((rs.map (·.l)).all fun l => l.length == ((rs.map (·.l)).headD []).length) = rs.all (fun r => (r.n : Int) == (rs.headD ⟨none, 0, 0, []⟩).n) := by
      cases rs with
      | nil => rfl
      | cons a rs =>
        rw [Bool.eq_iff_iff]
        simp only [List.all_eq_true, List.headD_cons, List.map_cons, beq_iff_eq]
        have ha := hl a (.head _)
        constructor
        · intro h2 r hr
          have h3 := h2 r.l (by rw [← List.map_cons (f := R9.l)]; exact List.mem_map.2 ⟨r, hr, rfl⟩)
          have := hl r hr
          omega
        · intro h2 l hl2
          rw [← List.map_cons (f := R9.l)] at hl2
          obtain ⟨r, hr, rfl⟩ := List.mem_map.1 hl2
          have := h2 r hr
          have := hl r hr
          omega
    rw [e]
  · rw [List.all_map, List.all_eq_true]
    intro r hr
    obtain ⟨i, hi, e⟩ := List.mem_iff_getElem.1 hr
    exact h i r (by omega) (by rw [← e]; exact List.getElem?_eq_getElem hi)
theorem all_snoc {l : List Int} {j : Nat} {v : Int} (h : (l.take j).all levB = true) (hv : l[j]? = some v) (hl : levB v = true) : (l.take (j + 1)).all levB = true := by
  rw [List.take_add_one, hv, List.all_append, h]
  simp [hl]

set_option maxRecDepth 100000 in
set_option maxHeartbeats 4000000 in
theorem alike_any (A : Option Addr) (m c : Nat) (rs : List R9) (hm : m ≤ 1000) (hn : ∀ r ∈ rs, r.n ≤ 1000000) (w : World) (hR : Rows9 w A m rs) :
    Calls Tryd.prog 33 #[.slice A m c] w fun e w' => e = .returned (.int .i64 (alikeE (rs.map (·.l)))) ∧ w = w' := by
  have HR := Lib.hid hR
  have HN := Lib.hid hn
  have HE0 : Hid (errTo rs 0 = 0) := rfl
  have HL0 : Hid (∀ i r, i < 0 → rs[i]? = some r → r.l.all levB = true) := fun i r h _ => by omega
  clear hR hn
  go_enter Tryd.func33, Tryd.ntmps33
  go_wp2_with fail
  go_step3
  go_wp2_with fail
  go_step3
  go_wp2_with fail
  go_loopg [3, 11] m (fun gg s3 s11 wr => ∃ (k : Nat) (x : Int), k + gg = m ∧ s11 = .int .i64 k ∧ s3 = .int .i64 x ∧ Hid (errTo rs k = x) ∧ Hid (∀ i r, i < k → rs[i]? = some r → r.l.all levB = true) ∧ wr = w)
  case atStart => exact ⟨0, 0, by omega, rfl, rfl, HE0, HL0, rfl⟩
  case round =>
    clear HE0 HL0
    obtain ⟨k, x, hk, rfl, rfl, HE, HL, hw⟩ := hrel
    obtain rfl := hw.symm
    cases gk with
    | succ gg =>
      have hkm : k < m := by omega
      have hlt : (k : Int) < (m : Int) := by omega
      obtain ⟨b, o, r, r0, rfl, hr, hr0, c1, c0, hrd⟩ := HR.out.two hkm
      have h0m : (0 : Int) < (m : Int) := by omega
      have h0n : 0 < m := by omega
      have hnm : ¬ m = 0 := by omega
      have hrn := HN.out r (List.mem_of_getElem? hr)
      have HRD := Lib.hid hrd
      have HLN := Lib.hid (ints_len hrd)
      have hd := errTo_step hr hr0
      have HRK := Lib.hid hr
      have HKM := Lib.hid hk
      obtain ⟨rA, rn, rc, rl⟩ := r
      obtain ⟨r0A, r0n, r0c, r0l⟩ := r0
      simp only at c1 c0 hrn HRD HLN hd
      rw [HE.out] at hd
      have HJ0 : Hid ((rl.take 0).all levB = true) := rfl
      clear hrd hr hr0 HE hk hkm
      rcases hd with ⟨hb, he⟩ | ⟨hb, he⟩
      all_goals
        have HE := Lib.hid he
        clear he
        go_wp2_with fail
        go_loopg [3, 24] rn (fun g2 s3 s24 wr => ∃ (j : Nat) (y : Int), j + g2 = rn ∧ s24 = .int .i64 j ∧ s3 = .int .i64 y ∧ Hid (errTo rs (k + 1) = y) ∧ Hid ((rl.take j).all levB = true) ∧ wr = w)
        case atStart => exact ⟨0, _, by omega, rfl, rfl, HE, HJ0, rfl⟩
        case round =>
          clear HE HJ0
          obtain ⟨j, y, hj, rfl, rfl, HE, HJ, hw⟩ := hrel
          obtain rfl := hw.symm
          cases gk with
          | succ g2 =>
            have hjn : j < rn := by omega
            have hjlt : (j : Int) < (rn : Int) := by omega
            obtain ⟨v, hv⟩ : ∃ v, rl[j]? = some v := ⟨rl[j]'(by rw [HLN.out]; exact hjn), List.getElem?_eq_getElem _⟩
            obtain ⟨bb, oo, rfl, hbb, g0⟩ := int_at HRD.out hv
            have HC := Lib.hid (check_any v w)
            have HJG := Lib.hid hj
            clear hj
            cases hlv : levB v
            · have HX := Lib.hid (alikeE_no HRK.out hv hlv)
              rw [levE_no hlv] at HC
              clear hv hlv
              go_wp2_with fail
              refine HC.out.mono ?_
              rintro e w1 ⟨rfl, rfl⟩
              go_wp2_with fail
              try rw [Exit.noGoto_ret]
              go_ret
              exact ⟨by rw [HX.out]; rfl, rfl⟩
            · have HJ1 := Lib.hid (all_snoc HJ.out hv hlv)
              rw [levE_ok hlv] at HC
              clear hv hlv
              go_wp2_with fail
              refine HC.out.mono ?_
              rintro e w1 ⟨rfl, rfl⟩
              go_wp2_with fail
              go_roundg g2
              case measure => omega
              case rel => exact ⟨j + 1, y, by have := HJG.out; omega, by go_num, rfl, HE, HJ1, rfl⟩
          | zero =>
            obtain rfl : j = rn := by omega
            have HL1 : Hid (∀ i r, i < k + 1 → rs[i]? = some r → r.l.all levB = true) := fun i r hi hr => by
              rcases Nat.lt_or_ge i k with h | h
              · exact HL.out i r h hr
              · obtain rfl : i = k := by omega
                have e := HRK.out.symm.trans hr
                injection e with e
                subst e
                have := HJ.out
                rwa [List.take_of_length_le (by rw [HLN.out]; exact Nat.le_refl _)] at this
            have hjlt : ¬ (j : Int) < (j : Int) := by omega
            go_wp2_with fail
            go_roundg gg
            case measure => omega
            case rel => exact ⟨k + 1, y, by have := HKM.out; omega, by go_num, rfl, HE, HL1, rfl⟩
    | zero =>
      obtain rfl : k = m := by omega
      have HX := Lib.hid (alikeE_end HR.out.len (fun r hr => ints_len (HR.out.2 r hr)) HL.out)
      rw [HE.out] at HX
      have hjlt : ¬ (k : Int) < (k : Int) := by omega
      go_wp2_with fail
      try rw [Exit.noGoto_ret]
      go_ret
      exact ⟨by rw [HX.out]; rfl, rfl⟩
end Go.Proofs.YtndekdkljimjaaaDoor
