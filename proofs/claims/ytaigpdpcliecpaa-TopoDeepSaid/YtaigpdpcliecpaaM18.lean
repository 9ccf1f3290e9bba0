/- The laws of layer topo: plain facts of TopoLeft and TopoDeep. -/
import Derived.Deep.Matrix
import Derived.Test.YtaigpdpcliecpaaM17
import Derived.Test.YtaigpdpcliecpaaM1
-- holds: YtaigpdpcliecpaaTz YtaigpdpcliecpaaTza
namespace Go.Proofs.Ytaigpdpcliecpaa
open Go.ChangeShapes Go.WideShapes Go.ChangeAt Go.RowKit Go.Deep

theorem t_elem_size (W : World) : (sizeOf (Try.prog.elem 27)).run Try.prog W = .ok 1 W := by kernel_rfl
theorem t_slice_h (A : Option Addr) (len cap h : Nat) (hh : h ≤ cap) (W : World) :
    (Instr.slice 27 (.slice A len cap) none (some (.int .i64 (h : Int))) none).run Try.prog W = .ok (.slice A h cap) W := by
  have e0 : Value.slice (if cap = 0 then A else A.map (·.add (0 * 1))) (h - 0) (cap - 0) = .slice A h cap := by
    have : (if cap = 0 then A else A.map (·.add (0 * 1))) = A := by
      split
      · rfl
      · cases A <;> simp [Addr.add]
    rw [this, Nat.sub_zero, Nat.sub_zero]
  rw [run_slice_h W 27 A len cap (show Try.prog.underlying 27 = some (.slice (Try.prog.elem 27)) by kernel_rfl) .i64 h (by omega) (by omega), t_elem_size]
  exact congrArg (fun v => Result.ok v W) e0
theorem reads_cut {w : World} {B n k : Nat} {A : Option Addr} {l : List Int} (h : Reads w B 1 A n (ints l)) (hk : k ≤ n) : Reads w B 1 A k (ints (l.take k)) := by
  have := reads_take h hk
  rwa [Nat.mul_one, show (ints l).take k = ints (l.take k) by simp [ints]] at this
/-- A row of rows of numbers. -/
structure Row7 where
  A : Option Addr
  n : Nat
  c : Nat
  l : List Int
def row7Cells (rs : List Row7) : List Value := rs.map fun r => .slice r.A r.n r.c
def Rows7 (w : World) (B : Nat) (A : Option Addr) (n : Nat) (rs : List Row7) : Prop :=
  Reads w B 1 A n (row7Cells rs) ∧ ∀ r ∈ rs, Reads w B 1 r.A r.n (ints r.l) ∧ r.n ≤ r.c ∧ r.c ≤ 9223372036854775807
theorem Rows7.below {w w' : World} {B n : Nat} {A : Option Addr} {rs : List Row7} (h : Rows7 w B A n rs) (hb : Below B w w') : Rows7 w' B A n rs :=
  ⟨Reads.below h.1 hb, fun r hr => ⟨(h.2 r hr).1.below hb, (h.2 r hr).2⟩⟩
theorem Rows7.len {w : World} {B n : Nat} {A : Option Addr} {rs : List Row7} (h : Rows7 w B A n rs) : rs.length = n := by
  have := h.1.1
  unfold row7Cells at this
  simp at this; omega
theorem Rows7.at_ {w : World} {B n k : Nat} {A : Option Addr} {rs : List Row7} (h : Rows7 w B A n rs) (hk : k < n) :
    ∃ (b o : Nat) (r : Row7), A = some ⟨b, o, none⟩ ∧ b < B ∧ w.cell? ⟨b, o + k, none⟩ = some (.slice r.A r.n r.c) ∧ Reads w B 1 r.A r.n (ints r.l) ∧ r.n ≤ r.c ∧ r.c ≤ 9223372036854775807 := by
  have hl := h.len
  obtain ⟨b, o, hA, hlt, hc⟩ := reads_plain h.1 (by omega)
  obtain ⟨r, hr⟩ : ∃ r, rs[k]? = some r := ⟨_, List.getElem?_eq_getElem (by omega)⟩
  have hcell := hc k (.slice r.A r.n r.c) (by unfold row7Cells; rw [List.getElem?_map, hr]; rfl)
  exact ⟨b, o, r, hA, hlt, hcell, h.2 r (List.mem_of_getElem? hr)⟩
theorem cellsRow7 : Try.prog.cellsOf 27 = 1 := by kernel_rfl
theorem cellsInt7 : Try.prog.cellsOf 3 = 1 := by kernel_rfl
theorem open_rows7 {H : Type} {enc : TypeId × Value → H} {W : World} {base : Nat} {v : Value} {d : DataW H} {p : List MemPlace}
    (hv : Value.okWide Try.prog W .any base 39 v) (h : DataW.Trod enc Try.prog W 0 (fun _ => true) true 39 v d p) :
    ∃ (A : Option Addr) (n c : Nat) (rs : List Row7), v = .slice A n c ∧ True ∧ Rows7 W W.heap.size A n rs ∧ n ≤ c ∧ c ≤ 9223372036854775807 := by
  obtain ⟨a0, len, cap, rfl⟩ := okWide_slice Try.underlying39 hv
  obtain ⟨fuel, hf⟩ := h
  rcases open_int_rows Try.underlying39 Try.underlying27 Try.underlying3 cellsRow7 cellsInt7 hf with ⟨hcs, hx⟩ | ⟨a, len', cap', A, L, C, Z, hcs, _, hl, hm, hx, hrows⟩
  · injection hcs with hcs
    injection hcs with h1 h2 h3
    subst h1; subst h2; subst h3
    exact ⟨none, 0, 0, [], rfl, trivial, ⟨Reads.none_, fun r hr => by simp at hr⟩, Nat.le_refl _, by decide⟩
  · injection hcs with hcs
    injection hcs with h1 h2 h3
    subst h1; subst h2; subst h3
    refine ⟨some a, len, cap, (List.range len).map fun r => ⟨A r, L r, C r, (Z r).take (L r)⟩, rfl, trivial, ⟨⟨by unfold row7Cells; simp, fun h0 => ⟨a, rfl, ?_, fun j u hu => ?_⟩⟩, fun r hr => ?_⟩, hl, hm⟩
    · have := cell_lt (hrows 0 (by omega)).1
      rwa [block_of_add] at this
    · have hj : j < len := by
        have := (List.getElem?_eq_some_iff.1 hu).1
        unfold row7Cells at this
        simpa using this
      rw [(hrows j (by omega)).1, ← hu]
      unfold row7Cells
      rw [List.map_map, List.getElem?_map, List.getElem?_range hj]
      rfl
    · obtain ⟨q, hq, rfl⟩ := List.mem_map.1 hr
      have hq' : q < len := by simpa using hq
      obtain ⟨_, hLC, hCm, hZ, hwf, hnone, hcells⟩ := hrows q (by omega)
      refine ⟨⟨by rw [ints_length, List.length_take, Nat.min_eq_left (by omega)]; exact (Nat.mul_one _).symm, fun h0 => ?_⟩, hLC, hCm⟩
      have h0' : 0 < L q := h0
      cases hAq : A q with
      | none => have := hnone hAq; omega
      | some a' =>
        have hcl := (hcells a' hAq).2
        refine ⟨a', rfl, ?_, fun j u hu => ?_⟩
        · have := cell_lt (hcl 0 (by omega))
          rwa [block_of_add] at this
        · have hj : j < L q := by
            have := (List.getElem?_eq_some_iff.1 hu).1
            rw [ints_length, List.length_take] at this
            omega
          rw [hcl j (by omega), ← hu]
          simp [ints, hj, List.getElem?_eq_getElem (show j < (Z q).length by omega)]
end Go.Proofs.Ytaigpdpcliecpaa
namespace Go.Proofs.Ytaigpdpcliecpaa
open Go.RowKit

theorem seenT_next {l : List Int} {i : Nat} {v : Int} (h : l[i]? = some v) : addT (fun u => decide (u ∈ l.take i)) v = fun u => decide (u ∈ l.take (i + 1)) := by
  funext u
  unfold addT
  rw [List.take_add_one, h]
  by_cases e : u = v <;> simp [e]
theorem seenT_zero (l : List Int) : SeenT (.map []) (fun u => decide (u ∈ l.take 0)) := by
  have := seenT_none
  simpa using this
theorem in_mem {zs : List Ed} {v : Int} {p : Ed} : p ∈ inE zs v ↔ p ∈ zs ∧ p.2.1 = v := by
  unfold inE
  rw [List.mem_filter, decide_eq_true_eq]
theorem in_len7 (zs : List Ed) (v : Int) : (inE zs v).length ≤ zs.length := List.length_filter_le _ _
/-- To a node that is left an edge leads from one that is left. -/
theorem left_any {zs : List Ed} {m : Nat} {l : List Int} (h : KahnAll zs m l) (hz : ∀ p ∈ zs, rightE (m : Int) p = true) {v : Int} (hv : v ∈ leftE m l) : (inE zs v).any (fun p => decide (p.1 ∈ leftE m l)) = true := by
  obtain ⟨p, hp, h1, h2⟩ := h.left hz hv
  exact List.any_eq_true.2 ⟨p, in_mem.2 ⟨hp, h1⟩, decide_eq_true h2⟩
theorem left_empty {zs : List Ed} {m : Nat} {l : List Int} (h : Kahn zs m l) : ((((leftE m l).length : Nat) : Int) == 0) = decide (l.length = m) := by
  rw [Bool.eq_iff_iff, beq_iff_eq, decide_eq_true_eq, ← left_none h]
  constructor
  · intro e
    exact List.eq_nil_of_length_eq_zero (by omega)
  · intro e
    rw [e]
    rfl
/-- A node is deep just if an edge leads to it from one that is one less deep. -/
theorem deep_any {zs : List Ed} {m : Nat} {D : List Int} (h : DepthIs zs m D) {v : Int} (h0 : 0 ≤ v) (hv : v < (m : Int)) : zs.any (deepQ D v) = decide (0 < dE D v) := by
  rw [Bool.eq_iff_iff, List.any_eq_true, decide_eq_true_eq]
  constructor
  · rintro ⟨p, _, hq⟩
    unfold deepQ at hq
    rw [Bool.and_eq_true, beq_iff_eq, beq_iff_eq] at hq
    have := h.lo p.1
    omega
  · intro hd
    rcases h.from_ v h0 hv with e | ⟨p, hp, e1, e2⟩
    · omega
    · refine ⟨p, hp, ?_⟩
      unfold deepQ
      rw [Bool.and_eq_true, beq_iff_eq, beq_iff_eq]
      exact ⟨e1, by omega⟩
/-- An order turned round is one of the graph that leads back. -/
theorem RightO.back {zs : List Ed} {m : Nat} {o : List Int} (hg : IsG (m : Int) zs) (h : RightO zs m o) : RightO (backE zs) m o.reverse := by
  have hlt : ∀ p ∈ zs, ∀ i j : Nat, o[i]? = some p.1 → o[j]? = some p.2.1 → i < j := fun p hp i j hi hj => by
    obtain ⟨k, hk, h1⟩ := mem_take (h.ahead p hp j hj)
    rcases Nat.lt_or_ge i j with c | c
    · exact c
    · exact absurd (take_mem (show k < i by omega) h1) (nodup_take h.once hi)
  refine ⟨?_, fun x hx => h.ends x (List.mem_reverse.1 hx), by rw [List.length_reverse]; exact h.many, fun p hp i hi => ?_⟩
  · rw [List.nodup_iff_pairwise_ne, List.pairwise_reverse]
    exact (List.nodup_iff_pairwise_ne.1 h.once).imp fun h1 => Ne.symm h1
  · have hq := (mem_back hg p).1 hp
    have hr := of_decide_eq_true (hg.all _ hq)
    have hl := h.many
    have hil := (List.getElem?_eq_some_iff.1 hi).1
    rw [List.length_reverse] at hil
    rw [List.getElem?_reverse hil] at hi
    have hm : p.1 ∈ o := full_all h.once h.ends h.many (by have := hr.2.1; exact this.1) (by have := hr.2.1; exact this.2)
    obtain ⟨k, hk⟩ := List.mem_iff_getElem?.1 hm
    have hkl := (List.getElem?_eq_some_iff.1 hk).1
    have := hlt (flipE p) hq _ _ hi hk
    exact take_mem (show o.length - 1 - k < i by omega) (by rw [List.getElem?_reverse (by omega)]; rw [show o.length - 1 - (o.length - 1 - k) = k by omega]; exact hk)
end Go.Proofs.Ytaigpdpcliecpaa
