/- GraphWhole: plain facts; rows of edges as a literal. -/
import Derived.Test.YticbgikbpafeoaaHd
namespace Go.Proofs.Yticbgikbpafeoaa
open Go.RowKit

theorem reads_dropE {w : World} {B n k c : Nat} {A : Option Addr} {ps : List Ed} (h : Reads w B 3 A n (cellsE ps)) (hk : k ≤ n) (hc : n ≤ c) : Reads w B 3 (if c = k then A else A.map (·.add (k * 3))) (n - k) (cellsE (ps.drop k)) := by
  rw [cellsE_drop]
  exact h.cut hk hc
theorem reads_takenE {w : World} {B n k : Nat} {A : Option Addr} {ps : List Ed} (h : Reads w B 3 A n (cellsE ps)) (hk : k ≤ n) : Reads w B 3 A k (cellsE (ps.take k)) := by
  rw [cellsE_take]
  exact reads_take h hk
/-- A place to turn a row at. -/
theorem turn_place (turn : Int) (m : Nat) (hm : m ≤ 80) (hm0 : 0 < m) : ∃ k : Nat, k < m ∧ wrap64 ((IntKind.u64.wrap turn).tmod (m : Int)) = (k : Int) := by
  have h0 : 0 ≤ IntKind.u64.wrap turn := by rw [IntKind.wrap_u64]; omega
  have h1 := Int.emod_nonneg (IntKind.u64.wrap turn) (show (m : Int) ≠ 0 by omega)
  have h2 := Int.emod_lt_of_pos (IntKind.u64.wrap turn) (show (0 : Int) < (m : Int) by omega)
  rw [Int.tmod_eq_emod_of_nonneg h0]
  exact ⟨(IntKind.u64.wrap turn % (m : Int)).toNat, by omega, by rw [IntWalk.wrap64_in _ (by omega)]; omega⟩
/-- A row, turned, with its first edge once more. -/
def turnE (zs : List Ed) (k : Nat) : List Ed := zs.drop k ++ (zs.take k ++ zs.take 1)
theorem turn_mem {zs : List Ed} {k : Nat} (x : Ed) : x ∈ zs ↔ x ∈ turnE zs k := by
  unfold turnE
  rw [List.mem_append, List.mem_append]
  constructor
  · intro h
    rw [← List.take_append_drop k zs, List.mem_append] at h
    exact h.elim (fun h => .inr (.inl h)) .inl
  · rintro (h | h | h)
    · exact List.mem_of_mem_drop h
    · exact List.mem_of_mem_take h
    · exact List.mem_of_mem_take h
theorem turn_is {zs : List Ed} {nodes : Int} (h : IsG nodes zs) (k : Nat) : sorE (turnE zs k) = zs :=
  sorE_is (fun p hp => h.ok p ((turn_mem p).2 hp)) h.up turn_mem
theorem turn_all {zs : List Ed} {nodes : Int} (h : IsG nodes zs) (k : Nat) : ∀ p ∈ turnE zs k, rightE nodes p = true := fun p hp => h.all p ((turn_mem p).2 hp)
theorem turn_len (zs : List Ed) (k : Nat) : (turnE zs k).length ≤ zs.length + 1 := by
  unfold turnE
  simp only [List.length_append, List.length_drop, List.length_take]
  omega
/-- Rows of edges, laid as a literal. -/
theorem erows_lit {W : World} {t : TypeId} {cs : Array Value} {rs : List ERow} (hcs : cs = (erowCells rs).toArray) (h : ∀ r ∈ rs, Reads W W.heap.size 3 r.A r.n (cellsE r.l)) :
    ERows (W.alloc (.cells cs t)) (W.alloc (.cells cs t)).heap.size (some ⟨W.heap.size, 0, none⟩) rs.length rs := by
  have hb : Below W.heap.size W (W.alloc (.cells cs t)) := (Below.refl _ _).alloc (Nat.le_refl _) _
  refine ⟨⟨by unfold erowCells; simp, fun _ => ⟨_, rfl, by simp, fun j u hu => ?_⟩⟩, fun r hr => ((h r hr).below hb).more hb.size⟩
  rw [Go.WideShapes.add_plain, Nat.zero_add, (Blk.new W t _).cell, hcs, List.getElem?_toArray]
  exact hu
theorem erows3 {W : World} {A : Option Addr} {n c k : Nat} {t : TypeId} {zs : List Ed} (hR : Reads W W.heap.size 3 A n (cellsE zs)) (hk : k < n) (hnc : n ≤ c) {A1 : Option Addr} (hA : A1 = if c = k then A else A.map (·.add (k * 3))) :
    ERows (W.alloc (.cells #[.slice A1 (n - k) (c - k), .slice A k c, .slice A 1 c] t)) (W.alloc (.cells #[.slice A1 (n - k) (c - k), .slice A k c, .slice A 1 c] t)).heap.size (some ⟨W.heap.size, 0, none⟩) 3
      [⟨A1, n - k, c - k, zs.drop k⟩, ⟨A, k, c, zs.take k⟩, ⟨A, 1, c, zs.take 1⟩] := by
  refine erows_lit rfl (fun r hr => ?_)
  simp only [List.mem_cons, List.not_mem_nil, or_false] at hr
  rcases hr with rfl | rfl | rfl
  · subst hA; exact reads_dropE hR (by omega) hnc
  · exact reads_takenE hR (show k ≤ n by omega)
  · exact reads_takenE hR (show 1 ≤ n by omega)
theorem cat3 {A1 A : Option Addr} {a b c d : Nat} {zs : List Ed} {k : Nat} : catL [⟨A1, a, b, zs.drop k⟩, ⟨A, k, c, zs.take k⟩, ⟨A, 1, d, zs.take 1⟩] = turnE zs k := by
  simp [catL, turnE]
theorem startsE_get (zs : List Ed) {m v : Nat} (h : v < m) : (startsE zs m)[v]? = some ((startE zs (v : Int) : Nat) : Int) := by
  unfold startsE
  rw [List.getElem?_map, List.getElem?_range h]
  rfl
theorem cap_reads {w : World} {B n c : Nat} {A : Option Addr} {zs : List Ed} (hz : InRow zs) (h : Reads w B 3 A n (cellsE zs)) (hc : n ≤ c) (v : Int) : Reads w B 3 (if c = startE zs v then A else A.map (·.add (startE zs v * 3))) (startE zs (v + 1) - startE zs v) (cellsE (outE zs v)) := by
  have hl := reads_len h
  have h1 := start_mono zs (u := v) (v := v + 1) (by omega)
  have h2 := start_le zs (v + 1)
  have := reads_takenE (k := startE zs (v + 1) - startE zs v) (reads_dropE h (k := startE zs v) (c := c) (by omega) hc) (by omega)
  rwa [out_cut hz.ord] at this
end Go.Proofs.Yticbgikbpafeoaa
