/- GraphMakes: what the law holds between its calls; an argument of two graphs; an array of two graphs at an index. -/
import Derived.Test.YticbgikbpafeoaaHd
import Derived.Test.YticbgikbpafeoaaGz
namespace Go.Proofs.Yticbgikbpafeoaa
open Go.RowKit

theorem Env.sub {w W : World} {L L' : List (Nat × GV)} (h : Env w L W) (hs : ∀ p ∈ L', p ∈ L) : Env w L' W := ⟨h.below, fun p hp => h.all p (hs p hp)⟩
/-- The graphs in a law's variables, two graphs in an array's, and a row that was handed in. -/
structure MEnv (w : World) (L : List (Nat × GV)) (b : Nat) (p q : GV) (A : Option Addr) (n : Nat) (xs : List Ed) (W : World) : Prop where
  env : Env w L W
  blk : Blk W b 25 #[.int .i64 p.z, .slice p.A p.n p.c, .int .i64 q.z, .slice q.A q.n q.c]
  p : p.ok W
  q : q.ok W
  row : Reads W W.heap.size 3 A n (cellsE xs)
/-- A variable laid with the zero value, that is not the array's. -/
def MZer (w : World) (L : List (Nat × GV)) (b X : Nat) (W : World) : Prop := Zer w L X W ∧ b ≠ X
section
variable {w W W' : World} {L L' : List (Nat × GV)} {b n X : Nat} {p q : GV} {A : Option Addr} {xs : List Ed}
theorem MEnv.on (h : MEnv w L b p q A n xs W) (hb : Below W.heap.size W W') : MEnv w L b p q A n xs W' :=
  ⟨h.env.on hb, h.blk.below hb h.blk.lt, h.p.on hb, h.q.on hb, h.row.on hb⟩
theorem MEnv.drew (h : MEnv w L b p q A n xs W) : MEnv w L b p q A n xs W.drew := h.on ((Below.refl _ _).drew)
theorem MEnv.alloc (h : MEnv w L b p q A n xs W) (o : Obj) : MEnv w L b p q A n xs (W.alloc o) := h.on ((Below.refl _ _).alloc (Nat.le_refl _) o)
theorem MEnv.add (h : MEnv w L b p q A n xs W) {g : GV} (hg : g.ok W) : MEnv w ((W.heap.size, g) :: L) b p q A n xs (W.alloc (.cells #[.int .i64 g.z, .slice g.A g.n g.c] 24)) := by
  have hb : Below W.heap.size W (W.alloc (.cells #[.int .i64 g.z, .slice g.A g.n g.c] 24)) := (Below.refl _ _).alloc (Nat.le_refl _) _
  have h2 := h.on hb
  exact ⟨h.env.add hg, h2.blk, h2.p, h2.q, h2.row⟩
theorem MEnv.sub (h : MEnv w L b p q A n xs W) (hs : ∀ p ∈ L', p ∈ L) : MEnv w L' b p q A n xs W := ⟨h.env.sub hs, h.blk, h.p, h.q, h.row⟩
theorem MZer.on (h : MZer w L b X W) (hb : Below W.heap.size W W') : MZer w L b X W' := ⟨h.1.on hb, h.2⟩
theorem MZer.new (h : MEnv w L b p q A n xs W) : MZer w L b W.heap.size (W.alloc (.cells #[.int .i64 0, .slice none 0 0] 24)) := ⟨Zer.new h.env, Nat.ne_of_lt h.blk.lt⟩
theorem MZer.laid (z : MZer w L b X W) (h : MEnv w L b p q A n xs W) : MEnv w ((X, ⟨0, none, 0, 0, []⟩) :: L) b p q A n xs W := by
  refine ⟨⟨h.env.below, fun r hr => ?_⟩, h.blk, h.p, h.q, h.row⟩
  rcases List.mem_cons.1 hr with rfl | hr
  · exact ⟨z.1.1, ⟨Reads.none_, Nat.le_refl _, Nat.zero_le _, fun _ => rfl⟩⟩
  · exact h.env.all r hr
theorem row_put {t : TypeId} {u v u' v' : Value} {k : Nat} {B : Option Addr} {ys : List Ed} (h : Reads W W.heap.size 3 B k (cellsE ys)) (hx : Blk W X t #[u, v]) :
    Reads ((W.setCell ⟨X, 0, none⟩ u').setCell ⟨X, 1, none⟩ v') ((W.setCell ⟨X, 0, none⟩ u').setCell ⟨X, 1, none⟩ v').heap.size 3 B k (cellsE ys) := by
  have h1 : Blk (W.setCell ⟨X, 0, none⟩ u') X t #[u', v] := by simpa using hx.set_ 0 u'
  rw [World.size_setCell, World.size_setCell]
  exact reads_put (reads_put h hx) h1
theorem MEnv.put (h : MEnv w L b p q A n xs W) (hz : MZer w L b X W) {g : GV} (hg : g.ok W) : MEnv w ((X, g) :: L) b p q A n xs ((W.setCell ⟨X, 0, none⟩ (.int .i64 g.z)).setCell ⟨X, 1, none⟩ (.slice g.A g.n g.c)) :=
  ⟨h.env.put hz.1 hg, (h.blk.far (p := ⟨X, 0, none⟩) hz.2 _).far (p := ⟨X, 1, none⟩) hz.2 _, h.p.put hz.1.1 _ _, h.q.put hz.1.1 _ _, row_put h.row hz.1.1⟩
theorem MZer.put {Y : Nat} (z : MZer w L b Y W) (hne : X ≠ Y) (u v : Value) (g : GV) : MZer w ((X, g) :: L) b Y ((W.setCell ⟨X, 0, none⟩ u).setCell ⟨X, 1, none⟩ v) := by
  refine ⟨⟨(z.1.1.far (p := ⟨X, 0, none⟩) (Ne.symm hne) _).far (p := ⟨X, 1, none⟩) (Ne.symm hne) _, z.1.2.1, fun r hr => ?_⟩, z.2⟩
  rcases List.mem_cons.1 hr with rfl | hr
  · exact hne
  · exact z.1.2.2 r hr
end
theorem g2_at0 (z u : Int) (A B : Option Addr) (n c m d : Nat) (W : World) : (Instr.index 25 (.agg #[.int .i64 z, .slice A n c, .int .i64 u, .slice B m d]) (.int .i64 0)).run Try.prog W = .ok (.agg #[.int .i64 z, .slice A n c]) W := by kernel_rfl
theorem g2_at1 (z u : Int) (A B : Option Addr) (n c m d : Nat) (W : World) : (Instr.index 25 (.agg #[.int .i64 z, .slice A n c, .int .i64 u, .slice B m d]) (.int .i64 1)).run Try.prog W = .ok (.agg #[.int .i64 u, .slice B m d]) W := by kernel_rfl
theorem all_snoc {α : Type} {l : List α} {k : Nat} {x : α} (q : α → Bool) (h : l[k]? = some x) : (l.take (k + 1)).all q = ((l.take k).all q && q x) := by
  rw [List.take_add_one, h, List.all_append]
  simp
/-- What 'Of' tells of nodes and edges. -/
theorem of_both (nodes : Int) (ys : List Ed) (m : Nat) (hm : m ≤ 80) : ∃ (gz : Int) (ges : List Ed) (k : Int),
    (∀ A c W, Reads W W.heap.size 3 A m (cellsE ys) → Calls Try.prog 14 #[.int .i64 nodes, .slice A m c] W (GErr gz ges k W)) ∧
    ((mayN nodes && ys.all (rightE nodes)) = true → gz = nodes ∧ ges = sorE ys ∧ k = 0) ∧ ((mayN nodes && ys.all (rightE nodes)) = false → gz = 0 ∧ ges = [] ∧ k = 2) := by
  cases h : mayN nodes && ys.all (rightE nodes)
  · exact ⟨0, [], 2, fun A c W hR => of_no nodes A m c ys h (by omega) W hR, fun e => by simp at e, fun _ => ⟨rfl, rfl, rfl⟩⟩
  · rw [Bool.and_eq_true, List.all_eq_true] at h
    exact ⟨nodes, sorE ys, 0, fun A c W hR => of_ok nodes A m c ys h.1 h.2 (by omega) W hR, fun _ => ⟨rfl, rfl, rfl⟩, fun e => by simp at e⟩
/-- An argument of two graphs. -/
theorem cells_graphs : Try.prog.cellsOf 25 = 4 := by kernel_rfl
theorem open_graphs2 {H : Type} {enc : TypeId × Value → H} {W : World} {base : Nat} {v : Value} {d : DataW H} {p : List MemPlace}
    (hv : Value.okWide Try.prog W .any base 25 v) (h : DataW.Trod enc Try.prog W 0 (fun _ => true) true 25 v d p) :
    ∃ g k : GV, v = .agg #[.int .i64 g.z, .slice g.A g.n g.c, .int .i64 k.z, .slice k.A k.n k.c] ∧ g.ok W ∧ k.ok W := by
  obtain ⟨_, _, _, _, _, _, _, hC, _, _⟩ := graphFields
  have ht := Try.underlying25
  obtain ⟨cs, rfl, hsz⟩ : ∃ cs, v = .agg cs ∧ cs.size = Try.prog.cellsOf 25 := by
    simp only [Value.okWide, ht] at hv
    obtain ⟨cs, h1, h2, _⟩ := hv
    exact ⟨cs, h1, h2⟩
  obtain ⟨l⟩ := cs
  match l, hsz.trans cells_graphs with
  | [c0, c1, c2, c3], _ =>
    obtain ⟨fuel, hf⟩ := h
    have hf2 : DataW.trod enc Try.prog W 0 (fun _ => true) true fuel 25 [c0, c1, c2, c3] = some (d, p) := by simpa [Value.cells] using hf
    obtain ⟨xs, m, _, _, _, hl, hx⟩ := DataW.trod_array ht hf2
    match xs, hl with
    | [x0, x1], _ =>
      have h0 := hx 0 (by omega)
      have h1 := hx 1 (by omega)
      rw [hC] at h0 h1
      obtain ⟨z, A, n, c, zs, e0, e1, _, _, r1, r2, r3, r4⟩ := open_graph_f (y := x0) (by simpa using h0)
      obtain ⟨z', A', n', c', zs', e2, e3, _, _, s1, s2, s3, s4⟩ := open_graph_f (y := x1) (by simpa using h1)
      subst e0; subst e1; subst e2; subst e3
      exact ⟨⟨z, A, n, c, zs⟩, ⟨z', A', n', c', zs'⟩, rfl, ⟨r1, r3, r4, r2⟩, ⟨s1, s3, s4, s2⟩⟩
end Go.Proofs.Yticbgikbpafeoaa
