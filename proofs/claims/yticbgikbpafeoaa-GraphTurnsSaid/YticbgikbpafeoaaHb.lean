/- The laws of layer graph: graphs as they stand in memory; what a law holds between its calls. -/
import Derived.Test.YticbgikbpafeoaaGy
import Derived.Test.YticbgikbpafeoaaGt
import Derived.Test.YticbgikbpafeoaaGo
namespace Go.Proofs.Yticbgikbpafeoaa
open Go.RowKit

/-- A graph as it stands in memory. -/
structure GV where
  z : Int
  A : Option Addr
  n : Nat
  c : Nat
  es : List Ed
def GV.ok (g : GV) (w : World) : Prop := Reads w w.heap.size 3 g.A g.n (cellsE g.es) ∧ g.n ≤ g.c ∧ g.c ≤ 9223372036854775807 ∧ (g.A = none → g.c = 0)
theorem GV.ok.on {g : GV} {w w' : World} (h : g.ok w) (hb : Below w.heap.size w w') : g.ok w' := ⟨(h.1.below hb).more hb.size, h.2⟩
theorem GV.ok.len {g : GV} {w : World} (h : g.ok w) : g.es.length = g.n := reads_len h.1
theorem gerr_gv {nodes k : Int} {ps : List Ed} {w w' : World} {e : Ending} (h : GErr nodes ps k w e w') :
    ∃ g : GV, e = .returned (.tuple #[.agg #[.int .i64 g.z, .slice g.A g.n g.c], .int .i64 k]) ∧ g.z = nodes ∧ g.es = ps ∧ g.ok w' ∧ Below w.heap.size w w' := by
  obtain ⟨A, c, he, ho, h1, h2, hb⟩ := h
  exact ⟨⟨nodes, A, ps.length, c, ps⟩, he, rfl, rfl, ⟨reads_own ho, h1, h2, own_nil ho⟩, hb⟩
theorem gis_gv {nodes : Int} {ps : List Ed} {w w' : World} {e : Ending} (h : GIs nodes ps w e w') :
    ∃ g : GV, e = .returned (.agg #[.int .i64 g.z, .slice g.A g.n g.c]) ∧ g.z = nodes ∧ g.es = ps ∧ g.ok w' ∧ Below w.heap.size w w' := by
  obtain ⟨A, c, he, ho, h1, h2, hb⟩ := h
  exact ⟨⟨nodes, A, ps.length, c, ps⟩, he, rfl, rfl, ⟨reads_own ho, h1, h2, own_nil ho⟩, hb⟩

/-- What a law holds between its calls: the graphs in its variables. -/
structure Env (w : World) (L : List (Nat × GV)) (W : World) : Prop where
  below : Below w.heap.size w W
  all : ∀ p ∈ L, Blk W p.1 24 #[.int .i64 p.2.z, .slice p.2.A p.2.n p.2.c] ∧ p.2.ok W
section
variable {w W W' : World} {L : List (Nat × GV)}
theorem Env.on (h : Env w L W) (hb : Below W.heap.size W W') : Env w L W' :=
  ⟨h.below.trans (hb.mono h.below.size), fun p hp => ⟨(h.all p hp).1.below hb (h.all p hp).1.lt, (h.all p hp).2.on hb⟩⟩
theorem Env.drew (h : Env w L W) : Env w L W.drew := h.on ((Below.refl _ _).drew)
theorem Env.drewN (h : Env w L W) (n : Nat) : Env w L (W.drewN n) := h.on (below_drewN (Below.refl _ _) n)
theorem Env.alloc (h : Env w L W) (o : Obj) : Env w L (W.alloc o) := h.on ((Below.refl _ _).alloc (Nat.le_refl _) o)
theorem Env.start (w : World) : Env w [] w := ⟨Below.refl _ _, fun p hp => by simp at hp⟩
theorem Env.add (h : Env w L W) {g : GV} (hg : g.ok W) : Env w ((W.heap.size, g) :: L) (W.alloc (.cells #[.int .i64 g.z, .slice g.A g.n g.c] 24)) := by
  have hb : Below W.heap.size W (W.alloc (.cells #[.int .i64 g.z, .slice g.A g.n g.c] 24)) := (Below.refl _ _).alloc (Nat.le_refl _) _
  have h2 := h.on hb
  refine ⟨h2.below, fun p hp => ?_⟩
  rcases List.mem_cons.1 hp with rfl | hp
  · exact ⟨Blk.new _ _ _, hg.on hb⟩
  · exact h2.all p hp
theorem Env.c0 (h : Env w L W) {b : Nat} {g : GV} (hm : (b, g) ∈ L) : W.cell? ⟨b, 0, none⟩ = some (.int .i64 g.z) := (h.all _ hm).1.cell 0
theorem Env.c1 (h : Env w L W) {b : Nat} {g : GV} (hm : (b, g) ∈ L) : W.cell? ⟨b, 1, none⟩ = some (.slice g.A g.n g.c) := (h.all _ hm).1.cell 1
theorem Env.ok (h : Env w L W) {b : Nat} {g : GV} (hm : (b, g) ∈ L) : g.ok W := (h.all _ hm).2
theorem Env.lt (h : Env w L W) {b : Nat} {g : GV} (hm : (b, g) ∈ L) : b < W.heap.size := (h.all _ hm).1.lt
end
theorem take_len (zs : List Ed) : (zs.take 80).length ≤ 80 := by rw [List.length_take]; omega
end Go.Proofs.Yticbgikbpafeoaa
