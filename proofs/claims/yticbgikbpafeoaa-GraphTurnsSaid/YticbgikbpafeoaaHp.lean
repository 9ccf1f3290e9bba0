/- GraphTurns: what the law holds between its calls; the graph that it makes itself. -/
import Derived.Test.YticbgikbpafeoaaHo
namespace Go.Proofs.Yticbgikbpafeoaa
open Go.RowKit

/-- A row of edges in a variable, as it is read. -/
def Ask (Ba : Nat) (A : Option Addr) (n c : Nat) (zs : List Ed) (W : World) : Prop := Blk W Ba 22 #[.slice A n c] ∧ Reads W W.heap.size 3 A n (cellsE zs)
theorem Ask.on {W W' : World} {Ba n c : Nat} {A : Option Addr} {zs : List Ed} (h : Ask Ba A n c zs W) (hb : Below W.heap.size W W') : Ask Ba A n c zs W' := ⟨h.1.below hb h.1.lt, h.2.on hb⟩
theorem GV.ok.chg {g : GV} {W W' : World} {Ba : Nat} {t : TypeId} {v : Value} (h : g.ok W) (hA : Blk W Ba t #[v]) (hc : Chg Ba W W') : g.ok W' := ⟨reads_chg h.1 hA hc hc.size, h.2⟩
theorem EnvK.chg {w W W' : World} {L : List (Nat × GV)} {b Ba : Nat} {kd : Int} {v : Value} (h : EnvK w L b kd W) (hA : Blk W Ba 22 #[v]) (hB : w.heap.size ≤ Ba) (hc : Chg Ba W W') : EnvK w L b kd W' := by
  refine ⟨⟨h.1.below.trans ((hc.below (Nat.le_of_lt hA.lt)).mono hB), fun p hp => ⟨hc.blk (h.1.all p hp).1 (Blk.ne_ (h.1.all p hp).1 hA (by decide)), (h.1.all p hp).2.chg hA hc⟩⟩, hc.blk h.2 (Blk.ne_ h.2 hA (by decide))⟩
theorem EnvK.drew {w W : World} {L : List (Nat × GV)} {b : Nat} {kd : Int} (h : EnvK w L b kd W) : EnvK w L b kd W.drew := h.on (Below.refl _ _).drew
theorem EnvK.alloc {w W : World} {L : List (Nat × GV)} {b : Nat} {kd : Int} (h : EnvK w L b kd W) (o : Obj) : EnvK w L b kd (W.alloc o) := h.on ((Below.refl _ _).alloc (Nat.le_refl _) o)
theorem filter_turns_gv (g : GV) (Ba Bk : Nat) (kd : Int) (hg : IsG g.z g.es) (hn : g.n ≤ 1000) (w : World) (hk : g.ok w) (hA : Blk w Ba 22 #[.slice none 0 0]) (hK : Blk w Bk 3 #[.int .i64 kd]) :
    Calls Try.prog 30 #[.agg #[.int .i64 g.z, .slice g.A g.n g.c], .func (.func 31) #[] #[.pointer (some ⟨Ba, 0, none⟩), .pointer (some ⟨Bk, 0, none⟩)]] w fun e w' =>
      ∃ (k : GV) (Aa : Option Addr) (ca : Nat), e = .returned (.tuple #[.agg #[.int .i64 k.z, .slice k.A k.n k.c], .int .i64 0]) ∧ k.z = g.z ∧ k.es = (g.es.filter fun p => decide (p.2.2 ≤ kd)) ∧ k.ok w' ∧ Ask Ba Aa g.n ca g.es w' ∧ Chg Ba w w' := by
  refine (filter_turns g.z g.A g.n g.c Ba Bk kd g.es hg hn w hk.1 hA hK).mono ?_
  rintro e w' ⟨A', c', Aa, ca, he, ho, h1, h2, h3, h4⟩
  refine ⟨⟨g.z, A', _, c', _⟩, Aa, ca, he, rfl, rfl, ⟨reads_own ho, h1, h2, own_nil ho⟩, ?_, h4⟩
  rw [hk.len] at h3
  exact ⟨h3.1, reads_own h3.2⟩
/-- The graph that the law makes itself, an edge at a time. -/
structure Want (wb : World) (X : Nat) (k : GV) (W : World) : Prop where
  below : Below wb.heap.size wb W
  lo : wb.heap.size ≤ X
  blk : Blk W X 24 #[.int .i64 k.z, .slice k.A k.n k.c]
  own : W.ownsRow wb.heap.size 35 3 (.slice k.A k.n k.c) k.n (cellsE k.es)
  cap : k.n ≤ k.c ∧ k.c ≤ 9223372036854775807
theorem Want.alloc {wb W : World} {X : Nat} {k : GV} (h : Want wb X k W) (o : Obj) : Want wb X k (W.alloc o) := ⟨h.below.alloc h.below.size o, h.lo, h.blk.alloc o, h.own.alloc o, h.cap⟩
theorem Want.start (wb : World) (z : Int) : Want wb wb.heap.size ⟨z, none, 0, 0, []⟩ (wb.alloc (.cells #[.int .i64 z, .slice none 0 0] 24)) :=
  ⟨(Below.refl _ _).alloc (Nat.le_refl _) _, Nat.le_refl _, Blk.new _ _ _, World.ownsRow_nil _ _ _ _, Nat.le_refl _, Nat.zero_le _⟩
theorem Want.len {wb W : World} {X : Nat} {k : GV} (h : Want wb X k W) : k.es.length = k.n := reads_len (reads_own h.own)
theorem Want.env {wb w W : World} {X b : Nat} {k : GV} {L : List (Nat × GV)} {kd : Int} (h : Want wb X k W) (he : EnvK w L b kd wb) : EnvK w ((X, k) :: L) b kd W := by
  have h2 := he.on h.below
  refine ⟨⟨h2.1.below, fun p hp => ?_⟩, h2.2⟩
  rcases List.mem_cons.1 hp with rfl | hp
  · exact ⟨h.blk, reads_own h.own, h.cap.1, h.cap.2, own_nil h.own⟩
  · exact h2.1.all p hp
theorem Want.more {wb W w5 : World} {X : Nat} {k : GV} {o : Obj} {A5 : Option Addr} {c5 : Nat} {p : Ed} (h : Want wb X k W) (hgrow : (W.alloc o).grownBy w5 (Value.slice k.A k.n k.c).ownBlock) (hown : w5.ownsRow wb.heap.size 35 3 (.slice A5 (k.n + 1) c5) (k.n + 1) (cellsE (k.es ++ [p]))) (h1 : k.n + 1 ≤ c5) (h2 : c5 ≤ 9223372036854775807) :
    Blk w5 X 24 #[.int .i64 k.z, .slice k.A k.n k.c] ∧ Want wb X ⟨k.z, A5, k.n + 1, c5, k.es ++ [p]⟩ (w5.setCell ⟨X, 1, none⟩ (.slice A5 (k.n + 1) c5)) := by
  have hb : Blk w5 X 24 #[.int .i64 k.z, .slice k.A k.n k.c] := (h.blk.alloc o).grown hgrow fun e => own_blk_ne h.own h.blk (by decide) e.symm
  exact ⟨hb, ((h.below.alloc h.below.size o).grown hgrow (Nat.le_trans h.below.size (by simp)) fun k hk => (h.own.lt k hk).1).setCell h.lo _, h.lo, by simpa using hb.set_ 1 (.slice A5 (k.n + 1) c5), own_store hown hb (by decide) _, h1, h2⟩
end Go.Proofs.Yticbgikbpafeoaa
