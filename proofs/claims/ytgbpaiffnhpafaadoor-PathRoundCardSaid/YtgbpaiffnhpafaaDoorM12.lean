/- GraphParts: the walk. -/
import Derived.Test.YtgbpaiffnhpafaaDoorM10
import Derived.Test.YtgbpaiffnhpafaaDoorM11
-- holds: YtgbpaiffnhpafaaDoorHd
namespace Go.Proofs.YtgbpaiffnhpafaaDoor
open Go.RowKit

/-- The graphs in a law's variables, and a number in another one. -/
def EnvK (w : World) (L : List (Nat × GV)) (b : Nat) (kd : Int) (W : World) : Prop := Env w L W ∧ Blk W b 3 #[.int .i64 kd]
theorem EnvK.on {w W W' : World} {L : List (Nat × GV)} {b : Nat} {kd : Int} (h : EnvK w L b kd W) (hb : Below W.heap.size W W') : EnvK w L b kd W' := ⟨h.1.on hb, h.2.below hb h.2.lt⟩
theorem EnvK.add {w W : World} {L : List (Nat × GV)} {b : Nat} {kd : Int} (h : EnvK w L b kd W) {g : GV} (hg : g.ok W) : EnvK w ((W.heap.size, g) :: L) b kd (W.alloc (.cells #[.int .i64 g.z, .slice g.A g.n g.c] 24)) := ⟨h.1.add hg, h.2.alloc _⟩
theorem reads_put {W : World} {B X k n : Nat} {t : TypeId} {a b u : Value} {A : Option Addr} {es : List Ed} (h : Reads W B 3 A n (cellsE es)) (hx : Blk W X t #[a, b]) : Reads (W.setCell ⟨X, k, none⟩ u) B 3 A n (cellsE es) := by
  refine ⟨h.1, fun hn => ?_⟩
  obtain ⟨ad, rfl, hb, hc⟩ := h.2 hn
  refine ⟨ad, rfl, hb, fun j v hv => ?_⟩
  have hl := h.1
  have h0 := hc 0 _ (List.getElem?_eq_getElem (show 0 < (cellsE es).length by omega))
  have h2 := hc 2 _ (List.getElem?_eq_getElem (show 2 < (cellsE es).length by omega))
  have h3 := hc j v hv
  obtain ⟨bl, o, spot⟩ := ad
  have hspot : spot = none := by simpa [Addr.add] using World.cell?_spot h0
  subst hspot
  rw [Go.WideShapes.add_plain] at h2 h3 ⊢
  by_cases e : bl = X
  · exfalso
    subst e
    rw [hx.cell] at h2
    have : (#[a, b] : Array Value)[o + 2]? = none := Array.getElem?_eq_none (by simp)
    rw [this] at h2
    cases h2
  · rw [World.cell?_setCell_far _ _ _ _ (fun e2 => e e2.symm)]
    exact h3
theorem GV.ok.put {g : GV} {W : World} {X : Nat} {t : TypeId} {a b : Value} (h : g.ok W) (hx : Blk W X t #[a, b]) (u v : Value) : g.ok ((W.setCell ⟨X, 0, none⟩ u).setCell ⟨X, 1, none⟩ v) := by
  have h1 : Blk (W.setCell ⟨X, 0, none⟩ u) X t #[u, b] := by simpa using hx.set_ 0 u
  refine ⟨?_, h.2⟩
  rw [World.size_setCell, World.size_setCell]
  exact reads_put (reads_put h.1 hx) h1
/-- A variable laid with the zero value, and what is stored into it. -/
def Zer (w : World) (L : List (Nat × GV)) (X : Nat) (W : World) : Prop := Blk W X 24 #[.int .i64 0, .slice none 0 0] ∧ w.heap.size ≤ X ∧ ∀ p ∈ L, p.1 ≠ X
theorem Zer.on {w W W' : World} {L : List (Nat × GV)} {X : Nat} (h : Zer w L X W) (hb : Below W.heap.size W W') : Zer w L X W' := ⟨h.1.below hb h.1.lt, h.2⟩
theorem Zer.new {w W : World} {L : List (Nat × GV)} (h : Env w L W) : Zer w L W.heap.size (W.alloc (.cells #[.int .i64 0, .slice none 0 0] 24)) :=
  ⟨Blk.new _ _ _, h.below.size, fun p hp => Nat.ne_of_lt (h.all p hp).1.lt⟩
theorem Env.put {w W : World} {L : List (Nat × GV)} {g : GV} {X : Nat} (h : Env w L W) (hz : Zer w L X W) (hg : g.ok W) : Env w ((X, g) :: L) ((W.setCell ⟨X, 0, none⟩ (.int .i64 g.z)).setCell ⟨X, 1, none⟩ (.slice g.A g.n g.c)) := by
  refine ⟨below_store2 h.below hz.2.1 _ _, fun p hp => ?_⟩
  rcases List.mem_cons.1 hp with rfl | hp
  · exact ⟨store2 hz.1 _ _, hg.put hz.1 _ _⟩
  · have hne := hz.2.2 p hp
    exact ⟨((h.all p hp).1.far (p := ⟨X, 0, none⟩) hne _).far (p := ⟨X, 1, none⟩) hne _, (h.all p hp).2.put hz.1 _ _⟩
theorem ERows.on {W W' : World} {n : Nat} {A : Option Addr} {rs : List ERow} (h : ERows W W.heap.size A n rs) (hb : Below W.heap.size W W') : ERows W' W'.heap.size A n rs :=
  ⟨(Reads.below h.1 hb).more hb.size, fun r hr => ((h.2 r hr).below hb).more hb.size⟩
theorem Reads.on {W W' : World} {n k : Nat} {A : Option Addr} {xs : List Value} (h : Reads W W.heap.size k A n xs) (hb : Below W.heap.size W W') : Reads W' W'.heap.size k A n xs := (h.below hb).more hb.size
theorem erows2 {W : World} (g h : GV) (t : TypeId) (hg : Reads W W.heap.size 3 g.A g.n (cellsE g.es)) (hh : Reads W W.heap.size 3 h.A h.n (cellsE h.es)) :
    ERows (W.alloc (.cells #[.slice g.A g.n g.c, .slice h.A h.n h.c] t)) (W.alloc (.cells #[.slice g.A g.n g.c, .slice h.A h.n h.c] t)).heap.size (some ⟨W.heap.size, 0, none⟩) 2 [⟨g.A, g.n, g.c, g.es⟩, ⟨h.A, h.n, h.c, h.es⟩] := by
  have hb : Below W.heap.size W (W.alloc (.cells #[.slice g.A g.n g.c, .slice h.A h.n h.c] t)) := (Below.refl _ _).alloc (Nat.le_refl _) _
  refine ⟨⟨rfl, fun _ => ⟨_, rfl, by simp, fun j u hu => ?_⟩⟩, fun r hr => ?_⟩
  · rw [Go.WideShapes.add_plain, Nat.zero_add, (Blk.new W t _).cell, ← hu, ← List.getElem?_toArray]
    rfl
  · simp only [List.mem_cons, List.not_mem_nil, or_false] at hr
    rcases hr with rfl | rfl
    · exact (hg.below hb).more hb.size
    · exact (hh.below hb).more hb.size
theorem parts_whole {zs : List Ed} {nodes : Int} (h : IsG nodes zs) (kd : Int) : sorE (catL [⟨none, 0, 0, zs.filter fun p => decide (p.2.2 ≥ kd)⟩, ⟨none, 0, 0, zs.filter fun p => decide (p.2.2 < kd)⟩]) = zs := by
  have hm : ∀ x, x ∈ zs ↔ x ∈ (zs.filter fun p => decide (p.2.2 ≥ kd)) ++ (zs.filter fun p => decide (p.2.2 < kd)) := by
    intro x
    rw [List.mem_append, List.mem_filter, List.mem_filter, decide_eq_true_eq, decide_eq_true_eq]
    refine ⟨fun hx => ?_, fun hx => hx.elim (·.1) (·.1)⟩
    rcases Int.lt_or_le x.2.2 kd with h | h
    · exact .inr ⟨hx, h⟩
    · exact .inl ⟨hx, h⟩
  have e : catL [⟨none, 0, 0, zs.filter fun p => decide (p.2.2 ≥ kd)⟩, ⟨none, 0, 0, zs.filter fun p => decide (p.2.2 < kd)⟩] = (zs.filter fun p => decide (p.2.2 ≥ kd)) ++ (zs.filter fun p => decide (p.2.2 < kd)) := by simp [catL]
  rw [e]
  exact sorE_is (fun p hp => h.ok p ((hm p).2 hp)) h.up hm
theorem parts_len (zs : List Ed) (kd : Int) : (zs.filter fun p => decide (p.2.2 < kd)).length + (zs.filter fun p => decide (p.2.2 ≥ kd)).length = zs.length := by
  induction zs with
  | nil => rfl
  | cons x zs ih =>
    by_cases h : x.2.2 < kd
    · have h2 : ¬ x.2.2 ≥ kd := by omega
      rw [List.filter_cons_of_pos (by simpa using h), List.filter_cons_of_neg (by simpa using h2)]
      simp only [List.length_cons]; omega
    · have h2 : x.2.2 ≥ kd := by omega
      rw [List.filter_cons_of_neg (by simpa using h), List.filter_cons_of_pos (by simpa using h2)]
      simp only [List.length_cons]; omega
end Go.Proofs.YtgbpaiffnhpafaaDoor
