/- Layer bits: boxes laid by a statement that sets several variables at once, at any place of its order. -/
import Derived.Test.YtpkpfnilfabkaaaDoorBs
import Derived.Deep.RegionHeld3
namespace Go.Proofs.YtpkpfnilfabkaaaDoor
open Go.RowKit

/-- A box that the statement has laid, still empty. -/
def NewBox (w0 W : World) (g : Nat) : Prop := w0.heap.size ≤ g ∧ Blk W g 24 #[.slice none 0 0]
/-- A box that the statement has filled. -/
def HasBox (w0 W : World) (g : Nat) (s : SV) : Prop := w0.heap.size ≤ g ∧ Blk W g 24 #[.slice s.A s.n s.c]
def InBox (w0 W : World) (g : Nat) (s : SV) : Prop := HasBox w0 W g s ∧ s.ok W W.heap.size
theorem NewBox.new {w0 W : World} (b : Below w0.heap.size w0 W) : NewBox w0 (W.alloc (.cells #[.slice none 0 0] 24)) W.heap.size := ⟨b.size, Blk.new _ _ _⟩
theorem NewBox.on {w0 W W' : World} {g : Nat} (h : NewBox w0 W g) (b : Below W.heap.size W W') : NewBox w0 W' g := ⟨h.1, h.2.below b h.2.lt⟩
theorem NewBox.ne_new {w0 W : World} {g : Nat} (h : NewBox w0 W g) : g ≠ W.heap.size := fun e => by have := h.2.lt; omega
theorem NewBox.ne_new' {w0 W : World} {g : Nat} (h : NewBox w0 W g) : W.heap.size ≠ g := fun e => h.ne_new e.symm
theorem NewBox.other {w0 W : World} {g' g : Nat} {u : Value} (h : NewBox w0 W g') (hne : g' ≠ g) : NewBox w0 (W.setCell ⟨g, 0, none⟩ u) g' := ⟨h.1, h.2.far (p := ⟨g, 0, none⟩) hne u⟩
theorem NewBox.put {w0 W : World} {g : Nat} {s : SV} (h : NewBox w0 W g) : HasBox w0 (W.setCell ⟨g, 0, none⟩ (.slice s.A s.n s.c)) g s := ⟨h.1, h.2.set_ 0 _⟩
theorem HasBox.other {w0 W : World} {g' g : Nat} {u : Value} {s : SV} (h : HasBox w0 W g' s) (hne : g' ≠ g) : HasBox w0 (W.setCell ⟨g, 0, none⟩ u) g' s := ⟨h.1, h.2.far (p := ⟨g, 0, none⟩) hne u⟩
/-- A store into a box leaves the words of sets as they are. -/
theorem SV.ok.boxed {W : World} {s : SV} {g : Nat} {A0 : Option Addr} {n0 c0 : Nat} {v : Value} (h : s.ok W W.heap.size) (hb : Blk W g 24 #[.slice A0 n0 c0]) : s.ok (W.setCell ⟨g, 0, none⟩ v) (W.setCell ⟨g, 0, none⟩ v).heap.size := by
  have hsz : (W.setCell ⟨g, 0, none⟩ v).heap.size = W.heap.size := by simp [World.setCell]
  rw [hsz]
  refine ⟨⟨h.1.1, fun hn => ?_⟩, h.2.1, h.2.2⟩
  obtain ⟨ad, hA, hlt, hc⟩ := h.1.2 hn
  refine ⟨ad, hA, hlt, fun j u hu => ?_⟩
  have hold := hc j u hu
  rw [World.cell?_setCell_other _ _ _ _ (fun e => ?_)]
  · exact hold
  · rw [← e, hb.cell 0] at hold
    have hu2 : u = .slice A0 n0 c0 := by simpa using hold.symm
    unfold wcells at hu
    rw [List.getElem?_map] at hu
    cases hx : s.ws[j]? with
    | none => rw [hx] at hu; cases hu
    | some x => rw [hx] at hu; simp at hu; rw [← hu] at hu2; cases hu2
theorem Env.boxes {w W0 W : World} {L : List (Nat × SV)} (h : Env w L W0) (hb : Below W0.heap.size W0 W) (G : List (Nat × SV)) (hG : ∀ p ∈ G, InBox W0 W p.1 p.2) : Env w (G ++ L) W := by
  have h1 := h.on hb
  refine ⟨h1.below, h1.tab, fun p hp => ?_⟩
  rcases List.mem_append.1 hp with hp | hp
  · exact ⟨(hG p hp).1.2, (hG p hp).2⟩
  · exact h1.all p hp
end Go.Proofs.YtpkpfnilfabkaaaDoor
