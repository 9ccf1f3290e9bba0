/- Layer bits: what a round of BitsOnes holds: what was there when it began, and the words that are its own. -/
import Derived.Test.YtpkpfnilfabkaaaDoorBOa
namespace Go.Proofs.YtpkpfnilfabkaaaDoor
open Go.RowKit

structure Rise (w : World) (X : List (Nat × Value)) (L : List (Nat × SV)) (M : List SV) (Z : List LV) (w0 : World) (R : List (Option Addr × Nat)) (W : World) : Prop where
  hold : Hold w X L M Z W
  below : Below w0.heap.size w0 W
  rows : ∀ r ∈ R, U64Row w0.heap.size W r.1 r.2
theorem U64Row.boxed {base n g : Nat} {w : World} {A : Option Addr} {cs : Array Value} (h : U64Row base w A n) (hb : Blk w g 24 cs) (v : Value) : U64Row base (w.setCell ⟨g, 0, none⟩ v) A n := fun hn => by
  obtain ⟨g', cs', hA, hg, hk, hc⟩ := h hn
  exact ⟨g', cs', hA, hg, hk.far (p := ⟨g, 0, none⟩) (fun e => box_not_words hb hk e.symm) _, hc⟩
section
variable {w w0 W W' : World} {X : List (Nat × Value)} {L : List (Nat × SV)} {M : List SV} {Z : List LV} {R : List (Option Addr × Nat)}
theorem Rise.start (h : Hold w X L M Z w0) : Rise w X L M Z w0 [] w0 := ⟨h, Below.refl _ _, fun _ hr => by simp at hr⟩
theorem Rise.on (h : Rise w X L M Z w0 R W) (hb : Below W.heap.size W W') : Rise w X L M Z w0 R W' := ⟨h.hold.on hb, h.below.trans (hb.mono h.below.size), fun r hr => (h.rows r hr).on hb⟩
theorem Rise.drew (h : Rise w X L M Z w0 R W) : Rise w X L M Z w0 R W.drew := ⟨h.hold.drew, below_drew' h.below, fun r hr hn => by
  obtain ⟨g, cs, hA, hg, hk, hc⟩ := h.rows r hr hn
  exact ⟨g, cs, hA, hg, hk.drew, hc⟩⟩
theorem Rise.got (h : Rise w X L M Z w0 R W) (hb : Below W.heap.size W W') {s : SV} (hs : s.ok W' W'.heap.size) (ho : OW W.heap.size W' s.A s.n s.ws) : Rise w X L (s :: M) Z w0 ((s.A, s.n) :: R) W' :=
  ⟨h.hold.more hb hs, (h.on hb).below, fun r hr => by
    rcases List.mem_cons.1 hr with rfl | hr
    · exact (U64Row.of_ow ho).less h.below.size
    · exact (h.on hb).rows r hr⟩
theorem Rise.more (h : Rise w X L M Z w0 R W) (hb : Below W.heap.size W W') {s : SV} (hs : s.ok W' W'.heap.size) : Rise w X L (s :: M) Z w0 R W' := ⟨h.hold.more hb hs, (h.on hb).below, (h.on hb).rows⟩
theorem Rise.list (h : Rise w X L M Z w0 R W) (hb : Below W.heap.size W W') {A : Option Addr} {n : Nat} {l : List Int} (hz : RI W' W'.heap.size A n l) : Rise w X L M ((A, n, l) :: Z) w0 R W' := ⟨h.hold.list hb hz, (h.on hb).below, (h.on hb).rows⟩
theorem Rise.add (h : Rise w X L M Z w0 R W) {s : SV} (hs : s.ok W W.heap.size) : Rise w X ((W.heap.size, s) :: L) M Z w0 R (W.alloc (.cells #[.slice s.A s.n s.c] 24)) :=
  have h' := h.on (one_more W (.cells #[.slice s.A s.n s.c] 24))
  ⟨h.hold.add hs, h'.below, h'.rows⟩
theorem Rise.put {g : Nat} {s s0 : SV} (h : Rise w X ((g, s0) :: L) M Z w0 R W) (hL : ∀ p ∈ L, p.1 ≠ g) (hX : ∀ p ∈ X, p.1 ≠ g) (hg : w.heap.size ≤ g) (hg0 : w0.heap.size ≤ g) (htab : Tab (W.setCell ⟨g, 0, none⟩ (.slice s.A s.n s.c))) (hs : s.ok W W.heap.size) :
    Rise w X ((g, s) :: L) M Z w0 R (W.setCell ⟨g, 0, none⟩ (.slice s.A s.n s.c)) :=
  ⟨h.hold.put hL hX hg htab hs, h.below.setCell (p := ⟨g, 0, none⟩) (by show w0.heap.size ≤ g; exact hg0) _, fun r hr => (h.rows r hr).boxed (h.hold.env.all _ (.head _)).1 _⟩
theorem Rise.cell (h : Rise w X L M Z w0 R W) {b : Nat} {s : SV} (hm : (b, s) ∈ L) : W.cell? ⟨b, 0, none⟩ = some (.slice s.A s.n s.c) := h.hold.cell hm
theorem Rise.ok (h : Rise w X L M Z w0 R W) {b : Nat} {s : SV} (hm : (b, s) ∈ L) : s.ok W W.heap.size := h.hold.ok hm
theorem Rise.ints (h : Rise w X L M Z w0 R W) {A : Option Addr} {n : Nat} {l : List Int} (hm : (A, n, l) ∈ Z) : RI W W.heap.size A n l := h.hold.ints hm
end
end Go.Proofs.YtpkpfnilfabkaaaDoor
