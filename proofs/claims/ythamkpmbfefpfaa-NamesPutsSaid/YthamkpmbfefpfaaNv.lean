/- Tables side by side: three (two) copies, each in a variable of its own. -/
import Derived.Test.YthamkpmbfefpfaaNp
import Derived.Deep.RegionHeld3
namespace Go.Proofs.Ythamkpmbfefpfaa
open Go.RowKit Go.Shelf

theorem one_more (w : World) (o : Obj) : Below w.heap.size w (w.alloc o) := (Below.refl _ _).alloc (Nat.le_refl _) _
def RS.ok (s : RS) (W : World) (B : Nat) : Prop := Reads W B 1 s.A s.n (strs s.l) ∧ s.n ≤ s.c ∧ s.c ≤ 9223372036854775807
theorem RS.ok.on {s : RS} {W W' : World} (h : s.ok W W.heap.size) (b : Below W.heap.size W W') : s.ok W' W'.heap.size := ⟨h.1.on_ b, h.2⟩
theorem reads_boxed {W : World} {A : Option Addr} {n g : Nat} {l : List ByteArray} {A0 : Option Addr} {n0 c0 : Nat} {v : Value} (h : Reads W W.heap.size 1 A n (strs l)) (hb : Blk W g 24 #[.slice A0 n0 c0]) : Reads (W.setCell ⟨g, 0, none⟩ v) (W.setCell ⟨g, 0, none⟩ v).heap.size 1 A n (strs l) := by
  have hsz : (W.setCell ⟨g, 0, none⟩ v).heap.size = W.heap.size := by simp [World.setCell]
  rw [hsz]
  refine ⟨h.1, fun hn => ?_⟩
  obtain ⟨ad, hA, hlt, hc⟩ := h.2 hn
  refine ⟨ad, hA, hlt, fun j u hu => ?_⟩
  have hold := hc j u hu
  rw [World.cell?_setCell_other _ _ _ _ (fun e => ?_)]
  · exact hold
  · rw [← e, hb.cell 0] at hold
    have hu2 : u = .slice A0 n0 c0 := by simpa using hold.symm
    unfold strs at hu
    rw [List.getElem?_map] at hu
    cases hx : l[j]? with
    | none => rw [hx] at hu; cases hu
    | some x => rw [hx] at hu; simp at hu; rw [← hu] at hu2; cases hu2
theorem RS.ok.boxed {W : World} {s : RS} {g : Nat} {A0 : Option Addr} {n0 c0 : Nat} {v : Value} (h : s.ok W W.heap.size) (hb : Blk W g 24 #[.slice A0 n0 c0]) : s.ok (W.setCell ⟨g, 0, none⟩ v) (W.setCell ⟨g, 0, none⟩ v).heap.size := ⟨reads_boxed h.1 hb, h.2⟩
/-- A box of a table that was laid behind w0, empty; with a table; and the table can be read. -/
def NewBox (w0 W : World) (g : Nat) : Prop := w0.heap.size ≤ g ∧ Blk W g 24 #[.slice none 0 0]
def HasBox (w0 W : World) (g : Nat) (s : RS) : Prop := w0.heap.size ≤ g ∧ Blk W g 24 #[.slice s.A s.n s.c]
def InBox (w0 W : World) (g : Nat) (s : RS) : Prop := HasBox w0 W g s ∧ s.ok W W.heap.size
theorem NewBox.new {w0 W : World} (b : Below w0.heap.size w0 W) : NewBox w0 (W.alloc (.cells #[.slice none 0 0] 24)) W.heap.size := ⟨b.size, Blk.new _ _ _⟩
theorem NewBox.on {w0 W W' : World} {g : Nat} (h : NewBox w0 W g) (b : Below W.heap.size W W') : NewBox w0 W' g := ⟨h.1, h.2.below b h.2.lt⟩
theorem NewBox.ne_new {w0 W : World} {g : Nat} (h : NewBox w0 W g) : g ≠ W.heap.size := fun e => by have := h.2.lt; omega
theorem NewBox.ne_new' {w0 W : World} {g : Nat} (h : NewBox w0 W g) : W.heap.size ≠ g := fun e => h.ne_new e.symm
theorem NewBox.other {w0 W : World} {g' g : Nat} {u : Value} (h : NewBox w0 W g') (hne : g' ≠ g) : NewBox w0 (W.setCell ⟨g, 0, none⟩ u) g' := ⟨h.1, h.2.far (p := ⟨g, 0, none⟩) hne u⟩
theorem NewBox.put {w0 W : World} {g : Nat} {s : RS} (h : NewBox w0 W g) : HasBox w0 (W.setCell ⟨g, 0, none⟩ (.slice s.A s.n s.c)) g s := ⟨h.1, h.2.set_ 0 _⟩
theorem HasBox.other {w0 W : World} {g' g : Nat} {u : Value} {s : RS} (h : HasBox w0 W g' s) (hne : g' ≠ g) : HasBox w0 (W.setCell ⟨g, 0, none⟩ u) g' s := ⟨h.1, h.2.far (p := ⟨g, 0, none⟩) hne u⟩
theorem EN.boxes {w0 W0 W : World} {T : List (Nat × RS)} {S : List RS} {I : List RI} (h : EN w0 T S I W0) (hb : Below W0.heap.size W0 W) (G : List (Nat × RS)) (hG : ∀ p ∈ G, InBox W0 W p.1 p.2) : EN w0 (G ++ T) S I W := by
  have h1 := h.on hb
  refine ⟨h1.below, fun p hp => ?_, h1.rows, h1.nums⟩
  rcases List.mem_append.1 hp with hp | hp
  · exact ⟨(hG p hp).1.2, (hG p hp).2.1⟩
  · exact h1.tabs p hp
theorem EN.cr {w0 W : World} {T : List (Nat × RS)} {S : List RS} {I : List RI} {g : Nat} {r : RS} (h : EN w0 T S I W) (hm : (g, r) ∈ T) : W.cell? ⟨g, 0, none⟩ = some (.slice r.A r.n r.c) := (h.tabs _ hm).1.cell 0
theorem EN.tr {w0 W : World} {T : List (Nat × RS)} {S : List RS} {I : List RI} {g : Nat} {r : RS} (h : EN w0 T S I W) (hm : (g, r) ∈ T) : Reads W W.heap.size 1 r.A r.n (strs r.l) := (h.tabs _ hm).2
theorem own_ok {W : World} {B n c : Nat} {A : Option Addr} {t : TypeId} {xs : List Value} (h : W.ownsRow B t 1 (.slice A n c) n xs) : n ≤ c ∧ c ≤ 9223372036854775807 := by
  obtain ⟨A', c', e, h1, h2⟩ := own_form2 h; injection e with _ _ e; omega
theorem EN.put {w0 W : World} {T : List (Nat × RS)} {S : List RS} {g : Nat} {r r' : RS} (h : EN w0 ((g, r) :: T) S [] W) (hT : ∀ p ∈ T, p.1 ≠ g) (hg : w0.heap.size ≤ g) (hR : Reads W W.heap.size 1 r'.A r'.n (strs r'.l)) : EN w0 ((g, r') :: T) S [] (W.setCell ⟨g, 0, none⟩ (.slice r'.A r'.n r'.c)) := by
  have hb := (h.tabs _ (.head _)).1
  refine ⟨h.below.setCell (p := ⟨g, 0, none⟩) hg _, fun p hm => ?_, fun r hr => reads_boxed (h.rows r hr) hb, fun _ hm => by simp at hm⟩
  rcases List.mem_cons.1 hm with rfl | hm
  · exact ⟨hb.set_ 0 _, reads_boxed hR hb⟩
  · exact ⟨(h.tabs p (.tail _ hm)).1.far (p := ⟨g, 0, none⟩) (hT p hm) _, reads_boxed (h.tabs p (.tail _ hm)).2 hb⟩
/-- A row that can be written. -/
def Holes (X : World) (A : Option Addr) (n : Nat) : Prop := ∀ j, j < n → ∃ g, A = some ⟨g, 0, none⟩ ∧ X.frozen? ⟨g, j, none⟩ = false ∧ ∃ u, X.cell? ⟨g, j, none⟩ = some u
theorem Holes.of_own {X : World} {A : Option Addr} {n c N : Nat} {t : TypeId} {xs : List Value} (h : X.ownsRow N t 1 (.slice A n c) n xs) : Holes X A n := fun j hj => by
  obtain ⟨g, e, _, _, hf, u, _, hu⟩ := own_at h hj
  exact ⟨g, e, hf, u, hu⟩
theorem Holes.set {X : World} {g n : Nat} (h : Holes X (some ⟨g, 0, none⟩) n) (i : Nat) (v : Value) : Holes (X.setCell ⟨g, i, none⟩ v) (some ⟨g, 0, none⟩) n := fun j hj => by
  obtain ⟨g', e, hf, u, hu⟩ := h j hj
  cases e
  refine ⟨g, rfl, by rw [World.frozen?_setCell]; exact hf, ?_⟩
  by_cases hij : i = j
  · subst hij
    exact ⟨v, World.cell?_setCell_same _ _ _ hu⟩
  · exact ⟨u, by rw [World.cell?_setCell_other]; exact hu; intro e; cases e; exact hij rfl⟩
/-- A copy of a table, as it stands in memory. -/
def OwnR (x : List ByteArray) (w : World) (e : Ending) (w' : World) : Prop := ∃ s : RS, e = .returned (.agg #[.slice s.A s.n s.c]) ∧ s.l = x ∧ s.ok w' w'.heap.size ∧ True ∧ Below w.heap.size w w'
theorem own_r (A : Option Addr) (n c : Nat) (ns : List ByteArray) (hnc : n ≤ c) (hcm : c ≤ 9223372036854775807) (w : World) (hR : Reads w w.heap.size 1 A n (strs ns)) :
    Calls Try.prog 9 #[.agg #[.slice A n c]] w (OwnR (ns.take 301) w) := by
  refine (own_any A n c ns hnc hcm w hR).mono ?_
  rintro e w' ⟨A', n', c', rfl, ho, hb⟩
  exact ⟨⟨A', n', c', ns.take 301⟩, rfl, rfl, ⟨Reads.of_own ho, by exact own_ok ho⟩, trivial, hb⟩
theorem size_more (w : World) (o : Obj) : (w.alloc o).heap.size = w.heap.size + 1 := by show (w.heap.push o).size = _; simp
theorem EN.three (w : World) (A B C : Option Addr) (n c m d k f : Nat) (xs ys zs : List ByteArray) (hA : Reads w w.heap.size 1 A n (strs xs)) (hB : Reads w w.heap.size 1 B m (strs ys)) (hC : Reads w w.heap.size 1 C k (strs zs)) :
    EN w [(w.heap.size + 1 + 1, ⟨C, k, f, zs⟩), (w.heap.size + 1, ⟨B, m, d, ys⟩), (w.heap.size, ⟨A, n, c, xs⟩)] [] [] (((w.alloc (.cells #[.slice A n c] 24)).alloc (.cells #[.slice B m d] 24)).alloc (.cells #[.slice C k f] 24)) := by
  have h1 := (EN.start w).addT (c := c) hA
  have h2 := h1.addT (c := d) (hB.on_ (one_more _ _))
  have h3 := h2.addT (c := f) ((hC.on_ (one_more _ _)).on_ (one_more _ _))
  rw [size_more, size_more] at h3
  exact h3
theorem EN.two (w : World) (A B : Option Addr) (n c m d : Nat) (xs ys : List ByteArray) {S : List RS} (h : EN w [] S [] w) (hA : Reads w w.heap.size 1 A n (strs xs)) (hB : Reads w w.heap.size 1 B m (strs ys)) :
    EN w [(w.heap.size + 1, ⟨B, m, d, ys⟩), (w.heap.size, ⟨A, n, c, xs⟩)] S [] ((w.alloc (.cells #[.slice A n c] 24)).alloc (.cells #[.slice B m d] 24)) := by
  have h1 := h.addT (c := c) hA
  have h2 := h1.addT (c := d) (hB.on_ (one_more _ _))
  rw [size_more] at h2
  exact h2

/-- The operations of the region. -/
noncomputable def moves_ownOps : Array Oper := #[{ dst := some 23, op := Op.load 24 (Operand.tmp 3), type := 24, pos := "outright.go:45", after := #[], guard := none }, { dst := some 24, op := Op.call { callee := Callee.value (Operand.func 9), args := #[Operand.tmp 23], argTypes := #[24] }, type := 24, pos := "outright.go:45", after := #[{ on := 0, ground := Ground.data }], guard := none }, { dst := some 25, op := Op.load 24 (Operand.tmp 4), type := 24, pos := "outright.go:45", after := #[], guard := none }, { dst := some 26, op := Op.call { callee := Callee.value (Operand.func 9), args := #[Operand.tmp 25], argTypes := #[24] }, type := 24, pos := "outright.go:45", after := #[{ on := 2, ground := Ground.data }, { on := 1, ground := Ground.chain }], guard := none }, { dst := some 27, op := Op.load 24 (Operand.tmp 5), type := 24, pos := "outright.go:45", after := #[], guard := none }, { dst := some 28, op := Op.call { callee := Callee.value (Operand.func 9), args := #[Operand.tmp 27], argTypes := #[24] }, type := 24, pos := "outright.go:45", after := #[{ on := 4, ground := Ground.data }, { on := 3, ground := Ground.chain }], guard := none }, { dst := some 7, op := Op.alloc 24, type := 0, pos := "outright.go:45", after := #[], guard := none }, { dst := some 8, op := Op.alloc 24, type := 0, pos := "outright.go:45", after := #[], guard := none }, { dst := some 9, op := Op.alloc 24, type := 0, pos := "outright.go:45", after := #[], guard := none }, { dst := none, op := Op.store 24 (Operand.tmp 7) (Operand.tmp 24), type := 0, pos := "outright.go:45", after := #[{ on := 6, ground := Ground.data }, { on := 1, ground := Ground.data }, { on := 5, ground := Ground.chain }, { on := 0, ground := Ground.phase }, { on := 1, ground := Ground.phase }, { on := 2, ground := Ground.textOnly Departure.lateStores }, { on := 3, ground := Ground.textOnly Departure.lateStoresUnsure }, { on := 4, ground := Ground.textOnly Departure.lateStores }, { on := 5, ground := Ground.textOnly Departure.lateStoresUnsure }, { on := 6, ground := Ground.phase }, { on := 7, ground := Ground.phase }, { on := 8, ground := Ground.phase }], guard := none }, { dst := none, op := Op.store 24 (Operand.tmp 8) (Operand.tmp 26), type := 0, pos := "outright.go:45", after := #[{ on := 7, ground := Ground.data }, { on := 3, ground := Ground.data }, { on := 9, ground := Ground.chain }, { on := 0, ground := Ground.phase }, { on := 1, ground := Ground.phase }, { on := 2, ground := Ground.phase }, { on := 3, ground := Ground.phase }, { on := 4, ground := Ground.textOnly Departure.lateStores }, { on := 5, ground := Ground.textOnly Departure.lateStoresUnsure }, { on := 6, ground := Ground.phase }, { on := 7, ground := Ground.phase }, { on := 8, ground := Ground.phase }, { on := 9, ground := Ground.phase }], guard := none }, { dst := none, op := Op.store 24 (Operand.tmp 9) (Operand.tmp 28), type := 0, pos := "outright.go:45", after := #[{ on := 8, ground := Ground.data }, { on := 5, ground := Ground.data }, { on := 10, ground := Ground.chain }, { on := 0, ground := Ground.phase }, { on := 1, ground := Ground.phase }, { on := 2, ground := Ground.phase }, { on := 3, ground := Ground.phase }, { on := 4, ground := Ground.phase }, { on := 5, ground := Ground.phase }, { on := 6, ground := Ground.phase }, { on := 7, ground := Ground.phase }, { on := 8, ground := Ground.phase }, { on := 9, ground := Ground.phase }, { on := 10, ground := Ground.phase }], guard := none }]
set_option maxRecDepth 100000 in
set_option maxHeartbeats 8000000 in
theorem moves_own (Q : Exit → Act → World → Prop) (W0 : World) (v0 v1 v2 : Value) (p3 p4 p5 : Nat) (Ax Ay Az : Option Addr) (nx cx ny cy nz cz : Nat) (x1 x2 x3 : List ByteArray) (HS : ∀ W, Below W0.heap.size W0 W → (fun w' => w'.cell? ⟨p3, 0, none⟩ = some (.slice Ax nx cx) ∧ w'.cell? ⟨p4, 0, none⟩ = some (.slice Ay ny cy) ∧ w'.cell? ⟨p5, 0, none⟩ = some (.slice Az nz cz)) W) (C0 : ∀ W, Below W0.heap.size W0 W → Calls Try.prog 9 #[.agg #[.slice Ax nx cx]] W (OwnR x1 W)) (C1 : ∀ W, Below W0.heap.size W0 W → Calls Try.prog 9 #[.agg #[.slice Ay ny cy]] W (OwnR x2 W)) (C2 : ∀ W, Below W0.heap.size W0 W → Calls Try.prog 9 #[.agg #[.slice Az nz cz]] W (OwnR x3 W)) 
    (hQ : ∀ (W : World) (s0 s1 s2 : RS) (g0 g1 g2 : Nat), Below W0.heap.size W0 W → (s0.l = x1) → (s1.l = x2) → (s2.l = x3) → InBox W0 W g0 s0 → InBox W0 W g1 s1 → InBox W0 W g2 s2 → g0 ≠ g1 → g0 ≠ g2 → g1 ≠ g2 → Q .normal ⟨#[v0, v1, v2, .pointer (some ⟨p3, 0, none⟩), .pointer (some ⟨p4, 0, none⟩), .pointer (some ⟨p5, 0, none⟩), .bool false, .pointer (some ⟨g0, 0, none⟩), .pointer (some ⟨g1, 0, none⟩), .pointer (some ⟨g2, 0, none⟩), undef, undef, undef, undef, undef, undef, undef, undef, undef, undef, undef, .bool true, .bool false, .agg #[.slice Ax nx cx], .agg #[.slice s0.A s0.n s0.c], .agg #[.slice Ay ny cy], .agg #[.slice s1.A s1.n s1.c], .agg #[.slice Az nz cz], .agg #[.slice s2.A s2.n s2.c], undef, undef, undef, undef, undef, undef, undef, undef, undef, undef, undef, undef, undef, undef, undef, undef, undef, undef, undef, undef, undef, undef, undef, undef, undef, undef, undef, undef, undef, undef, undef, undef, undef, undef, undef, undef, undef, undef, undef, undef, undef, undef, undef, undef, undef, undef, undef, undef, undef, undef, undef, undef, undef, undef, undef, undef, undef, undef, undef, undef, undef, undef, undef, undef, undef, undef, undef, undef, undef, undef, undef, undef, undef, undef, undef, undef, undef, undef, undef, undef, undef, undef, undef, undef, undef], []⟩ W) : (Code.region 3 moves_ownOps true).wp Try.prog Q ⟨#[v0, v1, v2, .pointer (some ⟨p3, 0, none⟩), .pointer (some ⟨p4, 0, none⟩), .pointer (some ⟨p5, 0, none⟩), .bool false, undef, undef, undef, undef, undef, undef, undef, undef, undef, undef, undef, undef, undef, undef, .bool true, .bool false, undef, undef, undef, undef, undef, undef, undef, undef, undef, undef, undef, undef, undef, undef, undef, undef, undef, undef, undef, undef, undef, undef, undef, undef, undef, undef, undef, undef, undef, undef, undef, undef, undef, undef, undef, undef, undef, undef, undef, undef, undef, undef, undef, undef, undef, undef, undef, undef, undef, undef, undef, undef, undef, undef, undef, undef, undef, undef, undef, undef, undef, undef, undef, undef, undef, undef, undef, undef, undef, undef, undef, undef, undef, undef, undef, undef, undef, undef, undef, undef, undef, undef, undef, undef, undef, undef, undef, undef, undef, undef, undef], []⟩ W0 := by
  have L3_012 : ∀ (W : World) (b : Below W0.heap.size W0 W) (s0 : RS) (s1 : RS) (s2 : RS) (g0 : Nat) (g1 : Nat) (g2 : Nat) (h0 : s0.l = x1 ∧ s0.ok W W.heap.size) (h1 : s1.l = x2 ∧ s1.ok W W.heap.size) (h2 : s2.l = x3 ∧ s2.ok W W.heap.size) (n0 : NewBox W0 W g0) (n1 : NewBox W0 W g1) (n2 : NewBox W0 W g2) (d01 : g0 ≠ g1) (d02 : g0 ≠ g2) (d12 : g1 ≠ g2), wpAnyH Try.prog .any moves_ownOps (NoPanic Q) (fun w' => w'.cell? ⟨p3, 0, none⟩ = some (.slice Ax nx cx) ∧ w'.cell? ⟨p4, 0, none⟩ = some (.slice Ay ny cy) ∧ w'.cell? ⟨p5, 0, none⟩ = some (.slice Az nz cz)) 3 #[true, true, true, true, true, true, true, true, true, false, false, false] ⟨#[v0, v1, v2, .pointer (some ⟨p3, 0, none⟩), .pointer (some ⟨p4, 0, none⟩), .pointer (some ⟨p5, 0, none⟩), .bool false, .pointer (some ⟨g0, 0, none⟩), .pointer (some ⟨g1, 0, none⟩), .pointer (some ⟨g2, 0, none⟩), undef, undef, undef, undef, undef, undef, undef, undef, undef, undef, undef, .bool true, .bool false, .agg #[.slice Ax nx cx], .agg #[.slice s0.A s0.n s0.c], .agg #[.slice Ay ny cy], .agg #[.slice s1.A s1.n s1.c], .agg #[.slice Az nz cz], .agg #[.slice s2.A s2.n s2.c], undef, undef, undef, undef, undef, undef, undef, undef, undef, undef, undef, undef, undef, undef, undef, undef, undef, undef, undef, undef, undef, undef, undef, undef, undef, undef, undef, undef, undef, undef, undef, undef, undef, undef, undef, undef, undef, undef, undef, undef, undef, undef, undef, undef, undef, undef, undef, undef, undef, undef, undef, undef, undef, undef, undef, undef, undef, undef, undef, undef, undef, undef, undef, undef, undef, undef, undef, undef, undef, undef, undef, undef, undef, undef, undef, undef, undef, undef, undef, undef, undef, undef, undef, undef, undef], []⟩ W := by
    intro W b s0 s1 s2 g0 g1 g2 h0 h1 h2 n0 n1 n2 d01 d02 d12
    have c0 := n0.2.cell 0
    have f0 := n0.2.frozen 0
    have c1 := n1.2.cell 0
    have f1 := n1.2.frozen 0
    have c2 := n2.2.cell 0
    have f2 := n2.2.frozen 0
    have o0 := h0.2
    have o1 := h1.2
    have o2 := h2.2
    have b0 : Below W0.heap.size W0 (W.setCell ⟨g0, 0, none⟩ (.slice s0.A s0.n s0.c)) := b.setCell (p := ⟨g0, 0, none⟩) n0.1 _
    refine wpAnyH_ready (rs := [9]) (by kernel_rfl) (by simp) ?_
    refine AllReadyH.cons (o := { dst := none, op := Op.store 24 (Operand.tmp 7) (Operand.tmp 24), type := 0, pos := "outright.go:45", after := #[{ on := 6, ground := Ground.data }, { on := 1, ground := Ground.data }, { on := 5, ground := Ground.chain }, { on := 0, ground := Ground.phase }, { on := 1, ground := Ground.phase }, { on := 2, ground := Ground.textOnly Departure.lateStores }, { on := 3, ground := Ground.textOnly Departure.lateStoresUnsure }, { on := 4, ground := Ground.textOnly Departure.lateStores }, { on := 5, ground := Ground.textOnly Departure.lateStoresUnsure }, { on := 6, ground := Ground.phase }, { on := 7, ground := Ground.phase }, { on := 8, ground := Ground.phase }], guard := none }) rfl (fun K hK => ?_) AllReadyH.nil
    go_simp
    refine hK.out _ _ (HS _ b0) (fun _ => ?_)
    clear hK K
    try simp only [List.setIfInBounds_toArray, List.set_cons_zero, List.set_cons_succ]
    replace o0 := o0.boxed (v := .slice s0.A s0.n s0.c) n0.2
    replace o1 := o1.boxed (v := .slice s0.A s0.n s0.c) n0.2
    replace o2 := o2.boxed (v := .slice s0.A s0.n s0.c) n0.2
    replace n1 := n1.other (g := g0) (u := .slice s0.A s0.n s0.c) (fun e => d01 e.symm)
    replace c1 := n1.2.cell 0
    replace f1 := n1.2.frozen 0
    replace n2 := n2.other (g := g0) (u := .slice s0.A s0.n s0.c) (fun e => d02 e.symm)
    replace c2 := n2.2.cell 0
    replace f2 := n2.2.frozen 0
    have k0 : HasBox W0 (W.setCell ⟨g0, 0, none⟩ (.slice s0.A s0.n s0.c)) g0 s0 := n0.put
    have b1 : Below W0.heap.size W0 ((W.setCell ⟨g0, 0, none⟩ (.slice s0.A s0.n s0.c)).setCell ⟨g1, 0, none⟩ (.slice s1.A s1.n s1.c)) := b0.setCell (p := ⟨g1, 0, none⟩) n1.1 _
    refine wpAnyH_ready (rs := [10]) (by kernel_rfl) (by simp) ?_
    refine AllReadyH.cons (o := { dst := none, op := Op.store 24 (Operand.tmp 8) (Operand.tmp 26), type := 0, pos := "outright.go:45", after := #[{ on := 7, ground := Ground.data }, { on := 3, ground := Ground.data }, { on := 9, ground := Ground.chain }, { on := 0, ground := Ground.phase }, { on := 1, ground := Ground.phase }, { on := 2, ground := Ground.phase }, { on := 3, ground := Ground.phase }, { on := 4, ground := Ground.textOnly Departure.lateStores }, { on := 5, ground := Ground.textOnly Departure.lateStoresUnsure }, { on := 6, ground := Ground.phase }, { on := 7, ground := Ground.phase }, { on := 8, ground := Ground.phase }, { on := 9, ground := Ground.phase }], guard := none }) rfl (fun K hK => ?_) AllReadyH.nil
    go_simp
    refine hK.out _ _ (HS _ b1) (fun _ => ?_)
    clear hK K
    try simp only [List.setIfInBounds_toArray, List.set_cons_zero, List.set_cons_succ]
    replace o0 := o0.boxed (v := .slice s1.A s1.n s1.c) n1.2
    replace o1 := o1.boxed (v := .slice s1.A s1.n s1.c) n1.2
    replace o2 := o2.boxed (v := .slice s1.A s1.n s1.c) n1.2
    replace n2 := n2.other (g := g1) (u := .slice s1.A s1.n s1.c) (fun e => d12 e.symm)
    replace c2 := n2.2.cell 0
    replace f2 := n2.2.frozen 0
    have k0 := k0.other (g := g1) (u := .slice s1.A s1.n s1.c) (d01)
    have k1 : HasBox W0 ((W.setCell ⟨g0, 0, none⟩ (.slice s0.A s0.n s0.c)).setCell ⟨g1, 0, none⟩ (.slice s1.A s1.n s1.c)) g1 s1 := n1.put
    have b2 : Below W0.heap.size W0 (((W.setCell ⟨g0, 0, none⟩ (.slice s0.A s0.n s0.c)).setCell ⟨g1, 0, none⟩ (.slice s1.A s1.n s1.c)).setCell ⟨g2, 0, none⟩ (.slice s2.A s2.n s2.c)) := b1.setCell (p := ⟨g2, 0, none⟩) n2.1 _
    refine wpAnyH_ready (rs := [11]) (by kernel_rfl) (by simp) ?_
    refine AllReadyH.cons (o := { dst := none, op := Op.store 24 (Operand.tmp 9) (Operand.tmp 28), type := 0, pos := "outright.go:45", after := #[{ on := 8, ground := Ground.data }, { on := 5, ground := Ground.data }, { on := 10, ground := Ground.chain }, { on := 0, ground := Ground.phase }, { on := 1, ground := Ground.phase }, { on := 2, ground := Ground.phase }, { on := 3, ground := Ground.phase }, { on := 4, ground := Ground.phase }, { on := 5, ground := Ground.phase }, { on := 6, ground := Ground.phase }, { on := 7, ground := Ground.phase }, { on := 8, ground := Ground.phase }, { on := 9, ground := Ground.phase }, { on := 10, ground := Ground.phase }], guard := none }) rfl (fun K hK => ?_) AllReadyH.nil
    go_simp
    refine hK.out _ _ (HS _ b2) (fun _ => ?_)
    clear hK K
    try simp only [List.setIfInBounds_toArray, List.set_cons_zero, List.set_cons_succ]
    replace o0 := o0.boxed (v := .slice s2.A s2.n s2.c) n2.2
    replace o1 := o1.boxed (v := .slice s2.A s2.n s2.c) n2.2
    replace o2 := o2.boxed (v := .slice s2.A s2.n s2.c) n2.2
    have k0 := k0.other (g := g2) (u := .slice s2.A s2.n s2.c) (d02)
    have k1 := k1.other (g := g2) (u := .slice s2.A s2.n s2.c) (d12)
    have k2 : HasBox W0 (((W.setCell ⟨g0, 0, none⟩ (.slice s0.A s0.n s0.c)).setCell ⟨g1, 0, none⟩ (.slice s1.A s1.n s1.c)).setCell ⟨g2, 0, none⟩ (.slice s2.A s2.n s2.c)) g2 s2 := n2.put
    refine wpAnyH_done (by kernel_rfl) ?_ _
    refine NoPanic.normal ?_
    exact hQ _ s0 s1 s2 g0 g1 g2 b2 h0.1 h1.1 h2.1 ⟨k0, o0⟩ ⟨k1, o1⟩ ⟨k2, o2⟩ d01 d02 d12
  have L3_01 : ∀ (W : World) (b : Below W0.heap.size W0 W) (s0 : RS) (s1 : RS) (s2 : RS) (g0 : Nat) (g1 : Nat) (h0 : s0.l = x1 ∧ s0.ok W W.heap.size) (h1 : s1.l = x2 ∧ s1.ok W W.heap.size) (h2 : s2.l = x3 ∧ s2.ok W W.heap.size) (n0 : NewBox W0 W g0) (n1 : NewBox W0 W g1) (d01 : g0 ≠ g1), wpAnyH Try.prog .any moves_ownOps (NoPanic Q) (fun w' => w'.cell? ⟨p3, 0, none⟩ = some (.slice Ax nx cx) ∧ w'.cell? ⟨p4, 0, none⟩ = some (.slice Ay ny cy) ∧ w'.cell? ⟨p5, 0, none⟩ = some (.slice Az nz cz)) 4 #[true, true, true, true, true, true, true, true, false, false, false, false] ⟨#[v0, v1, v2, .pointer (some ⟨p3, 0, none⟩), .pointer (some ⟨p4, 0, none⟩), .pointer (some ⟨p5, 0, none⟩), .bool false, .pointer (some ⟨g0, 0, none⟩), .pointer (some ⟨g1, 0, none⟩), undef, undef, undef, undef, undef, undef, undef, undef, undef, undef, undef, undef, .bool true, .bool false, .agg #[.slice Ax nx cx], .agg #[.slice s0.A s0.n s0.c], .agg #[.slice Ay ny cy], .agg #[.slice s1.A s1.n s1.c], .agg #[.slice Az nz cz], .agg #[.slice s2.A s2.n s2.c], undef, undef, undef, undef, undef, undef, undef, undef, undef, undef, undef, undef, undef, undef, undef, undef, undef, undef, undef, undef, undef, undef, undef, undef, undef, undef, undef, undef, undef, undef, undef, undef, undef, undef, undef, undef, undef, undef, undef, undef, undef, undef, undef, undef, undef, undef, undef, undef, undef, undef, undef, undef, undef, undef, undef, undef, undef, undef, undef, undef, undef, undef, undef, undef, undef, undef, undef, undef, undef, undef, undef, undef, undef, undef, undef, undef, undef, undef, undef, undef, undef, undef, undef, undef, undef], []⟩ W := by
    intro W b s0 s1 s2 g0 g1 h0 h1 h2 n0 n1 d01
    refine wpAnyH_ready (rs := [8]) (by kernel_rfl) (by simp) ?_
    refine AllReadyH.cons (o := { dst := some 9, op := Op.alloc 24, type := 0, pos := "outright.go:45", after := #[], guard := none }) rfl (fun K hK => ?_) (AllReadyH.nil)
    · go_simp
      have b' := b.alloc b.size (.cells #[.slice none 0 0] 24)
      refine hK.out _ _ (HS _ b') (fun _ => ?_)
      clear hK K
      try simp only [List.setIfInBounds_toArray, List.set_cons_zero, List.set_cons_succ]
      exact L3_012 _ b' s0 s1 s2 g0 g1 W.heap.size ⟨h0.1, h0.2.on (one_more W _)⟩ ⟨h1.1, h1.2.on (one_more W _)⟩ ⟨h2.1, h2.2.on (one_more W _)⟩ (n0.on (one_more W _)) (n1.on (one_more W _)) (NewBox.new b) d01 (n0.ne_new) (n1.ne_new)
  have L3_02 : ∀ (W : World) (b : Below W0.heap.size W0 W) (s0 : RS) (s1 : RS) (s2 : RS) (g0 : Nat) (g2 : Nat) (h0 : s0.l = x1 ∧ s0.ok W W.heap.size) (h1 : s1.l = x2 ∧ s1.ok W W.heap.size) (h2 : s2.l = x3 ∧ s2.ok W W.heap.size) (n0 : NewBox W0 W g0) (n2 : NewBox W0 W g2) (d02 : g0 ≠ g2), wpAnyH Try.prog .any moves_ownOps (NoPanic Q) (fun w' => w'.cell? ⟨p3, 0, none⟩ = some (.slice Ax nx cx) ∧ w'.cell? ⟨p4, 0, none⟩ = some (.slice Ay ny cy) ∧ w'.cell? ⟨p5, 0, none⟩ = some (.slice Az nz cz)) 4 #[true, true, true, true, true, true, true, false, true, false, false, false] ⟨#[v0, v1, v2, .pointer (some ⟨p3, 0, none⟩), .pointer (some ⟨p4, 0, none⟩), .pointer (some ⟨p5, 0, none⟩), .bool false, .pointer (some ⟨g0, 0, none⟩), undef, .pointer (some ⟨g2, 0, none⟩), undef, undef, undef, undef, undef, undef, undef, undef, undef, undef, undef, .bool true, .bool false, .agg #[.slice Ax nx cx], .agg #[.slice s0.A s0.n s0.c], .agg #[.slice Ay ny cy], .agg #[.slice s1.A s1.n s1.c], .agg #[.slice Az nz cz], .agg #[.slice s2.A s2.n s2.c], undef, undef, undef, undef, undef, undef, undef, undef, undef, undef, undef, undef, undef, undef, undef, undef, undef, undef, undef, undef, undef, undef, undef, undef, undef, undef, undef, undef, undef, undef, undef, undef, undef, undef, undef, undef, undef, undef, undef, undef, undef, undef, undef, undef, undef, undef, undef, undef, undef, undef, undef, undef, undef, undef, undef, undef, undef, undef, undef, undef, undef, undef, undef, undef, undef, undef, undef, undef, undef, undef, undef, undef, undef, undef, undef, undef, undef, undef, undef, undef, undef, undef, undef, undef, undef], []⟩ W := by
    intro W b s0 s1 s2 g0 g2 h0 h1 h2 n0 n2 d02
    refine wpAnyH_ready (rs := [7]) (by kernel_rfl) (by simp) ?_
    refine AllReadyH.cons (o := { dst := some 8, op := Op.alloc 24, type := 0, pos := "outright.go:45", after := #[], guard := none }) rfl (fun K hK => ?_) (AllReadyH.nil)
    · go_simp
      have b' := b.alloc b.size (.cells #[.slice none 0 0] 24)
      refine hK.out _ _ (HS _ b') (fun _ => ?_)
      clear hK K
      try simp only [List.setIfInBounds_toArray, List.set_cons_zero, List.set_cons_succ]
      exact L3_012 _ b' s0 s1 s2 g0 W.heap.size g2 ⟨h0.1, h0.2.on (one_more W _)⟩ ⟨h1.1, h1.2.on (one_more W _)⟩ ⟨h2.1, h2.2.on (one_more W _)⟩ (n0.on (one_more W _)) (NewBox.new b) (n2.on (one_more W _)) (n0.ne_new) d02 (n2.ne_new')
  have L3_12 : ∀ (W : World) (b : Below W0.heap.size W0 W) (s0 : RS) (s1 : RS) (s2 : RS) (g1 : Nat) (g2 : Nat) (h0 : s0.l = x1 ∧ s0.ok W W.heap.size) (h1 : s1.l = x2 ∧ s1.ok W W.heap.size) (h2 : s2.l = x3 ∧ s2.ok W W.heap.size) (n1 : NewBox W0 W g1) (n2 : NewBox W0 W g2) (d12 : g1 ≠ g2), wpAnyH Try.prog .any moves_ownOps (NoPanic Q) (fun w' => w'.cell? ⟨p3, 0, none⟩ = some (.slice Ax nx cx) ∧ w'.cell? ⟨p4, 0, none⟩ = some (.slice Ay ny cy) ∧ w'.cell? ⟨p5, 0, none⟩ = some (.slice Az nz cz)) 4 #[true, true, true, true, true, true, false, true, true, false, false, false] ⟨#[v0, v1, v2, .pointer (some ⟨p3, 0, none⟩), .pointer (some ⟨p4, 0, none⟩), .pointer (some ⟨p5, 0, none⟩), .bool false, undef, .pointer (some ⟨g1, 0, none⟩), .pointer (some ⟨g2, 0, none⟩), undef, undef, undef, undef, undef, undef, undef, undef, undef, undef, undef, .bool true, .bool false, .agg #[.slice Ax nx cx], .agg #[.slice s0.A s0.n s0.c], .agg #[.slice Ay ny cy], .agg #[.slice s1.A s1.n s1.c], .agg #[.slice Az nz cz], .agg #[.slice s2.A s2.n s2.c], undef, undef, undef, undef, undef, undef, undef, undef, undef, undef, undef, undef, undef, undef, undef, undef, undef, undef, undef, undef, undef, undef, undef, undef, undef, undef, undef, undef, undef, undef, undef, undef, undef, undef, undef, undef, undef, undef, undef, undef, undef, undef, undef, undef, undef, undef, undef, undef, undef, undef, undef, undef, undef, undef, undef, undef, undef, undef, undef, undef, undef, undef, undef, undef, undef, undef, undef, undef, undef, undef, undef, undef, undef, undef, undef, undef, undef, undef, undef, undef, undef, undef, undef, undef, undef], []⟩ W := by
    intro W b s0 s1 s2 g1 g2 h0 h1 h2 n1 n2 d12
    refine wpAnyH_ready (rs := [6]) (by kernel_rfl) (by simp) ?_
    refine AllReadyH.cons (o := { dst := some 7, op := Op.alloc 24, type := 0, pos := "outright.go:45", after := #[], guard := none }) rfl (fun K hK => ?_) (AllReadyH.nil)
    · go_simp
      have b' := b.alloc b.size (.cells #[.slice none 0 0] 24)
      refine hK.out _ _ (HS _ b') (fun _ => ?_)
      clear hK K
      try simp only [List.setIfInBounds_toArray, List.set_cons_zero, List.set_cons_succ]
      exact L3_012 _ b' s0 s1 s2 W.heap.size g1 g2 ⟨h0.1, h0.2.on (one_more W _)⟩ ⟨h1.1, h1.2.on (one_more W _)⟩ ⟨h2.1, h2.2.on (one_more W _)⟩ (NewBox.new b) (n1.on (one_more W _)) (n2.on (one_more W _)) (n1.ne_new') (n2.ne_new') d12
  have L2_012 : ∀ (W : World) (b : Below W0.heap.size W0 W) (s0 : RS) (s1 : RS) (g0 : Nat) (g1 : Nat) (g2 : Nat) (h0 : s0.l = x1 ∧ s0.ok W W.heap.size) (h1 : s1.l = x2 ∧ s1.ok W W.heap.size) (n0 : NewBox W0 W g0) (n1 : NewBox W0 W g1) (n2 : NewBox W0 W g2) (d01 : g0 ≠ g1) (d02 : g0 ≠ g2) (d12 : g1 ≠ g2), wpAnyH Try.prog .any moves_ownOps (NoPanic Q) (fun w' => w'.cell? ⟨p3, 0, none⟩ = some (.slice Ax nx cx) ∧ w'.cell? ⟨p4, 0, none⟩ = some (.slice Ay ny cy) ∧ w'.cell? ⟨p5, 0, none⟩ = some (.slice Az nz cz)) 4 #[true, true, true, true, true, false, true, true, true, false, false, false] ⟨#[v0, v1, v2, .pointer (some ⟨p3, 0, none⟩), .pointer (some ⟨p4, 0, none⟩), .pointer (some ⟨p5, 0, none⟩), .bool false, .pointer (some ⟨g0, 0, none⟩), .pointer (some ⟨g1, 0, none⟩), .pointer (some ⟨g2, 0, none⟩), undef, undef, undef, undef, undef, undef, undef, undef, undef, undef, undef, .bool true, .bool false, .agg #[.slice Ax nx cx], .agg #[.slice s0.A s0.n s0.c], .agg #[.slice Ay ny cy], .agg #[.slice s1.A s1.n s1.c], .agg #[.slice Az nz cz], undef, undef, undef, undef, undef, undef, undef, undef, undef, undef, undef, undef, undef, undef, undef, undef, undef, undef, undef, undef, undef, undef, undef, undef, undef, undef, undef, undef, undef, undef, undef, undef, undef, undef, undef, undef, undef, undef, undef, undef, undef, undef, undef, undef, undef, undef, undef, undef, undef, undef, undef, undef, undef, undef, undef, undef, undef, undef, undef, undef, undef, undef, undef, undef, undef, undef, undef, undef, undef, undef, undef, undef, undef, undef, undef, undef, undef, undef, undef, undef, undef, undef, undef, undef, undef, undef], []⟩ W := by
    intro W b s0 s1 g0 g1 g2 h0 h1 n0 n1 n2 d01 d02 d12
    refine wpAnyH_ready (rs := [5]) (by kernel_rfl) (by simp) ?_
    refine AllReadyH.cons (o := { dst := some 28, op := Op.call { callee := Callee.value (Operand.func 9), args := #[Operand.tmp 27], argTypes := #[24] }, type := 24, pos := "outright.go:45", after := #[{ on := 4, ground := Ground.data }, { on := 3, ground := Ground.chain }], guard := none }) rfl (fun K hK => ?_) (AllReadyH.nil)
    · go_simp
      refine (C2 W b).mono ?_
      rintro e W' ⟨s2, rfl, e2, o2, _, bb⟩
      have b' := b.trans (bb.mono b.size)
      refine hK.out _ _ (HS _ b') (fun _ => ?_)
      clear hK K
      try simp only [List.setIfInBounds_toArray, List.set_cons_zero, List.set_cons_succ]
      exact L3_012 _ b' s0 s1 s2 g0 g1 g2 ⟨h0.1, h0.2.on bb⟩ ⟨h1.1, h1.2.on bb⟩ ⟨e2, o2⟩ (n0.on bb) (n1.on bb) (n2.on bb) d01 d02 d12
  have L3_0 : ∀ (W : World) (b : Below W0.heap.size W0 W) (s0 : RS) (s1 : RS) (s2 : RS) (g0 : Nat) (h0 : s0.l = x1 ∧ s0.ok W W.heap.size) (h1 : s1.l = x2 ∧ s1.ok W W.heap.size) (h2 : s2.l = x3 ∧ s2.ok W W.heap.size) (n0 : NewBox W0 W g0), wpAnyH Try.prog .any moves_ownOps (NoPanic Q) (fun w' => w'.cell? ⟨p3, 0, none⟩ = some (.slice Ax nx cx) ∧ w'.cell? ⟨p4, 0, none⟩ = some (.slice Ay ny cy) ∧ w'.cell? ⟨p5, 0, none⟩ = some (.slice Az nz cz)) 5 #[true, true, true, true, true, true, true, false, false, false, false, false] ⟨#[v0, v1, v2, .pointer (some ⟨p3, 0, none⟩), .pointer (some ⟨p4, 0, none⟩), .pointer (some ⟨p5, 0, none⟩), .bool false, .pointer (some ⟨g0, 0, none⟩), undef, undef, undef, undef, undef, undef, undef, undef, undef, undef, undef, undef, undef, .bool true, .bool false, .agg #[.slice Ax nx cx], .agg #[.slice s0.A s0.n s0.c], .agg #[.slice Ay ny cy], .agg #[.slice s1.A s1.n s1.c], .agg #[.slice Az nz cz], .agg #[.slice s2.A s2.n s2.c], undef, undef, undef, undef, undef, undef, undef, undef, undef, undef, undef, undef, undef, undef, undef, undef, undef, undef, undef, undef, undef, undef, undef, undef, undef, undef, undef, undef, undef, undef, undef, undef, undef, undef, undef, undef, undef, undef, undef, undef, undef, undef, undef, undef, undef, undef, undef, undef, undef, undef, undef, undef, undef, undef, undef, undef, undef, undef, undef, undef, undef, undef, undef, undef, undef, undef, undef, undef, undef, undef, undef, undef, undef, undef, undef, undef, undef, undef, undef, undef, undef, undef, undef, undef, undef], []⟩ W := by
    intro W b s0 s1 s2 g0 h0 h1 h2 n0
    refine wpAnyH_ready (rs := [7, 8]) (by kernel_rfl) (by simp) ?_
    refine AllReadyH.cons (o := { dst := some 8, op := Op.alloc 24, type := 0, pos := "outright.go:45", after := #[], guard := none }) rfl (fun K hK => ?_) (AllReadyH.cons (o := { dst := some 9, op := Op.alloc 24, type := 0, pos := "outright.go:45", after := #[], guard := none }) rfl (fun K hK => ?_) (AllReadyH.nil))
    · go_simp
      have b' := b.alloc b.size (.cells #[.slice none 0 0] 24)
      refine hK.out _ _ (HS _ b') (fun _ => ?_)
      clear hK K
      try simp only [List.setIfInBounds_toArray, List.set_cons_zero, List.set_cons_succ]
      exact L3_01 _ b' s0 s1 s2 g0 W.heap.size ⟨h0.1, h0.2.on (one_more W _)⟩ ⟨h1.1, h1.2.on (one_more W _)⟩ ⟨h2.1, h2.2.on (one_more W _)⟩ (n0.on (one_more W _)) (NewBox.new b) (n0.ne_new)
    · go_simp
      have b' := b.alloc b.size (.cells #[.slice none 0 0] 24)
      refine hK.out _ _ (HS _ b') (fun _ => ?_)
      clear hK K
      try simp only [List.setIfInBounds_toArray, List.set_cons_zero, List.set_cons_succ]
      exact L3_02 _ b' s0 s1 s2 g0 W.heap.size ⟨h0.1, h0.2.on (one_more W _)⟩ ⟨h1.1, h1.2.on (one_more W _)⟩ ⟨h2.1, h2.2.on (one_more W _)⟩ (n0.on (one_more W _)) (NewBox.new b) (n0.ne_new)
  have L3_1 : ∀ (W : World) (b : Below W0.heap.size W0 W) (s0 : RS) (s1 : RS) (s2 : RS) (g1 : Nat) (h0 : s0.l = x1 ∧ s0.ok W W.heap.size) (h1 : s1.l = x2 ∧ s1.ok W W.heap.size) (h2 : s2.l = x3 ∧ s2.ok W W.heap.size) (n1 : NewBox W0 W g1), wpAnyH Try.prog .any moves_ownOps (NoPanic Q) (fun w' => w'.cell? ⟨p3, 0, none⟩ = some (.slice Ax nx cx) ∧ w'.cell? ⟨p4, 0, none⟩ = some (.slice Ay ny cy) ∧ w'.cell? ⟨p5, 0, none⟩ = some (.slice Az nz cz)) 5 #[true, true, true, true, true, true, false, true, false, false, false, false] ⟨#[v0, v1, v2, .pointer (some ⟨p3, 0, none⟩), .pointer (some ⟨p4, 0, none⟩), .pointer (some ⟨p5, 0, none⟩), .bool false, undef, .pointer (some ⟨g1, 0, none⟩), undef, undef, undef, undef, undef, undef, undef, undef, undef, undef, undef, undef, .bool true, .bool false, .agg #[.slice Ax nx cx], .agg #[.slice s0.A s0.n s0.c], .agg #[.slice Ay ny cy], .agg #[.slice s1.A s1.n s1.c], .agg #[.slice Az nz cz], .agg #[.slice s2.A s2.n s2.c], undef, undef, undef, undef, undef, undef, undef, undef, undef, undef, undef, undef, undef, undef, undef, undef, undef, undef, undef, undef, undef, undef, undef, undef, undef, undef, undef, undef, undef, undef, undef, undef, undef, undef, undef, undef, undef, undef, undef, undef, undef, undef, undef, undef, undef, undef, undef, undef, undef, undef, undef, undef, undef, undef, undef, undef, undef, undef, undef, undef, undef, undef, undef, undef, undef, undef, undef, undef, undef, undef, undef, undef, undef, undef, undef, undef, undef, undef, undef, undef, undef, undef, undef, undef, undef], []⟩ W := by
    intro W b s0 s1 s2 g1 h0 h1 h2 n1
    refine wpAnyH_ready (rs := [6, 8]) (by kernel_rfl) (by simp) ?_
    refine AllReadyH.cons (o := { dst := some 7, op := Op.alloc 24, type := 0, pos := "outright.go:45", after := #[], guard := none }) rfl (fun K hK => ?_) (AllReadyH.cons (o := { dst := some 9, op := Op.alloc 24, type := 0, pos := "outright.go:45", after := #[], guard := none }) rfl (fun K hK => ?_) (AllReadyH.nil))
    · go_simp
      have b' := b.alloc b.size (.cells #[.slice none 0 0] 24)
      refine hK.out _ _ (HS _ b') (fun _ => ?_)
      clear hK K
      try simp only [List.setIfInBounds_toArray, List.set_cons_zero, List.set_cons_succ]
      exact L3_01 _ b' s0 s1 s2 W.heap.size g1 ⟨h0.1, h0.2.on (one_more W _)⟩ ⟨h1.1, h1.2.on (one_more W _)⟩ ⟨h2.1, h2.2.on (one_more W _)⟩ (NewBox.new b) (n1.on (one_more W _)) (n1.ne_new')
    · go_simp
      have b' := b.alloc b.size (.cells #[.slice none 0 0] 24)
      refine hK.out _ _ (HS _ b') (fun _ => ?_)
      clear hK K
      try simp only [List.setIfInBounds_toArray, List.set_cons_zero, List.set_cons_succ]
      exact L3_12 _ b' s0 s1 s2 g1 W.heap.size ⟨h0.1, h0.2.on (one_more W _)⟩ ⟨h1.1, h1.2.on (one_more W _)⟩ ⟨h2.1, h2.2.on (one_more W _)⟩ (n1.on (one_more W _)) (NewBox.new b) (n1.ne_new)
  have L3_2 : ∀ (W : World) (b : Below W0.heap.size W0 W) (s0 : RS) (s1 : RS) (s2 : RS) (g2 : Nat) (h0 : s0.l = x1 ∧ s0.ok W W.heap.size) (h1 : s1.l = x2 ∧ s1.ok W W.heap.size) (h2 : s2.l = x3 ∧ s2.ok W W.heap.size) (n2 : NewBox W0 W g2), wpAnyH Try.prog .any moves_ownOps (NoPanic Q) (fun w' => w'.cell? ⟨p3, 0, none⟩ = some (.slice Ax nx cx) ∧ w'.cell? ⟨p4, 0, none⟩ = some (.slice Ay ny cy) ∧ w'.cell? ⟨p5, 0, none⟩ = some (.slice Az nz cz)) 5 #[true, true, true, true, true, true, false, false, true, false, false, false] ⟨#[v0, v1, v2, .pointer (some ⟨p3, 0, none⟩), .pointer (some ⟨p4, 0, none⟩), .pointer (some ⟨p5, 0, none⟩), .bool false, undef, undef, .pointer (some ⟨g2, 0, none⟩), undef, undef, undef, undef, undef, undef, undef, undef, undef, undef, undef, .bool true, .bool false, .agg #[.slice Ax nx cx], .agg #[.slice s0.A s0.n s0.c], .agg #[.slice Ay ny cy], .agg #[.slice s1.A s1.n s1.c], .agg #[.slice Az nz cz], .agg #[.slice s2.A s2.n s2.c], undef, undef, undef, undef, undef, undef, undef, undef, undef, undef, undef, undef, undef, undef, undef, undef, undef, undef, undef, undef, undef, undef, undef, undef, undef, undef, undef, undef, undef, undef, undef, undef, undef, undef, undef, undef, undef, undef, undef, undef, undef, undef, undef, undef, undef, undef, undef, undef, undef, undef, undef, undef, undef, undef, undef, undef, undef, undef, undef, undef, undef, undef, undef, undef, undef, undef, undef, undef, undef, undef, undef, undef, undef, undef, undef, undef, undef, undef, undef, undef, undef, undef, undef, undef, undef], []⟩ W := by
    intro W b s0 s1 s2 g2 h0 h1 h2 n2
    refine wpAnyH_ready (rs := [6, 7]) (by kernel_rfl) (by simp) ?_
    refine AllReadyH.cons (o := { dst := some 7, op := Op.alloc 24, type := 0, pos := "outright.go:45", after := #[], guard := none }) rfl (fun K hK => ?_) (AllReadyH.cons (o := { dst := some 8, op := Op.alloc 24, type := 0, pos := "outright.go:45", after := #[], guard := none }) rfl (fun K hK => ?_) (AllReadyH.nil))
    · go_simp
      have b' := b.alloc b.size (.cells #[.slice none 0 0] 24)
      refine hK.out _ _ (HS _ b') (fun _ => ?_)
      clear hK K
      try simp only [List.setIfInBounds_toArray, List.set_cons_zero, List.set_cons_succ]
      exact L3_02 _ b' s0 s1 s2 W.heap.size g2 ⟨h0.1, h0.2.on (one_more W _)⟩ ⟨h1.1, h1.2.on (one_more W _)⟩ ⟨h2.1, h2.2.on (one_more W _)⟩ (NewBox.new b) (n2.on (one_more W _)) (n2.ne_new')
    · go_simp
      have b' := b.alloc b.size (.cells #[.slice none 0 0] 24)
      refine hK.out _ _ (HS _ b') (fun _ => ?_)
      clear hK K
      try simp only [List.setIfInBounds_toArray, List.set_cons_zero, List.set_cons_succ]
      exact L3_12 _ b' s0 s1 s2 W.heap.size g2 ⟨h0.1, h0.2.on (one_more W _)⟩ ⟨h1.1, h1.2.on (one_more W _)⟩ ⟨h2.1, h2.2.on (one_more W _)⟩ (NewBox.new b) (n2.on (one_more W _)) (n2.ne_new')
  have L2_01 : ∀ (W : World) (b : Below W0.heap.size W0 W) (s0 : RS) (s1 : RS) (g0 : Nat) (g1 : Nat) (h0 : s0.l = x1 ∧ s0.ok W W.heap.size) (h1 : s1.l = x2 ∧ s1.ok W W.heap.size) (n0 : NewBox W0 W g0) (n1 : NewBox W0 W g1) (d01 : g0 ≠ g1), wpAnyH Try.prog .any moves_ownOps (NoPanic Q) (fun w' => w'.cell? ⟨p3, 0, none⟩ = some (.slice Ax nx cx) ∧ w'.cell? ⟨p4, 0, none⟩ = some (.slice Ay ny cy) ∧ w'.cell? ⟨p5, 0, none⟩ = some (.slice Az nz cz)) 5 #[true, true, true, true, true, false, true, true, false, false, false, false] ⟨#[v0, v1, v2, .pointer (some ⟨p3, 0, none⟩), .pointer (some ⟨p4, 0, none⟩), .pointer (some ⟨p5, 0, none⟩), .bool false, .pointer (some ⟨g0, 0, none⟩), .pointer (some ⟨g1, 0, none⟩), undef, undef, undef, undef, undef, undef, undef, undef, undef, undef, undef, undef, .bool true, .bool false, .agg #[.slice Ax nx cx], .agg #[.slice s0.A s0.n s0.c], .agg #[.slice Ay ny cy], .agg #[.slice s1.A s1.n s1.c], .agg #[.slice Az nz cz], undef, undef, undef, undef, undef, undef, undef, undef, undef, undef, undef, undef, undef, undef, undef, undef, undef, undef, undef, undef, undef, undef, undef, undef, undef, undef, undef, undef, undef, undef, undef, undef, undef, undef, undef, undef, undef, undef, undef, undef, undef, undef, undef, undef, undef, undef, undef, undef, undef, undef, undef, undef, undef, undef, undef, undef, undef, undef, undef, undef, undef, undef, undef, undef, undef, undef, undef, undef, undef, undef, undef, undef, undef, undef, undef, undef, undef, undef, undef, undef, undef, undef, undef, undef, undef, undef], []⟩ W := by
    intro W b s0 s1 g0 g1 h0 h1 n0 n1 d01
    refine wpAnyH_ready (rs := [5, 8]) (by kernel_rfl) (by simp) ?_
    refine AllReadyH.cons (o := { dst := some 28, op := Op.call { callee := Callee.value (Operand.func 9), args := #[Operand.tmp 27], argTypes := #[24] }, type := 24, pos := "outright.go:45", after := #[{ on := 4, ground := Ground.data }, { on := 3, ground := Ground.chain }], guard := none }) rfl (fun K hK => ?_) (AllReadyH.cons (o := { dst := some 9, op := Op.alloc 24, type := 0, pos := "outright.go:45", after := #[], guard := none }) rfl (fun K hK => ?_) (AllReadyH.nil))
    · go_simp
      refine (C2 W b).mono ?_
      rintro e W' ⟨s2, rfl, e2, o2, _, bb⟩
      have b' := b.trans (bb.mono b.size)
      refine hK.out _ _ (HS _ b') (fun _ => ?_)
      clear hK K
      try simp only [List.setIfInBounds_toArray, List.set_cons_zero, List.set_cons_succ]
      exact L3_01 _ b' s0 s1 s2 g0 g1 ⟨h0.1, h0.2.on bb⟩ ⟨h1.1, h1.2.on bb⟩ ⟨e2, o2⟩ (n0.on bb) (n1.on bb) d01
    · go_simp
      have b' := b.alloc b.size (.cells #[.slice none 0 0] 24)
      refine hK.out _ _ (HS _ b') (fun _ => ?_)
      clear hK K
      try simp only [List.setIfInBounds_toArray, List.set_cons_zero, List.set_cons_succ]
      exact L2_012 _ b' s0 s1 g0 g1 W.heap.size ⟨h0.1, h0.2.on (one_more W _)⟩ ⟨h1.1, h1.2.on (one_more W _)⟩ (n0.on (one_more W _)) (n1.on (one_more W _)) (NewBox.new b) d01 (n0.ne_new) (n1.ne_new)
  have L2_02 : ∀ (W : World) (b : Below W0.heap.size W0 W) (s0 : RS) (s1 : RS) (g0 : Nat) (g2 : Nat) (h0 : s0.l = x1 ∧ s0.ok W W.heap.size) (h1 : s1.l = x2 ∧ s1.ok W W.heap.size) (n0 : NewBox W0 W g0) (n2 : NewBox W0 W g2) (d02 : g0 ≠ g2), wpAnyH Try.prog .any moves_ownOps (NoPanic Q) (fun w' => w'.cell? ⟨p3, 0, none⟩ = some (.slice Ax nx cx) ∧ w'.cell? ⟨p4, 0, none⟩ = some (.slice Ay ny cy) ∧ w'.cell? ⟨p5, 0, none⟩ = some (.slice Az nz cz)) 5 #[true, true, true, true, true, false, true, false, true, false, false, false] ⟨#[v0, v1, v2, .pointer (some ⟨p3, 0, none⟩), .pointer (some ⟨p4, 0, none⟩), .pointer (some ⟨p5, 0, none⟩), .bool false, .pointer (some ⟨g0, 0, none⟩), undef, .pointer (some ⟨g2, 0, none⟩), undef, undef, undef, undef, undef, undef, undef, undef, undef, undef, undef, .bool true, .bool false, .agg #[.slice Ax nx cx], .agg #[.slice s0.A s0.n s0.c], .agg #[.slice Ay ny cy], .agg #[.slice s1.A s1.n s1.c], .agg #[.slice Az nz cz], undef, undef, undef, undef, undef, undef, undef, undef, undef, undef, undef, undef, undef, undef, undef, undef, undef, undef, undef, undef, undef, undef, undef, undef, undef, undef, undef, undef, undef, undef, undef, undef, undef, undef, undef, undef, undef, undef, undef, undef, undef, undef, undef, undef, undef, undef, undef, undef, undef, undef, undef, undef, undef, undef, undef, undef, undef, undef, undef, undef, undef, undef, undef, undef, undef, undef, undef, undef, undef, undef, undef, undef, undef, undef, undef, undef, undef, undef, undef, undef, undef, undef, undef, undef, undef, undef], []⟩ W := by
    intro W b s0 s1 g0 g2 h0 h1 n0 n2 d02
    refine wpAnyH_ready (rs := [5, 7]) (by kernel_rfl) (by simp) ?_
    refine AllReadyH.cons (o := { dst := some 28, op := Op.call { callee := Callee.value (Operand.func 9), args := #[Operand.tmp 27], argTypes := #[24] }, type := 24, pos := "outright.go:45", after := #[{ on := 4, ground := Ground.data }, { on := 3, ground := Ground.chain }], guard := none }) rfl (fun K hK => ?_) (AllReadyH.cons (o := { dst := some 8, op := Op.alloc 24, type := 0, pos := "outright.go:45", after := #[], guard := none }) rfl (fun K hK => ?_) (AllReadyH.nil))
    · go_simp
      refine (C2 W b).mono ?_
      rintro e W' ⟨s2, rfl, e2, o2, _, bb⟩
      have b' := b.trans (bb.mono b.size)
      refine hK.out _ _ (HS _ b') (fun _ => ?_)
      clear hK K
      try simp only [List.setIfInBounds_toArray, List.set_cons_zero, List.set_cons_succ]
      exact L3_02 _ b' s0 s1 s2 g0 g2 ⟨h0.1, h0.2.on bb⟩ ⟨h1.1, h1.2.on bb⟩ ⟨e2, o2⟩ (n0.on bb) (n2.on bb) d02
    · go_simp
      have b' := b.alloc b.size (.cells #[.slice none 0 0] 24)
      refine hK.out _ _ (HS _ b') (fun _ => ?_)
      clear hK K
      try simp only [List.setIfInBounds_toArray, List.set_cons_zero, List.set_cons_succ]
      exact L2_012 _ b' s0 s1 g0 W.heap.size g2 ⟨h0.1, h0.2.on (one_more W _)⟩ ⟨h1.1, h1.2.on (one_more W _)⟩ (n0.on (one_more W _)) (NewBox.new b) (n2.on (one_more W _)) (n0.ne_new) d02 (n2.ne_new')
  have L2_12 : ∀ (W : World) (b : Below W0.heap.size W0 W) (s0 : RS) (s1 : RS) (g1 : Nat) (g2 : Nat) (h0 : s0.l = x1 ∧ s0.ok W W.heap.size) (h1 : s1.l = x2 ∧ s1.ok W W.heap.size) (n1 : NewBox W0 W g1) (n2 : NewBox W0 W g2) (d12 : g1 ≠ g2), wpAnyH Try.prog .any moves_ownOps (NoPanic Q) (fun w' => w'.cell? ⟨p3, 0, none⟩ = some (.slice Ax nx cx) ∧ w'.cell? ⟨p4, 0, none⟩ = some (.slice Ay ny cy) ∧ w'.cell? ⟨p5, 0, none⟩ = some (.slice Az nz cz)) 5 #[true, true, true, true, true, false, false, true, true, false, false, false] ⟨#[v0, v1, v2, .pointer (some ⟨p3, 0, none⟩), .pointer (some ⟨p4, 0, none⟩), .pointer (some ⟨p5, 0, none⟩), .bool false, undef, .pointer (some ⟨g1, 0, none⟩), .pointer (some ⟨g2, 0, none⟩), undef, undef, undef, undef, undef, undef, undef, undef, undef, undef, undef, .bool true, .bool false, .agg #[.slice Ax nx cx], .agg #[.slice s0.A s0.n s0.c], .agg #[.slice Ay ny cy], .agg #[.slice s1.A s1.n s1.c], .agg #[.slice Az nz cz], undef, undef, undef, undef, undef, undef, undef, undef, undef, undef, undef, undef, undef, undef, undef, undef, undef, undef, undef, undef, undef, undef, undef, undef, undef, undef, undef, undef, undef, undef, undef, undef, undef, undef, undef, undef, undef, undef, undef, undef, undef, undef, undef, undef, undef, undef, undef, undef, undef, undef, undef, undef, undef, undef, undef, undef, undef, undef, undef, undef, undef, undef, undef, undef, undef, undef, undef, undef, undef, undef, undef, undef, undef, undef, undef, undef, undef, undef, undef, undef, undef, undef, undef, undef, undef, undef], []⟩ W := by
    intro W b s0 s1 g1 g2 h0 h1 n1 n2 d12
    refine wpAnyH_ready (rs := [5, 6]) (by kernel_rfl) (by simp) ?_
    refine AllReadyH.cons (o := { dst := some 28, op := Op.call { callee := Callee.value (Operand.func 9), args := #[Operand.tmp 27], argTypes := #[24] }, type := 24, pos := "outright.go:45", after := #[{ on := 4, ground := Ground.data }, { on := 3, ground := Ground.chain }], guard := none }) rfl (fun K hK => ?_) (AllReadyH.cons (o := { dst := some 7, op := Op.alloc 24, type := 0, pos := "outright.go:45", after := #[], guard := none }) rfl (fun K hK => ?_) (AllReadyH.nil))
    · go_simp
      refine (C2 W b).mono ?_
      rintro e W' ⟨s2, rfl, e2, o2, _, bb⟩
      have b' := b.trans (bb.mono b.size)
      refine hK.out _ _ (HS _ b') (fun _ => ?_)
      clear hK K
      try simp only [List.setIfInBounds_toArray, List.set_cons_zero, List.set_cons_succ]
      exact L3_12 _ b' s0 s1 s2 g1 g2 ⟨h0.1, h0.2.on bb⟩ ⟨h1.1, h1.2.on bb⟩ ⟨e2, o2⟩ (n1.on bb) (n2.on bb) d12
    · go_simp
      have b' := b.alloc b.size (.cells #[.slice none 0 0] 24)
      refine hK.out _ _ (HS _ b') (fun _ => ?_)
      clear hK K
      try simp only [List.setIfInBounds_toArray, List.set_cons_zero, List.set_cons_succ]
      exact L2_012 _ b' s0 s1 W.heap.size g1 g2 ⟨h0.1, h0.2.on (one_more W _)⟩ ⟨h1.1, h1.2.on (one_more W _)⟩ (NewBox.new b) (n1.on (one_more W _)) (n2.on (one_more W _)) (n1.ne_new') (n2.ne_new') d12
  have L1_012 : ∀ (W : World) (b : Below W0.heap.size W0 W) (s0 : RS) (g0 : Nat) (g1 : Nat) (g2 : Nat) (h0 : s0.l = x1 ∧ s0.ok W W.heap.size) (n0 : NewBox W0 W g0) (n1 : NewBox W0 W g1) (n2 : NewBox W0 W g2) (d01 : g0 ≠ g1) (d02 : g0 ≠ g2) (d12 : g1 ≠ g2), wpAnyH Try.prog .any moves_ownOps (NoPanic Q) (fun w' => w'.cell? ⟨p3, 0, none⟩ = some (.slice Ax nx cx) ∧ w'.cell? ⟨p4, 0, none⟩ = some (.slice Ay ny cy) ∧ w'.cell? ⟨p5, 0, none⟩ = some (.slice Az nz cz)) 5 #[true, true, true, false, true, false, true, true, true, false, false, false] ⟨#[v0, v1, v2, .pointer (some ⟨p3, 0, none⟩), .pointer (some ⟨p4, 0, none⟩), .pointer (some ⟨p5, 0, none⟩), .bool false, .pointer (some ⟨g0, 0, none⟩), .pointer (some ⟨g1, 0, none⟩), .pointer (some ⟨g2, 0, none⟩), undef, undef, undef, undef, undef, undef, undef, undef, undef, undef, undef, .bool true, .bool false, .agg #[.slice Ax nx cx], .agg #[.slice s0.A s0.n s0.c], .agg #[.slice Ay ny cy], undef, .agg #[.slice Az nz cz], undef, undef, undef, undef, undef, undef, undef, undef, undef, undef, undef, undef, undef, undef, undef, undef, undef, undef, undef, undef, undef, undef, undef, undef, undef, undef, undef, undef, undef, undef, undef, undef, undef, undef, undef, undef, undef, undef, undef, undef, undef, undef, undef, undef, undef, undef, undef, undef, undef, undef, undef, undef, undef, undef, undef, undef, undef, undef, undef, undef, undef, undef, undef, undef, undef, undef, undef, undef, undef, undef, undef, undef, undef, undef, undef, undef, undef, undef, undef, undef, undef, undef, undef, undef, undef, undef], []⟩ W := by
    intro W b s0 g0 g1 g2 h0 n0 n1 n2 d01 d02 d12
    refine wpAnyH_ready (rs := [3]) (by kernel_rfl) (by simp) ?_
    refine AllReadyH.cons (o := { dst := some 26, op := Op.call { callee := Callee.value (Operand.func 9), args := #[Operand.tmp 25], argTypes := #[24] }, type := 24, pos := "outright.go:45", after := #[{ on := 2, ground := Ground.data }, { on := 1, ground := Ground.chain }], guard := none }) rfl (fun K hK => ?_) (AllReadyH.nil)
    · go_simp
      refine (C1 W b).mono ?_
      rintro e W' ⟨s1, rfl, e1, o1, _, bb⟩
      have b' := b.trans (bb.mono b.size)
      refine hK.out _ _ (HS _ b') (fun _ => ?_)
      clear hK K
      try simp only [List.setIfInBounds_toArray, List.set_cons_zero, List.set_cons_succ]
      exact L2_012 _ b' s0 s1 g0 g1 g2 ⟨h0.1, h0.2.on bb⟩ ⟨e1, o1⟩ (n0.on bb) (n1.on bb) (n2.on bb) d01 d02 d12
  have L3_ : ∀ (W : World) (b : Below W0.heap.size W0 W) (s0 : RS) (s1 : RS) (s2 : RS) (h0 : s0.l = x1 ∧ s0.ok W W.heap.size) (h1 : s1.l = x2 ∧ s1.ok W W.heap.size) (h2 : s2.l = x3 ∧ s2.ok W W.heap.size), wpAnyH Try.prog .any moves_ownOps (NoPanic Q) (fun w' => w'.cell? ⟨p3, 0, none⟩ = some (.slice Ax nx cx) ∧ w'.cell? ⟨p4, 0, none⟩ = some (.slice Ay ny cy) ∧ w'.cell? ⟨p5, 0, none⟩ = some (.slice Az nz cz)) 6 #[true, true, true, true, true, true, false, false, false, false, false, false] ⟨#[v0, v1, v2, .pointer (some ⟨p3, 0, none⟩), .pointer (some ⟨p4, 0, none⟩), .pointer (some ⟨p5, 0, none⟩), .bool false, undef, undef, undef, undef, undef, undef, undef, undef, undef, undef, undef, undef, undef, undef, .bool true, .bool false, .agg #[.slice Ax nx cx], .agg #[.slice s0.A s0.n s0.c], .agg #[.slice Ay ny cy], .agg #[.slice s1.A s1.n s1.c], .agg #[.slice Az nz cz], .agg #[.slice s2.A s2.n s2.c], undef, undef, undef, undef, undef, undef, undef, undef, undef, undef, undef, undef, undef, undef, undef, undef, undef, undef, undef, undef, undef, undef, undef, undef, undef, undef, undef, undef, undef, undef, undef, undef, undef, undef, undef, undef, undef, undef, undef, undef, undef, undef, undef, undef, undef, undef, undef, undef, undef, undef, undef, undef, undef, undef, undef, undef, undef, undef, undef, undef, undef, undef, undef, undef, undef, undef, undef, undef, undef, undef, undef, undef, undef, undef, undef, undef, undef, undef, undef, undef, undef, undef, undef, undef, undef], []⟩ W := by
    intro W b s0 s1 s2 h0 h1 h2
    refine wpAnyH_ready (rs := [6, 7, 8]) (by kernel_rfl) (by simp) ?_
    refine AllReadyH.cons (o := { dst := some 7, op := Op.alloc 24, type := 0, pos := "outright.go:45", after := #[], guard := none }) rfl (fun K hK => ?_) (AllReadyH.cons (o := { dst := some 8, op := Op.alloc 24, type := 0, pos := "outright.go:45", after := #[], guard := none }) rfl (fun K hK => ?_) (AllReadyH.cons (o := { dst := some 9, op := Op.alloc 24, type := 0, pos := "outright.go:45", after := #[], guard := none }) rfl (fun K hK => ?_) (AllReadyH.nil)))
    · go_simp
      have b' := b.alloc b.size (.cells #[.slice none 0 0] 24)
      refine hK.out _ _ (HS _ b') (fun _ => ?_)
      clear hK K
      try simp only [List.setIfInBounds_toArray, List.set_cons_zero, List.set_cons_succ]
      exact L3_0 _ b' s0 s1 s2 W.heap.size ⟨h0.1, h0.2.on (one_more W _)⟩ ⟨h1.1, h1.2.on (one_more W _)⟩ ⟨h2.1, h2.2.on (one_more W _)⟩ (NewBox.new b)
    · go_simp
      have b' := b.alloc b.size (.cells #[.slice none 0 0] 24)
      refine hK.out _ _ (HS _ b') (fun _ => ?_)
      clear hK K
      try simp only [List.setIfInBounds_toArray, List.set_cons_zero, List.set_cons_succ]
      exact L3_1 _ b' s0 s1 s2 W.heap.size ⟨h0.1, h0.2.on (one_more W _)⟩ ⟨h1.1, h1.2.on (one_more W _)⟩ ⟨h2.1, h2.2.on (one_more W _)⟩ (NewBox.new b)
    · go_simp
      have b' := b.alloc b.size (.cells #[.slice none 0 0] 24)
      refine hK.out _ _ (HS _ b') (fun _ => ?_)
      clear hK K
      try simp only [List.setIfInBounds_toArray, List.set_cons_zero, List.set_cons_succ]
      exact L3_2 _ b' s0 s1 s2 W.heap.size ⟨h0.1, h0.2.on (one_more W _)⟩ ⟨h1.1, h1.2.on (one_more W _)⟩ ⟨h2.1, h2.2.on (one_more W _)⟩ (NewBox.new b)
  have L2_0 : ∀ (W : World) (b : Below W0.heap.size W0 W) (s0 : RS) (s1 : RS) (g0 : Nat) (h0 : s0.l = x1 ∧ s0.ok W W.heap.size) (h1 : s1.l = x2 ∧ s1.ok W W.heap.size) (n0 : NewBox W0 W g0), wpAnyH Try.prog .any moves_ownOps (NoPanic Q) (fun w' => w'.cell? ⟨p3, 0, none⟩ = some (.slice Ax nx cx) ∧ w'.cell? ⟨p4, 0, none⟩ = some (.slice Ay ny cy) ∧ w'.cell? ⟨p5, 0, none⟩ = some (.slice Az nz cz)) 6 #[true, true, true, true, true, false, true, false, false, false, false, false] ⟨#[v0, v1, v2, .pointer (some ⟨p3, 0, none⟩), .pointer (some ⟨p4, 0, none⟩), .pointer (some ⟨p5, 0, none⟩), .bool false, .pointer (some ⟨g0, 0, none⟩), undef, undef, undef, undef, undef, undef, undef, undef, undef, undef, undef, undef, undef, .bool true, .bool false, .agg #[.slice Ax nx cx], .agg #[.slice s0.A s0.n s0.c], .agg #[.slice Ay ny cy], .agg #[.slice s1.A s1.n s1.c], .agg #[.slice Az nz cz], undef, undef, undef, undef, undef, undef, undef, undef, undef, undef, undef, undef, undef, undef, undef, undef, undef, undef, undef, undef, undef, undef, undef, undef, undef, undef, undef, undef, undef, undef, undef, undef, undef, undef, undef, undef, undef, undef, undef, undef, undef, undef, undef, undef, undef, undef, undef, undef, undef, undef, undef, undef, undef, undef, undef, undef, undef, undef, undef, undef, undef, undef, undef, undef, undef, undef, undef, undef, undef, undef, undef, undef, undef, undef, undef, undef, undef, undef, undef, undef, undef, undef, undef, undef, undef, undef], []⟩ W := by
    intro W b s0 s1 g0 h0 h1 n0
    refine wpAnyH_ready (rs := [5, 7, 8]) (by kernel_rfl) (by simp) ?_
    refine AllReadyH.cons (o := { dst := some 28, op := Op.call { callee := Callee.value (Operand.func 9), args := #[Operand.tmp 27], argTypes := #[24] }, type := 24, pos := "outright.go:45", after := #[{ on := 4, ground := Ground.data }, { on := 3, ground := Ground.chain }], guard := none }) rfl (fun K hK => ?_) (AllReadyH.cons (o := { dst := some 8, op := Op.alloc 24, type := 0, pos := "outright.go:45", after := #[], guard := none }) rfl (fun K hK => ?_) (AllReadyH.cons (o := { dst := some 9, op := Op.alloc 24, type := 0, pos := "outright.go:45", after := #[], guard := none }) rfl (fun K hK => ?_) (AllReadyH.nil)))
    · go_simp
      refine (C2 W b).mono ?_
      rintro e W' ⟨s2, rfl, e2, o2, _, bb⟩
      have b' := b.trans (bb.mono b.size)
      refine hK.out _ _ (HS _ b') (fun _ => ?_)
      clear hK K
      try simp only [List.setIfInBounds_toArray, List.set_cons_zero, List.set_cons_succ]
      exact L3_0 _ b' s0 s1 s2 g0 ⟨h0.1, h0.2.on bb⟩ ⟨h1.1, h1.2.on bb⟩ ⟨e2, o2⟩ (n0.on bb)
    · go_simp
      have b' := b.alloc b.size (.cells #[.slice none 0 0] 24)
      refine hK.out _ _ (HS _ b') (fun _ => ?_)
      clear hK K
      try simp only [List.setIfInBounds_toArray, List.set_cons_zero, List.set_cons_succ]
      exact L2_01 _ b' s0 s1 g0 W.heap.size ⟨h0.1, h0.2.on (one_more W _)⟩ ⟨h1.1, h1.2.on (one_more W _)⟩ (n0.on (one_more W _)) (NewBox.new b) (n0.ne_new)
    · go_simp
      have b' := b.alloc b.size (.cells #[.slice none 0 0] 24)
      refine hK.out _ _ (HS _ b') (fun _ => ?_)
      clear hK K
      try simp only [List.setIfInBounds_toArray, List.set_cons_zero, List.set_cons_succ]
      exact L2_02 _ b' s0 s1 g0 W.heap.size ⟨h0.1, h0.2.on (one_more W _)⟩ ⟨h1.1, h1.2.on (one_more W _)⟩ (n0.on (one_more W _)) (NewBox.new b) (n0.ne_new)
  have L2_1 : ∀ (W : World) (b : Below W0.heap.size W0 W) (s0 : RS) (s1 : RS) (g1 : Nat) (h0 : s0.l = x1 ∧ s0.ok W W.heap.size) (h1 : s1.l = x2 ∧ s1.ok W W.heap.size) (n1 : NewBox W0 W g1), wpAnyH Try.prog .any moves_ownOps (NoPanic Q) (fun w' => w'.cell? ⟨p3, 0, none⟩ = some (.slice Ax nx cx) ∧ w'.cell? ⟨p4, 0, none⟩ = some (.slice Ay ny cy) ∧ w'.cell? ⟨p5, 0, none⟩ = some (.slice Az nz cz)) 6 #[true, true, true, true, true, false, false, true, false, false, false, false] ⟨#[v0, v1, v2, .pointer (some ⟨p3, 0, none⟩), .pointer (some ⟨p4, 0, none⟩), .pointer (some ⟨p5, 0, none⟩), .bool false, undef, .pointer (some ⟨g1, 0, none⟩), undef, undef, undef, undef, undef, undef, undef, undef, undef, undef, undef, undef, .bool true, .bool false, .agg #[.slice Ax nx cx], .agg #[.slice s0.A s0.n s0.c], .agg #[.slice Ay ny cy], .agg #[.slice s1.A s1.n s1.c], .agg #[.slice Az nz cz], undef, undef, undef, undef, undef, undef, undef, undef, undef, undef, undef, undef, undef, undef, undef, undef, undef, undef, undef, undef, undef, undef, undef, undef, undef, undef, undef, undef, undef, undef, undef, undef, undef, undef, undef, undef, undef, undef, undef, undef, undef, undef, undef, undef, undef, undef, undef, undef, undef, undef, undef, undef, undef, undef, undef, undef, undef, undef, undef, undef, undef, undef, undef, undef, undef, undef, undef, undef, undef, undef, undef, undef, undef, undef, undef, undef, undef, undef, undef, undef, undef, undef, undef, undef, undef, undef], []⟩ W := by
    intro W b s0 s1 g1 h0 h1 n1
    refine wpAnyH_ready (rs := [5, 6, 8]) (by kernel_rfl) (by simp) ?_
    refine AllReadyH.cons (o := { dst := some 28, op := Op.call { callee := Callee.value (Operand.func 9), args := #[Operand.tmp 27], argTypes := #[24] }, type := 24, pos := "outright.go:45", after := #[{ on := 4, ground := Ground.data }, { on := 3, ground := Ground.chain }], guard := none }) rfl (fun K hK => ?_) (AllReadyH.cons (o := { dst := some 7, op := Op.alloc 24, type := 0, pos := "outright.go:45", after := #[], guard := none }) rfl (fun K hK => ?_) (AllReadyH.cons (o := { dst := some 9, op := Op.alloc 24, type := 0, pos := "outright.go:45", after := #[], guard := none }) rfl (fun K hK => ?_) (AllReadyH.nil)))
    · go_simp
      refine (C2 W b).mono ?_
      rintro e W' ⟨s2, rfl, e2, o2, _, bb⟩
      have b' := b.trans (bb.mono b.size)
      refine hK.out _ _ (HS _ b') (fun _ => ?_)
      clear hK K
      try simp only [List.setIfInBounds_toArray, List.set_cons_zero, List.set_cons_succ]
      exact L3_1 _ b' s0 s1 s2 g1 ⟨h0.1, h0.2.on bb⟩ ⟨h1.1, h1.2.on bb⟩ ⟨e2, o2⟩ (n1.on bb)
    · go_simp
      have b' := b.alloc b.size (.cells #[.slice none 0 0] 24)
      refine hK.out _ _ (HS _ b') (fun _ => ?_)
      clear hK K
      try simp only [List.setIfInBounds_toArray, List.set_cons_zero, List.set_cons_succ]
      exact L2_01 _ b' s0 s1 W.heap.size g1 ⟨h0.1, h0.2.on (one_more W _)⟩ ⟨h1.1, h1.2.on (one_more W _)⟩ (NewBox.new b) (n1.on (one_more W _)) (n1.ne_new')
    · go_simp
      have b' := b.alloc b.size (.cells #[.slice none 0 0] 24)
      refine hK.out _ _ (HS _ b') (fun _ => ?_)
      clear hK K
      try simp only [List.setIfInBounds_toArray, List.set_cons_zero, List.set_cons_succ]
      exact L2_12 _ b' s0 s1 g1 W.heap.size ⟨h0.1, h0.2.on (one_more W _)⟩ ⟨h1.1, h1.2.on (one_more W _)⟩ (n1.on (one_more W _)) (NewBox.new b) (n1.ne_new)
  have L2_2 : ∀ (W : World) (b : Below W0.heap.size W0 W) (s0 : RS) (s1 : RS) (g2 : Nat) (h0 : s0.l = x1 ∧ s0.ok W W.heap.size) (h1 : s1.l = x2 ∧ s1.ok W W.heap.size) (n2 : NewBox W0 W g2), wpAnyH Try.prog .any moves_ownOps (NoPanic Q) (fun w' => w'.cell? ⟨p3, 0, none⟩ = some (.slice Ax nx cx) ∧ w'.cell? ⟨p4, 0, none⟩ = some (.slice Ay ny cy) ∧ w'.cell? ⟨p5, 0, none⟩ = some (.slice Az nz cz)) 6 #[true, true, true, true, true, false, false, false, true, false, false, false] ⟨#[v0, v1, v2, .pointer (some ⟨p3, 0, none⟩), .pointer (some ⟨p4, 0, none⟩), .pointer (some ⟨p5, 0, none⟩), .bool false, undef, undef, .pointer (some ⟨g2, 0, none⟩), undef, undef, undef, undef, undef, undef, undef, undef, undef, undef, undef, .bool true, .bool false, .agg #[.slice Ax nx cx], .agg #[.slice s0.A s0.n s0.c], .agg #[.slice Ay ny cy], .agg #[.slice s1.A s1.n s1.c], .agg #[.slice Az nz cz], undef, undef, undef, undef, undef, undef, undef, undef, undef, undef, undef, undef, undef, undef, undef, undef, undef, undef, undef, undef, undef, undef, undef, undef, undef, undef, undef, undef, undef, undef, undef, undef, undef, undef, undef, undef, undef, undef, undef, undef, undef, undef, undef, undef, undef, undef, undef, undef, undef, undef, undef, undef, undef, undef, undef, undef, undef, undef, undef, undef, undef, undef, undef, undef, undef, undef, undef, undef, undef, undef, undef, undef, undef, undef, undef, undef, undef, undef, undef, undef, undef, undef, undef, undef, undef, undef], []⟩ W := by
    intro W b s0 s1 g2 h0 h1 n2
    refine wpAnyH_ready (rs := [5, 6, 7]) (by kernel_rfl) (by simp) ?_
    refine AllReadyH.cons (o := { dst := some 28, op := Op.call { callee := Callee.value (Operand.func 9), args := #[Operand.tmp 27], argTypes := #[24] }, type := 24, pos := "outright.go:45", after := #[{ on := 4, ground := Ground.data }, { on := 3, ground := Ground.chain }], guard := none }) rfl (fun K hK => ?_) (AllReadyH.cons (o := { dst := some 7, op := Op.alloc 24, type := 0, pos := "outright.go:45", after := #[], guard := none }) rfl (fun K hK => ?_) (AllReadyH.cons (o := { dst := some 8, op := Op.alloc 24, type := 0, pos := "outright.go:45", after := #[], guard := none }) rfl (fun K hK => ?_) (AllReadyH.nil)))
    · go_simp
      refine (C2 W b).mono ?_
      rintro e W' ⟨s2, rfl, e2, o2, _, bb⟩
      have b' := b.trans (bb.mono b.size)
      refine hK.out _ _ (HS _ b') (fun _ => ?_)
      clear hK K
      try simp only [List.setIfInBounds_toArray, List.set_cons_zero, List.set_cons_succ]
      exact L3_2 _ b' s0 s1 s2 g2 ⟨h0.1, h0.2.on bb⟩ ⟨h1.1, h1.2.on bb⟩ ⟨e2, o2⟩ (n2.on bb)
    · go_simp
      have b' := b.alloc b.size (.cells #[.slice none 0 0] 24)
      refine hK.out _ _ (HS _ b') (fun _ => ?_)
      clear hK K
      try simp only [List.setIfInBounds_toArray, List.set_cons_zero, List.set_cons_succ]
      exact L2_02 _ b' s0 s1 W.heap.size g2 ⟨h0.1, h0.2.on (one_more W _)⟩ ⟨h1.1, h1.2.on (one_more W _)⟩ (NewBox.new b) (n2.on (one_more W _)) (n2.ne_new')
    · go_simp
      have b' := b.alloc b.size (.cells #[.slice none 0 0] 24)
      refine hK.out _ _ (HS _ b') (fun _ => ?_)
      clear hK K
      try simp only [List.setIfInBounds_toArray, List.set_cons_zero, List.set_cons_succ]
      exact L2_12 _ b' s0 s1 W.heap.size g2 ⟨h0.1, h0.2.on (one_more W _)⟩ ⟨h1.1, h1.2.on (one_more W _)⟩ (NewBox.new b) (n2.on (one_more W _)) (n2.ne_new')
  have L1_01 : ∀ (W : World) (b : Below W0.heap.size W0 W) (s0 : RS) (g0 : Nat) (g1 : Nat) (h0 : s0.l = x1 ∧ s0.ok W W.heap.size) (n0 : NewBox W0 W g0) (n1 : NewBox W0 W g1) (d01 : g0 ≠ g1), wpAnyH Try.prog .any moves_ownOps (NoPanic Q) (fun w' => w'.cell? ⟨p3, 0, none⟩ = some (.slice Ax nx cx) ∧ w'.cell? ⟨p4, 0, none⟩ = some (.slice Ay ny cy) ∧ w'.cell? ⟨p5, 0, none⟩ = some (.slice Az nz cz)) 6 #[true, true, true, false, true, false, true, true, false, false, false, false] ⟨#[v0, v1, v2, .pointer (some ⟨p3, 0, none⟩), .pointer (some ⟨p4, 0, none⟩), .pointer (some ⟨p5, 0, none⟩), .bool false, .pointer (some ⟨g0, 0, none⟩), .pointer (some ⟨g1, 0, none⟩), undef, undef, undef, undef, undef, undef, undef, undef, undef, undef, undef, undef, .bool true, .bool false, .agg #[.slice Ax nx cx], .agg #[.slice s0.A s0.n s0.c], .agg #[.slice Ay ny cy], undef, .agg #[.slice Az nz cz], undef, undef, undef, undef, undef, undef, undef, undef, undef, undef, undef, undef, undef, undef, undef, undef, undef, undef, undef, undef, undef, undef, undef, undef, undef, undef, undef, undef, undef, undef, undef, undef, undef, undef, undef, undef, undef, undef, undef, undef, undef, undef, undef, undef, undef, undef, undef, undef, undef, undef, undef, undef, undef, undef, undef, undef, undef, undef, undef, undef, undef, undef, undef, undef, undef, undef, undef, undef, undef, undef, undef, undef, undef, undef, undef, undef, undef, undef, undef, undef, undef, undef, undef, undef, undef, undef], []⟩ W := by
    intro W b s0 g0 g1 h0 n0 n1 d01
    refine wpAnyH_ready (rs := [3, 8]) (by kernel_rfl) (by simp) ?_
    refine AllReadyH.cons (o := { dst := some 26, op := Op.call { callee := Callee.value (Operand.func 9), args := #[Operand.tmp 25], argTypes := #[24] }, type := 24, pos := "outright.go:45", after := #[{ on := 2, ground := Ground.data }, { on := 1, ground := Ground.chain }], guard := none }) rfl (fun K hK => ?_) (AllReadyH.cons (o := { dst := some 9, op := Op.alloc 24, type := 0, pos := "outright.go:45", after := #[], guard := none }) rfl (fun K hK => ?_) (AllReadyH.nil))
    · go_simp
      refine (C1 W b).mono ?_
      rintro e W' ⟨s1, rfl, e1, o1, _, bb⟩
      have b' := b.trans (bb.mono b.size)
      refine hK.out _ _ (HS _ b') (fun _ => ?_)
      clear hK K
      try simp only [List.setIfInBounds_toArray, List.set_cons_zero, List.set_cons_succ]
      exact L2_01 _ b' s0 s1 g0 g1 ⟨h0.1, h0.2.on bb⟩ ⟨e1, o1⟩ (n0.on bb) (n1.on bb) d01
    · go_simp
      have b' := b.alloc b.size (.cells #[.slice none 0 0] 24)
      refine hK.out _ _ (HS _ b') (fun _ => ?_)
      clear hK K
      try simp only [List.setIfInBounds_toArray, List.set_cons_zero, List.set_cons_succ]
      exact L1_012 _ b' s0 g0 g1 W.heap.size ⟨h0.1, h0.2.on (one_more W _)⟩ (n0.on (one_more W _)) (n1.on (one_more W _)) (NewBox.new b) d01 (n0.ne_new) (n1.ne_new)
  have L1_02 : ∀ (W : World) (b : Below W0.heap.size W0 W) (s0 : RS) (g0 : Nat) (g2 : Nat) (h0 : s0.l = x1 ∧ s0.ok W W.heap.size) (n0 : NewBox W0 W g0) (n2 : NewBox W0 W g2) (d02 : g0 ≠ g2), wpAnyH Try.prog .any moves_ownOps (NoPanic Q) (fun w' => w'.cell? ⟨p3, 0, none⟩ = some (.slice Ax nx cx) ∧ w'.cell? ⟨p4, 0, none⟩ = some (.slice Ay ny cy) ∧ w'.cell? ⟨p5, 0, none⟩ = some (.slice Az nz cz)) 6 #[true, true, true, false, true, false, true, false, true, false, false, false] ⟨#[v0, v1, v2, .pointer (some ⟨p3, 0, none⟩), .pointer (some ⟨p4, 0, none⟩), .pointer (some ⟨p5, 0, none⟩), .bool false, .pointer (some ⟨g0, 0, none⟩), undef, .pointer (some ⟨g2, 0, none⟩), undef, undef, undef, undef, undef, undef, undef, undef, undef, undef, undef, .bool true, .bool false, .agg #[.slice Ax nx cx], .agg #[.slice s0.A s0.n s0.c], .agg #[.slice Ay ny cy], undef, .agg #[.slice Az nz cz], undef, undef, undef, undef, undef, undef, undef, undef, undef, undef, undef, undef, undef, undef, undef, undef, undef, undef, undef, undef, undef, undef, undef, undef, undef, undef, undef, undef, undef, undef, undef, undef, undef, undef, undef, undef, undef, undef, undef, undef, undef, undef, undef, undef, undef, undef, undef, undef, undef, undef, undef, undef, undef, undef, undef, undef, undef, undef, undef, undef, undef, undef, undef, undef, undef, undef, undef, undef, undef, undef, undef, undef, undef, undef, undef, undef, undef, undef, undef, undef, undef, undef, undef, undef, undef, undef], []⟩ W := by
    intro W b s0 g0 g2 h0 n0 n2 d02
    refine wpAnyH_ready (rs := [3, 7]) (by kernel_rfl) (by simp) ?_
    refine AllReadyH.cons (o := { dst := some 26, op := Op.call { callee := Callee.value (Operand.func 9), args := #[Operand.tmp 25], argTypes := #[24] }, type := 24, pos := "outright.go:45", after := #[{ on := 2, ground := Ground.data }, { on := 1, ground := Ground.chain }], guard := none }) rfl (fun K hK => ?_) (AllReadyH.cons (o := { dst := some 8, op := Op.alloc 24, type := 0, pos := "outright.go:45", after := #[], guard := none }) rfl (fun K hK => ?_) (AllReadyH.nil))
    · go_simp
      refine (C1 W b).mono ?_
      rintro e W' ⟨s1, rfl, e1, o1, _, bb⟩
      have b' := b.trans (bb.mono b.size)
      refine hK.out _ _ (HS _ b') (fun _ => ?_)
      clear hK K
      try simp only [List.setIfInBounds_toArray, List.set_cons_zero, List.set_cons_succ]
      exact L2_02 _ b' s0 s1 g0 g2 ⟨h0.1, h0.2.on bb⟩ ⟨e1, o1⟩ (n0.on bb) (n2.on bb) d02
    · go_simp
      have b' := b.alloc b.size (.cells #[.slice none 0 0] 24)
      refine hK.out _ _ (HS _ b') (fun _ => ?_)
      clear hK K
      try simp only [List.setIfInBounds_toArray, List.set_cons_zero, List.set_cons_succ]
      exact L1_012 _ b' s0 g0 W.heap.size g2 ⟨h0.1, h0.2.on (one_more W _)⟩ (n0.on (one_more W _)) (NewBox.new b) (n2.on (one_more W _)) (n0.ne_new) d02 (n2.ne_new')
  have L1_12 : ∀ (W : World) (b : Below W0.heap.size W0 W) (s0 : RS) (g1 : Nat) (g2 : Nat) (h0 : s0.l = x1 ∧ s0.ok W W.heap.size) (n1 : NewBox W0 W g1) (n2 : NewBox W0 W g2) (d12 : g1 ≠ g2), wpAnyH Try.prog .any moves_ownOps (NoPanic Q) (fun w' => w'.cell? ⟨p3, 0, none⟩ = some (.slice Ax nx cx) ∧ w'.cell? ⟨p4, 0, none⟩ = some (.slice Ay ny cy) ∧ w'.cell? ⟨p5, 0, none⟩ = some (.slice Az nz cz)) 6 #[true, true, true, false, true, false, false, true, true, false, false, false] ⟨#[v0, v1, v2, .pointer (some ⟨p3, 0, none⟩), .pointer (some ⟨p4, 0, none⟩), .pointer (some ⟨p5, 0, none⟩), .bool false, undef, .pointer (some ⟨g1, 0, none⟩), .pointer (some ⟨g2, 0, none⟩), undef, undef, undef, undef, undef, undef, undef, undef, undef, undef, undef, .bool true, .bool false, .agg #[.slice Ax nx cx], .agg #[.slice s0.A s0.n s0.c], .agg #[.slice Ay ny cy], undef, .agg #[.slice Az nz cz], undef, undef, undef, undef, undef, undef, undef, undef, undef, undef, undef, undef, undef, undef, undef, undef, undef, undef, undef, undef, undef, undef, undef, undef, undef, undef, undef, undef, undef, undef, undef, undef, undef, undef, undef, undef, undef, undef, undef, undef, undef, undef, undef, undef, undef, undef, undef, undef, undef, undef, undef, undef, undef, undef, undef, undef, undef, undef, undef, undef, undef, undef, undef, undef, undef, undef, undef, undef, undef, undef, undef, undef, undef, undef, undef, undef, undef, undef, undef, undef, undef, undef, undef, undef, undef, undef], []⟩ W := by
    intro W b s0 g1 g2 h0 n1 n2 d12
    refine wpAnyH_ready (rs := [3, 6]) (by kernel_rfl) (by simp) ?_
    refine AllReadyH.cons (o := { dst := some 26, op := Op.call { callee := Callee.value (Operand.func 9), args := #[Operand.tmp 25], argTypes := #[24] }, type := 24, pos := "outright.go:45", after := #[{ on := 2, ground := Ground.data }, { on := 1, ground := Ground.chain }], guard := none }) rfl (fun K hK => ?_) (AllReadyH.cons (o := { dst := some 7, op := Op.alloc 24, type := 0, pos := "outright.go:45", after := #[], guard := none }) rfl (fun K hK => ?_) (AllReadyH.nil))
    · go_simp
      refine (C1 W b).mono ?_
      rintro e W' ⟨s1, rfl, e1, o1, _, bb⟩
      have b' := b.trans (bb.mono b.size)
      refine hK.out _ _ (HS _ b') (fun _ => ?_)
      clear hK K
      try simp only [List.setIfInBounds_toArray, List.set_cons_zero, List.set_cons_succ]
      exact L2_12 _ b' s0 s1 g1 g2 ⟨h0.1, h0.2.on bb⟩ ⟨e1, o1⟩ (n1.on bb) (n2.on bb) d12
    · go_simp
      have b' := b.alloc b.size (.cells #[.slice none 0 0] 24)
      refine hK.out _ _ (HS _ b') (fun _ => ?_)
      clear hK K
      try simp only [List.setIfInBounds_toArray, List.set_cons_zero, List.set_cons_succ]
      exact L1_012 _ b' s0 W.heap.size g1 g2 ⟨h0.1, h0.2.on (one_more W _)⟩ (NewBox.new b) (n1.on (one_more W _)) (n2.on (one_more W _)) (n1.ne_new') (n2.ne_new') d12
  have L0_012 : ∀ (W : World) (b : Below W0.heap.size W0 W) (g0 : Nat) (g1 : Nat) (g2 : Nat) (n0 : NewBox W0 W g0) (n1 : NewBox W0 W g1) (n2 : NewBox W0 W g2) (d01 : g0 ≠ g1) (d02 : g0 ≠ g2) (d12 : g1 ≠ g2), wpAnyH Try.prog .any moves_ownOps (NoPanic Q) (fun w' => w'.cell? ⟨p3, 0, none⟩ = some (.slice Ax nx cx) ∧ w'.cell? ⟨p4, 0, none⟩ = some (.slice Ay ny cy) ∧ w'.cell? ⟨p5, 0, none⟩ = some (.slice Az nz cz)) 6 #[true, false, true, false, true, false, true, true, true, false, false, false] ⟨#[v0, v1, v2, .pointer (some ⟨p3, 0, none⟩), .pointer (some ⟨p4, 0, none⟩), .pointer (some ⟨p5, 0, none⟩), .bool false, .pointer (some ⟨g0, 0, none⟩), .pointer (some ⟨g1, 0, none⟩), .pointer (some ⟨g2, 0, none⟩), undef, undef, undef, undef, undef, undef, undef, undef, undef, undef, undef, .bool true, .bool false, .agg #[.slice Ax nx cx], undef, .agg #[.slice Ay ny cy], undef, .agg #[.slice Az nz cz], undef, undef, undef, undef, undef, undef, undef, undef, undef, undef, undef, undef, undef, undef, undef, undef, undef, undef, undef, undef, undef, undef, undef, undef, undef, undef, undef, undef, undef, undef, undef, undef, undef, undef, undef, undef, undef, undef, undef, undef, undef, undef, undef, undef, undef, undef, undef, undef, undef, undef, undef, undef, undef, undef, undef, undef, undef, undef, undef, undef, undef, undef, undef, undef, undef, undef, undef, undef, undef, undef, undef, undef, undef, undef, undef, undef, undef, undef, undef, undef, undef, undef, undef, undef, undef, undef], []⟩ W := by
    intro W b  g0 g1 g2 n0 n1 n2 d01 d02 d12
    refine wpAnyH_ready (rs := [1]) (by kernel_rfl) (by simp) ?_
    refine AllReadyH.cons (o := { dst := some 24, op := Op.call { callee := Callee.value (Operand.func 9), args := #[Operand.tmp 23], argTypes := #[24] }, type := 24, pos := "outright.go:45", after := #[{ on := 0, ground := Ground.data }], guard := none }) rfl (fun K hK => ?_) (AllReadyH.nil)
    · go_simp
      refine (C0 W b).mono ?_
      rintro e W' ⟨s0, rfl, e0, o0, _, bb⟩
      have b' := b.trans (bb.mono b.size)
      refine hK.out _ _ (HS _ b') (fun _ => ?_)
      clear hK K
      try simp only [List.setIfInBounds_toArray, List.set_cons_zero, List.set_cons_succ]
      exact L1_012 _ b' s0 g0 g1 g2 ⟨e0, o0⟩ (n0.on bb) (n1.on bb) (n2.on bb) d01 d02 d12
  have L2_ : ∀ (W : World) (b : Below W0.heap.size W0 W) (s0 : RS) (s1 : RS) (h0 : s0.l = x1 ∧ s0.ok W W.heap.size) (h1 : s1.l = x2 ∧ s1.ok W W.heap.size), wpAnyH Try.prog .any moves_ownOps (NoPanic Q) (fun w' => w'.cell? ⟨p3, 0, none⟩ = some (.slice Ax nx cx) ∧ w'.cell? ⟨p4, 0, none⟩ = some (.slice Ay ny cy) ∧ w'.cell? ⟨p5, 0, none⟩ = some (.slice Az nz cz)) 7 #[true, true, true, true, true, false, false, false, false, false, false, false] ⟨#[v0, v1, v2, .pointer (some ⟨p3, 0, none⟩), .pointer (some ⟨p4, 0, none⟩), .pointer (some ⟨p5, 0, none⟩), .bool false, undef, undef, undef, undef, undef, undef, undef, undef, undef, undef, undef, undef, undef, undef, .bool true, .bool false, .agg #[.slice Ax nx cx], .agg #[.slice s0.A s0.n s0.c], .agg #[.slice Ay ny cy], .agg #[.slice s1.A s1.n s1.c], .agg #[.slice Az nz cz], undef, undef, undef, undef, undef, undef, undef, undef, undef, undef, undef, undef, undef, undef, undef, undef, undef, undef, undef, undef, undef, undef, undef, undef, undef, undef, undef, undef, undef, undef, undef, undef, undef, undef, undef, undef, undef, undef, undef, undef, undef, undef, undef, undef, undef, undef, undef, undef, undef, undef, undef, undef, undef, undef, undef, undef, undef, undef, undef, undef, undef, undef, undef, undef, undef, undef, undef, undef, undef, undef, undef, undef, undef, undef, undef, undef, undef, undef, undef, undef, undef, undef, undef, undef, undef, undef], []⟩ W := by
    intro W b s0 s1 h0 h1
    refine wpAnyH_ready (rs := [5, 6, 7, 8]) (by kernel_rfl) (by simp) ?_
    refine AllReadyH.cons (o := { dst := some 28, op := Op.call { callee := Callee.value (Operand.func 9), args := #[Operand.tmp 27], argTypes := #[24] }, type := 24, pos := "outright.go:45", after := #[{ on := 4, ground := Ground.data }, { on := 3, ground := Ground.chain }], guard := none }) rfl (fun K hK => ?_) (AllReadyH.cons (o := { dst := some 7, op := Op.alloc 24, type := 0, pos := "outright.go:45", after := #[], guard := none }) rfl (fun K hK => ?_) (AllReadyH.cons (o := { dst := some 8, op := Op.alloc 24, type := 0, pos := "outright.go:45", after := #[], guard := none }) rfl (fun K hK => ?_) (AllReadyH.cons (o := { dst := some 9, op := Op.alloc 24, type := 0, pos := "outright.go:45", after := #[], guard := none }) rfl (fun K hK => ?_) (AllReadyH.nil))))
    · go_simp
      refine (C2 W b).mono ?_
      rintro e W' ⟨s2, rfl, e2, o2, _, bb⟩
      have b' := b.trans (bb.mono b.size)
      refine hK.out _ _ (HS _ b') (fun _ => ?_)
      clear hK K
      try simp only [List.setIfInBounds_toArray, List.set_cons_zero, List.set_cons_succ]
      exact L3_ _ b' s0 s1 s2 ⟨h0.1, h0.2.on bb⟩ ⟨h1.1, h1.2.on bb⟩ ⟨e2, o2⟩
    · go_simp
      have b' := b.alloc b.size (.cells #[.slice none 0 0] 24)
      refine hK.out _ _ (HS _ b') (fun _ => ?_)
      clear hK K
      try simp only [List.setIfInBounds_toArray, List.set_cons_zero, List.set_cons_succ]
      exact L2_0 _ b' s0 s1 W.heap.size ⟨h0.1, h0.2.on (one_more W _)⟩ ⟨h1.1, h1.2.on (one_more W _)⟩ (NewBox.new b)
    · go_simp
      have b' := b.alloc b.size (.cells #[.slice none 0 0] 24)
      refine hK.out _ _ (HS _ b') (fun _ => ?_)
      clear hK K
      try simp only [List.setIfInBounds_toArray, List.set_cons_zero, List.set_cons_succ]
      exact L2_1 _ b' s0 s1 W.heap.size ⟨h0.1, h0.2.on (one_more W _)⟩ ⟨h1.1, h1.2.on (one_more W _)⟩ (NewBox.new b)
    · go_simp
      have b' := b.alloc b.size (.cells #[.slice none 0 0] 24)
      refine hK.out _ _ (HS _ b') (fun _ => ?_)
      clear hK K
      try simp only [List.setIfInBounds_toArray, List.set_cons_zero, List.set_cons_succ]
      exact L2_2 _ b' s0 s1 W.heap.size ⟨h0.1, h0.2.on (one_more W _)⟩ ⟨h1.1, h1.2.on (one_more W _)⟩ (NewBox.new b)
  have L1_0 : ∀ (W : World) (b : Below W0.heap.size W0 W) (s0 : RS) (g0 : Nat) (h0 : s0.l = x1 ∧ s0.ok W W.heap.size) (n0 : NewBox W0 W g0), wpAnyH Try.prog .any moves_ownOps (NoPanic Q) (fun w' => w'.cell? ⟨p3, 0, none⟩ = some (.slice Ax nx cx) ∧ w'.cell? ⟨p4, 0, none⟩ = some (.slice Ay ny cy) ∧ w'.cell? ⟨p5, 0, none⟩ = some (.slice Az nz cz)) 7 #[true, true, true, false, true, false, true, false, false, false, false, false] ⟨#[v0, v1, v2, .pointer (some ⟨p3, 0, none⟩), .pointer (some ⟨p4, 0, none⟩), .pointer (some ⟨p5, 0, none⟩), .bool false, .pointer (some ⟨g0, 0, none⟩), undef, undef, undef, undef, undef, undef, undef, undef, undef, undef, undef, undef, undef, .bool true, .bool false, .agg #[.slice Ax nx cx], .agg #[.slice s0.A s0.n s0.c], .agg #[.slice Ay ny cy], undef, .agg #[.slice Az nz cz], undef, undef, undef, undef, undef, undef, undef, undef, undef, undef, undef, undef, undef, undef, undef, undef, undef, undef, undef, undef, undef, undef, undef, undef, undef, undef, undef, undef, undef, undef, undef, undef, undef, undef, undef, undef, undef, undef, undef, undef, undef, undef, undef, undef, undef, undef, undef, undef, undef, undef, undef, undef, undef, undef, undef, undef, undef, undef, undef, undef, undef, undef, undef, undef, undef, undef, undef, undef, undef, undef, undef, undef, undef, undef, undef, undef, undef, undef, undef, undef, undef, undef, undef, undef, undef, undef], []⟩ W := by
    intro W b s0 g0 h0 n0
    refine wpAnyH_ready (rs := [3, 7, 8]) (by kernel_rfl) (by simp) ?_
    refine AllReadyH.cons (o := { dst := some 26, op := Op.call { callee := Callee.value (Operand.func 9), args := #[Operand.tmp 25], argTypes := #[24] }, type := 24, pos := "outright.go:45", after := #[{ on := 2, ground := Ground.data }, { on := 1, ground := Ground.chain }], guard := none }) rfl (fun K hK => ?_) (AllReadyH.cons (o := { dst := some 8, op := Op.alloc 24, type := 0, pos := "outright.go:45", after := #[], guard := none }) rfl (fun K hK => ?_) (AllReadyH.cons (o := { dst := some 9, op := Op.alloc 24, type := 0, pos := "outright.go:45", after := #[], guard := none }) rfl (fun K hK => ?_) (AllReadyH.nil)))
    · go_simp
      refine (C1 W b).mono ?_
      rintro e W' ⟨s1, rfl, e1, o1, _, bb⟩
      have b' := b.trans (bb.mono b.size)
      refine hK.out _ _ (HS _ b') (fun _ => ?_)
      clear hK K
      try simp only [List.setIfInBounds_toArray, List.set_cons_zero, List.set_cons_succ]
      exact L2_0 _ b' s0 s1 g0 ⟨h0.1, h0.2.on bb⟩ ⟨e1, o1⟩ (n0.on bb)
    · go_simp
      have b' := b.alloc b.size (.cells #[.slice none 0 0] 24)
      refine hK.out _ _ (HS _ b') (fun _ => ?_)
      clear hK K
      try simp only [List.setIfInBounds_toArray, List.set_cons_zero, List.set_cons_succ]
      exact L1_01 _ b' s0 g0 W.heap.size ⟨h0.1, h0.2.on (one_more W _)⟩ (n0.on (one_more W _)) (NewBox.new b) (n0.ne_new)
    · go_simp
      have b' := b.alloc b.size (.cells #[.slice none 0 0] 24)
      refine hK.out _ _ (HS _ b') (fun _ => ?_)
      clear hK K
      try simp only [List.setIfInBounds_toArray, List.set_cons_zero, List.set_cons_succ]
      exact L1_02 _ b' s0 g0 W.heap.size ⟨h0.1, h0.2.on (one_more W _)⟩ (n0.on (one_more W _)) (NewBox.new b) (n0.ne_new)
  have L1_1 : ∀ (W : World) (b : Below W0.heap.size W0 W) (s0 : RS) (g1 : Nat) (h0 : s0.l = x1 ∧ s0.ok W W.heap.size) (n1 : NewBox W0 W g1), wpAnyH Try.prog .any moves_ownOps (NoPanic Q) (fun w' => w'.cell? ⟨p3, 0, none⟩ = some (.slice Ax nx cx) ∧ w'.cell? ⟨p4, 0, none⟩ = some (.slice Ay ny cy) ∧ w'.cell? ⟨p5, 0, none⟩ = some (.slice Az nz cz)) 7 #[true, true, true, false, true, false, false, true, false, false, false, false] ⟨#[v0, v1, v2, .pointer (some ⟨p3, 0, none⟩), .pointer (some ⟨p4, 0, none⟩), .pointer (some ⟨p5, 0, none⟩), .bool false, undef, .pointer (some ⟨g1, 0, none⟩), undef, undef, undef, undef, undef, undef, undef, undef, undef, undef, undef, undef, .bool true, .bool false, .agg #[.slice Ax nx cx], .agg #[.slice s0.A s0.n s0.c], .agg #[.slice Ay ny cy], undef, .agg #[.slice Az nz cz], undef, undef, undef, undef, undef, undef, undef, undef, undef, undef, undef, undef, undef, undef, undef, undef, undef, undef, undef, undef, undef, undef, undef, undef, undef, undef, undef, undef, undef, undef, undef, undef, undef, undef, undef, undef, undef, undef, undef, undef, undef, undef, undef, undef, undef, undef, undef, undef, undef, undef, undef, undef, undef, undef, undef, undef, undef, undef, undef, undef, undef, undef, undef, undef, undef, undef, undef, undef, undef, undef, undef, undef, undef, undef, undef, undef, undef, undef, undef, undef, undef, undef, undef, undef, undef, undef], []⟩ W := by
    intro W b s0 g1 h0 n1
    refine wpAnyH_ready (rs := [3, 6, 8]) (by kernel_rfl) (by simp) ?_
    refine AllReadyH.cons (o := { dst := some 26, op := Op.call { callee := Callee.value (Operand.func 9), args := #[Operand.tmp 25], argTypes := #[24] }, type := 24, pos := "outright.go:45", after := #[{ on := 2, ground := Ground.data }, { on := 1, ground := Ground.chain }], guard := none }) rfl (fun K hK => ?_) (AllReadyH.cons (o := { dst := some 7, op := Op.alloc 24, type := 0, pos := "outright.go:45", after := #[], guard := none }) rfl (fun K hK => ?_) (AllReadyH.cons (o := { dst := some 9, op := Op.alloc 24, type := 0, pos := "outright.go:45", after := #[], guard := none }) rfl (fun K hK => ?_) (AllReadyH.nil)))
    · go_simp
      refine (C1 W b).mono ?_
      rintro e W' ⟨s1, rfl, e1, o1, _, bb⟩
      have b' := b.trans (bb.mono b.size)
      refine hK.out _ _ (HS _ b') (fun _ => ?_)
      clear hK K
      try simp only [List.setIfInBounds_toArray, List.set_cons_zero, List.set_cons_succ]
      exact L2_1 _ b' s0 s1 g1 ⟨h0.1, h0.2.on bb⟩ ⟨e1, o1⟩ (n1.on bb)
    · go_simp
      have b' := b.alloc b.size (.cells #[.slice none 0 0] 24)
      refine hK.out _ _ (HS _ b') (fun _ => ?_)
      clear hK K
      try simp only [List.setIfInBounds_toArray, List.set_cons_zero, List.set_cons_succ]
      exact L1_01 _ b' s0 W.heap.size g1 ⟨h0.1, h0.2.on (one_more W _)⟩ (NewBox.new b) (n1.on (one_more W _)) (n1.ne_new')
    · go_simp
      have b' := b.alloc b.size (.cells #[.slice none 0 0] 24)
      refine hK.out _ _ (HS _ b') (fun _ => ?_)
      clear hK K
      try simp only [List.setIfInBounds_toArray, List.set_cons_zero, List.set_cons_succ]
      exact L1_12 _ b' s0 g1 W.heap.size ⟨h0.1, h0.2.on (one_more W _)⟩ (n1.on (one_more W _)) (NewBox.new b) (n1.ne_new)
  have L1_2 : ∀ (W : World) (b : Below W0.heap.size W0 W) (s0 : RS) (g2 : Nat) (h0 : s0.l = x1 ∧ s0.ok W W.heap.size) (n2 : NewBox W0 W g2), wpAnyH Try.prog .any moves_ownOps (NoPanic Q) (fun w' => w'.cell? ⟨p3, 0, none⟩ = some (.slice Ax nx cx) ∧ w'.cell? ⟨p4, 0, none⟩ = some (.slice Ay ny cy) ∧ w'.cell? ⟨p5, 0, none⟩ = some (.slice Az nz cz)) 7 #[true, true, true, false, true, false, false, false, true, false, false, false] ⟨#[v0, v1, v2, .pointer (some ⟨p3, 0, none⟩), .pointer (some ⟨p4, 0, none⟩), .pointer (some ⟨p5, 0, none⟩), .bool false, undef, undef, .pointer (some ⟨g2, 0, none⟩), undef, undef, undef, undef, undef, undef, undef, undef, undef, undef, undef, .bool true, .bool false, .agg #[.slice Ax nx cx], .agg #[.slice s0.A s0.n s0.c], .agg #[.slice Ay ny cy], undef, .agg #[.slice Az nz cz], undef, undef, undef, undef, undef, undef, undef, undef, undef, undef, undef, undef, undef, undef, undef, undef, undef, undef, undef, undef, undef, undef, undef, undef, undef, undef, undef, undef, undef, undef, undef, undef, undef, undef, undef, undef, undef, undef, undef, undef, undef, undef, undef, undef, undef, undef, undef, undef, undef, undef, undef, undef, undef, undef, undef, undef, undef, undef, undef, undef, undef, undef, undef, undef, undef, undef, undef, undef, undef, undef, undef, undef, undef, undef, undef, undef, undef, undef, undef, undef, undef, undef, undef, undef, undef, undef], []⟩ W := by
    intro W b s0 g2 h0 n2
    refine wpAnyH_ready (rs := [3, 6, 7]) (by kernel_rfl) (by simp) ?_
    refine AllReadyH.cons (o := { dst := some 26, op := Op.call { callee := Callee.value (Operand.func 9), args := #[Operand.tmp 25], argTypes := #[24] }, type := 24, pos := "outright.go:45", after := #[{ on := 2, ground := Ground.data }, { on := 1, ground := Ground.chain }], guard := none }) rfl (fun K hK => ?_) (AllReadyH.cons (o := { dst := some 7, op := Op.alloc 24, type := 0, pos := "outright.go:45", after := #[], guard := none }) rfl (fun K hK => ?_) (AllReadyH.cons (o := { dst := some 8, op := Op.alloc 24, type := 0, pos := "outright.go:45", after := #[], guard := none }) rfl (fun K hK => ?_) (AllReadyH.nil)))
    · go_simp
      refine (C1 W b).mono ?_
      rintro e W' ⟨s1, rfl, e1, o1, _, bb⟩
      have b' := b.trans (bb.mono b.size)
      refine hK.out _ _ (HS _ b') (fun _ => ?_)
      clear hK K
      try simp only [List.setIfInBounds_toArray, List.set_cons_zero, List.set_cons_succ]
      exact L2_2 _ b' s0 s1 g2 ⟨h0.1, h0.2.on bb⟩ ⟨e1, o1⟩ (n2.on bb)
    · go_simp
      have b' := b.alloc b.size (.cells #[.slice none 0 0] 24)
      refine hK.out _ _ (HS _ b') (fun _ => ?_)
      clear hK K
      try simp only [List.setIfInBounds_toArray, List.set_cons_zero, List.set_cons_succ]
      exact L1_02 _ b' s0 W.heap.size g2 ⟨h0.1, h0.2.on (one_more W _)⟩ (NewBox.new b) (n2.on (one_more W _)) (n2.ne_new')
    · go_simp
      have b' := b.alloc b.size (.cells #[.slice none 0 0] 24)
      refine hK.out _ _ (HS _ b') (fun _ => ?_)
      clear hK K
      try simp only [List.setIfInBounds_toArray, List.set_cons_zero, List.set_cons_succ]
      exact L1_12 _ b' s0 W.heap.size g2 ⟨h0.1, h0.2.on (one_more W _)⟩ (NewBox.new b) (n2.on (one_more W _)) (n2.ne_new')
  have L0_01 : ∀ (W : World) (b : Below W0.heap.size W0 W) (g0 : Nat) (g1 : Nat) (n0 : NewBox W0 W g0) (n1 : NewBox W0 W g1) (d01 : g0 ≠ g1), wpAnyH Try.prog .any moves_ownOps (NoPanic Q) (fun w' => w'.cell? ⟨p3, 0, none⟩ = some (.slice Ax nx cx) ∧ w'.cell? ⟨p4, 0, none⟩ = some (.slice Ay ny cy) ∧ w'.cell? ⟨p5, 0, none⟩ = some (.slice Az nz cz)) 7 #[true, false, true, false, true, false, true, true, false, false, false, false] ⟨#[v0, v1, v2, .pointer (some ⟨p3, 0, none⟩), .pointer (some ⟨p4, 0, none⟩), .pointer (some ⟨p5, 0, none⟩), .bool false, .pointer (some ⟨g0, 0, none⟩), .pointer (some ⟨g1, 0, none⟩), undef, undef, undef, undef, undef, undef, undef, undef, undef, undef, undef, undef, .bool true, .bool false, .agg #[.slice Ax nx cx], undef, .agg #[.slice Ay ny cy], undef, .agg #[.slice Az nz cz], undef, undef, undef, undef, undef, undef, undef, undef, undef, undef, undef, undef, undef, undef, undef, undef, undef, undef, undef, undef, undef, undef, undef, undef, undef, undef, undef, undef, undef, undef, undef, undef, undef, undef, undef, undef, undef, undef, undef, undef, undef, undef, undef, undef, undef, undef, undef, undef, undef, undef, undef, undef, undef, undef, undef, undef, undef, undef, undef, undef, undef, undef, undef, undef, undef, undef, undef, undef, undef, undef, undef, undef, undef, undef, undef, undef, undef, undef, undef, undef, undef, undef, undef, undef, undef, undef], []⟩ W := by
    intro W b  g0 g1 n0 n1 d01
    refine wpAnyH_ready (rs := [1, 8]) (by kernel_rfl) (by simp) ?_
    refine AllReadyH.cons (o := { dst := some 24, op := Op.call { callee := Callee.value (Operand.func 9), args := #[Operand.tmp 23], argTypes := #[24] }, type := 24, pos := "outright.go:45", after := #[{ on := 0, ground := Ground.data }], guard := none }) rfl (fun K hK => ?_) (AllReadyH.cons (o := { dst := some 9, op := Op.alloc 24, type := 0, pos := "outright.go:45", after := #[], guard := none }) rfl (fun K hK => ?_) (AllReadyH.nil))
    · go_simp
      refine (C0 W b).mono ?_
      rintro e W' ⟨s0, rfl, e0, o0, _, bb⟩
      have b' := b.trans (bb.mono b.size)
      refine hK.out _ _ (HS _ b') (fun _ => ?_)
      clear hK K
      try simp only [List.setIfInBounds_toArray, List.set_cons_zero, List.set_cons_succ]
      exact L1_01 _ b' s0 g0 g1 ⟨e0, o0⟩ (n0.on bb) (n1.on bb) d01
    · go_simp
      have b' := b.alloc b.size (.cells #[.slice none 0 0] 24)
      refine hK.out _ _ (HS _ b') (fun _ => ?_)
      clear hK K
      try simp only [List.setIfInBounds_toArray, List.set_cons_zero, List.set_cons_succ]
      exact L0_012 _ b' g0 g1 W.heap.size (n0.on (one_more W _)) (n1.on (one_more W _)) (NewBox.new b) d01 (n0.ne_new) (n1.ne_new)
  have L0_02 : ∀ (W : World) (b : Below W0.heap.size W0 W) (g0 : Nat) (g2 : Nat) (n0 : NewBox W0 W g0) (n2 : NewBox W0 W g2) (d02 : g0 ≠ g2), wpAnyH Try.prog .any moves_ownOps (NoPanic Q) (fun w' => w'.cell? ⟨p3, 0, none⟩ = some (.slice Ax nx cx) ∧ w'.cell? ⟨p4, 0, none⟩ = some (.slice Ay ny cy) ∧ w'.cell? ⟨p5, 0, none⟩ = some (.slice Az nz cz)) 7 #[true, false, true, false, true, false, true, false, true, false, false, false] ⟨#[v0, v1, v2, .pointer (some ⟨p3, 0, none⟩), .pointer (some ⟨p4, 0, none⟩), .pointer (some ⟨p5, 0, none⟩), .bool false, .pointer (some ⟨g0, 0, none⟩), undef, .pointer (some ⟨g2, 0, none⟩), undef, undef, undef, undef, undef, undef, undef, undef, undef, undef, undef, .bool true, .bool false, .agg #[.slice Ax nx cx], undef, .agg #[.slice Ay ny cy], undef, .agg #[.slice Az nz cz], undef, undef, undef, undef, undef, undef, undef, undef, undef, undef, undef, undef, undef, undef, undef, undef, undef, undef, undef, undef, undef, undef, undef, undef, undef, undef, undef, undef, undef, undef, undef, undef, undef, undef, undef, undef, undef, undef, undef, undef, undef, undef, undef, undef, undef, undef, undef, undef, undef, undef, undef, undef, undef, undef, undef, undef, undef, undef, undef, undef, undef, undef, undef, undef, undef, undef, undef, undef, undef, undef, undef, undef, undef, undef, undef, undef, undef, undef, undef, undef, undef, undef, undef, undef, undef, undef], []⟩ W := by
    intro W b  g0 g2 n0 n2 d02
    refine wpAnyH_ready (rs := [1, 7]) (by kernel_rfl) (by simp) ?_
    refine AllReadyH.cons (o := { dst := some 24, op := Op.call { callee := Callee.value (Operand.func 9), args := #[Operand.tmp 23], argTypes := #[24] }, type := 24, pos := "outright.go:45", after := #[{ on := 0, ground := Ground.data }], guard := none }) rfl (fun K hK => ?_) (AllReadyH.cons (o := { dst := some 8, op := Op.alloc 24, type := 0, pos := "outright.go:45", after := #[], guard := none }) rfl (fun K hK => ?_) (AllReadyH.nil))
    · go_simp
      refine (C0 W b).mono ?_
      rintro e W' ⟨s0, rfl, e0, o0, _, bb⟩
      have b' := b.trans (bb.mono b.size)
      refine hK.out _ _ (HS _ b') (fun _ => ?_)
      clear hK K
      try simp only [List.setIfInBounds_toArray, List.set_cons_zero, List.set_cons_succ]
      exact L1_02 _ b' s0 g0 g2 ⟨e0, o0⟩ (n0.on bb) (n2.on bb) d02
    · go_simp
      have b' := b.alloc b.size (.cells #[.slice none 0 0] 24)
      refine hK.out _ _ (HS _ b') (fun _ => ?_)
      clear hK K
      try simp only [List.setIfInBounds_toArray, List.set_cons_zero, List.set_cons_succ]
      exact L0_012 _ b' g0 W.heap.size g2 (n0.on (one_more W _)) (NewBox.new b) (n2.on (one_more W _)) (n0.ne_new) d02 (n2.ne_new')
  have L0_12 : ∀ (W : World) (b : Below W0.heap.size W0 W) (g1 : Nat) (g2 : Nat) (n1 : NewBox W0 W g1) (n2 : NewBox W0 W g2) (d12 : g1 ≠ g2), wpAnyH Try.prog .any moves_ownOps (NoPanic Q) (fun w' => w'.cell? ⟨p3, 0, none⟩ = some (.slice Ax nx cx) ∧ w'.cell? ⟨p4, 0, none⟩ = some (.slice Ay ny cy) ∧ w'.cell? ⟨p5, 0, none⟩ = some (.slice Az nz cz)) 7 #[true, false, true, false, true, false, false, true, true, false, false, false] ⟨#[v0, v1, v2, .pointer (some ⟨p3, 0, none⟩), .pointer (some ⟨p4, 0, none⟩), .pointer (some ⟨p5, 0, none⟩), .bool false, undef, .pointer (some ⟨g1, 0, none⟩), .pointer (some ⟨g2, 0, none⟩), undef, undef, undef, undef, undef, undef, undef, undef, undef, undef, undef, .bool true, .bool false, .agg #[.slice Ax nx cx], undef, .agg #[.slice Ay ny cy], undef, .agg #[.slice Az nz cz], undef, undef, undef, undef, undef, undef, undef, undef, undef, undef, undef, undef, undef, undef, undef, undef, undef, undef, undef, undef, undef, undef, undef, undef, undef, undef, undef, undef, undef, undef, undef, undef, undef, undef, undef, undef, undef, undef, undef, undef, undef, undef, undef, undef, undef, undef, undef, undef, undef, undef, undef, undef, undef, undef, undef, undef, undef, undef, undef, undef, undef, undef, undef, undef, undef, undef, undef, undef, undef, undef, undef, undef, undef, undef, undef, undef, undef, undef, undef, undef, undef, undef, undef, undef, undef, undef], []⟩ W := by
    intro W b  g1 g2 n1 n2 d12
    refine wpAnyH_ready (rs := [1, 6]) (by kernel_rfl) (by simp) ?_
    refine AllReadyH.cons (o := { dst := some 24, op := Op.call { callee := Callee.value (Operand.func 9), args := #[Operand.tmp 23], argTypes := #[24] }, type := 24, pos := "outright.go:45", after := #[{ on := 0, ground := Ground.data }], guard := none }) rfl (fun K hK => ?_) (AllReadyH.cons (o := { dst := some 7, op := Op.alloc 24, type := 0, pos := "outright.go:45", after := #[], guard := none }) rfl (fun K hK => ?_) (AllReadyH.nil))
    · go_simp
      refine (C0 W b).mono ?_
      rintro e W' ⟨s0, rfl, e0, o0, _, bb⟩
      have b' := b.trans (bb.mono b.size)
      refine hK.out _ _ (HS _ b') (fun _ => ?_)
      clear hK K
      try simp only [List.setIfInBounds_toArray, List.set_cons_zero, List.set_cons_succ]
      exact L1_12 _ b' s0 g1 g2 ⟨e0, o0⟩ (n1.on bb) (n2.on bb) d12
    · go_simp
      have b' := b.alloc b.size (.cells #[.slice none 0 0] 24)
      refine hK.out _ _ (HS _ b') (fun _ => ?_)
      clear hK K
      try simp only [List.setIfInBounds_toArray, List.set_cons_zero, List.set_cons_succ]
      exact L0_012 _ b' W.heap.size g1 g2 (NewBox.new b) (n1.on (one_more W _)) (n2.on (one_more W _)) (n1.ne_new') (n2.ne_new') d12
  have L1_ : ∀ (W : World) (b : Below W0.heap.size W0 W) (s0 : RS) (h0 : s0.l = x1 ∧ s0.ok W W.heap.size), wpAnyH Try.prog .any moves_ownOps (NoPanic Q) (fun w' => w'.cell? ⟨p3, 0, none⟩ = some (.slice Ax nx cx) ∧ w'.cell? ⟨p4, 0, none⟩ = some (.slice Ay ny cy) ∧ w'.cell? ⟨p5, 0, none⟩ = some (.slice Az nz cz)) 8 #[true, true, true, false, true, false, false, false, false, false, false, false] ⟨#[v0, v1, v2, .pointer (some ⟨p3, 0, none⟩), .pointer (some ⟨p4, 0, none⟩), .pointer (some ⟨p5, 0, none⟩), .bool false, undef, undef, undef, undef, undef, undef, undef, undef, undef, undef, undef, undef, undef, undef, .bool true, .bool false, .agg #[.slice Ax nx cx], .agg #[.slice s0.A s0.n s0.c], .agg #[.slice Ay ny cy], undef, .agg #[.slice Az nz cz], undef, undef, undef, undef, undef, undef, undef, undef, undef, undef, undef, undef, undef, undef, undef, undef, undef, undef, undef, undef, undef, undef, undef, undef, undef, undef, undef, undef, undef, undef, undef, undef, undef, undef, undef, undef, undef, undef, undef, undef, undef, undef, undef, undef, undef, undef, undef, undef, undef, undef, undef, undef, undef, undef, undef, undef, undef, undef, undef, undef, undef, undef, undef, undef, undef, undef, undef, undef, undef, undef, undef, undef, undef, undef, undef, undef, undef, undef, undef, undef, undef, undef, undef, undef, undef, undef], []⟩ W := by
    intro W b s0 h0
    refine wpAnyH_ready (rs := [3, 6, 7, 8]) (by kernel_rfl) (by simp) ?_
    refine AllReadyH.cons (o := { dst := some 26, op := Op.call { callee := Callee.value (Operand.func 9), args := #[Operand.tmp 25], argTypes := #[24] }, type := 24, pos := "outright.go:45", after := #[{ on := 2, ground := Ground.data }, { on := 1, ground := Ground.chain }], guard := none }) rfl (fun K hK => ?_) (AllReadyH.cons (o := { dst := some 7, op := Op.alloc 24, type := 0, pos := "outright.go:45", after := #[], guard := none }) rfl (fun K hK => ?_) (AllReadyH.cons (o := { dst := some 8, op := Op.alloc 24, type := 0, pos := "outright.go:45", after := #[], guard := none }) rfl (fun K hK => ?_) (AllReadyH.cons (o := { dst := some 9, op := Op.alloc 24, type := 0, pos := "outright.go:45", after := #[], guard := none }) rfl (fun K hK => ?_) (AllReadyH.nil))))
    · go_simp
      refine (C1 W b).mono ?_
      rintro e W' ⟨s1, rfl, e1, o1, _, bb⟩
      have b' := b.trans (bb.mono b.size)
      refine hK.out _ _ (HS _ b') (fun _ => ?_)
      clear hK K
      try simp only [List.setIfInBounds_toArray, List.set_cons_zero, List.set_cons_succ]
      exact L2_ _ b' s0 s1 ⟨h0.1, h0.2.on bb⟩ ⟨e1, o1⟩
    · go_simp
      have b' := b.alloc b.size (.cells #[.slice none 0 0] 24)
      refine hK.out _ _ (HS _ b') (fun _ => ?_)
      clear hK K
      try simp only [List.setIfInBounds_toArray, List.set_cons_zero, List.set_cons_succ]
      exact L1_0 _ b' s0 W.heap.size ⟨h0.1, h0.2.on (one_more W _)⟩ (NewBox.new b)
    · go_simp
      have b' := b.alloc b.size (.cells #[.slice none 0 0] 24)
      refine hK.out _ _ (HS _ b') (fun _ => ?_)
      clear hK K
      try simp only [List.setIfInBounds_toArray, List.set_cons_zero, List.set_cons_succ]
      exact L1_1 _ b' s0 W.heap.size ⟨h0.1, h0.2.on (one_more W _)⟩ (NewBox.new b)
    · go_simp
      have b' := b.alloc b.size (.cells #[.slice none 0 0] 24)
      refine hK.out _ _ (HS _ b') (fun _ => ?_)
      clear hK K
      try simp only [List.setIfInBounds_toArray, List.set_cons_zero, List.set_cons_succ]
      exact L1_2 _ b' s0 W.heap.size ⟨h0.1, h0.2.on (one_more W _)⟩ (NewBox.new b)
  have L0_0 : ∀ (W : World) (b : Below W0.heap.size W0 W) (g0 : Nat) (n0 : NewBox W0 W g0), wpAnyH Try.prog .any moves_ownOps (NoPanic Q) (fun w' => w'.cell? ⟨p3, 0, none⟩ = some (.slice Ax nx cx) ∧ w'.cell? ⟨p4, 0, none⟩ = some (.slice Ay ny cy) ∧ w'.cell? ⟨p5, 0, none⟩ = some (.slice Az nz cz)) 8 #[true, false, true, false, true, false, true, false, false, false, false, false] ⟨#[v0, v1, v2, .pointer (some ⟨p3, 0, none⟩), .pointer (some ⟨p4, 0, none⟩), .pointer (some ⟨p5, 0, none⟩), .bool false, .pointer (some ⟨g0, 0, none⟩), undef, undef, undef, undef, undef, undef, undef, undef, undef, undef, undef, undef, undef, .bool true, .bool false, .agg #[.slice Ax nx cx], undef, .agg #[.slice Ay ny cy], undef, .agg #[.slice Az nz cz], undef, undef, undef, undef, undef, undef, undef, undef, undef, undef, undef, undef, undef, undef, undef, undef, undef, undef, undef, undef, undef, undef, undef, undef, undef, undef, undef, undef, undef, undef, undef, undef, undef, undef, undef, undef, undef, undef, undef, undef, undef, undef, undef, undef, undef, undef, undef, undef, undef, undef, undef, undef, undef, undef, undef, undef, undef, undef, undef, undef, undef, undef, undef, undef, undef, undef, undef, undef, undef, undef, undef, undef, undef, undef, undef, undef, undef, undef, undef, undef, undef, undef, undef, undef, undef, undef], []⟩ W := by
    intro W b  g0 n0
    refine wpAnyH_ready (rs := [1, 7, 8]) (by kernel_rfl) (by simp) ?_
    refine AllReadyH.cons (o := { dst := some 24, op := Op.call { callee := Callee.value (Operand.func 9), args := #[Operand.tmp 23], argTypes := #[24] }, type := 24, pos := "outright.go:45", after := #[{ on := 0, ground := Ground.data }], guard := none }) rfl (fun K hK => ?_) (AllReadyH.cons (o := { dst := some 8, op := Op.alloc 24, type := 0, pos := "outright.go:45", after := #[], guard := none }) rfl (fun K hK => ?_) (AllReadyH.cons (o := { dst := some 9, op := Op.alloc 24, type := 0, pos := "outright.go:45", after := #[], guard := none }) rfl (fun K hK => ?_) (AllReadyH.nil)))
    · go_simp
      refine (C0 W b).mono ?_
      rintro e W' ⟨s0, rfl, e0, o0, _, bb⟩
      have b' := b.trans (bb.mono b.size)
      refine hK.out _ _ (HS _ b') (fun _ => ?_)
      clear hK K
      try simp only [List.setIfInBounds_toArray, List.set_cons_zero, List.set_cons_succ]
      exact L1_0 _ b' s0 g0 ⟨e0, o0⟩ (n0.on bb)
    · go_simp
      have b' := b.alloc b.size (.cells #[.slice none 0 0] 24)
      refine hK.out _ _ (HS _ b') (fun _ => ?_)
      clear hK K
      try simp only [List.setIfInBounds_toArray, List.set_cons_zero, List.set_cons_succ]
      exact L0_01 _ b' g0 W.heap.size (n0.on (one_more W _)) (NewBox.new b) (n0.ne_new)
    · go_simp
      have b' := b.alloc b.size (.cells #[.slice none 0 0] 24)
      refine hK.out _ _ (HS _ b') (fun _ => ?_)
      clear hK K
      try simp only [List.setIfInBounds_toArray, List.set_cons_zero, List.set_cons_succ]
      exact L0_02 _ b' g0 W.heap.size (n0.on (one_more W _)) (NewBox.new b) (n0.ne_new)
  have L0_1 : ∀ (W : World) (b : Below W0.heap.size W0 W) (g1 : Nat) (n1 : NewBox W0 W g1), wpAnyH Try.prog .any moves_ownOps (NoPanic Q) (fun w' => w'.cell? ⟨p3, 0, none⟩ = some (.slice Ax nx cx) ∧ w'.cell? ⟨p4, 0, none⟩ = some (.slice Ay ny cy) ∧ w'.cell? ⟨p5, 0, none⟩ = some (.slice Az nz cz)) 8 #[true, false, true, false, true, false, false, true, false, false, false, false] ⟨#[v0, v1, v2, .pointer (some ⟨p3, 0, none⟩), .pointer (some ⟨p4, 0, none⟩), .pointer (some ⟨p5, 0, none⟩), .bool false, undef, .pointer (some ⟨g1, 0, none⟩), undef, undef, undef, undef, undef, undef, undef, undef, undef, undef, undef, undef, .bool true, .bool false, .agg #[.slice Ax nx cx], undef, .agg #[.slice Ay ny cy], undef, .agg #[.slice Az nz cz], undef, undef, undef, undef, undef, undef, undef, undef, undef, undef, undef, undef, undef, undef, undef, undef, undef, undef, undef, undef, undef, undef, undef, undef, undef, undef, undef, undef, undef, undef, undef, undef, undef, undef, undef, undef, undef, undef, undef, undef, undef, undef, undef, undef, undef, undef, undef, undef, undef, undef, undef, undef, undef, undef, undef, undef, undef, undef, undef, undef, undef, undef, undef, undef, undef, undef, undef, undef, undef, undef, undef, undef, undef, undef, undef, undef, undef, undef, undef, undef, undef, undef, undef, undef, undef, undef], []⟩ W := by
    intro W b  g1 n1
    refine wpAnyH_ready (rs := [1, 6, 8]) (by kernel_rfl) (by simp) ?_
    refine AllReadyH.cons (o := { dst := some 24, op := Op.call { callee := Callee.value (Operand.func 9), args := #[Operand.tmp 23], argTypes := #[24] }, type := 24, pos := "outright.go:45", after := #[{ on := 0, ground := Ground.data }], guard := none }) rfl (fun K hK => ?_) (AllReadyH.cons (o := { dst := some 7, op := Op.alloc 24, type := 0, pos := "outright.go:45", after := #[], guard := none }) rfl (fun K hK => ?_) (AllReadyH.cons (o := { dst := some 9, op := Op.alloc 24, type := 0, pos := "outright.go:45", after := #[], guard := none }) rfl (fun K hK => ?_) (AllReadyH.nil)))
    · go_simp
      refine (C0 W b).mono ?_
      rintro e W' ⟨s0, rfl, e0, o0, _, bb⟩
      have b' := b.trans (bb.mono b.size)
      refine hK.out _ _ (HS _ b') (fun _ => ?_)
      clear hK K
      try simp only [List.setIfInBounds_toArray, List.set_cons_zero, List.set_cons_succ]
      exact L1_1 _ b' s0 g1 ⟨e0, o0⟩ (n1.on bb)
    · go_simp
      have b' := b.alloc b.size (.cells #[.slice none 0 0] 24)
      refine hK.out _ _ (HS _ b') (fun _ => ?_)
      clear hK K
      try simp only [List.setIfInBounds_toArray, List.set_cons_zero, List.set_cons_succ]
      exact L0_01 _ b' W.heap.size g1 (NewBox.new b) (n1.on (one_more W _)) (n1.ne_new')
    · go_simp
      have b' := b.alloc b.size (.cells #[.slice none 0 0] 24)
      refine hK.out _ _ (HS _ b') (fun _ => ?_)
      clear hK K
      try simp only [List.setIfInBounds_toArray, List.set_cons_zero, List.set_cons_succ]
      exact L0_12 _ b' g1 W.heap.size (n1.on (one_more W _)) (NewBox.new b) (n1.ne_new)
  have L0_2 : ∀ (W : World) (b : Below W0.heap.size W0 W) (g2 : Nat) (n2 : NewBox W0 W g2), wpAnyH Try.prog .any moves_ownOps (NoPanic Q) (fun w' => w'.cell? ⟨p3, 0, none⟩ = some (.slice Ax nx cx) ∧ w'.cell? ⟨p4, 0, none⟩ = some (.slice Ay ny cy) ∧ w'.cell? ⟨p5, 0, none⟩ = some (.slice Az nz cz)) 8 #[true, false, true, false, true, false, false, false, true, false, false, false] ⟨#[v0, v1, v2, .pointer (some ⟨p3, 0, none⟩), .pointer (some ⟨p4, 0, none⟩), .pointer (some ⟨p5, 0, none⟩), .bool false, undef, undef, .pointer (some ⟨g2, 0, none⟩), undef, undef, undef, undef, undef, undef, undef, undef, undef, undef, undef, .bool true, .bool false, .agg #[.slice Ax nx cx], undef, .agg #[.slice Ay ny cy], undef, .agg #[.slice Az nz cz], undef, undef, undef, undef, undef, undef, undef, undef, undef, undef, undef, undef, undef, undef, undef, undef, undef, undef, undef, undef, undef, undef, undef, undef, undef, undef, undef, undef, undef, undef, undef, undef, undef, undef, undef, undef, undef, undef, undef, undef, undef, undef, undef, undef, undef, undef, undef, undef, undef, undef, undef, undef, undef, undef, undef, undef, undef, undef, undef, undef, undef, undef, undef, undef, undef, undef, undef, undef, undef, undef, undef, undef, undef, undef, undef, undef, undef, undef, undef, undef, undef, undef, undef, undef, undef, undef], []⟩ W := by
    intro W b  g2 n2
    refine wpAnyH_ready (rs := [1, 6, 7]) (by kernel_rfl) (by simp) ?_
    refine AllReadyH.cons (o := { dst := some 24, op := Op.call { callee := Callee.value (Operand.func 9), args := #[Operand.tmp 23], argTypes := #[24] }, type := 24, pos := "outright.go:45", after := #[{ on := 0, ground := Ground.data }], guard := none }) rfl (fun K hK => ?_) (AllReadyH.cons (o := { dst := some 7, op := Op.alloc 24, type := 0, pos := "outright.go:45", after := #[], guard := none }) rfl (fun K hK => ?_) (AllReadyH.cons (o := { dst := some 8, op := Op.alloc 24, type := 0, pos := "outright.go:45", after := #[], guard := none }) rfl (fun K hK => ?_) (AllReadyH.nil)))
    · go_simp
      refine (C0 W b).mono ?_
      rintro e W' ⟨s0, rfl, e0, o0, _, bb⟩
      have b' := b.trans (bb.mono b.size)
      refine hK.out _ _ (HS _ b') (fun _ => ?_)
      clear hK K
      try simp only [List.setIfInBounds_toArray, List.set_cons_zero, List.set_cons_succ]
      exact L1_2 _ b' s0 g2 ⟨e0, o0⟩ (n2.on bb)
    · go_simp
      have b' := b.alloc b.size (.cells #[.slice none 0 0] 24)
      refine hK.out _ _ (HS _ b') (fun _ => ?_)
      clear hK K
      try simp only [List.setIfInBounds_toArray, List.set_cons_zero, List.set_cons_succ]
      exact L0_02 _ b' W.heap.size g2 (NewBox.new b) (n2.on (one_more W _)) (n2.ne_new')
    · go_simp
      have b' := b.alloc b.size (.cells #[.slice none 0 0] 24)
      refine hK.out _ _ (HS _ b') (fun _ => ?_)
      clear hK K
      try simp only [List.setIfInBounds_toArray, List.set_cons_zero, List.set_cons_succ]
      exact L0_12 _ b' W.heap.size g2 (NewBox.new b) (n2.on (one_more W _)) (n2.ne_new')
  have L0_ : ∀ (W : World) (b : Below W0.heap.size W0 W)  , wpAnyH Try.prog .any moves_ownOps (NoPanic Q) (fun w' => w'.cell? ⟨p3, 0, none⟩ = some (.slice Ax nx cx) ∧ w'.cell? ⟨p4, 0, none⟩ = some (.slice Ay ny cy) ∧ w'.cell? ⟨p5, 0, none⟩ = some (.slice Az nz cz)) 9 #[true, false, true, false, true, false, false, false, false, false, false, false] ⟨#[v0, v1, v2, .pointer (some ⟨p3, 0, none⟩), .pointer (some ⟨p4, 0, none⟩), .pointer (some ⟨p5, 0, none⟩), .bool false, undef, undef, undef, undef, undef, undef, undef, undef, undef, undef, undef, undef, undef, undef, .bool true, .bool false, .agg #[.slice Ax nx cx], undef, .agg #[.slice Ay ny cy], undef, .agg #[.slice Az nz cz], undef, undef, undef, undef, undef, undef, undef, undef, undef, undef, undef, undef, undef, undef, undef, undef, undef, undef, undef, undef, undef, undef, undef, undef, undef, undef, undef, undef, undef, undef, undef, undef, undef, undef, undef, undef, undef, undef, undef, undef, undef, undef, undef, undef, undef, undef, undef, undef, undef, undef, undef, undef, undef, undef, undef, undef, undef, undef, undef, undef, undef, undef, undef, undef, undef, undef, undef, undef, undef, undef, undef, undef, undef, undef, undef, undef, undef, undef, undef, undef, undef, undef, undef, undef, undef, undef], []⟩ W := by
    intro W b  
    refine wpAnyH_ready (rs := [1, 6, 7, 8]) (by kernel_rfl) (by simp) ?_
    refine AllReadyH.cons (o := { dst := some 24, op := Op.call { callee := Callee.value (Operand.func 9), args := #[Operand.tmp 23], argTypes := #[24] }, type := 24, pos := "outright.go:45", after := #[{ on := 0, ground := Ground.data }], guard := none }) rfl (fun K hK => ?_) (AllReadyH.cons (o := { dst := some 7, op := Op.alloc 24, type := 0, pos := "outright.go:45", after := #[], guard := none }) rfl (fun K hK => ?_) (AllReadyH.cons (o := { dst := some 8, op := Op.alloc 24, type := 0, pos := "outright.go:45", after := #[], guard := none }) rfl (fun K hK => ?_) (AllReadyH.cons (o := { dst := some 9, op := Op.alloc 24, type := 0, pos := "outright.go:45", after := #[], guard := none }) rfl (fun K hK => ?_) (AllReadyH.nil))))
    · go_simp
      refine (C0 W b).mono ?_
      rintro e W' ⟨s0, rfl, e0, o0, _, bb⟩
      have b' := b.trans (bb.mono b.size)
      refine hK.out _ _ (HS _ b') (fun _ => ?_)
      clear hK K
      try simp only [List.setIfInBounds_toArray, List.set_cons_zero, List.set_cons_succ]
      exact L1_ _ b' s0 ⟨e0, o0⟩
    · go_simp
      have b' := b.alloc b.size (.cells #[.slice none 0 0] 24)
      refine hK.out _ _ (HS _ b') (fun _ => ?_)
      clear hK K
      try simp only [List.setIfInBounds_toArray, List.set_cons_zero, List.set_cons_succ]
      exact L0_0 _ b' W.heap.size (NewBox.new b)
    · go_simp
      have b' := b.alloc b.size (.cells #[.slice none 0 0] 24)
      refine hK.out _ _ (HS _ b') (fun _ => ?_)
      clear hK K
      try simp only [List.setIfInBounds_toArray, List.set_cons_zero, List.set_cons_succ]
      exact L0_1 _ b' W.heap.size (NewBox.new b)
    · go_simp
      have b' := b.alloc b.size (.cells #[.slice none 0 0] 24)
      refine hK.out _ _ (HS _ b') (fun _ => ?_)
      clear hK K
      try simp only [List.setIfInBounds_toArray, List.set_cons_zero, List.set_cons_succ]
      exact L0_2 _ b' W.heap.size (NewBox.new b)
  have bd : Below W0.heap.size W0 W0.drew := (Below.refl _ _).drew
  refine wp_region_noPanic ?_
  refine wp_region_held_drew (S := fun w' => w'.cell? ⟨p3, 0, none⟩ = some (.slice Ax nx cx) ∧ w'.cell? ⟨p4, 0, none⟩ = some (.slice Ay ny cy) ∧ w'.cell? ⟨p5, 0, none⟩ = some (.slice Az nz cz)) (by kernel_rfl) (HS _ bd) (fun hHeld => ?_)
  refine wpAnyH_take (i := 0) (oi := { dst := some 23, op := Op.load 24 (Operand.tmp 3), type := 24, pos := "outright.go:45", after := #[], guard := none }) (v := .agg #[.slice Ax nx cx]) rfl (by kernel_rfl) (by kernel_rfl) (by kernel_rfl) (fun _ _ _ h => h) (Or.inl ⟨by kernel_rfl, fun w' hSw => by (try dsimp only at hSw); go_simp⟩) (by assumption) ?_
  try simp only [Act.put, List.setIfInBounds_toArray, List.set_cons_zero, List.set_cons_succ]
  refine wpAnyH_take (i := 2) (oi := { dst := some 25, op := Op.load 24 (Operand.tmp 4), type := 24, pos := "outright.go:45", after := #[], guard := none }) (v := .agg #[.slice Ay ny cy]) rfl (by kernel_rfl) (by kernel_rfl) (by kernel_rfl) (fun _ _ _ h => h) (Or.inl ⟨by kernel_rfl, fun w' hSw => by (try dsimp only at hSw); go_simp⟩) (by assumption) ?_
  try simp only [Act.put, List.setIfInBounds_toArray, List.set_cons_zero, List.set_cons_succ]
  refine wpAnyH_take (i := 4) (oi := { dst := some 27, op := Op.load 24 (Operand.tmp 5), type := 24, pos := "outright.go:45", after := #[], guard := none }) (v := .agg #[.slice Az nz cz]) rfl (by kernel_rfl) (by kernel_rfl) (by kernel_rfl) (fun _ _ _ h => h) (Or.inl ⟨by kernel_rfl, fun w' hSw => by (try dsimp only at hSw); go_simp⟩) (by assumption) ?_
  try simp only [Act.put, List.setIfInBounds_toArray, List.set_cons_zero, List.set_cons_succ]
  exact L0_ W0.drew bd

/-- The operations of the region. -/
noncomputable def puts_ownOps : Array Oper := #[{ dst := some 26, op := Op.load 24 (Operand.tmp 3), type := 24, pos := "law.go:74", after := #[], guard := none }, { dst := some 27, op := Op.call { callee := Callee.value (Operand.func 9), args := #[Operand.tmp 26], argTypes := #[24] }, type := 24, pos := "law.go:74", after := #[{ on := 0, ground := Ground.data }], guard := none }, { dst := some 28, op := Op.load 24 (Operand.tmp 4), type := 24, pos := "law.go:74", after := #[], guard := none }, { dst := some 29, op := Op.call { callee := Callee.value (Operand.func 9), args := #[Operand.tmp 28], argTypes := #[24] }, type := 24, pos := "law.go:74", after := #[{ on := 2, ground := Ground.data }, { on := 1, ground := Ground.chain }], guard := none }, { dst := some 7, op := Op.alloc 24, type := 0, pos := "law.go:74", after := #[], guard := none }, { dst := some 8, op := Op.alloc 24, type := 0, pos := "law.go:74", after := #[], guard := none }, { dst := none, op := Op.store 24 (Operand.tmp 7) (Operand.tmp 27), type := 0, pos := "law.go:74", after := #[{ on := 4, ground := Ground.data }, { on := 1, ground := Ground.data }, { on := 3, ground := Ground.chain }, { on := 0, ground := Ground.phase }, { on := 1, ground := Ground.phase }, { on := 2, ground := Ground.textOnly Departure.lateStores }, { on := 3, ground := Ground.textOnly Departure.lateStoresUnsure }, { on := 4, ground := Ground.phase }, { on := 5, ground := Ground.phase }], guard := none }, { dst := none, op := Op.store 24 (Operand.tmp 8) (Operand.tmp 29), type := 0, pos := "law.go:74", after := #[{ on := 5, ground := Ground.data }, { on := 3, ground := Ground.data }, { on := 6, ground := Ground.chain }, { on := 0, ground := Ground.phase }, { on := 1, ground := Ground.phase }, { on := 2, ground := Ground.phase }, { on := 3, ground := Ground.phase }, { on := 4, ground := Ground.phase }, { on := 5, ground := Ground.phase }, { on := 6, ground := Ground.phase }], guard := none }]
set_option maxRecDepth 100000 in
set_option maxHeartbeats 8000000 in
theorem puts_own (Q : Exit → Act → World → Prop) (W0 : World) (v0 v1 v2 : Value) (p3 p4 : Nat) (Ax Ay : Option Addr) (nx cx ny cy : Nat) (x1 x2 : List ByteArray) (HS : ∀ W, Below W0.heap.size W0 W → (fun w' => w'.cell? ⟨p3, 0, none⟩ = some (.slice Ax nx cx) ∧ w'.cell? ⟨p4, 0, none⟩ = some (.slice Ay ny cy)) W) (C0 : ∀ W, Below W0.heap.size W0 W → Calls Try.prog 9 #[.agg #[.slice Ax nx cx]] W (OwnR x1 W)) (C1 : ∀ W, Below W0.heap.size W0 W → Calls Try.prog 9 #[.agg #[.slice Ay ny cy]] W (OwnR x2 W)) 
    (hQ : ∀ (W : World) (s0 s1 : RS) (g0 g1 : Nat), Below W0.heap.size W0 W → (s0.l = x1) → (s1.l = x2) → InBox W0 W g0 s0 → InBox W0 W g1 s1 → g0 ≠ g1 → Q .normal ⟨#[v0, v1, v2, .pointer (some ⟨p3, 0, none⟩), .pointer (some ⟨p4, 0, none⟩), undef, .bool false, .pointer (some ⟨g0, 0, none⟩), .pointer (some ⟨g1, 0, none⟩), undef, undef, undef, undef, undef, undef, undef, undef, undef, undef, undef, undef, undef, undef, undef, .bool true, .bool false, .agg #[.slice Ax nx cx], .agg #[.slice s0.A s0.n s0.c], .agg #[.slice Ay ny cy], .agg #[.slice s1.A s1.n s1.c], undef, undef, undef, undef, undef, undef, undef, undef, undef, undef, undef, undef, undef, undef, undef, undef, undef, undef, undef, undef, undef, undef, undef, undef, undef, undef, undef, undef, undef, undef, undef, undef, undef, undef, undef, undef, undef, undef, undef, undef, undef, undef, undef, undef, undef, undef, undef, undef, undef, undef, undef, undef, undef, undef, undef, undef, undef, undef, undef, undef, undef, undef, undef, undef, undef, undef, undef, undef, undef, undef, undef, undef, undef, undef, undef, undef, undef, undef, undef, undef, undef, undef, undef, undef, undef, undef, undef, undef, undef, undef, undef, undef, undef, undef, undef, undef], []⟩ W) : (Code.region 3 puts_ownOps true).wp Try.prog Q ⟨#[v0, v1, v2, .pointer (some ⟨p3, 0, none⟩), .pointer (some ⟨p4, 0, none⟩), undef, .bool false, undef, undef, undef, undef, undef, undef, undef, undef, undef, undef, undef, undef, undef, undef, undef, undef, undef, .bool true, .bool false, undef, undef, undef, undef, undef, undef, undef, undef, undef, undef, undef, undef, undef, undef, undef, undef, undef, undef, undef, undef, undef, undef, undef, undef, undef, undef, undef, undef, undef, undef, undef, undef, undef, undef, undef, undef, undef, undef, undef, undef, undef, undef, undef, undef, undef, undef, undef, undef, undef, undef, undef, undef, undef, undef, undef, undef, undef, undef, undef, undef, undef, undef, undef, undef, undef, undef, undef, undef, undef, undef, undef, undef, undef, undef, undef, undef, undef, undef, undef, undef, undef, undef, undef, undef, undef, undef, undef, undef, undef, undef, undef, undef, undef, undef, undef, undef, undef, undef, undef, undef], []⟩ W0 := by
  have L2_01 : ∀ (W : World) (b : Below W0.heap.size W0 W) (s0 : RS) (s1 : RS) (g0 : Nat) (g1 : Nat) (h0 : s0.l = x1 ∧ s0.ok W W.heap.size) (h1 : s1.l = x2 ∧ s1.ok W W.heap.size) (n0 : NewBox W0 W g0) (n1 : NewBox W0 W g1) (d01 : g0 ≠ g1), wpAnyH Try.prog .any puts_ownOps (NoPanic Q) (fun w' => w'.cell? ⟨p3, 0, none⟩ = some (.slice Ax nx cx) ∧ w'.cell? ⟨p4, 0, none⟩ = some (.slice Ay ny cy)) 2 #[true, true, true, true, true, true, false, false] ⟨#[v0, v1, v2, .pointer (some ⟨p3, 0, none⟩), .pointer (some ⟨p4, 0, none⟩), undef, .bool false, .pointer (some ⟨g0, 0, none⟩), .pointer (some ⟨g1, 0, none⟩), undef, undef, undef, undef, undef, undef, undef, undef, undef, undef, undef, undef, undef, undef, undef, .bool true, .bool false, .agg #[.slice Ax nx cx], .agg #[.slice s0.A s0.n s0.c], .agg #[.slice Ay ny cy], .agg #[.slice s1.A s1.n s1.c], undef, undef, undef, undef, undef, undef, undef, undef, undef, undef, undef, undef, undef, undef, undef, undef, undef, undef, undef, undef, undef, undef, undef, undef, undef, undef, undef, undef, undef, undef, undef, undef, undef, undef, undef, undef, undef, undef, undef, undef, undef, undef, undef, undef, undef, undef, undef, undef, undef, undef, undef, undef, undef, undef, undef, undef, undef, undef, undef, undef, undef, undef, undef, undef, undef, undef, undef, undef, undef, undef, undef, undef, undef, undef, undef, undef, undef, undef, undef, undef, undef, undef, undef, undef, undef, undef, undef, undef, undef, undef, undef, undef, undef, undef, undef, undef], []⟩ W := by
    intro W b s0 s1 g0 g1 h0 h1 n0 n1 d01
    have c0 := n0.2.cell 0
    have f0 := n0.2.frozen 0
    have c1 := n1.2.cell 0
    have f1 := n1.2.frozen 0
    have o0 := h0.2
    have o1 := h1.2
    have b0 : Below W0.heap.size W0 (W.setCell ⟨g0, 0, none⟩ (.slice s0.A s0.n s0.c)) := b.setCell (p := ⟨g0, 0, none⟩) n0.1 _
    refine wpAnyH_ready (rs := [6]) (by kernel_rfl) (by simp) ?_
    refine AllReadyH.cons (o := { dst := none, op := Op.store 24 (Operand.tmp 7) (Operand.tmp 27), type := 0, pos := "law.go:74", after := #[{ on := 4, ground := Ground.data }, { on := 1, ground := Ground.data }, { on := 3, ground := Ground.chain }, { on := 0, ground := Ground.phase }, { on := 1, ground := Ground.phase }, { on := 2, ground := Ground.textOnly Departure.lateStores }, { on := 3, ground := Ground.textOnly Departure.lateStoresUnsure }, { on := 4, ground := Ground.phase }, { on := 5, ground := Ground.phase }], guard := none }) rfl (fun K hK => ?_) AllReadyH.nil
    go_simp
    refine hK.out _ _ (HS _ b0) (fun _ => ?_)
    clear hK K
    try simp only [List.setIfInBounds_toArray, List.set_cons_zero, List.set_cons_succ]
    replace o0 := o0.boxed (v := .slice s0.A s0.n s0.c) n0.2
    replace o1 := o1.boxed (v := .slice s0.A s0.n s0.c) n0.2
    replace n1 := n1.other (g := g0) (u := .slice s0.A s0.n s0.c) (fun e => d01 e.symm)
    replace c1 := n1.2.cell 0
    replace f1 := n1.2.frozen 0
    have k0 : HasBox W0 (W.setCell ⟨g0, 0, none⟩ (.slice s0.A s0.n s0.c)) g0 s0 := n0.put
    have b1 : Below W0.heap.size W0 ((W.setCell ⟨g0, 0, none⟩ (.slice s0.A s0.n s0.c)).setCell ⟨g1, 0, none⟩ (.slice s1.A s1.n s1.c)) := b0.setCell (p := ⟨g1, 0, none⟩) n1.1 _
    refine wpAnyH_ready (rs := [7]) (by kernel_rfl) (by simp) ?_
    refine AllReadyH.cons (o := { dst := none, op := Op.store 24 (Operand.tmp 8) (Operand.tmp 29), type := 0, pos := "law.go:74", after := #[{ on := 5, ground := Ground.data }, { on := 3, ground := Ground.data }, { on := 6, ground := Ground.chain }, { on := 0, ground := Ground.phase }, { on := 1, ground := Ground.phase }, { on := 2, ground := Ground.phase }, { on := 3, ground := Ground.phase }, { on := 4, ground := Ground.phase }, { on := 5, ground := Ground.phase }, { on := 6, ground := Ground.phase }], guard := none }) rfl (fun K hK => ?_) AllReadyH.nil
    go_simp
    refine hK.out _ _ (HS _ b1) (fun _ => ?_)
    clear hK K
    try simp only [List.setIfInBounds_toArray, List.set_cons_zero, List.set_cons_succ]
    replace o0 := o0.boxed (v := .slice s1.A s1.n s1.c) n1.2
    replace o1 := o1.boxed (v := .slice s1.A s1.n s1.c) n1.2
    have k0 := k0.other (g := g1) (u := .slice s1.A s1.n s1.c) (d01)
    have k1 : HasBox W0 ((W.setCell ⟨g0, 0, none⟩ (.slice s0.A s0.n s0.c)).setCell ⟨g1, 0, none⟩ (.slice s1.A s1.n s1.c)) g1 s1 := n1.put
    refine wpAnyH_done (by kernel_rfl) ?_ _
    refine NoPanic.normal ?_
    exact hQ _ s0 s1 g0 g1 b1 h0.1 h1.1 ⟨k0, o0⟩ ⟨k1, o1⟩ d01
  have L2_0 : ∀ (W : World) (b : Below W0.heap.size W0 W) (s0 : RS) (s1 : RS) (g0 : Nat) (h0 : s0.l = x1 ∧ s0.ok W W.heap.size) (h1 : s1.l = x2 ∧ s1.ok W W.heap.size) (n0 : NewBox W0 W g0), wpAnyH Try.prog .any puts_ownOps (NoPanic Q) (fun w' => w'.cell? ⟨p3, 0, none⟩ = some (.slice Ax nx cx) ∧ w'.cell? ⟨p4, 0, none⟩ = some (.slice Ay ny cy)) 3 #[true, true, true, true, true, false, false, false] ⟨#[v0, v1, v2, .pointer (some ⟨p3, 0, none⟩), .pointer (some ⟨p4, 0, none⟩), undef, .bool false, .pointer (some ⟨g0, 0, none⟩), undef, undef, undef, undef, undef, undef, undef, undef, undef, undef, undef, undef, undef, undef, undef, undef, .bool true, .bool false, .agg #[.slice Ax nx cx], .agg #[.slice s0.A s0.n s0.c], .agg #[.slice Ay ny cy], .agg #[.slice s1.A s1.n s1.c], undef, undef, undef, undef, undef, undef, undef, undef, undef, undef, undef, undef, undef, undef, undef, undef, undef, undef, undef, undef, undef, undef, undef, undef, undef, undef, undef, undef, undef, undef, undef, undef, undef, undef, undef, undef, undef, undef, undef, undef, undef, undef, undef, undef, undef, undef, undef, undef, undef, undef, undef, undef, undef, undef, undef, undef, undef, undef, undef, undef, undef, undef, undef, undef, undef, undef, undef, undef, undef, undef, undef, undef, undef, undef, undef, undef, undef, undef, undef, undef, undef, undef, undef, undef, undef, undef, undef, undef, undef, undef, undef, undef, undef, undef, undef, undef], []⟩ W := by
    intro W b s0 s1 g0 h0 h1 n0
    refine wpAnyH_ready (rs := [5]) (by kernel_rfl) (by simp) ?_
    refine AllReadyH.cons (o := { dst := some 8, op := Op.alloc 24, type := 0, pos := "law.go:74", after := #[], guard := none }) rfl (fun K hK => ?_) (AllReadyH.nil)
    · go_simp
      have b' := b.alloc b.size (.cells #[.slice none 0 0] 24)
      refine hK.out _ _ (HS _ b') (fun _ => ?_)
      clear hK K
      try simp only [List.setIfInBounds_toArray, List.set_cons_zero, List.set_cons_succ]
      exact L2_01 _ b' s0 s1 g0 W.heap.size ⟨h0.1, h0.2.on (one_more W _)⟩ ⟨h1.1, h1.2.on (one_more W _)⟩ (n0.on (one_more W _)) (NewBox.new b) (n0.ne_new)
  have L2_1 : ∀ (W : World) (b : Below W0.heap.size W0 W) (s0 : RS) (s1 : RS) (g1 : Nat) (h0 : s0.l = x1 ∧ s0.ok W W.heap.size) (h1 : s1.l = x2 ∧ s1.ok W W.heap.size) (n1 : NewBox W0 W g1), wpAnyH Try.prog .any puts_ownOps (NoPanic Q) (fun w' => w'.cell? ⟨p3, 0, none⟩ = some (.slice Ax nx cx) ∧ w'.cell? ⟨p4, 0, none⟩ = some (.slice Ay ny cy)) 3 #[true, true, true, true, false, true, false, false] ⟨#[v0, v1, v2, .pointer (some ⟨p3, 0, none⟩), .pointer (some ⟨p4, 0, none⟩), undef, .bool false, undef, .pointer (some ⟨g1, 0, none⟩), undef, undef, undef, undef, undef, undef, undef, undef, undef, undef, undef, undef, undef, undef, undef, .bool true, .bool false, .agg #[.slice Ax nx cx], .agg #[.slice s0.A s0.n s0.c], .agg #[.slice Ay ny cy], .agg #[.slice s1.A s1.n s1.c], undef, undef, undef, undef, undef, undef, undef, undef, undef, undef, undef, undef, undef, undef, undef, undef, undef, undef, undef, undef, undef, undef, undef, undef, undef, undef, undef, undef, undef, undef, undef, undef, undef, undef, undef, undef, undef, undef, undef, undef, undef, undef, undef, undef, undef, undef, undef, undef, undef, undef, undef, undef, undef, undef, undef, undef, undef, undef, undef, undef, undef, undef, undef, undef, undef, undef, undef, undef, undef, undef, undef, undef, undef, undef, undef, undef, undef, undef, undef, undef, undef, undef, undef, undef, undef, undef, undef, undef, undef, undef, undef, undef, undef, undef, undef, undef], []⟩ W := by
    intro W b s0 s1 g1 h0 h1 n1
    refine wpAnyH_ready (rs := [4]) (by kernel_rfl) (by simp) ?_
    refine AllReadyH.cons (o := { dst := some 7, op := Op.alloc 24, type := 0, pos := "law.go:74", after := #[], guard := none }) rfl (fun K hK => ?_) (AllReadyH.nil)
    · go_simp
      have b' := b.alloc b.size (.cells #[.slice none 0 0] 24)
      refine hK.out _ _ (HS _ b') (fun _ => ?_)
      clear hK K
      try simp only [List.setIfInBounds_toArray, List.set_cons_zero, List.set_cons_succ]
      exact L2_01 _ b' s0 s1 W.heap.size g1 ⟨h0.1, h0.2.on (one_more W _)⟩ ⟨h1.1, h1.2.on (one_more W _)⟩ (NewBox.new b) (n1.on (one_more W _)) (n1.ne_new')
  have L1_01 : ∀ (W : World) (b : Below W0.heap.size W0 W) (s0 : RS) (g0 : Nat) (g1 : Nat) (h0 : s0.l = x1 ∧ s0.ok W W.heap.size) (n0 : NewBox W0 W g0) (n1 : NewBox W0 W g1) (d01 : g0 ≠ g1), wpAnyH Try.prog .any puts_ownOps (NoPanic Q) (fun w' => w'.cell? ⟨p3, 0, none⟩ = some (.slice Ax nx cx) ∧ w'.cell? ⟨p4, 0, none⟩ = some (.slice Ay ny cy)) 3 #[true, true, true, false, true, true, false, false] ⟨#[v0, v1, v2, .pointer (some ⟨p3, 0, none⟩), .pointer (some ⟨p4, 0, none⟩), undef, .bool false, .pointer (some ⟨g0, 0, none⟩), .pointer (some ⟨g1, 0, none⟩), undef, undef, undef, undef, undef, undef, undef, undef, undef, undef, undef, undef, undef, undef, undef, .bool true, .bool false, .agg #[.slice Ax nx cx], .agg #[.slice s0.A s0.n s0.c], .agg #[.slice Ay ny cy], undef, undef, undef, undef, undef, undef, undef, undef, undef, undef, undef, undef, undef, undef, undef, undef, undef, undef, undef, undef, undef, undef, undef, undef, undef, undef, undef, undef, undef, undef, undef, undef, undef, undef, undef, undef, undef, undef, undef, undef, undef, undef, undef, undef, undef, undef, undef, undef, undef, undef, undef, undef, undef, undef, undef, undef, undef, undef, undef, undef, undef, undef, undef, undef, undef, undef, undef, undef, undef, undef, undef, undef, undef, undef, undef, undef, undef, undef, undef, undef, undef, undef, undef, undef, undef, undef, undef, undef, undef, undef, undef, undef, undef, undef, undef, undef, undef], []⟩ W := by
    intro W b s0 g0 g1 h0 n0 n1 d01
    refine wpAnyH_ready (rs := [3]) (by kernel_rfl) (by simp) ?_
    refine AllReadyH.cons (o := { dst := some 29, op := Op.call { callee := Callee.value (Operand.func 9), args := #[Operand.tmp 28], argTypes := #[24] }, type := 24, pos := "law.go:74", after := #[{ on := 2, ground := Ground.data }, { on := 1, ground := Ground.chain }], guard := none }) rfl (fun K hK => ?_) (AllReadyH.nil)
    · go_simp
      refine (C1 W b).mono ?_
      rintro e W' ⟨s1, rfl, e1, o1, _, bb⟩
      have b' := b.trans (bb.mono b.size)
      refine hK.out _ _ (HS _ b') (fun _ => ?_)
      clear hK K
      try simp only [List.setIfInBounds_toArray, List.set_cons_zero, List.set_cons_succ]
      exact L2_01 _ b' s0 s1 g0 g1 ⟨h0.1, h0.2.on bb⟩ ⟨e1, o1⟩ (n0.on bb) (n1.on bb) d01
  have L2_ : ∀ (W : World) (b : Below W0.heap.size W0 W) (s0 : RS) (s1 : RS) (h0 : s0.l = x1 ∧ s0.ok W W.heap.size) (h1 : s1.l = x2 ∧ s1.ok W W.heap.size), wpAnyH Try.prog .any puts_ownOps (NoPanic Q) (fun w' => w'.cell? ⟨p3, 0, none⟩ = some (.slice Ax nx cx) ∧ w'.cell? ⟨p4, 0, none⟩ = some (.slice Ay ny cy)) 4 #[true, true, true, true, false, false, false, false] ⟨#[v0, v1, v2, .pointer (some ⟨p3, 0, none⟩), .pointer (some ⟨p4, 0, none⟩), undef, .bool false, undef, undef, undef, undef, undef, undef, undef, undef, undef, undef, undef, undef, undef, undef, undef, undef, undef, .bool true, .bool false, .agg #[.slice Ax nx cx], .agg #[.slice s0.A s0.n s0.c], .agg #[.slice Ay ny cy], .agg #[.slice s1.A s1.n s1.c], undef, undef, undef, undef, undef, undef, undef, undef, undef, undef, undef, undef, undef, undef, undef, undef, undef, undef, undef, undef, undef, undef, undef, undef, undef, undef, undef, undef, undef, undef, undef, undef, undef, undef, undef, undef, undef, undef, undef, undef, undef, undef, undef, undef, undef, undef, undef, undef, undef, undef, undef, undef, undef, undef, undef, undef, undef, undef, undef, undef, undef, undef, undef, undef, undef, undef, undef, undef, undef, undef, undef, undef, undef, undef, undef, undef, undef, undef, undef, undef, undef, undef, undef, undef, undef, undef, undef, undef, undef, undef, undef, undef, undef, undef, undef, undef], []⟩ W := by
    intro W b s0 s1 h0 h1
    refine wpAnyH_ready (rs := [4, 5]) (by kernel_rfl) (by simp) ?_
    refine AllReadyH.cons (o := { dst := some 7, op := Op.alloc 24, type := 0, pos := "law.go:74", after := #[], guard := none }) rfl (fun K hK => ?_) (AllReadyH.cons (o := { dst := some 8, op := Op.alloc 24, type := 0, pos := "law.go:74", after := #[], guard := none }) rfl (fun K hK => ?_) (AllReadyH.nil))
    · go_simp
      have b' := b.alloc b.size (.cells #[.slice none 0 0] 24)
      refine hK.out _ _ (HS _ b') (fun _ => ?_)
      clear hK K
      try simp only [List.setIfInBounds_toArray, List.set_cons_zero, List.set_cons_succ]
      exact L2_0 _ b' s0 s1 W.heap.size ⟨h0.1, h0.2.on (one_more W _)⟩ ⟨h1.1, h1.2.on (one_more W _)⟩ (NewBox.new b)
    · go_simp
      have b' := b.alloc b.size (.cells #[.slice none 0 0] 24)
      refine hK.out _ _ (HS _ b') (fun _ => ?_)
      clear hK K
      try simp only [List.setIfInBounds_toArray, List.set_cons_zero, List.set_cons_succ]
      exact L2_1 _ b' s0 s1 W.heap.size ⟨h0.1, h0.2.on (one_more W _)⟩ ⟨h1.1, h1.2.on (one_more W _)⟩ (NewBox.new b)
  have L1_0 : ∀ (W : World) (b : Below W0.heap.size W0 W) (s0 : RS) (g0 : Nat) (h0 : s0.l = x1 ∧ s0.ok W W.heap.size) (n0 : NewBox W0 W g0), wpAnyH Try.prog .any puts_ownOps (NoPanic Q) (fun w' => w'.cell? ⟨p3, 0, none⟩ = some (.slice Ax nx cx) ∧ w'.cell? ⟨p4, 0, none⟩ = some (.slice Ay ny cy)) 4 #[true, true, true, false, true, false, false, false] ⟨#[v0, v1, v2, .pointer (some ⟨p3, 0, none⟩), .pointer (some ⟨p4, 0, none⟩), undef, .bool false, .pointer (some ⟨g0, 0, none⟩), undef, undef, undef, undef, undef, undef, undef, undef, undef, undef, undef, undef, undef, undef, undef, undef, .bool true, .bool false, .agg #[.slice Ax nx cx], .agg #[.slice s0.A s0.n s0.c], .agg #[.slice Ay ny cy], undef, undef, undef, undef, undef, undef, undef, undef, undef, undef, undef, undef, undef, undef, undef, undef, undef, undef, undef, undef, undef, undef, undef, undef, undef, undef, undef, undef, undef, undef, undef, undef, undef, undef, undef, undef, undef, undef, undef, undef, undef, undef, undef, undef, undef, undef, undef, undef, undef, undef, undef, undef, undef, undef, undef, undef, undef, undef, undef, undef, undef, undef, undef, undef, undef, undef, undef, undef, undef, undef, undef, undef, undef, undef, undef, undef, undef, undef, undef, undef, undef, undef, undef, undef, undef, undef, undef, undef, undef, undef, undef, undef, undef, undef, undef, undef, undef], []⟩ W := by
    intro W b s0 g0 h0 n0
    refine wpAnyH_ready (rs := [3, 5]) (by kernel_rfl) (by simp) ?_
    refine AllReadyH.cons (o := { dst := some 29, op := Op.call { callee := Callee.value (Operand.func 9), args := #[Operand.tmp 28], argTypes := #[24] }, type := 24, pos := "law.go:74", after := #[{ on := 2, ground := Ground.data }, { on := 1, ground := Ground.chain }], guard := none }) rfl (fun K hK => ?_) (AllReadyH.cons (o := { dst := some 8, op := Op.alloc 24, type := 0, pos := "law.go:74", after := #[], guard := none }) rfl (fun K hK => ?_) (AllReadyH.nil))
    · go_simp
      refine (C1 W b).mono ?_
      rintro e W' ⟨s1, rfl, e1, o1, _, bb⟩
      have b' := b.trans (bb.mono b.size)
      refine hK.out _ _ (HS _ b') (fun _ => ?_)
      clear hK K
      try simp only [List.setIfInBounds_toArray, List.set_cons_zero, List.set_cons_succ]
      exact L2_0 _ b' s0 s1 g0 ⟨h0.1, h0.2.on bb⟩ ⟨e1, o1⟩ (n0.on bb)
    · go_simp
      have b' := b.alloc b.size (.cells #[.slice none 0 0] 24)
      refine hK.out _ _ (HS _ b') (fun _ => ?_)
      clear hK K
      try simp only [List.setIfInBounds_toArray, List.set_cons_zero, List.set_cons_succ]
      exact L1_01 _ b' s0 g0 W.heap.size ⟨h0.1, h0.2.on (one_more W _)⟩ (n0.on (one_more W _)) (NewBox.new b) (n0.ne_new)
  have L1_1 : ∀ (W : World) (b : Below W0.heap.size W0 W) (s0 : RS) (g1 : Nat) (h0 : s0.l = x1 ∧ s0.ok W W.heap.size) (n1 : NewBox W0 W g1), wpAnyH Try.prog .any puts_ownOps (NoPanic Q) (fun w' => w'.cell? ⟨p3, 0, none⟩ = some (.slice Ax nx cx) ∧ w'.cell? ⟨p4, 0, none⟩ = some (.slice Ay ny cy)) 4 #[true, true, true, false, false, true, false, false] ⟨#[v0, v1, v2, .pointer (some ⟨p3, 0, none⟩), .pointer (some ⟨p4, 0, none⟩), undef, .bool false, undef, .pointer (some ⟨g1, 0, none⟩), undef, undef, undef, undef, undef, undef, undef, undef, undef, undef, undef, undef, undef, undef, undef, .bool true, .bool false, .agg #[.slice Ax nx cx], .agg #[.slice s0.A s0.n s0.c], .agg #[.slice Ay ny cy], undef, undef, undef, undef, undef, undef, undef, undef, undef, undef, undef, undef, undef, undef, undef, undef, undef, undef, undef, undef, undef, undef, undef, undef, undef, undef, undef, undef, undef, undef, undef, undef, undef, undef, undef, undef, undef, undef, undef, undef, undef, undef, undef, undef, undef, undef, undef, undef, undef, undef, undef, undef, undef, undef, undef, undef, undef, undef, undef, undef, undef, undef, undef, undef, undef, undef, undef, undef, undef, undef, undef, undef, undef, undef, undef, undef, undef, undef, undef, undef, undef, undef, undef, undef, undef, undef, undef, undef, undef, undef, undef, undef, undef, undef, undef, undef, undef], []⟩ W := by
    intro W b s0 g1 h0 n1
    refine wpAnyH_ready (rs := [3, 4]) (by kernel_rfl) (by simp) ?_
    refine AllReadyH.cons (o := { dst := some 29, op := Op.call { callee := Callee.value (Operand.func 9), args := #[Operand.tmp 28], argTypes := #[24] }, type := 24, pos := "law.go:74", after := #[{ on := 2, ground := Ground.data }, { on := 1, ground := Ground.chain }], guard := none }) rfl (fun K hK => ?_) (AllReadyH.cons (o := { dst := some 7, op := Op.alloc 24, type := 0, pos := "law.go:74", after := #[], guard := none }) rfl (fun K hK => ?_) (AllReadyH.nil))
    · go_simp
      refine (C1 W b).mono ?_
      rintro e W' ⟨s1, rfl, e1, o1, _, bb⟩
      have b' := b.trans (bb.mono b.size)
      refine hK.out _ _ (HS _ b') (fun _ => ?_)
      clear hK K
      try simp only [List.setIfInBounds_toArray, List.set_cons_zero, List.set_cons_succ]
      exact L2_1 _ b' s0 s1 g1 ⟨h0.1, h0.2.on bb⟩ ⟨e1, o1⟩ (n1.on bb)
    · go_simp
      have b' := b.alloc b.size (.cells #[.slice none 0 0] 24)
      refine hK.out _ _ (HS _ b') (fun _ => ?_)
      clear hK K
      try simp only [List.setIfInBounds_toArray, List.set_cons_zero, List.set_cons_succ]
      exact L1_01 _ b' s0 W.heap.size g1 ⟨h0.1, h0.2.on (one_more W _)⟩ (NewBox.new b) (n1.on (one_more W _)) (n1.ne_new')
  have L0_01 : ∀ (W : World) (b : Below W0.heap.size W0 W) (g0 : Nat) (g1 : Nat) (n0 : NewBox W0 W g0) (n1 : NewBox W0 W g1) (d01 : g0 ≠ g1), wpAnyH Try.prog .any puts_ownOps (NoPanic Q) (fun w' => w'.cell? ⟨p3, 0, none⟩ = some (.slice Ax nx cx) ∧ w'.cell? ⟨p4, 0, none⟩ = some (.slice Ay ny cy)) 4 #[true, false, true, false, true, true, false, false] ⟨#[v0, v1, v2, .pointer (some ⟨p3, 0, none⟩), .pointer (some ⟨p4, 0, none⟩), undef, .bool false, .pointer (some ⟨g0, 0, none⟩), .pointer (some ⟨g1, 0, none⟩), undef, undef, undef, undef, undef, undef, undef, undef, undef, undef, undef, undef, undef, undef, undef, .bool true, .bool false, .agg #[.slice Ax nx cx], undef, .agg #[.slice Ay ny cy], undef, undef, undef, undef, undef, undef, undef, undef, undef, undef, undef, undef, undef, undef, undef, undef, undef, undef, undef, undef, undef, undef, undef, undef, undef, undef, undef, undef, undef, undef, undef, undef, undef, undef, undef, undef, undef, undef, undef, undef, undef, undef, undef, undef, undef, undef, undef, undef, undef, undef, undef, undef, undef, undef, undef, undef, undef, undef, undef, undef, undef, undef, undef, undef, undef, undef, undef, undef, undef, undef, undef, undef, undef, undef, undef, undef, undef, undef, undef, undef, undef, undef, undef, undef, undef, undef, undef, undef, undef, undef, undef, undef, undef, undef, undef, undef, undef], []⟩ W := by
    intro W b  g0 g1 n0 n1 d01
    refine wpAnyH_ready (rs := [1]) (by kernel_rfl) (by simp) ?_
    refine AllReadyH.cons (o := { dst := some 27, op := Op.call { callee := Callee.value (Operand.func 9), args := #[Operand.tmp 26], argTypes := #[24] }, type := 24, pos := "law.go:74", after := #[{ on := 0, ground := Ground.data }], guard := none }) rfl (fun K hK => ?_) (AllReadyH.nil)
    · go_simp
      refine (C0 W b).mono ?_
      rintro e W' ⟨s0, rfl, e0, o0, _, bb⟩
      have b' := b.trans (bb.mono b.size)
      refine hK.out _ _ (HS _ b') (fun _ => ?_)
      clear hK K
      try simp only [List.setIfInBounds_toArray, List.set_cons_zero, List.set_cons_succ]
      exact L1_01 _ b' s0 g0 g1 ⟨e0, o0⟩ (n0.on bb) (n1.on bb) d01
  have L1_ : ∀ (W : World) (b : Below W0.heap.size W0 W) (s0 : RS) (h0 : s0.l = x1 ∧ s0.ok W W.heap.size), wpAnyH Try.prog .any puts_ownOps (NoPanic Q) (fun w' => w'.cell? ⟨p3, 0, none⟩ = some (.slice Ax nx cx) ∧ w'.cell? ⟨p4, 0, none⟩ = some (.slice Ay ny cy)) 5 #[true, true, true, false, false, false, false, false] ⟨#[v0, v1, v2, .pointer (some ⟨p3, 0, none⟩), .pointer (some ⟨p4, 0, none⟩), undef, .bool false, undef, undef, undef, undef, undef, undef, undef, undef, undef, undef, undef, undef, undef, undef, undef, undef, undef, .bool true, .bool false, .agg #[.slice Ax nx cx], .agg #[.slice s0.A s0.n s0.c], .agg #[.slice Ay ny cy], undef, undef, undef, undef, undef, undef, undef, undef, undef, undef, undef, undef, undef, undef, undef, undef, undef, undef, undef, undef, undef, undef, undef, undef, undef, undef, undef, undef, undef, undef, undef, undef, undef, undef, undef, undef, undef, undef, undef, undef, undef, undef, undef, undef, undef, undef, undef, undef, undef, undef, undef, undef, undef, undef, undef, undef, undef, undef, undef, undef, undef, undef, undef, undef, undef, undef, undef, undef, undef, undef, undef, undef, undef, undef, undef, undef, undef, undef, undef, undef, undef, undef, undef, undef, undef, undef, undef, undef, undef, undef, undef, undef, undef, undef, undef, undef, undef], []⟩ W := by
    intro W b s0 h0
    refine wpAnyH_ready (rs := [3, 4, 5]) (by kernel_rfl) (by simp) ?_
    refine AllReadyH.cons (o := { dst := some 29, op := Op.call { callee := Callee.value (Operand.func 9), args := #[Operand.tmp 28], argTypes := #[24] }, type := 24, pos := "law.go:74", after := #[{ on := 2, ground := Ground.data }, { on := 1, ground := Ground.chain }], guard := none }) rfl (fun K hK => ?_) (AllReadyH.cons (o := { dst := some 7, op := Op.alloc 24, type := 0, pos := "law.go:74", after := #[], guard := none }) rfl (fun K hK => ?_) (AllReadyH.cons (o := { dst := some 8, op := Op.alloc 24, type := 0, pos := "law.go:74", after := #[], guard := none }) rfl (fun K hK => ?_) (AllReadyH.nil)))
    · go_simp
      refine (C1 W b).mono ?_
      rintro e W' ⟨s1, rfl, e1, o1, _, bb⟩
      have b' := b.trans (bb.mono b.size)
      refine hK.out _ _ (HS _ b') (fun _ => ?_)
      clear hK K
      try simp only [List.setIfInBounds_toArray, List.set_cons_zero, List.set_cons_succ]
      exact L2_ _ b' s0 s1 ⟨h0.1, h0.2.on bb⟩ ⟨e1, o1⟩
    · go_simp
      have b' := b.alloc b.size (.cells #[.slice none 0 0] 24)
      refine hK.out _ _ (HS _ b') (fun _ => ?_)
      clear hK K
      try simp only [List.setIfInBounds_toArray, List.set_cons_zero, List.set_cons_succ]
      exact L1_0 _ b' s0 W.heap.size ⟨h0.1, h0.2.on (one_more W _)⟩ (NewBox.new b)
    · go_simp
      have b' := b.alloc b.size (.cells #[.slice none 0 0] 24)
      refine hK.out _ _ (HS _ b') (fun _ => ?_)
      clear hK K
      try simp only [List.setIfInBounds_toArray, List.set_cons_zero, List.set_cons_succ]
      exact L1_1 _ b' s0 W.heap.size ⟨h0.1, h0.2.on (one_more W _)⟩ (NewBox.new b)
  have L0_0 : ∀ (W : World) (b : Below W0.heap.size W0 W) (g0 : Nat) (n0 : NewBox W0 W g0), wpAnyH Try.prog .any puts_ownOps (NoPanic Q) (fun w' => w'.cell? ⟨p3, 0, none⟩ = some (.slice Ax nx cx) ∧ w'.cell? ⟨p4, 0, none⟩ = some (.slice Ay ny cy)) 5 #[true, false, true, false, true, false, false, false] ⟨#[v0, v1, v2, .pointer (some ⟨p3, 0, none⟩), .pointer (some ⟨p4, 0, none⟩), undef, .bool false, .pointer (some ⟨g0, 0, none⟩), undef, undef, undef, undef, undef, undef, undef, undef, undef, undef, undef, undef, undef, undef, undef, undef, .bool true, .bool false, .agg #[.slice Ax nx cx], undef, .agg #[.slice Ay ny cy], undef, undef, undef, undef, undef, undef, undef, undef, undef, undef, undef, undef, undef, undef, undef, undef, undef, undef, undef, undef, undef, undef, undef, undef, undef, undef, undef, undef, undef, undef, undef, undef, undef, undef, undef, undef, undef, undef, undef, undef, undef, undef, undef, undef, undef, undef, undef, undef, undef, undef, undef, undef, undef, undef, undef, undef, undef, undef, undef, undef, undef, undef, undef, undef, undef, undef, undef, undef, undef, undef, undef, undef, undef, undef, undef, undef, undef, undef, undef, undef, undef, undef, undef, undef, undef, undef, undef, undef, undef, undef, undef, undef, undef, undef, undef, undef, undef], []⟩ W := by
    intro W b  g0 n0
    refine wpAnyH_ready (rs := [1, 5]) (by kernel_rfl) (by simp) ?_
    refine AllReadyH.cons (o := { dst := some 27, op := Op.call { callee := Callee.value (Operand.func 9), args := #[Operand.tmp 26], argTypes := #[24] }, type := 24, pos := "law.go:74", after := #[{ on := 0, ground := Ground.data }], guard := none }) rfl (fun K hK => ?_) (AllReadyH.cons (o := { dst := some 8, op := Op.alloc 24, type := 0, pos := "law.go:74", after := #[], guard := none }) rfl (fun K hK => ?_) (AllReadyH.nil))
    · go_simp
      refine (C0 W b).mono ?_
      rintro e W' ⟨s0, rfl, e0, o0, _, bb⟩
      have b' := b.trans (bb.mono b.size)
      refine hK.out _ _ (HS _ b') (fun _ => ?_)
      clear hK K
      try simp only [List.setIfInBounds_toArray, List.set_cons_zero, List.set_cons_succ]
      exact L1_0 _ b' s0 g0 ⟨e0, o0⟩ (n0.on bb)
    · go_simp
      have b' := b.alloc b.size (.cells #[.slice none 0 0] 24)
      refine hK.out _ _ (HS _ b') (fun _ => ?_)
      clear hK K
      try simp only [List.setIfInBounds_toArray, List.set_cons_zero, List.set_cons_succ]
      exact L0_01 _ b' g0 W.heap.size (n0.on (one_more W _)) (NewBox.new b) (n0.ne_new)
  have L0_1 : ∀ (W : World) (b : Below W0.heap.size W0 W) (g1 : Nat) (n1 : NewBox W0 W g1), wpAnyH Try.prog .any puts_ownOps (NoPanic Q) (fun w' => w'.cell? ⟨p3, 0, none⟩ = some (.slice Ax nx cx) ∧ w'.cell? ⟨p4, 0, none⟩ = some (.slice Ay ny cy)) 5 #[true, false, true, false, false, true, false, false] ⟨#[v0, v1, v2, .pointer (some ⟨p3, 0, none⟩), .pointer (some ⟨p4, 0, none⟩), undef, .bool false, undef, .pointer (some ⟨g1, 0, none⟩), undef, undef, undef, undef, undef, undef, undef, undef, undef, undef, undef, undef, undef, undef, undef, .bool true, .bool false, .agg #[.slice Ax nx cx], undef, .agg #[.slice Ay ny cy], undef, undef, undef, undef, undef, undef, undef, undef, undef, undef, undef, undef, undef, undef, undef, undef, undef, undef, undef, undef, undef, undef, undef, undef, undef, undef, undef, undef, undef, undef, undef, undef, undef, undef, undef, undef, undef, undef, undef, undef, undef, undef, undef, undef, undef, undef, undef, undef, undef, undef, undef, undef, undef, undef, undef, undef, undef, undef, undef, undef, undef, undef, undef, undef, undef, undef, undef, undef, undef, undef, undef, undef, undef, undef, undef, undef, undef, undef, undef, undef, undef, undef, undef, undef, undef, undef, undef, undef, undef, undef, undef, undef, undef, undef, undef, undef, undef], []⟩ W := by
    intro W b  g1 n1
    refine wpAnyH_ready (rs := [1, 4]) (by kernel_rfl) (by simp) ?_
    refine AllReadyH.cons (o := { dst := some 27, op := Op.call { callee := Callee.value (Operand.func 9), args := #[Operand.tmp 26], argTypes := #[24] }, type := 24, pos := "law.go:74", after := #[{ on := 0, ground := Ground.data }], guard := none }) rfl (fun K hK => ?_) (AllReadyH.cons (o := { dst := some 7, op := Op.alloc 24, type := 0, pos := "law.go:74", after := #[], guard := none }) rfl (fun K hK => ?_) (AllReadyH.nil))
    · go_simp
      refine (C0 W b).mono ?_
      rintro e W' ⟨s0, rfl, e0, o0, _, bb⟩
      have b' := b.trans (bb.mono b.size)
      refine hK.out _ _ (HS _ b') (fun _ => ?_)
      clear hK K
      try simp only [List.setIfInBounds_toArray, List.set_cons_zero, List.set_cons_succ]
      exact L1_1 _ b' s0 g1 ⟨e0, o0⟩ (n1.on bb)
    · go_simp
      have b' := b.alloc b.size (.cells #[.slice none 0 0] 24)
      refine hK.out _ _ (HS _ b') (fun _ => ?_)
      clear hK K
      try simp only [List.setIfInBounds_toArray, List.set_cons_zero, List.set_cons_succ]
      exact L0_01 _ b' W.heap.size g1 (NewBox.new b) (n1.on (one_more W _)) (n1.ne_new')
  have L0_ : ∀ (W : World) (b : Below W0.heap.size W0 W)  , wpAnyH Try.prog .any puts_ownOps (NoPanic Q) (fun w' => w'.cell? ⟨p3, 0, none⟩ = some (.slice Ax nx cx) ∧ w'.cell? ⟨p4, 0, none⟩ = some (.slice Ay ny cy)) 6 #[true, false, true, false, false, false, false, false] ⟨#[v0, v1, v2, .pointer (some ⟨p3, 0, none⟩), .pointer (some ⟨p4, 0, none⟩), undef, .bool false, undef, undef, undef, undef, undef, undef, undef, undef, undef, undef, undef, undef, undef, undef, undef, undef, undef, .bool true, .bool false, .agg #[.slice Ax nx cx], undef, .agg #[.slice Ay ny cy], undef, undef, undef, undef, undef, undef, undef, undef, undef, undef, undef, undef, undef, undef, undef, undef, undef, undef, undef, undef, undef, undef, undef, undef, undef, undef, undef, undef, undef, undef, undef, undef, undef, undef, undef, undef, undef, undef, undef, undef, undef, undef, undef, undef, undef, undef, undef, undef, undef, undef, undef, undef, undef, undef, undef, undef, undef, undef, undef, undef, undef, undef, undef, undef, undef, undef, undef, undef, undef, undef, undef, undef, undef, undef, undef, undef, undef, undef, undef, undef, undef, undef, undef, undef, undef, undef, undef, undef, undef, undef, undef, undef, undef, undef, undef, undef, undef], []⟩ W := by
    intro W b  
    refine wpAnyH_ready (rs := [1, 4, 5]) (by kernel_rfl) (by simp) ?_
    refine AllReadyH.cons (o := { dst := some 27, op := Op.call { callee := Callee.value (Operand.func 9), args := #[Operand.tmp 26], argTypes := #[24] }, type := 24, pos := "law.go:74", after := #[{ on := 0, ground := Ground.data }], guard := none }) rfl (fun K hK => ?_) (AllReadyH.cons (o := { dst := some 7, op := Op.alloc 24, type := 0, pos := "law.go:74", after := #[], guard := none }) rfl (fun K hK => ?_) (AllReadyH.cons (o := { dst := some 8, op := Op.alloc 24, type := 0, pos := "law.go:74", after := #[], guard := none }) rfl (fun K hK => ?_) (AllReadyH.nil)))
    · go_simp
      refine (C0 W b).mono ?_
      rintro e W' ⟨s0, rfl, e0, o0, _, bb⟩
      have b' := b.trans (bb.mono b.size)
      refine hK.out _ _ (HS _ b') (fun _ => ?_)
      clear hK K
      try simp only [List.setIfInBounds_toArray, List.set_cons_zero, List.set_cons_succ]
      exact L1_ _ b' s0 ⟨e0, o0⟩
    · go_simp
      have b' := b.alloc b.size (.cells #[.slice none 0 0] 24)
      refine hK.out _ _ (HS _ b') (fun _ => ?_)
      clear hK K
      try simp only [List.setIfInBounds_toArray, List.set_cons_zero, List.set_cons_succ]
      exact L0_0 _ b' W.heap.size (NewBox.new b)
    · go_simp
      have b' := b.alloc b.size (.cells #[.slice none 0 0] 24)
      refine hK.out _ _ (HS _ b') (fun _ => ?_)
      clear hK K
      try simp only [List.setIfInBounds_toArray, List.set_cons_zero, List.set_cons_succ]
      exact L0_1 _ b' W.heap.size (NewBox.new b)
  have bd : Below W0.heap.size W0 W0.drew := (Below.refl _ _).drew
  refine wp_region_noPanic ?_
  refine wp_region_held_drew (S := fun w' => w'.cell? ⟨p3, 0, none⟩ = some (.slice Ax nx cx) ∧ w'.cell? ⟨p4, 0, none⟩ = some (.slice Ay ny cy)) (by kernel_rfl) (HS _ bd) (fun hHeld => ?_)
  refine wpAnyH_take (i := 0) (oi := { dst := some 26, op := Op.load 24 (Operand.tmp 3), type := 24, pos := "law.go:74", after := #[], guard := none }) (v := .agg #[.slice Ax nx cx]) rfl (by kernel_rfl) (by kernel_rfl) (by kernel_rfl) (fun _ _ _ h => h) (Or.inl ⟨by kernel_rfl, fun w' hSw => by (try dsimp only at hSw); go_simp⟩) (by assumption) ?_
  try simp only [Act.put, List.setIfInBounds_toArray, List.set_cons_zero, List.set_cons_succ]
  refine wpAnyH_take (i := 2) (oi := { dst := some 28, op := Op.load 24 (Operand.tmp 4), type := 24, pos := "law.go:74", after := #[], guard := none }) (v := .agg #[.slice Ay ny cy]) rfl (by kernel_rfl) (by kernel_rfl) (by kernel_rfl) (fun _ _ _ h => h) (Or.inl ⟨by kernel_rfl, fun w' hSw => by (try dsimp only at hSw); go_simp⟩) (by assumption) ?_
  try simp only [Act.put, List.setIfInBounds_toArray, List.set_cons_zero, List.set_cons_succ]
  exact L0_ W0.drew bd
end Go.Proofs.Ythamkpmbfefpfaa
