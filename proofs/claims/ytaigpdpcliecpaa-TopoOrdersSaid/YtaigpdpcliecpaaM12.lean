/- Layer topo: the function that tells the nodes that are taken: its memory. -/
import Derived.Test.YtaigpdpcliecpaaM10
import Derived.Test.YtaigpdpcliecpaaM11
import Derived.Test.YtaigpdpcliecpaaM6
-- holds: YtaigpdpcliecpaaTj
namespace Go.Proofs.Ytaigpdpcliecpaa
open Go.RowKit Go.Shelf

/-- The memory of the function that tells the nodes, as it lies: the heap, the numbers of edges, the marks; C are the blocks of who asks. -/
structure TkAt (N1 B H P BW BP m : Nat) (A : Option Addr) (n c : Nat) (xs ws : List Int) (C : Nat → Prop) (Ds : List Nat) (w1 W : World) : Prop where
  heap : HeapAt H B A n c xs W
  wts : Blk W P 3 (ints ws).toArray
  bw : Blk W BW 27 #[.slice (some ⟨P, 0, none⟩) m m]
  bp : Blk W BP 84 #[.func (.func 65) #[.pointer (some ⟨H, 0, none⟩)] #[]]
  lo : B ≤ H ∧ B ≤ P ∧ B ≤ BW ∧ B ≤ BP
  apart : (Value.slice A n c).ownBlock ≠ some P
  notC : ¬ C H ∧ ¬ C P ∧ ¬ C BW ∧ ¬ C BP ∧ ∀ g, (Value.slice A n c).ownBlock = some g → ¬ C g
  marks : MarksAt B C Ds W
  below : Below N1 w1 W
  size : N1 ≤ B ∧ B ≤ W.heap.size
  cIn : ∀ k, C k → N1 ≤ k ∧ k < W.heap.size
section
variable {N1 B H P BW BP m : Nat} {A : Option Addr} {n c : Nat} {xs ws : List Int} {C : Nat → Prop} {Ds : List Nat} {w1 W W' : World}
theorem TkAt.hp (h : TkAt N1 B H P BW BP m A n c xs ws C Ds w1 W) : P ≠ H := fun e => by
  have := h.heap.blk
  rw [← e] at this
  exact Blk.ne_ h.wts this (by decide) rfl
theorem TkAt.own_lo (h : TkAt N1 B H P BW BP m A n c xs ws C Ds w1 W) {g : Nat} (hg : (Value.slice A n c).ownBlock = some g) : B ≤ g ∧ g < W.heap.size := by
  have := own_in h.heap.row hg
  exact ⟨this.1, this.2.1⟩
/-- Nothing of one's own is turned. -/
theorem TkAt.keep {S : Nat → Prop} (h : TkAt N1 B H P BW BP m A n c xs ws C Ds w1 W) (hk : Keep S W W') (hS : ∀ k, k < W.heap.size → (k < N1 ∨ k = H ∨ k = P ∨ k = BW ∨ k = BP ∨ (Value.slice A n c).ownBlock = some k ∨ k ∈ Ds) → S k) : TkAt N1 B H P BW BP m A n c xs ws C Ds w1 W' :=
  ⟨h.heap.keep hk (hS _ h.heap.blk.lt (.inr (.inl rfl))) fun g hg => hS _ (h.own_lo hg).2 (.inr (.inr (.inr (.inr (.inr (.inl hg)))))), hk.blk h.wts (hS _ h.wts.lt (.inr (.inr (.inl rfl)))), hk.blk h.bw (hS _ h.bw.lt (.inr (.inr (.inr (.inl rfl))))), hk.blk h.bp (hS _ h.bp.lt (.inr (.inr (.inr (.inr (.inl rfl)))))),
    h.lo, h.apart, h.notC, h.marks.keep hk fun D hD => hS _ (h.marks.lt hD) (.inr (.inr (.inr (.inr (.inr (.inr hD)))))),
    h.below.trans ((hk.mono (T := fun k => k < N1) fun k hk hN => hS k hk (.inl hN)).below (by have := h.size; omega) fun k hk => hk), ⟨h.size.1, Nat.le_trans h.size.2 hk.size⟩, fun k hC => ⟨(h.cIn k hC).1, Nat.lt_of_lt_of_le (h.cIn k hC).2 hk.size⟩⟩
theorem TkAt.on (h : TkAt N1 B H P BW BP m A n c xs ws C Ds w1 W) (hb : Below W.heap.size W W') : TkAt N1 B H P BW BP m A n c xs ws C Ds w1 W' := h.keep (Keep.of_all (fun _ => True) hb) fun _ _ _ => trivial
theorem TkAt.all_lt (h : TkAt N1 B H P BW BP m A n c xs ws C Ds w1 W) {k : Nat} (hk : k < N1 ∨ k = H ∨ k = P ∨ k = BW ∨ k = BP ∨ (Value.slice A n c).ownBlock = some k ∨ k ∈ Ds) : k < W.heap.size := by
  have := h.size
  rcases hk with hk | rfl | rfl | rfl | rfl | hk | hk
  · omega
  · exact h.heap.blk.lt
  · exact h.wts.lt
  · exact h.bw.lt
  · exact h.bp.lt
  · exact (h.own_lo hk).2
  · exact h.marks.lt hk
/-- A number of edges is written. -/
theorem TkAt.set (h : TkAt N1 B H P BW BP m A n c xs ws C Ds w1 W) (t : Nat) (x : Int) : TkAt N1 B H P BW BP m A n c xs (ws.set t x) C Ds w1 (W.setCell ⟨P, t, none⟩ (.int .i64 x)) := by
  have hk : Keep (fun k => k ≠ P) W (W.setCell ⟨P, t, none⟩ (.int .i64 x)) := (Keep.refl _ W).set (.inr fun e => e rfl) _ _
  refine ⟨h.heap.keep hk (Ne.symm h.hp) fun g hg e => h.apart (by rw [hg, e]), ?_, hk.blk h.bw fun e => Blk.ne_ h.bw h.wts (by decide) e, hk.blk h.bp fun e => Blk.ne_ h.bp h.wts (by decide) e, h.lo, h.apart, h.notC, h.marks.keep hk fun D hD => h.marks.ne h.wts hD,
    h.below.trans ((hk.mono (T := fun k => k < N1) fun k _ hN e => by have := h.lo.2.1; have := h.size.1; omega).below (by have := h.size; omega) fun k hk => hk), by rw [World.size_setCell]; exact h.size, fun k hC => by rw [World.size_setCell]; exact h.cIn k hC⟩
  have := h.wts.set_ t (.int .i64 x)
  rw [List.setIfInBounds_toArray, ints_set] at this
  exact this
/-- The heap is another one. -/
theorem TkAt.heapTo {A' : Option Addr} {n' c' : Nat} {ys : List Int} (h : TkAt N1 B H P BW BP m A n c xs ws C Ds w1 W) (hh : HeapAt H B A' n' c' ys W') (hk : Keep (fun k => k ≠ H ∧ (Value.slice A n c).ownBlock ≠ some k) W W')
    (ho : (Value.slice A' n' c').ownBlock = (Value.slice A n c).ownBlock ∨ ∃ N, (Value.slice A' n' c').ownBlock = some N ∧ W.heap.size ≤ N) : TkAt N1 B H P BW BP m A' n' c' ys ws C Ds w1 W' := by
  refine ⟨hh, hk.blk h.wts ⟨h.hp, h.apart⟩, hk.blk h.bw ⟨Blk.ne_ h.bw h.heap.blk (by decide), fun e => own_blk_ne h.heap.row h.bw (by decide) e⟩, hk.blk h.bp ⟨Blk.ne_ h.bp h.heap.blk (by decide), fun e => own_blk_ne h.heap.row h.bp (by decide) e⟩, h.lo, fun e => ?_, ⟨h.notC.1, h.notC.2.1, h.notC.2.2.1, h.notC.2.2.2.1, fun g hg => ?_⟩,
    h.marks.keep hk fun D hD => ⟨h.marks.ne h.heap.blk hD, fun e => ?_⟩, h.below.trans ((hk.mono (T := fun k => k < N1) fun k _ hN => ⟨fun e => by have := h.lo.1; have := h.size.1; omega, fun e => by have := (h.own_lo e).1; have := h.size.1; omega⟩).below (by have := h.size; omega) fun k hk => hk),
    ⟨h.size.1, Nat.le_trans h.size.2 hk.size⟩, fun k hC => ⟨(h.cIn k hC).1, Nat.lt_of_lt_of_le (h.cIn k hC).2 hk.size⟩⟩
  · rcases ho with ho | ⟨N, ho, hN⟩
    · exact h.apart (ho.symm.trans e)
    · have := ho.symm.trans e
      injection this with this
      have := h.wts.lt
      omega
  · rcases ho with ho | ⟨N, ho, hN⟩
    · exact h.notC.2.2.2.2 g (ho.symm.trans hg)
    · have := ho.symm.trans hg
      injection this with this
      intro hC
      have := (h.cIn g hC).2
      omega
  · obtain ⟨_, _, cur, hc⟩ := own_in h.heap.row e
    exact h.marks.ne hc hD rfl
/-- Who asks has turned what is theirs. -/
theorem TkAt.asked {C' : Nat → Prop} (h : TkAt N1 B H P BW BP m A n c xs ws C Ds w1 W) (hk : Keep (fun k => ¬ C k) W W') (hC : ∀ k, C' k → k < W'.heap.size ∧ (C k ∨ W.heap.size ≤ k)) : TkAt N1 B H P BW BP m A n c xs ws C' Ds w1 W' := by
  have hn : ∀ k, ¬ C k → k < W.heap.size → ¬ C' k := fun k h1 h2 h3 => by
    rcases (hC k h3).2 with h4 | h4
    · exact h1 h4
    · omega
  have h2 := h.keep hk fun k _ hk => by
    rcases hk with hk | rfl | rfl | rfl | rfl | hk | hk
    · exact fun c => by have := (h.cIn k c).1; omega
    · exact h.notC.1
    · exact h.notC.2.1
    · exact h.notC.2.2.1
    · exact h.notC.2.2.2.1
    · exact h.notC.2.2.2.2 k hk
    · exact (h.marks.all k hk).2.1
  exact ⟨h2.heap, h2.wts, h2.bw, h2.bp, h2.lo, h2.apart, ⟨hn _ h.notC.1 h.heap.blk.lt, hn _ h.notC.2.1 h.wts.lt, hn _ h.notC.2.2.1 h.bw.lt, hn _ h.notC.2.2.2.1 h.bp.lt, fun g hg => hn _ (h.notC.2.2.2.2 g hg) (h.own_lo hg).2⟩,
    h2.marks.to fun D hD hc => absurd hc (hn D (h.marks.all D hD).2.1 (h.marks.lt hD)), h2.below, h2.size, fun k hk => ⟨by
      rcases (hC k hk).2 with h4 | h4
      · exact (h.cIn k h4).1
      · have := h.size
        omega, (hC k hk).1⟩⟩
/-- A range has ended. -/
theorem TkAt.mark {D : Nat} (h : TkAt N1 B H P BW BP m A n c xs ws C Ds w1 W) (h1 : ∀ k, C k → k < D) (h2 : ∀ k ∈ Ds, k < D) (hB : B ≤ D) (h3 : W.heap[D]? = some (.deferred (some []))) : TkAt N1 B H P BW BP m A n c xs ws C (D :: Ds) w1 W :=
  ⟨h.heap, h.wts, h.bw, h.bp, h.lo, h.apart, h.notC, h.marks.cons hB (fun c => Nat.lt_irrefl _ (h1 D c)) h3 (fun c => Nat.lt_irrefl _ (h2 D c)), h.below, h.size, h.cIn⟩
/-- A cell of the numbers of edges. -/
theorem TkAt.cell (h : TkAt N1 B H P BW BP m A n c xs ws C Ds w1 W) {t : Nat} {x : Int} (hx : ws[t]? = some x) : W.cell? ⟨P, t, none⟩ = some (.int .i64 x) := by
  rw [h.wts.cell, List.getElem?_toArray]
  unfold ints
  rw [List.getElem?_map, hx]
  rfl
end
theorem eg_values7 : ∀ args w, (callFunc 61 args).run Try.prog w = .ok (.enter 61 args) w := enters_of Try.func61 (by kernel_rfl) rfl
/-- The next one is taken, or there is none. -/
def NextIs (N1 B H P BW BP m : Nat) (ws : List Int) (C : Nat → Prop) (Ds : List Nat) (w1 : World) (zs : List Ed) (l : List Int) (w : World) (e : Ending) (w' : World) : Prop :=
  ∃ (x : Int) (b : Bool) (A : Option Addr) (n c : Nat) (ys : List Int), e = .returned (.tuple #[.int .i64 x, .bool b]) ∧ TkAt N1 B H P BW BP m A n c ys ws C Ds w1 w' ∧ HeapOk ys ∧ (b = true → NextT zs m l x ∧ ReadyE m (l ++ [x]) (cntE (restE zs l)) ys) ∧ (b = false → NoneT zs m l) ∧ Keep (fun k => k < B ∨ C k) w w'
theorem next_any7 {N1 B H P BW BP m : Nat} {A : Option Addr} {n c : Nat} {xs ws : List Int} {C : Nat → Prop} {Ds : List Nat} {w1 w : World} {zs : List Ed} {l : List Int} (h : TkAt N1 B H P BW BP m A n c xs ws C Ds w1 w) (hm : m ≤ 300) (hr : ReadyE m l (cntE (restE zs l)) xs) (hk : HeapOk xs) :
    Calls Try.prog 66 #[.pointer (some ⟨H, 0, none⟩)] w (NextIs N1 B H P BW BP m ws C Ds w1 zs l w) := by
  have hn : n ≤ 1000 := by
    have h1 := hr.few
    have h2 := h.heap.len
    omega
  refine (take_any H B A n c xs w h.heap hk hn).mono ?_
  rintro e w' (⟨rfl, rfl, rfl⟩ | ⟨x, ys, hx, rfl, hp, hy, hh, hkp⟩)
  · exact ⟨0, false, A, n, c, [], rfl, h, hk, (fun e => by cases e), fun _ => hr.none_, Keep.refl _ _⟩
  · refine ⟨x, true, A, n - 1, c, ys, rfl, h.heapTo hh hkp (.inl (own_len _ _ _ _)), hy, fun _ => ⟨hr.next hk hx, hr.take hp⟩, (fun e => by cases e), hkp.mono fun k _ hS => ?_⟩
    rcases hS with hS | hS
    · exact ⟨fun e => by have := h.lo.1; omega, fun e => by have := (h.own_lo e).1; omega⟩
    · exact ⟨fun e => h.notC.1 (e ▸ hS), fun e => h.notC.2.2.2.2 k e hS⟩
end Go.Proofs.Ytaigpdpcliecpaa
