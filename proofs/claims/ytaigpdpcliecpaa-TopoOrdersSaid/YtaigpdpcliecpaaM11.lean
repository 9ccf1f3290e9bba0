/- The laws of layer topo: fair. -/
import Derived.Test.YtaigpdpcliecpaaM8
import Derived.Deep.RegionHeld3
import Derived.StillTailTactics
import Derived.Test.YtaigpdpcliecpaaM6
-- holds: YtaigpdpcliecpaaTh YtaigpdpcliecpaaQc YtaigpdpcliecpaaQd YtaigpdpcliecpaaTt
namespace Go.Proofs.Ytaigpdpcliecpaa
open Go.RowKit Go.Shelf

/-- What take gives. -/
def TakeIs (H B : Nat) (A : Option Addr) (n c : Nat) (xs : List Int) (w : World) (e : Ending) (w' : World) : Prop :=
  (xs = [] ∧ e = .returned (.tuple #[.int .i64 0, .bool false]) ∧ w' = w) ∨
  ∃ (x : Int) (ys : List Int), xs[0]? = some x ∧ e = .returned (.tuple #[.int .i64 x, .bool true]) ∧ xs.Perm (x :: ys) ∧ HeapOk ys ∧ HeapAt H B A (n - 1) c ys w' ∧ Keep (fun k => k ≠ H ∧ (Value.slice A n c).ownBlock ≠ some k) w w'

set_option maxRecDepth 100000 in
set_option maxHeartbeats 4000000 in
theorem take_any (H B : Nat) (A : Option Addr) (n c : Nat) (xs : List Int) (w : World) (h : HeapAt H B A n c xs w) (hok : HeapOk xs) (hn : n ≤ 1000) :
    Calls Try.prog 66 #[.pointer (some ⟨H, 0, none⟩)] w (TakeIs H B A n c xs w) := by
  have hl := h.len
  have x0 := h.blk.cell 0
  rcases Nat.eq_zero_or_pos n with h0 | h0
  · subst h0
    have hxs : xs = [] := List.length_eq_zero_iff.1 hl
    have HE : Hid (TakeIs H B A 0 c xs w (.returned (.tuple #[.int .i64 0, .bool false])) w) := .inl ⟨hxs, rfl, rfl⟩
    clear h hok hl hxs
    go_enter Try.func66, Try.ntmps66
    go_wp2_with fail
    go_ret2
    exact HE.out
  · obtain ⟨g, rfl, hnc, hc, hg1, hg2, hg3, hcell, hfr⟩ := h.form h0
    obtain ⟨l, rfl⟩ : ∃ l, n = l + 1 := ⟨n - 1, by omega⟩
    obtain ⟨x, hx⟩ : ∃ x, xs[0]? = some x := ⟨_, List.getElem?_eq_getElem (by omega)⟩
    obtain ⟨z, hz⟩ : ∃ z, xs[l]? = some z := ⟨_, List.getElem?_eq_getElem (by omega)⟩
    have c0 := hcell _ _ hx
    have c1 := hcell _ _ hz
    have f0 := hfr 0
    have hce : cutE xs = (xs.set 0 z).take l := by
      unfold cutE
      rw [hl, Nat.add_sub_cancel, List.getD_eq_getElem?_getD, hz]
      rfl
    have HSK : Hid (Sink ((xs.set 0 z).take l) 0) := by rw [← hce]; exact cut_sink hok
    have HPM : Hid (xs.Perm (x :: (xs.set 0 z).take l)) := by rw [← hce]; exact cut_perm hx
    have HX := Lib.hid hx
    have H0 := Lib.hid h
    have K0 : Hid (Keep (fun k => k ≠ H ∧ (Value.slice (some ⟨g, 0, none⟩) (l + 1) c).ownBlock ≠ some k) w w) := Keep.refl _ _
    obtain ⟨m, hm⟩ : ∃ m, l + 1 = m := ⟨_, rfl⟩
    have hw : IntKind.i64.wrap ((m : Int) - 1) = (l : Int) := by rw [IntKind.wrap_i64]; omega
    have hm0 : ((m : Int) == 0) = false := by simp; omega
    have hlm : (l : Int) < (m : Int) := by omega
    have h0m : (0 : Int) < (m : Int) := by omega
    have hsl := fun W => ir_slice_h (some ⟨g, 0, none⟩) m c l (by omega) W
    have HM := Lib.hid hm
    have hl9 : l ≤ 999 := by omega
    rw [hm] at x0 H0 K0 ⊢
    clear h hok hl hcell hfr hx hz hce hm hnc h0 hn
    go_enter Try.func66, Try.ntmps66
    go_upto_region 3 with fail
    go_quiet (fail)
    have H1 := Lib.hid (H0.out.drewN nq)
    have K1 := Lib.hid (K0.out.drewN nq)
    have x0 : (w.drewN nq).cell? ⟨H, 0, none⟩ = _ := H1.out.blk.cell 0
    have c1 : (w.drewN nq).cell? ⟨g, l, none⟩ = some (.int .i64 z) := c1
    have c0 : (w.drewN nq).cell? ⟨g, 0, none⟩ = some (.int .i64 x) := c0
    have f0 : (w.drewN nq).frozen? ⟨g, 0, none⟩ = false := f0
    clear H0 K0
    generalize w.drewN nq = w1 at *
    have HH2 := Lib.hid (H1.out.set 0 z)
    have HK2 : Hid (Keep (fun k => k ≠ H ∧ (Value.slice (some ⟨g, 0, none⟩) m c).ownBlock ≠ some k) w (w1.setCell ⟨g, 0, none⟩ (.int .i64 z))) := K1.out.set (.inr fun h => h.2 (by simp [Value.ownBlock])) _ _
    clear H1 K1
    go_upto_region 4 with fail
    go_region
    have H3 : Hid (HeapAt H B (some ⟨g, 0, none⟩) m c (xs.set 0 z) (w1.setCell ⟨g, 0, none⟩ (.int .i64 z)).drew) := ⟨HH2.out.blk.drew, HH2.out.row⟩
    have K3 := Lib.hid HK2.out.drew
    clear HH2 HK2 x0 c0 c1 f0
    generalize (w1.setCell ⟨g, 0, none⟩ (.int .i64 z)).drew = w3 at *
    have x0 := H3.out.blk.cell 0
    have f0 := H3.out.blk.frozen 0
    have H4 := Lib.hid (H3.out.cut (j := l) (by have := HM.out; omega))
    have K4 : Hid (Keep (fun k => k ≠ H ∧ (Value.slice (some ⟨g, 0, none⟩) m c).ownBlock ≠ some k) w (w3.setCell ⟨H, 0, none⟩ (.slice (some ⟨g, 0, none⟩) l c))) := K3.out.set (.inr fun h => h.1 rfl) _ _
    have HS4 := Lib.hid (sink_any H B (some ⟨g, 0, none⟩) l c _ _ H4.out HSK.out (by omega))
    clear H3 K3
    go_wp2_with fail
    refine HS4.out.mono ?_
    rintro e w5 ⟨⟨u, rfl⟩, ys, hp, hok, hh, hk⟩
    have HE : Hid (TakeIs H B (some ⟨g, 0, none⟩) m c xs w (.returned (.tuple #[.int .i64 x, .bool true])) w5) :=
      .inr ⟨x, ys, HX.out, rfl, HPM.out.trans (hp.symm.cons x), hok, by rw [← HM.out, Nat.add_sub_cancel]; exact hh, K4.out.trans (hk.mono fun k _ h => by rw [own_len _ l m]; exact h.2)⟩
    clear hp hok hh hk x0 f0 H4 K4 HS4
    go_wp2_with fail
    go_ret2
    exact HE.out

/-- An empty heap, and its two functions. -/
theorem ready_any (w : World) : Calls Try.prog 53 #[] w fun e w' => e = .returned (.tuple #[.func (.func 65) #[.pointer (some ⟨w.heap.size, 0, none⟩)] #[], .func (.func 66) #[.pointer (some ⟨w.heap.size, 0, none⟩)] #[]]) ∧ w' = w.alloc (.cells #[.slice none 0 0] 95) := by
  go_enter Try.func53, Try.ntmps53
  go_wp2_with fail
  go_ret2
  exact ⟨rfl, rfl⟩
end Go.Proofs.Ytaigpdpcliecpaa
namespace Go.Proofs.Ytaigpdpcliecpaa
open Go.RowKit Go.Shelf

theorem Keep.then_ {S : Nat → Prop} {W X Y : World} (h : Keep S W X) (k : Keep (fun j => j < W.heap.size ∧ S j) X Y) : Keep S W Y :=
  ⟨k.os.trans h.os, k.tape.trans h.tape, k.output.trans h.output, Nat.le_trans h.size k.size, fun i hi hs => (k.block i (Nat.lt_of_lt_of_le hi h.size) ⟨hi, hs⟩).trans (h.block i hi hs)⟩

def mkMark (D : Nat) : Deferred := { target := .collected D, args := #[] }
/-- The marks of the ranges that have ended: blocks of the call's own, which who asks does not turn. -/
structure MarksAt (B : Nat) (C : Nat → Prop) (Ds : List Nat) (w : World) : Prop where
  once : Ds.Nodup
  all : ∀ D ∈ Ds, B ≤ D ∧ ¬ C D ∧ w.heap[D]? = some (.deferred (some []))
section
variable {B : Nat} {C : Nat → Prop} {Ds : List Nat} {w w' : World}
theorem MarksAt.nil (B : Nat) (C : Nat → Prop) (w : World) : MarksAt B C [] w := ⟨List.nodup_nil, fun D h => by simp at h⟩
theorem MarksAt.lt (h : MarksAt B C Ds w) {D : Nat} (hD : D ∈ Ds) : D < w.heap.size := (Array.getElem?_eq_some_iff.1 (h.all D hD).2.2).1
theorem MarksAt.ne (h : MarksAt B C Ds w) {g : Nat} {t : TypeId} {cs : Array Value} (hb : Blk w g t cs) {D : Nat} (hD : D ∈ Ds) : D ≠ g := fun e => by
  have h1 := (h.all D hD).2.2
  rw [e] at h1
  unfold Blk at hb
  rw [hb] at h1
  cases h1
theorem MarksAt.keep {S : Nat → Prop} (h : MarksAt B C Ds w) (hk : Keep S w w') (hS : ∀ D ∈ Ds, S D) : MarksAt B C Ds w' :=
  ⟨h.once, fun D hD => ⟨(h.all D hD).1, (h.all D hD).2.1, hk.obj (h.all D hD).2.2 (hS D hD)⟩⟩
theorem MarksAt.to {C' : Nat → Prop} (h : MarksAt B C Ds w) (hC : ∀ D ∈ Ds, C' D → C D) : MarksAt B C' Ds w := ⟨h.once, fun D hD => ⟨(h.all D hD).1, fun c => (h.all D hD).2.1 (hC D hD c), (h.all D hD).2.2⟩⟩
theorem MarksAt.cons (h : MarksAt B C Ds w) {D : Nat} (h1 : B ≤ D) (h2 : ¬ C D) (h3 : w.heap[D]? = some (.deferred (some []))) (h4 : D ∉ Ds) : MarksAt B C (D :: Ds) w :=
  ⟨List.nodup_cons.2 ⟨h4, h.once⟩, fun E hE => by
    rcases List.mem_cons.1 hE with rfl | hE
    · exact ⟨h1, h2, h3⟩
    · exact h.all E hE⟩
end
/-- A function leaves, mark by mark. -/
theorem leaves_marks {F : Fence} {n : Nat} {P : Program} {fn : Func} {tmps : Array Value} {R : Ending → World → Prop} {B : Nat} {C : Nat → Prop} : ∀ (Ds : List Nat) (w : World), MarksAt B C Ds w →
    (∀ w', Keep (fun k => k ∉ Ds) w w' → LeavesIn F n P fn tmps R [] .returning w') → LeavesInM F n P fn tmps R (Ds.map mkMark) .returning w
  | [], w, _, h => h w (Keep.refl _ _)
  | D :: Ds, w, hm, h => by
    have h1 := hm.all D (.head _)
    have hnd := List.nodup_cons.1 hm.once
    have hk : Keep (fun k => k ≠ D) w (w.putObj D (.deferred none)) := (Keep.refl _ w).put (.inr fun e => e rfl) _
    refine ⟨by simp, .inl ⟨D, w.putObj D (.deferred none), rfl, run_takeDeferred h1.2.2, ?_⟩⟩
    refine leaves_marks Ds _ (MarksAt.keep ⟨hnd.2, fun E hE => hm.all E (.tail _ hE)⟩ hk fun E hE e => hnd.1 (e ▸ hE)) fun w' hk' => h w' ?_
    exact (hk.mono fun k _ hk => fun e => hk (e ▸ .head _)).trans (hk'.mono fun k _ hk => fun e => hk (.tail _ e))

theorem range_box {n : Nat} {P : Program} {g : Operand} {ps : Array Tmp} {assign body : Code} {Q : Exit → Act → World → Prop} {a : Act} {w : World} (jm : Option Nat) (h1 : 1 ≤ n) {gf : Nat} {lb : Array Value} (hg : a.eval g = .func (.func gf) #[] lb)
    (eg : ∀ args w, (callFunc gf args).run P w = .ok (.enter gf args) w) {α : Type} {enc : α → Value} {Ok End : List α → Prop} {S : Nat → Prop} {w1 : World} (hseq : OneSeq (n - 1) P gf lb enc Ok End S w1) (hb : Keep S w1 w) (hS : ∀ k, S k → k < w.heap.size)
    (cells : α → Array Value) (te : TypeId) (q r : Nat) (hps : ps = #[q])
    (I : List α → (Nat → Prop) → World → Prop) (Ix : World → Prop) (C0 : Nat → Prop) (hC0 : ∀ k, C0 k → ¬ S k ∧ k < w.heap.size) (h0 : I [] C0 w)
    (hI : ∀ cs C X Y, I cs C X → Keep (fun k => k < w.heap.size ∨ C k) X Y → I cs C Y) (hIx : ∀ X Y, Ix X → Keep (fun k => k < w.heap.size) X Y → Ix Y)
    (hassign : ∀ (l : Nat) (c : α) (W : World) (K : Act → World → Prop), K { tmps := (a.tmps.setIfInBounds q (enc c)).setIfInBounds r (.pointer (some ⟨W.heap.size, 0, none⟩)), defers := [] } (W.alloc (.cells (cells c) te)) →
      assign.wpIn (Fence.wide.inRound l) (n - 1) P (Exit.then K (fun _ _ _ => False)) { tmps := a.tmps.setIfInBounds q (enc c), defers := [] } W)
    (hbody : ∀ (l : Nat) (cs : List α) (c : α) (C : Nat → Prop) (Bx : Nat) (X : World), I cs C X → Ok (cs ++ [c]) → (∀ k, C k → ¬ S k ∧ k < X.heap.size) → w.heap.size ≤ X.heap.size → w.heap.size ≤ Bx → Blk X Bx te (cells c) →
      body.wpIn (Fence.wide.inRound l) (n - 1) P (OnePost jm w.heap.size C I Ix (cs ++ [c]) X) { tmps := (a.tmps.setIfInBounds q (enc c)).setIfInBounds r (.pointer (some ⟨Bx, 0, none⟩)), defers := [] } X)
    (hdone : ∀ (cs : List α) (C : Nat → Prop) (D : Nat) (W : World), w.heap.size ≤ D → End cs → I cs C W → W.heap[D]? = some (.deferred (some [])) → Q .normal { a with defers := mkMark D :: a.defers } W)
    (hstop : ∀ (D : Nat) (W : World), w.heap.size ≤ D → Ix W → W.heap[D]? = some (.deferred (some [])) → (jumpC jm).wpIn Fence.wide n P Q { a with defers := mkMark D :: a.defers } W) :
    (Code.rangeFunc g ps assign body).wpIn Fence.wide n P Q a w := by
  subst hps
  refine range_ones jm h1 hg eg hseq hb hS rfl I Ix C0 hC0 h0 hI hIx
    (fun c a' X => ∃ Bx, w.heap.size ≤ Bx ∧ Blk X Bx te (cells c) ∧ a' = { tmps := (a.tmps.setIfInBounds q (enc c)).setIfInBounds r (.pointer (some ⟨Bx, 0, none⟩)), defers := [] }) ?_ ?_ ?_ hdone hstop
  · rintro c a' X Y l o ⟨Bx, h2, h3, h4⟩ hl hk
    refine ⟨Bx, h2, hk.blk h3 fun e => ?_, h4⟩
    unfold Blk at h3
    rw [← e, h3] at hl
    cases hl
  · intro l cs c C W K _ hsz hK
    have e : (Array.zip #[q] #[enc c]).foldl (fun t (x : Tmp × Value) => match x with | (p, v) => t.setIfInBounds p v) a.tmps = a.tmps.setIfInBounds q (enc c) := by simp
    rw [e]
    exact hassign l c W K (hK _ _ ((Below.refl _ _).alloc (Nat.le_refl _) _) ⟨W.heap.size, hsz, Blk.new W _ _, rfl⟩)
  · rintro l cs c C a' X hi hok hC hsz ⟨Bx, h2, h3, rfl⟩
    exact hbody l cs c C Bx X hi hok hC hsz h2 h3
theorem range_val {n : Nat} {P : Program} {g : Operand} {ps : Array Tmp} {assign body : Code} {Q : Exit → Act → World → Prop} {a : Act} {w : World} (jm : Option Nat) (h1 : 1 ≤ n) {gf : Nat} {lb : Array Value} (hg : a.eval g = .func (.func gf) #[] lb)
    (eg : ∀ args w, (callFunc gf args).run P w = .ok (.enter gf args) w) {α : Type} {enc : α → Value} {Ok End : List α → Prop} {S : Nat → Prop} {w1 : World} (hseq : OneSeq (n - 1) P gf lb enc Ok End S w1) (hb : Keep S w1 w) (hS : ∀ k, S k → k < w.heap.size)
    (q r : Nat) (hps : ps = #[q])
    (I : List α → (Nat → Prop) → World → Prop) (Ix : World → Prop) (C0 : Nat → Prop) (hC0 : ∀ k, C0 k → ¬ S k ∧ k < w.heap.size) (h0 : I [] C0 w)
    (hI : ∀ cs C X Y, I cs C X → Keep (fun k => k < w.heap.size ∨ C k) X Y → I cs C Y) (hIx : ∀ X Y, Ix X → Keep (fun k => k < w.heap.size) X Y → Ix Y)
    (hassign : ∀ (l : Nat) (c : α) (W : World) (K : Act → World → Prop), K { tmps := (a.tmps.setIfInBounds q (enc c)).setIfInBounds r (enc c), defers := [] } W →
      assign.wpIn (Fence.wide.inRound l) (n - 1) P (Exit.then K (fun _ _ _ => False)) { tmps := a.tmps.setIfInBounds q (enc c), defers := [] } W)
    (hbody : ∀ (l : Nat) (cs : List α) (c : α) (C : Nat → Prop) (X : World), I cs C X → Ok (cs ++ [c]) → (∀ k, C k → ¬ S k ∧ k < X.heap.size) → w.heap.size ≤ X.heap.size →
      body.wpIn (Fence.wide.inRound l) (n - 1) P (OnePost jm w.heap.size C I Ix (cs ++ [c]) X) { tmps := (a.tmps.setIfInBounds q (enc c)).setIfInBounds r (enc c), defers := [] } X)
    (hdone : ∀ (cs : List α) (C : Nat → Prop) (D : Nat) (W : World), w.heap.size ≤ D → End cs → I cs C W → W.heap[D]? = some (.deferred (some [])) → Q .normal { a with defers := mkMark D :: a.defers } W)
    (hstop : ∀ (D : Nat) (W : World), w.heap.size ≤ D → Ix W → W.heap[D]? = some (.deferred (some [])) → (jumpC jm).wpIn Fence.wide n P Q { a with defers := mkMark D :: a.defers } W) :
    (Code.rangeFunc g ps assign body).wpIn Fence.wide n P Q a w := by
  subst hps
  refine range_ones jm h1 hg eg hseq hb hS rfl I Ix C0 hC0 h0 hI hIx
    (fun c a' _ => a' = { tmps := (a.tmps.setIfInBounds q (enc c)).setIfInBounds r (enc c), defers := [] }) ?_ ?_ ?_ hdone hstop
  · intro c a' X Y l o h _ _
    exact h
  · intro l cs c C W K _ _ hK
    have e : (Array.zip #[q] #[enc c]).foldl (fun t (x : Tmp × Value) => match x with | (p, v) => t.setIfInBounds p v) a.tmps = a.tmps.setIfInBounds q (enc c) := by simp
    rw [e]
    exact hassign l c W K (hK _ _ (Below.refl _ _) rfl)
  · rintro l cs c C a' X hi hok hC hsz rfl
    exact hbody l cs c C X hi hok hC hsz
end Go.Proofs.Ytaigpdpcliecpaa
namespace Go.Proofs.Ytaigpdpcliecpaa
open Go.RowKit Go.Shelf

def OnlyN (K : Act → World → Prop) : Exit → Act → World → Prop
  | .normal, a, w => K a w
  | _, _, _ => False
theorem OnlyN.lets {K : Act → World → Prop} : ¬ LetsOut (OnlyN K) := fun ⟨_, _, h⟩ => h
theorem upon_round {P : Program} {n l : Nat} {Q : Exit → Act → World → Prop} {KK K : Act → World → Prop} {K' : Act → World → Prop} (hK : ∀ a w, K a w → K' a w) (o : Oper) (a : Act) : ∀ r : Result Next, o.upon P a K (OnlyN KK) r → o.uponIn (Fence.wide.inRound l) n P a K' Q r
  | .ok (.value v) w', h => hK _ _ h
  | .ok .skip w', h => hK _ _ h
  | .ok (.defer d) w', h => hK _ _ h
  | .ok (.enter f args) w', h => ⟨(fun e => by cases e), ((callsIn_wide.2 h).inRound l).mono fun e w'' he => by
      cases e with
      | returned v => exact hK _ _ he
      | panicked c => exact (he : False).elim
      | outgrown => exact (OnlyN.lets he).elim⟩
  | .ok (.row row args) w', h => ⟨(fun e => by cases e), fun c cs _ => by
      obtain ⟨v, w2, r, s⟩ := (show Rows P row args w' _ from h) c cs
      exact ⟨v, w2, hK _ _ r, stepsIn_wide.2 s⟩⟩
  | .ok (.round _ _ _ _ _) w', h => (h : False).elim
  | .halt x w', h => by
      cases x <;> exact (h : False).elim
theorem any_round {P : Program} {n l : Nat} {md : Region.Mode} {ops : Array Oper} {Q : Exit → Act → World → Prop} (hd : ∀ (i : Nat) o, ops[i]? = some o → ∀ c, o.op ≠ .defer c) : ∀ (fuel : Nat) (listed : Array Bool) (a : Act) (w : World),
    wpAny P md ops (OnlyN fun a w => Q .normal a w) fuel listed a w → wpAnyIn (Fence.wide.inRound l) n P md ops Q fuel listed a w
  | 0, _, _, _, h => h
  | fuel + 1, listed, a, w, h => ⟨h.1, fun i hi => by
      have h2 := h.2 i hi
      unfold wpOp at h2
      unfold wpOpIn
      cases ho : ops[i]? with
      | none =>
        rw [ho] at h2
        exact any_round hd fuel _ _ _ h2
      | some o =>
        rw [ho] at h2
        simp only at h2 ⊢
        split
        · rename_i hw
          rw [if_pos hw] at h2
          rcases h2 with h2 | h2
          · refine ⟨fun f _ => trivial, ?_⟩
            rw [show (Fence.wide.inRound l).round = some l from rfl, Oper.semAt_some l _ _ (hd i o ho)]
            exact upon_round (fun a w h => any_round hd fuel _ a w h) o a _ h2
          · exact (OnlyN.lets h2.2).elim
        · rename_i hw
          rw [if_neg hw] at h2
          exact ⟨fun f _ => trivial, any_round hd fuel _ _ _ h2⟩⟩
theorem noDefer {ops : Array Oper} (h : ops.toList.all (fun o => match o.op with | .defer _ => false | _ => true) = true) : ∀ (i : Nat) o, ops[i]? = some o → ∀ c, o.op ≠ .defer c := fun i o ho c e => by
  have := List.all_eq_true.1 h o (by rw [← Array.getElem?_toList] at ho; exact List.mem_of_getElem? ho)
  rw [e] at this
  cases this
/-- A region that draws, within a round: S is shown of the world behind the draw, once, and handed on. -/
theorem region_round {P : Program} {n l id : Nat} {ops : Array Oper} {Q : Exit → Act → World → Prop} {a : Act} {w : World} {S : World → Prop} (hm : P.follows .mixedOrders = true) (hd : ops.toList.all (fun o => match o.op with | .defer _ => false | _ => true) = true) (hS : S w.drew)
    (h : S w.drew → wpAnyH P .any ops (OnlyN fun a w => Q .normal a w) S ops.size (Array.replicate ops.size false) a w.drew) : (Code.region id ops true).wpIn (Fence.wide.inRound l) n P Q a w :=
  wpIn_region_any hm (any_round (noDefer hd) _ _ _ _ (wpAny_of_held _ _ _ _ (h hS)))
/-- A region whose first operations only read, whatever order is drawn: the others are carried out one behind the other. -/
theorem still_any {P : Program} {Q : Exit → Act → World → Prop} {a : Act} {w : World} {l : List Oper} (n : Nat) (hB : Region.lexTailB .any l.toArray n = true)
    (h : wpStill P l.toArray w (fun a' => wpList P l.toArray Q (l.drop n) a' w) (l.take n) a) : wpAny P .any l.toArray Q l.toArray.size (Array.replicate l.toArray.size false) a w := by
  unfold Region.lexTailB at hB
  rw [Bool.and_eq_true, Bool.and_eq_true, Bool.and_eq_true, Bool.and_eq_true, decide_eq_true_eq] at hB
  obtain ⟨⟨⟨⟨h1, h2⟩, h3⟩, h4⟩, h5⟩ := hB
  have hs : l.toArray.size = l.length := List.size_toArray
  have ht : (l.take n).length = n := by rw [List.length_take]; omega
  have hd : (l.drop n).length = l.toArray.size - n := by rw [List.length_drop, hs]
  have hI : HeadInv .any l.toArray n (Array.replicate l.toArray.size false) :=
    ⟨by simp, fun j oj _ hl => (by rw [getD_replicate_false] at hl; cases hl), fun t _ ht => getD_in (by simpa using ht) (getD_replicate_false _ _)⟩
  have hH := wpAnyL_lex (md := .any) (g := l.toArray.size - n) h1 h3 h4 h2 (l.take n) 0 _ a (fun j hj => by rw [ht] at hj; simp [hj]) (by rw [ht]; omega) hI (by rw [ht]; exact h5) h
  have hF := wpAny_of_head (Q' := Q) (g := l.toArray.size - n) (fun listed a' hL => by
    have := wpAny_of_seq (md := .any) (Q' := Q) (l.drop n) n listed a' w (fun j => by simp [List.getElem?_drop]) (by rw [hd]; exact hL.1) hL.2
    rwa [hd] at this) _ _ _ hH
  rwa [ht, show n + (l.toArray.size - n) = l.toArray.size by omega] at hF
/-- Such a region within a round. -/
theorem still_round {P : Program} {m r id : Nat} {l : List Oper} {Q : Exit → Act → World → Prop} {a : Act} {w : World} (n : Nat) (hm : P.follows .mixedOrders = true) (hB : Region.lexTailB .any l.toArray n = true) (hd : l.toArray.toList.all (fun o => match o.op with | .defer _ => false | _ => true) = true)
    (h : wpStill P l.toArray w.drew (fun a' => wpList P l.toArray (OnlyN fun a w => Q .normal a w) (l.drop n) a' w.drew) (l.take n) a) : (Code.region id l.toArray true).wpIn (Fence.wide.inRound r) m P Q a w :=
  wpIn_region_any hm (any_round (noDefer hd) _ _ _ _ (still_any n hB h))
end Go.Proofs.Ytaigpdpcliecpaa
namespace Go.Proofs.Ytaigpdpcliecpaa
open Go.RowKit Go.Shelf

set_option maxRecDepth 100000 in
set_option maxHeartbeats 2000000 in
theorem fair7_any (nodes : Int) (A : Option Addr) (n c : Nat) (zs : List Ed) (hc : A = none → c = 0) (hnc : n ≤ c) (hcm : c ≤ 9223372036854775807) (w : World) (hR : Reads w w.heap.size 3 A n (cellsE zs)) :
    Calls Try.prog 9 #[.agg #[.int .i64 nodes, .slice A n c]] w (GIs nodes (zs.take 60) w) := by
  obtain ⟨k0, k1, b0⟩ := two_new w #[.int .i64 nodes, .slice A n c] #[.int .i64 0, .slice none 0 0] 24 24
  have hl := reads_len hR
  have hk6 : min n 60 ≤ n ∧ min n 60 ≤ 60 := by omega
  have hmin : min (n : Int) 60 = ((min n 60 : Nat) : Int) := by omega
  have hsl := fun W => pr_slice_h A n c (min n 60) ((min n 60 : Nat) : Int) rfl (by omega) W
  have hcl := clone_any A (min n 60) c (zs.take 60) (by omega) hc (by omega) _ (show Reads ((w.alloc (.cells #[.int .i64 nodes, .slice A n c] 24)).alloc (.cells #[.int .i64 0, .slice none 0 0] 24)).drew _ 3 A (min n 60) (cellsE (zs.take 60)) from by
    have h1 := ((hR.below b0).more b0.size)
    rcases Nat.le_total n 60 with h | h
    · rw [Nat.min_eq_left h, List.take_of_length_le (by omega)]; exact h1
    · rw [Nat.min_eq_right h, cellsE_take]; exact reads_take h1 h)
  have hlt : (zs.take 60).length = min n 60 := by rw [List.length_take]; omega
  generalize zs.take 60 = ts at *
  rw [← hlt] at hk6 hmin hsl hcl
  have HC := Lib.hid hcl
  have HSS : Hid (∀ W, Below ((w.alloc (.cells #[.int .i64 nodes, .slice A n c] 24)).alloc (.cells #[.int .i64 0, .slice none 0 0] 24)).heap.size ((w.alloc (.cells #[.int .i64 nodes, .slice A n c] 24)).alloc (.cells #[.int .i64 0, .slice none 0 0] 24)) W →
      Blk W w.heap.size 24 #[.int .i64 nodes, .slice A n c] ∧ Blk W (w.heap.size + 1) 24 #[.int .i64 0, .slice none 0 0]) := fun W h => ⟨k0.below h k0.lt, k1.below h k1.lt⟩
  have B0 := Lib.hid b0
  clear hR k0 k1 b0 hl hcl hlt hc hk6
  go_enter Try.func9, Try.ntmps9
  go_wp2_with fail
  generalize (w.alloc (.cells #[.int .i64 nodes, .slice A n c] 24)).alloc (.cells #[.int .i64 0, .slice none 0 0] 24) = W0 at *
  have J0 : Hid (Below W0.heap.size W0 W0.drew) := (Below.refl _ _).drew
  refine wp_region_noPanic ?_
  refine wp_region_held_drew (S := fun W => W.cell? ⟨w.heap.size, 0, none⟩ = some (.int .i64 nodes) ∧ W.cell? ⟨w.heap.size, 1, none⟩ = some (.slice A n c)) (by kernel_rfl) ⟨(HSS.out _ J0.out).1.cell 0, (HSS.out _ J0.out).1.cell 1⟩ (fun hHeld => ?_)
  refine wpAnyH_take (i := 0) (oi := { dst := some 3, op := Op.fieldAddr 24 (Operand.tmp 1) 0, type := 0, pos := "law.go:23", after := #[], guard := none }) (v := .pointer (some ⟨w.heap.size, 0, none⟩)) rfl (by kernel_rfl) (by kernel_rfl) (by kernel_rfl) (fun _ _ _ h => h) (Or.inl ⟨by kernel_rfl, fun w' hSw => by (try dsimp only at hSw); go_simp⟩) (by assumption) ?_
  try simp only [Act.put, List.setIfInBounds_toArray, List.set_cons_zero, List.set_cons_succ]
  refine wpAnyH_take (i := 1) (oi := { dst := some 4, op := Op.load 3 (Operand.tmp 3), type := 3, pos := "law.go:23", after := #[{ on := 0, ground := Ground.data }], guard := none }) (v := .int .i64 nodes) rfl (by kernel_rfl) (by kernel_rfl) (by kernel_rfl) (fun _ _ _ h => h) (Or.inl ⟨by kernel_rfl, fun w' hSw => by (try dsimp only at hSw); go_simp⟩) (by assumption) ?_
  try simp only [Act.put, List.setIfInBounds_toArray, List.set_cons_zero, List.set_cons_succ]
  refine wpAnyH_take (i := 2) (oi := { dst := some 5, op := Op.fieldAddr 24 (Operand.tmp 1) 1, type := 0, pos := "law.go:23", after := #[], guard := none }) (v := .pointer (some ⟨w.heap.size, 1, none⟩)) rfl (by kernel_rfl) (by kernel_rfl) (by kernel_rfl) (fun _ _ _ h => h) (Or.inl ⟨by kernel_rfl, fun w' hSw => by (try dsimp only at hSw); go_simp⟩) (by assumption) ?_
  try simp only [Act.put, List.setIfInBounds_toArray, List.set_cons_zero, List.set_cons_succ]
  refine wpAnyH_take (i := 3) (oi := { dst := some 6, op := Op.load 22 (Operand.tmp 5), type := 22, pos := "law.go:23", after := #[{ on := 2, ground := Ground.data }], guard := none }) (v := .slice A n c) rfl (by kernel_rfl) (by kernel_rfl) (by kernel_rfl) (fun _ _ _ h => h) (Or.inl ⟨by kernel_rfl, fun w' hSw => by (try dsimp only at hSw); go_simp⟩) (by assumption) ?_
  try simp only [Act.put, List.setIfInBounds_toArray, List.set_cons_zero, List.set_cons_succ]
  refine wpAnyH_take (i := 4) (oi := { dst := some 7, op := Op.fieldAddr 24 (Operand.tmp 1) 1, type := 0, pos := "law.go:23", after := #[], guard := none }) (v := .pointer (some ⟨w.heap.size, 1, none⟩)) rfl (by kernel_rfl) (by kernel_rfl) (by kernel_rfl) (fun _ _ _ h => h) (Or.inl ⟨by kernel_rfl, fun w' hSw => by (try dsimp only at hSw); go_simp⟩) (by assumption) ?_
  try simp only [Act.put, List.setIfInBounds_toArray, List.set_cons_zero, List.set_cons_succ]
  refine wpAnyH_take (i := 5) (oi := { dst := some 8, op := Op.load 22 (Operand.tmp 7), type := 22, pos := "law.go:23", after := #[{ on := 4, ground := Ground.data }], guard := none }) (v := .slice A n c) rfl (by kernel_rfl) (by kernel_rfl) (by kernel_rfl) (fun _ _ _ h => h) (Or.inl ⟨by kernel_rfl, fun w' hSw => by (try dsimp only at hSw); go_simp⟩) (by assumption) ?_
  try simp only [Act.put, List.setIfInBounds_toArray, List.set_cons_zero, List.set_cons_succ]
  refine wpAnyH_take (i := 6) (oi := { dst := some 9, op := Op.call { callee := Callee.builtin Builtin.len, args := #[Operand.tmp 8], argTypes := #[22] }, type := 3, pos := "law.go:23", after := #[{ on := 5, ground := Ground.data }], guard := none }) (v := .int .i64 (n : Int)) rfl (by kernel_rfl) (by kernel_rfl) (by kernel_rfl) (fun _ _ _ h => h) (Or.inl ⟨by kernel_rfl, fun w' hSw => by (try dsimp only at hSw); go_simp⟩) (by assumption) ?_
  try simp only [Act.put, List.setIfInBounds_toArray, List.set_cons_zero, List.set_cons_succ]
  refine wpAnyH_take (i := 7) (oi := { dst := some 10, op := Op.call { callee := Callee.builtin Builtin.min, args := #[Operand.tmp 9, Operand.const (Value.int IntKind.i64 60)], argTypes := #[3, 3] }, type := 3, pos := "law.go:23", after := #[{ on := 6, ground := Ground.data }], guard := none }) (v := .int .i64 (ts.length : Int)) rfl (by kernel_rfl) (by kernel_rfl) (by kernel_rfl) (fun _ _ _ h => h) (Or.inl ⟨by kernel_rfl, fun w' hSw => by (try dsimp only at hSw); go_simp⟩) (by assumption) ?_
  try simp only [Act.put, List.setIfInBounds_toArray, List.set_cons_zero, List.set_cons_succ]
  refine wpAnyH_take (i := 8) (oi := { dst := some 11, op := Op.slice 22 (Operand.tmp 6) none (some (Operand.tmp 10)) none, type := 22, pos := "law.go:23", after := #[{ on := 3, ground := Ground.data }, { on := 7, ground := Ground.data }], guard := none }) (v := .slice A ts.length c) rfl (by kernel_rfl) (by kernel_rfl) (by kernel_rfl) (fun _ _ _ h => h) (Or.inl ⟨by kernel_rfl, fun w' hSw => by (try dsimp only at hSw); go_simp⟩) (by assumption) ?_
  try simp only [Act.put, List.setIfInBounds_toArray, List.set_cons_zero, List.set_cons_succ]
  refine wpAnyH_ready (rs := [9]) (by kernel_rfl) (by simp) ?_
  refine AllReadyH.cons (o := { dst := some 12, op := Op.call { callee := Callee.value (Operand.func 30), args := #[Operand.tmp 11], argTypes := #[22] }, type := 22, pos := "law.go:23", after := #[{ on := 8, ground := Ground.data }], guard := none }) rfl (fun K hK => ?_) AllReadyH.nil
  go_simp
  refine HC.out.mono ?_
  rintro e w2 ⟨A2, c2, rfl, h1, h2, h3, h4⟩
  have J1 : Hid (Below W0.heap.size W0 w2) := J0.out.trans (h4.mono J0.out.size)
  have HG := Lib.hid (And.intro h1 (And.intro h2 h3))
  have q0 := (HSS.out _ J1.out).2.cell 0
  have q1 := (HSS.out _ J1.out).2.cell 1
  have q2 := (HSS.out _ J1.out).2.frozen 0
  have q3 := (HSS.out _ J1.out).2.frozen 1
  clear h1 h2 h3 h4 hHeld
  refine hK.out _ _ ⟨(HSS.out _ J1.out).1.cell 0, (HSS.out _ J1.out).1.cell 1⟩ (fun hHeld => ?_)
  clear hK K
  try simp only [Act.put, List.setIfInBounds_toArray, List.set_cons_zero, List.set_cons_succ]
  refine wpAnyH_take (i := 10) (oi := { dst := some 13, op := Op.build 24 #[(0, Operand.tmp 4), (1, Operand.tmp 12)], type := 24, pos := "law.go:23", after := #[{ on := 1, ground := Ground.data }, { on := 9, ground := Ground.data }], guard := none }) (v := .agg #[.int .i64 nodes, .slice A2 ts.length c2]) rfl (by kernel_rfl) (by kernel_rfl) (by kernel_rfl) (fun _ _ _ h => h) (Or.inl ⟨by kernel_rfl, fun w' hSw => by (try dsimp only at hSw); go_simp⟩) (by assumption) ?_
  try simp only [Act.put, List.setIfInBounds_toArray, List.set_cons_zero, List.set_cons_succ]
  refine wpAnyH_ready (rs := [11]) (by kernel_rfl) (by simp) ?_
  refine AllReadyH.cons (o := { dst := none, op := Op.store 24 (Operand.tmp 2) (Operand.tmp 13), type := 0, pos := "law.go:23", after := #[{ on := 10, ground := Ground.data }, { on := 9, ground := Ground.chain }, { on := 0, ground := Ground.phase }, { on := 1, ground := Ground.phase }, { on := 2, ground := Ground.phase }, { on := 3, ground := Ground.phase }, { on := 4, ground := Ground.phase }, { on := 5, ground := Ground.phase }, { on := 6, ground := Ground.phase }, { on := 7, ground := Ground.phase }, { on := 8, ground := Ground.phase }, { on := 9, ground := Ground.phase }, { on := 10, ground := Ground.phase }], guard := none }) rfl (fun K hK => ?_) AllReadyH.nil
  go_simp
  have y0 := (store2 (HSS.out _ J1.out).2 (.int .i64 nodes) (.slice A2 ts.length c2)).cell 0
  have y1 := (store2 (HSS.out _ J1.out).2 (.int .i64 nodes) (.slice A2 ts.length c2)).cell 1
  have HE : Hid (GIs nodes ts w (.returned (.agg #[.int .i64 nodes, .slice A2 ts.length c2])) ((w2.setCell ⟨w.heap.size + 1, 0, none⟩ (.int .i64 nodes)).setCell ⟨w.heap.size + 1, 1, none⟩ (.slice A2 ts.length c2))) := ⟨A2, c2, rfl, own_store2 (own_base HG.out.1 (Nat.le_trans B0.out.size J0.out.size)) (HSS.out _ J1.out).2 (by decide) _ _, HG.out.2.1, HG.out.2.2, below_store2 (B0.out.trans (J1.out.mono B0.out.size)) (Nat.le_succ _) _ _⟩
  have b9 := ((HSS.out _ J1.out).1.far (p := ⟨w.heap.size + 1, 0, none⟩) (by simp) (.int .i64 nodes)).far (p := ⟨w.heap.size + 1, 1, none⟩) (by simp) (.slice A2 ts.length c2)
  clear hHeld q0 q1 q2 q3
  refine hK.out _ _ ⟨b9.cell 0, b9.cell 1⟩ (fun hHeld => ?_)
  clear hK K
  try simp only [Act.put, List.setIfInBounds_toArray, List.set_cons_zero, List.set_cons_succ]
  refine wpAnyH_done (by kernel_rfl) ?_ _
  refine NoPanic.normal ?_
  go_wp2_with fail
  exact bodyPost_ret (v := .agg #[.int .i64 nodes, .slice A2 ts.length c2]) (by simp [results, Try.results9, go_sem, y0, y1]) rfl HE.out
end Go.Proofs.Ytaigpdpcliecpaa
