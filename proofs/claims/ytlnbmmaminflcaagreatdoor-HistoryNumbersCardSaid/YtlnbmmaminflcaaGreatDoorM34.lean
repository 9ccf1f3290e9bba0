/- The document's answers of layer history: Right: contract. -/
import Derived.Deep.CutRange
import Derived.Deep.DeepCutAuto
import Derived.Deep.CutBlock
import Derived.Test.YtlnbmmaminflcaaGreatDoorM33
import Derived.Test.YtlnbmmaminflcaaGreatDoorM27
import Derived.Test.YtlnbmmaminflcaaGreatDoorM17
-- holds: YtlnbmmaminflcaaGreatDoorVJs YtlnbmmaminflcaaGreatDoorVJt
namespace Go.Proofs.YtlnbmmaminflcaaGreatDoor
open Go.RowKit Go.Shelf

structure H4 where
 a0 : SH
 a1 : SH
 a2 : SH
 a3 : SH
def H4.at_ (h : H4) (s : Nat) : SH := if s = 0 then h.a0 else if s = 1 then h.a1 else if s = 2 then h.a2 else h.a3
def H4.set (h : H4) (s : Nat) (x : SH) : H4 := if s = 0 then ⟨x, h.a1, h.a2, h.a3⟩ else if s = 1 then ⟨h.a0, x, h.a2, h.a3⟩ else if s = 2 then ⟨h.a0, h.a1, x, h.a3⟩ else ⟨h.a0, h.a1, h.a2, x⟩
def H4.cs (h : H4) : Array Value := #[.slice h.a0.A h.a0.n h.a0.c, .slice h.a1.A h.a1.n h.a1.c, .slice h.a2.A h.a2.n h.a2.c, .slice h.a3.A h.a3.n h.a3.c]
def H4.rows (h : H4) (r : List (Nat × Int)) : List (List Value × SH) := [(ints (spk 0 r), h.a0), (ints (spk 1 r), h.a1), (ints (spk 2 r), h.a2), (ints (spk 3 r), h.a3)]
structure SpkI (w : World) (m : HistM) (B3 : Nat) (X : World) (r : List (Nat × Int)) (h : H4) : Prop where
 below : Below w.heap.size w X
 bh : Blk X w.heap.size 28 m.cs
 br : Blk X (w.heap.size + 1) 77 #[.slice none 0 0, .slice none 0 0, .slice none 0 0, .slice none 0 0]
 b3 : Blk X B3 77 h.cs
 ne : w.heap.size + 1 < B3
 rg : RG 3 1 w.heap.size X (h.rows r)
theorem firstsF_len : ∀ (r l : List Int), (firstsF l r).length ≤ l.length + r.length
 | [], l => by simp [firstsF]
 | n :: r, l => by
  rw [firstsF_cons]
  have h1 := firstsF_len r (addI l n)
  have h2 : (addI l n).length ≤ l.length + 1 := by unfold addI; split <;> simp
  rw [List.length_cons]
  omega
theorem spk_le (s : Nat) (r : List (Nat × Int)) : (spk s r).length ≤ r.length := by
 unfold spk
 have h1 := firstsF_len (ofSort s r) []
 have h2 : (ofSort s r).length ≤ r.length := by unfold ofSort; rw [List.length_map]; exact List.length_filter_le ..
 simp at h1
 omega
section
variable {w X Y Z : World} {m : HistM} {B3 s k : Nat} {r r' : List (Nat × Int)} {h : H4} {n : Int} {A : Option Addr} {c' : Nat}
theorem SpkI.on (c : SpkI w m B3 X r h) (hb : Below X.heap.size X Y) : SpkI w m B3 Y r h := ⟨c.below.trans (hb.mono c.below.size), c.bh.below hb c.bh.lt, c.br.below hb c.br.lt, c.b3.below hb c.b3.lt, c.ne, c.rg.on hb⟩
theorem SpkI.to (c : SpkI w m B3 X r h) (e : r' = r) : SpkI w m B3 X r' h := by rw [e]; exact c
theorem h4_cs (hs : s < 4) (x : SH) : (h.set s x).cs = h.cs.setIfInBounds s (.slice x.A x.n x.c) := by
 have : s = 0 ∨ s = 1 ∨ s = 2 ∨ s = 3 := by omega
 rcases this with rfl | rfl | rfl | rfl <;> rfl
theorem h4_at (hs : s < 4) : (h.rows r)[s]? = some (ints (spk s r), h.at_ s) := by
 have : s = 0 ∨ s = 1 ∨ s = 2 ∨ s = 3 := by omega
 rcases this with rfl | rfl | rfl | rfl <;> rfl
theorem h4_set (hs : s < 4) (x : SH) (hq : ∀ q, q < 4 → q ≠ s → spk q r' = spk q r) : (h.set s x).rows r' = (h.rows r).set s (ints (spk s r'), x) := by
 have : s = 0 ∨ s = 1 ∨ s = 2 ∨ s = 3 := by omega
 unfold H4.rows
 rcases this with rfl | rfl | rfl | rfl
 ·rw [hq 1 (by omega) (by omega), hq 2 (by omega) (by omega), hq 3 (by omega) (by omega)]; rfl
 ·rw [hq 0 (by omega) (by omega), hq 2 (by omega) (by omega), hq 3 (by omega) (by omega)]; rfl
 ·rw [hq 0 (by omega) (by omega), hq 1 (by omega) (by omega), hq 3 (by omega) (by omega)]; rfl
 ·rw [hq 0 (by omega) (by omega), hq 1 (by omega) (by omega), hq 2 (by omega) (by omega)]; rfl
theorem SpkI.len (c : SpkI w m B3 X r h) (hs : s < 4) : (h.at_ s).n ≤ r.length := by
 have h9 := (c.rg.own s _ (h4_at hs)).1
 rw [ints_length] at h9
 have := spk_le s r
 simp only [Nat.mul_one] at h9
 omega
theorem SpkI.step (c : SpkI w m B3 X r h) (hs : s < 4) (hq : ∀ q, q < 4 → q ≠ s → spk q r' = spk q r) (hpre : ∃ t, spk s r' = spk s r ++ t) (hb : Below X.heap.size X Y)
 (hg : Y.grownBy Z (Value.slice (h.at_ s).A (h.at_ s).n (h.at_ s).c).ownBlock) (ho : Z.ownsRow w.heap.size 3 1 (.slice A k c') k (ints (spk s r')))
 (hat : (Value.slice A k c').ownBlock = (Value.slice (h.at_ s).A (h.at_ s).n (h.at_ s).c).ownBlock ∨ (Value.slice A k c').ownBlock = some Y.heap.size) :
 Blk Z B3 77 h.cs ∧ (∀ g u cs, Blk X g u cs → u ≠ 3 → u ≠ 77 → Blk (Z.setCell ⟨B3, s, none⟩ (.slice A k c')) g u cs) ∧ ∃ h2, SpkI w m B3 (Z.setCell ⟨B3, s, none⟩ (.slice A k c')) r' h2 := by
 have d := c.on hb
 have hold := d.rg.own s _ (h4_at hs)
 have k1 : KeepT 3 Y Z := KeepT.grown hold hg
 have b3Z := k1.blk d.b3 (by decide)
 have k2 := box_turn b3Z s (.slice A k c')
 refine ⟨b3Z, fun g u cs hbk h1 h2 => k2.blk (k1.blk (hbk.below hb hbk.lt) h1) h2, h.set s ⟨A, k, c'⟩, ?_⟩
 obtain ⟨t, ht⟩ := hpre
 have e : ints (spk s r') = ints (spk s r) ++ ints t := by rw [ht, ints_append]
 rw [e] at ho
 have hrg := (d.rg.grow (h4_at hs) ho hg hat).keepT k2 (by decide)
 constructor
 ·exact (d.below.grown hg d.below.size fun g hg2 => (own_in_block hold hg2).1).setCell (p := ⟨B3, s, none⟩) (by show w.heap.size ≤ B3; have := c.ne; omega) _
 ·exact k2.blk (k1.blk d.bh (by decide)) (by decide)
 ·exact (k1.blk d.br (by decide)).far (p := ⟨B3, s, none⟩) (Nat.ne_of_lt c.ne) _
 ·rw [h4_cs hs]
  exact b3Z.set_ s _
 ·exact c.ne
 ·rw [h4_set hs _ hq, e]
  exact hrg
theorem SpkI.first (c : SpkI w m B3 X r h) (hs : s < 4) (hb : Below X.heap.size X Y)
 (hg : Y.grownBy Z (Value.slice (h.at_ s).A (h.at_ s).n (h.at_ s).c).ownBlock) (ho : Z.ownsRow w.heap.size 3 1 (.slice A k c') k (ints (addI (spk s r) n)))
 (hat : (Value.slice A k c').ownBlock = (Value.slice (h.at_ s).A (h.at_ s).n (h.at_ s).c).ownBlock ∨ (Value.slice A k c').ownBlock = some Y.heap.size) :
 Blk Z B3 77 h.cs ∧ (∀ g u cs, Blk X g u cs → u ≠ 3 → u ≠ 77 → Blk (Z.setCell ⟨B3, s, none⟩ (.slice A k c')) g u cs) ∧ ∃ h2, SpkI w m B3 (Z.setCell ⟨B3, s, none⟩ (.slice A k c')) (r ++ [(s, n)]) h2 := by
 have e : spk s (r ++ [(s, n)]) = addI (spk s r) n := by rw [spk_snoc, if_pos rfl]
 refine c.step hs (fun q hq hne => ?_) ?_ hb hg (by rw [e]; exact ho) hat
 ·rw [spk_snoc, if_neg (Ne.symm hne)]
 ·rw [e]; exact addI_pre
theorem SpkI.made {t v : Int} (c : SpkI w m B3 X r h) (hb : Below X.heap.size X Y)
 (hg : Y.grownBy Z (Value.slice (h.at_ 0).A (h.at_ 0).n (h.at_ 0).c).ownBlock) (ho : Z.ownsRow w.heap.size 3 1 (.slice A k c') k (ints (madeL (spk 0 r) t v)))
 (hat : (Value.slice A k c').ownBlock = (Value.slice (h.at_ 0).A (h.at_ 0).n (h.at_ 0).c).ownBlock ∨ (Value.slice A k c').ownBlock = some Y.heap.size) :
 Blk Z B3 77 h.cs ∧ (∀ g u cs, Blk X g u cs → u ≠ 3 → u ≠ 77 → Blk (Z.setCell ⟨B3, 0, none⟩ (.slice A k c')) g u cs) ∧ ∃ h2, SpkI w m B3 (Z.setCell ⟨B3, 0, none⟩ (.slice A k c')) (r ++ refsV t v) h2 := by
 by_cases hv : v = 0
 ·have e1 : refsV t v = [] := by unfold refsV; rw [if_pos hv]
  have e2 : madeL (spk 0 r) t v = spk 0 r := by unfold madeL; rw [if_pos hv]
  rw [e1, List.append_nil]
  rw [e2] at ho
  exact c.step (by omega) (fun _ _ _ => rfl) ⟨[], by simp⟩ hb hg ho hat
 ·have e1 : refsV t v = [(0, t)] := by unfold refsV; rw [if_neg hv]
  have e2 : madeL (spk 0 r) t v = addI (spk 0 r) t := by unfold madeL; rw [if_neg hv]
  rw [e1]
  rw [e2] at ho
  exact c.first (by omega) hb hg ho hat
end
def SpokenIs (H : Hist) (w : World) (e : Ending) (w' : World) : Prop := ∃ h : H4, e = .returned (.agg #[.slice h.a0.A h.a0.n h.a0.c, .slice h.a1.A h.a1.n h.a1.c, .slice h.a2.A h.a2.n h.a2.c, .slice h.a3.A h.a3.n h.a3.c]) ∧ RG 3 1 w.heap.size w' (h.rows (refs H)) ∧ Below w.heap.size w w'
theorem refsV_len (t k : Int) : (refsV t k).length ≤ 1 := by unfold refsV; split <;> simp
theorem refsS_len (s : SeenP) : (refsS s).length ≤ 2 := by unfold refsS; have := refsV_len s.t s.k; simp; omega
theorem refsT_len (ts : List Int) : (refsT ts).length = ts.length := by unfold refsT; simp
theorem refsE_len {e : EvP} (h : e.scan.length ≤ 60) : (refsE e).length ≤ 130 := by
 have h1 := flat_le (g := refsS) (c := 2) (l := e.scan) fun s _ => refsS_len s
 have h2 := refsV_len e.vt e.vk
 unfold refsE refsK
 rw [List.length_cons]
 (repeat' split) <;> simp only [List.length_cons, List.length_nil] <;> omega
theorem refsT_take {ts : List Int} {i : Nat} {t : Int} (h : ts[i]? = some t) : refsT (ts.take (i + 1)) = refsT (ts.take i) ++ [(0, t)] := by
 unfold refsT
 rw [List.take_add_one, h, List.map_append]
 rfl
theorem flat_take {α β : Type} {g : α → List β} {l : List α} {i : Nat} {x : α} (h : l[i]? = some x) : (l.take (i + 1)).flatMap g = (l.take i).flatMap g ++ g x := by
 rw [List.take_add_one, h, List.flatMap_append]
 simp
theorem flat_le_take {α β : Type} {g : α → List β} {c n : Nat} {l : List α} (h : ∀ x ∈ l, (g x).length ≤ c) (hn : l.length ≤ n) (i : Nat) : ((l.take i).flatMap g).length ≤ n * c := by
 have h1 := flat_le (g := g) (c := c) (l := l.take i) fun x hx => h x (List.mem_of_mem_take hx)
 have h2 : (l.take i).length ≤ n := by rw [List.length_take]; omega
 exact Nat.le_trans h1 (Nat.mul_le_mul_right _ h2)
theorem nil_ints {X : World} (B : Nat) : RG 3 1 B X ((⟨⟨none, 0, 0⟩, ⟨none, 0, 0⟩, ⟨none, 0, 0⟩, ⟨none, 0, 0⟩⟩ : H4).rows []) := rg_nils 4
set_option maxRecDepth 100000 in
set_option maxHeartbeats 4000000 in
theorem spoken11_any (m : HistM) (hS : Small m.pl) (hsc : ∀ e ∈ m.pl.ev, e.kd ≠ 4 → e.scan = []) (w : World) (hm : HRd w w.heap.size m) : Calls Tryz.prog 34 #[.agg #[.slice m.tr.1.A m.tr.1.n m.tr.1.c, .slice m.se.1.A m.se.1.n m.se.1.c, .slice m.ob.1.A m.ob.1.n m.ob.1.c, .slice m.pr.1.A m.pr.1.n m.pr.1.c, .slice m.ev.1.A m.ev.1.n m.ev.1.c, .slice m.od.1.A m.od.1.n m.od.1.c, .slice m.ma.1.A m.ma.1.n m.ma.1.c, .slice m.wa.1.A m.wa.1.n m.wa.1.c]] w (SpokenIs m.pl w) := by
 obtain ⟨kh, kr, b0, hs0⟩ := itwo w #[.slice m.tr.1.A m.tr.1.n m.tr.1.c, .slice m.se.1.A m.se.1.n m.se.1.c, .slice m.ob.1.A m.ob.1.n m.ob.1.c, .slice m.pr.1.A m.pr.1.n m.pr.1.c, .slice m.ev.1.A m.ev.1.n m.ev.1.c, .slice m.od.1.A m.od.1.n m.od.1.c, .slice m.ma.1.A m.ma.1.n m.ma.1.c, .slice m.wa.1.A m.wa.1.n m.wa.1.c] #[.slice none 0 0, .slice none 0 0, .slice none 0 0, .slice none 0 0] 28 77
 obtain ⟨k3, b3, hs3⟩ := ibox ((w.alloc (.cells #[.slice m.tr.1.A m.tr.1.n m.tr.1.c, .slice m.se.1.A m.se.1.n m.se.1.c, .slice m.ob.1.A m.ob.1.n m.ob.1.c, .slice m.pr.1.A m.pr.1.n m.pr.1.c, .slice m.ev.1.A m.ev.1.n m.ev.1.c, .slice m.od.1.A m.od.1.n m.od.1.c, .slice m.ma.1.A m.ma.1.n m.ma.1.c, .slice m.wa.1.A m.wa.1.n m.wa.1.c] 28)).alloc (.cells #[.slice none 0 0, .slice none 0 0, .slice none 0 0, .slice none 0 0] 77)) #[.slice none 0 0, .slice none 0 0, .slice none 0 0, .slice none 0 0] 77
 have HS : Hid (SpkI w m (w.heap.size + 2) (((w.alloc (.cells #[.slice m.tr.1.A m.tr.1.n m.tr.1.c, .slice m.se.1.A m.se.1.n m.se.1.c, .slice m.ob.1.A m.ob.1.n m.ob.1.c, .slice m.pr.1.A m.pr.1.n m.pr.1.c, .slice m.ev.1.A m.ev.1.n m.ev.1.c, .slice m.od.1.A m.od.1.n m.od.1.c, .slice m.ma.1.A m.ma.1.n m.ma.1.c, .slice m.wa.1.A m.wa.1.n m.wa.1.c] 28)).alloc (.cells #[.slice none 0 0, .slice none 0 0, .slice none 0 0, .slice none 0 0] 77)).alloc (.cells #[.slice none 0 0, .slice none 0 0, .slice none 0 0, .slice none 0 0] 77)) [] ⟨⟨none, 0, 0⟩, ⟨none, 0, 0⟩, ⟨none, 0, 0⟩, ⟨none, 0, 0⟩⟩) := by
  have bb := b0.trans (b3.mono b0.size)
  rw [hs0] at k3
  exact ⟨bb, kh.below b3 kh.lt, kr.below b3 kr.lt, k3, by omega, nil_ints _⟩
 have HM := Lib.hid hm
 have HFIT := Lib.hid hm.fit
 have HSC := Lib.hid hsc
 have HLE : Hid (m.ev.2.length = m.ev.1.n ∧ m.od.2.length = m.od.1.n ∧ m.ma.2.length = m.ma.1.n ∧ m.wa.2.length = m.wa.1.n) := ⟨HFIT.out.ev.1, HFIT.out.od.1, HFIT.out.ma.1, HFIT.out.wa.1⟩
 have HN : Hid (m.ev.1.n ≤ 200 ∧ m.od.1.n ≤ 60 ∧ m.ma.1.n ≤ 60 ∧ m.wa.1.n ≤ 60) := by have h1 := hS.ev; have h2 := hS.od; have h3 := hS.ma; have h4 := hS.wa; have h5 := HLE.out; have e1 : m.pl.ev.length = m.ev.2.length := List.length_map ..; have e2 : m.pl.od.length = m.od.2.length := List.length_map ..; have e3 : m.pl.ma.length = m.ma.2.length := List.length_map ..; have e4 : m.pl.wa.length = m.wa.2.length := rfl; show _ ∧ _; omega
 have HLV := Lib.hid (flat_le_take (g := refsE) (c := 130) (n := 200) (l := m.pl.ev) (fun e he => refsE_len (hS.sc e he)) hS.ev)
 have HLO := Lib.hid (flat_le_take (g := refsO) (c := 61) (n := 60) (l := m.pl.od) (fun r hr => by unfold refsO; rw [List.length_cons, refsT_len]; have := hS.ot r hr; omega) hS.od)
 have HLM := Lib.hid (flat_le_take (g := refsM) (c := 62) (n := 60) (l := m.pl.ma) (fun r hr => by unfold refsM; rw [List.length_cons, List.length_cons, refsT_len]; have := hS.mt r hr; omega) hS.ma)
 have HLW := Lib.hid (flat_le_take (g := refsW) (c := 1) (n := 60) (l := m.pl.wa) (fun r _ => by unfold refsW; simp) hS.wa)
 have HFU : Hid ((m.pl.ev.flatMap refsE).length ≤ 26000 ∧ (m.pl.od.flatMap refsO).length ≤ 3660 ∧ (m.pl.ma.flatMap refsM).length ≤ 3720) := by have h1 := HLV.out m.pl.ev.length; have h2 := HLO.out m.pl.od.length; have h3 := HLM.out m.pl.ma.length; rw [List.take_length] at h1 h2 h3; exact ⟨h1, h2, h3⟩
 have HSZ : Hid ((∀ e ∈ m.pl.ev, e.scan.length ≤ 60) ∧ (∀ r ∈ m.pl.od, r.ts.length ≤ 60) ∧ ∀ r ∈ m.pl.ma, r.ts.length ≤ 60) := ⟨hS.sc, hS.ot, hS.mt⟩
 clear kh kr b0 hs0 k3 b3 hs3 hm hsc hS
 go_enter Tryz.func34, Tryz.ntmps34
 go_upto_region 2 with fail
 generalize ((w.alloc (.cells #[.slice m.tr.1.A m.tr.1.n m.tr.1.c, .slice m.se.1.A m.se.1.n m.se.1.c, .slice m.ob.1.A m.ob.1.n m.ob.1.c, .slice m.pr.1.A m.pr.1.n m.pr.1.c, .slice m.ev.1.A m.ev.1.n m.ev.1.c, .slice m.od.1.A m.od.1.n m.od.1.c, .slice m.ma.1.A m.ma.1.n m.ma.1.c, .slice m.wa.1.A m.wa.1.n m.wa.1.c] 28)).alloc (.cells #[.slice none 0 0, .slice none 0 0, .slice none 0 0, .slice none 0 0] 77)).alloc (.cells #[.slice none 0 0, .slice none 0 0, .slice none 0 0, .slice none 0 0] 77) = X0 at *
 rw [show w.heap.size + 1 + 1 = w.heap.size + 2 from rfl]
 generalize w.heap.size + 2 = B3 at *
 generalize (⟨⟨none, 0, 0⟩, ⟨none, 0, 0⟩, ⟨none, 0, 0⟩, ⟨none, 0, 0⟩⟩ : H4) = h at *
 have z4 : X0.cell? ⟨w.heap.size, 4, none⟩ = some (.slice m.ev.1.A m.ev.1.n m.ev.1.c) := HS.out.bh.cell 4
 have hnev : m.ev.1.n ≤ 200 := HN.out.1
 go_wp2_with fail
 clear z4
 go_loopw [21] (fun v wr => ∃ (i : Nat) (h : H4), i ≤ m.ev.1.n ∧ v = .int .i64 i ∧ Hid (SpkI w m B3 wr ((m.pl.ev.take i).flatMap refsE) h)) (fun v _ => m.ev.1.n - (intOf v).toNat)
 case atStart => exact ⟨0, h, Nat.zero_le _, rfl, HS.out.to (by simp)⟩
 case round =>
  clear HS
  obtain ⟨i, h, hi0, rfl, HS⟩ := hrel
  by_cases hin : i < m.ev.1.n
  ·have hlt : (i : Int) < (m.ev.1.n : Int) := by omega
   obtain ⟨⟨e, hd⟩, hs⟩ : ∃ p, m.ev.2[i]? = some p := ⟨m.ev.2[i]'(by rw [HLE.out.1]; exact hin), List.getElem?_eq_getElem _⟩
   have HSI : Hid (m.pl.ev[i]? = some e) := by show m.pl.ev[i]? = _; unfold HistM.pl; simp [hs]
   obtain ⟨b, o, hA, hbl, hc⟩ := row_cells evCs_len (by omega) (HM.out.ev.below HS.out.below) hs
   have c0 : wr.cell? ⟨b, o + i * 9, none⟩ = some (.int .i64 e.kd) := hc 0 _ rfl
   have c1 : wr.cell? ⟨b, o + i * 9 + 1, none⟩ = some (.int .i64 e.t) := hc 1 _ rfl
   have c2 : wr.cell? ⟨b, o + i * 9 + 2, none⟩ = some (.int .i64 e.s) := hc 2 _ rfl
   have c3 : wr.cell? ⟨b, o + i * 9 + 3, none⟩ = some (.int .i64 e.lev) := hc 3 _ rfl
   have c4 : wr.cell? ⟨b, o + i * 9 + 4, none⟩ = some (.int .i64 e.o) := hc 4 _ rfl
   have c5 : wr.cell? ⟨b, o + i * 9 + 5, none⟩ = some (.int .i64 e.vt) := hc 5 _ rfl
   have c6 : wr.cell? ⟨b, o + i * 9 + 6, none⟩ = some (.int .i64 e.vk) := hc 6 _ rfl
   have c7 : wr.cell? ⟨b, o + i * 9 + 7, none⟩ = some (.int .i64 e.p) := hc 7 _ rfl
   have c8 : wr.cell? ⟨b, o + i * 9 + 8, none⟩ = some (.slice hd.A hd.n hd.c) := hc 8 _ rfl
   have HRS := Lib.hid (HM.out.sc _ (List.mem_of_getElem? hs))
   have HLS : Hid (e.scan.length = hd.n) := (HFIT.out.sc _ (List.mem_of_getElem? hs)).1
   have hsn : hd.n ≤ 60 := by have := HLS.out; have := HSZ.out.1 e (List.mem_of_getElem? HSI.out); omega
   rw [hA]
   have HA0 := Lib.hid hA
   have hal : Below wr.heap.size wr (wr.alloc (.cells #[.int .i64 e.kd, .int .i64 e.t, .int .i64 e.s, .int .i64 e.lev, .int .i64 e.o, .int .i64 e.vt, .int .i64 e.vk, .int .i64 e.p, .slice hd.A hd.n hd.c] 39)) := (Below.refl _ _).alloc (Nat.le_refl _) _
   have HNX := Lib.hid (flat_take (g := refsE) HSI.out)
   have hrl : ((m.pl.ev.take i).flatMap refsE).length ≤ 100000 := by have h1 := HLV.out i; have h2 := HLO.out i; have h3 := HLM.out i; have h4 := HLW.out i; have h5 := HFU.out; omega
   have HS := Lib.hid (HS.out.on hal)
   have KE : Hid (Blk (wr.alloc (.cells #[.int .i64 e.kd, .int .i64 e.t, .int .i64 e.s, .int .i64 e.lev, .int .i64 e.o, .int .i64 e.vt, .int .i64 e.vk, .int .i64 e.p, .slice hd.A hd.n hd.c] 39)) wr.heap.size 39 #[.int .i64 e.kd, .int .i64 e.t, .int .i64 e.s, .int .i64 e.lev, .int .i64 e.o, .int .i64 e.vt, .int .i64 e.vk, .int .i64 e.p, .slice hd.A hd.n hd.c]) := Blk.new _ _ _
   clear hs hc hbl hA hal
   go_upto_region 5 with fail
   clear c0 c1 c2 c3 c4 c5 c6 c7 c8
   generalize (wr.alloc (.cells #[.int .i64 e.kd, .int .i64 e.t, .int .i64 e.s, .int .i64 e.lev, .int .i64 e.o, .int .i64 e.vt, .int .i64 e.vk, .int .i64 e.p, .slice hd.A hd.n hd.c] 39)) = X1 at *
   generalize wr.heap.size = E at *
   generalize hR : (m.pl.ev.take i).flatMap refsE = r at *
   have HR := Lib.hid hR
   clear hR
   have zz : X1.cell? ⟨B3, 0, none⟩ = some (.slice h.a0.A h.a0.n h.a0.c) := HS.out.b3.cell 0
   have e1 : X1.cell? ⟨E, 1, none⟩ = some (.int .i64 e.t) := KE.out.cell 1
   have hql : h.a0.n ≤ 1000000 := Nat.le_trans (HS.out.len (s := 0) (by omega)) (by have h7 : (r).length ≤ 900000 := (by omega); omega)
   go_wp2_with fail
   refine (first11_any w.heap.size h.a0.A h.a0.n h.a0.c (spk 0 (r)) e.t hql X1 HS.out.below.size (HS.out.rg.own 0 _ rfl)).mono ?_
   rintro _ Y ⟨A1, c1, X1, rfl, ho, hb, hg, hat⟩
   obtain ⟨q, hq⟩ : ∃ q, (addI (spk 0 (r)) e.t).length = q := ⟨_, rfl⟩
   rw [hq] at ho hat ⊢
   obtain ⟨hb3, hK, h, hS⟩ := HS.out.first (s := 0) (by omega) hb hg ho hat
   have yy := hb3.cell 0
   have ff := hb3.frozen 0
   clear hq ho hb hg hat zz hql e1
   have KE := Lib.hid (hK _ _ _ KE.out (by decide) (by decide))
   have HS := Lib.hid hS
   clear hS hK
   go_upto_region 6 with fail
   generalize Y.setCell ⟨B3, 0, none⟩ (.slice A1 q c1) = Xn1 at *
   clear yy ff hb3
   have e0 : Xn1.cell? ⟨E, 0, none⟩ = some (.int .i64 e.kd) := KE.out.cell 0
   go_upto_block 2 with fail
   clear e0
   go_cut [33] (fun s33 wx => ∃ (r2 : List (Nat × Int)) (h : H4), Hid (SpkI w m B3 wx r2 h) ∧ Hid (Blk wx E 39 #[.int .i64 e.kd, .int .i64 e.t, .int .i64 e.s, .int .i64 e.lev, .int .i64 e.o, .int .i64 e.vt, .int .i64 e.vk, .int .i64 e.p, .slice hd.A hd.n hd.c]) ∧ Hid (r2 ++ e.scan.flatMap refsS = r ++ refsE e ∧ r2.length ≤ 100010))
   case first =>
    by_cases hk : e.kd = 1
    ·have hb1 : (e.kd == 1) = true := by rw [hk]; rfl
     have HQ : Hid ((r ++ [(0, e.t)] ++ [(1, e.s)]) ++ e.scan.flatMap refsS = r ++ refsE e) := by show _ = _; rw [HSC.out e (List.mem_of_getElem? HSI.out) (by omega)]; unfold refsE refsK; rw [if_pos hk]; simp
     clear hk
     go_upto_region 8 with fail
     have zz : Xn1.cell? ⟨B3, 1, none⟩ = some (.slice h.a1.A h.a1.n h.a1.c) := HS.out.b3.cell 1
     have e2 : Xn1.cell? ⟨E, 2, none⟩ = some (.int .i64 e.s) := KE.out.cell 2
     have hql : h.a1.n ≤ 1000000 := Nat.le_trans (HS.out.len (s := 1) (by omega)) (by have h7 : (r ++ [(0, e.t)]).length ≤ 900000 := (by simp only [List.length_append, List.length_cons, List.length_nil]; omega); omega)
     go_wp2_with fail
     refine (first11_any w.heap.size h.a1.A h.a1.n h.a1.c (spk 1 (r ++ [(0, e.t)])) e.s hql Xn1 HS.out.below.size (HS.out.rg.own 1 _ rfl)).mono ?_
     rintro _ Y ⟨A1, c1, X1, rfl, ho, hb, hg, hat⟩
     obtain ⟨q, hq⟩ : ∃ q, (addI (spk 1 (r ++ [(0, e.t)])) e.s).length = q := ⟨_, rfl⟩
     rw [hq] at ho hat ⊢
     obtain ⟨hb3, hK, h, hS⟩ := HS.out.first (s := 1) (by omega) hb hg ho hat
     have yy := hb3.cell 1
     have ff := hb3.frozen 1
     clear hq ho hb hg hat zz hql e2
     have KE := Lib.hid (hK _ _ _ KE.out (by decide) (by decide))
     have HS := Lib.hid hS
     clear hS hK
     go_wp2_with fail
     generalize Y.setCell ⟨B3, 1, none⟩ (.slice A1 q c1) = Xn2 at *
     clear yy ff hb3
     skip
     go_meet
     exact ⟨_, h, HS, KE, ⟨HQ.out, by simp only [List.length_append, List.length_cons, List.length_nil]; omega⟩⟩
    ·by_cases hk23 : e.kd = 2 ∨ e.kd = 3
     ·have HQ : Hid ((r ++ [(0, e.t)] ++ [(2, e.o)] ++ refsV e.vt e.vk) ++ e.scan.flatMap refsS = r ++ refsE e) := by show _ = _; rw [HSC.out e (List.mem_of_getElem? HSI.out) (by omega)]; unfold refsE refsK; rw [if_neg (by omega), if_pos hk23]; simp
      have hb1 : (e.kd == 1) = false := by simp; omega
      have hb23 : ((e.kd == 2) = true) ∨ ((e.kd == 2) = false ∧ (e.kd == 3) = true) := by rcases hk23 with h | h; exact .inl (by rw [h]; rfl); exact .inr ⟨by rw [h]; rfl, by rw [h]; rfl⟩
      clear hk hk23
      rcases hb23 with hb2 | ⟨hb2, hb3⟩
      ·go_upto_region 11 with fail
       have zz : Xn1.cell? ⟨B3, 2, none⟩ = some (.slice h.a2.A h.a2.n h.a2.c) := HS.out.b3.cell 2
       have e4 : Xn1.cell? ⟨E, 4, none⟩ = some (.int .i64 e.o) := KE.out.cell 4
       have hql : h.a2.n ≤ 1000000 := Nat.le_trans (HS.out.len (s := 2) (by omega)) (by have h7 : (r ++ [(0, e.t)]).length ≤ 900000 := (by simp only [List.length_append, List.length_cons, List.length_nil]; omega); omega)
       go_wp2_with fail
       refine (first11_any w.heap.size h.a2.A h.a2.n h.a2.c (spk 2 (r ++ [(0, e.t)])) e.o hql Xn1 HS.out.below.size (HS.out.rg.own 2 _ rfl)).mono ?_
       rintro _ Y ⟨A1, c1, X1, rfl, ho, hb, hg, hat⟩
       obtain ⟨q, hq⟩ : ∃ q, (addI (spk 2 (r ++ [(0, e.t)])) e.o).length = q := ⟨_, rfl⟩
       rw [hq] at ho hat ⊢
       obtain ⟨hb3, hK, h, hS⟩ := HS.out.first (s := 2) (by omega) hb hg ho hat
       have yy := hb3.cell 2
       have ff := hb3.frozen 2
       clear hq ho hb hg hat zz hql e4
       have KE := Lib.hid (hK _ _ _ KE.out (by decide) (by decide))
       have HS := Lib.hid hS
       clear hS hK
       go_upto_region 12 with fail
       generalize Y.setCell ⟨B3, 2, none⟩ (.slice A1 q c1) = Xn3 at *
       clear yy ff hb3
       have zz : Xn3.cell? ⟨B3, 0, none⟩ = some (.slice h.a0.A h.a0.n h.a0.c) := HS.out.b3.cell 0
       have e5 : Xn3.cell? ⟨E, 5, none⟩ = some (.int .i64 e.vt) := KE.out.cell 5
       have e6 : Xn3.cell? ⟨E, 6, none⟩ = some (.int .i64 e.vk) := KE.out.cell 6
       have hql : h.a0.n ≤ 1000000 := Nat.le_trans (HS.out.len (s := 0) (by omega)) (by have h7 : (r ++ [(0, e.t)] ++ [(2, e.o)]).length ≤ 900000 := (by simp only [List.length_append, List.length_cons, List.length_nil]; omega); omega)
       go_wp2_with fail
       refine (made11_any w.heap.size h.a0.A h.a0.n h.a0.c (spk 0 (r ++ [(0, e.t)] ++ [(2, e.o)])) e.vt e.vk hql Xn3 HS.out.below.size (HS.out.rg.own 0 _ rfl)).mono ?_
       rintro _ Y ⟨A1, c1, X1, rfl, ho, hb, hg, hat⟩
       obtain ⟨q, hq⟩ : ∃ q, (madeL (spk 0 (r ++ [(0, e.t)] ++ [(2, e.o)])) e.vt e.vk).length = q := ⟨_, rfl⟩
       rw [hq] at ho hat ⊢
       obtain ⟨hb3, hK, h, hS⟩ := HS.out.made hb hg ho hat
       have yy := hb3.cell 0
       have ff := hb3.frozen 0
       clear hq ho hb hg hat zz hql e5 e6
       have KE := Lib.hid (hK _ _ _ KE.out (by decide) (by decide))
       have HS := Lib.hid hS
       clear hS hK
       go_wp2_with fail
       generalize Y.setCell ⟨B3, 0, none⟩ (.slice A1 q c1) = Xn4 at *
       clear yy ff hb3
       skip
       go_meet
       exact ⟨_, h, HS, KE, ⟨HQ.out, by simp only [List.length_append, List.length_cons, List.length_nil]; have := refsV_len e.vt e.vk; omega⟩⟩
      ·go_upto_region 11 with fail
       have zz : Xn1.cell? ⟨B3, 2, none⟩ = some (.slice h.a2.A h.a2.n h.a2.c) := HS.out.b3.cell 2
       have e4 : Xn1.cell? ⟨E, 4, none⟩ = some (.int .i64 e.o) := KE.out.cell 4
       have hql : h.a2.n ≤ 1000000 := Nat.le_trans (HS.out.len (s := 2) (by omega)) (by have h7 : (r ++ [(0, e.t)]).length ≤ 900000 := (by simp only [List.length_append, List.length_cons, List.length_nil]; omega); omega)
       go_wp2_with fail
       refine (first11_any w.heap.size h.a2.A h.a2.n h.a2.c (spk 2 (r ++ [(0, e.t)])) e.o hql Xn1 HS.out.below.size (HS.out.rg.own 2 _ rfl)).mono ?_
       rintro _ Y ⟨A1, c1, X1, rfl, ho, hb, hg, hat⟩
       obtain ⟨q, hq⟩ : ∃ q, (addI (spk 2 (r ++ [(0, e.t)])) e.o).length = q := ⟨_, rfl⟩
       rw [hq] at ho hat ⊢
       obtain ⟨hb3, hK, h, hS⟩ := HS.out.first (s := 2) (by omega) hb hg ho hat
       have yy := hb3.cell 2
       have ff := hb3.frozen 2
       clear hq ho hb hg hat zz hql e4
       have KE := Lib.hid (hK _ _ _ KE.out (by decide) (by decide))
       have HS := Lib.hid hS
       clear hS hK
       go_upto_region 12 with fail
       generalize Y.setCell ⟨B3, 2, none⟩ (.slice A1 q c1) = Xn5 at *
       clear yy ff hb3
       have zz : Xn5.cell? ⟨B3, 0, none⟩ = some (.slice h.a0.A h.a0.n h.a0.c) := HS.out.b3.cell 0
       have e5 : Xn5.cell? ⟨E, 5, none⟩ = some (.int .i64 e.vt) := KE.out.cell 5
       have e6 : Xn5.cell? ⟨E, 6, none⟩ = some (.int .i64 e.vk) := KE.out.cell 6
       have hql : h.a0.n ≤ 1000000 := Nat.le_trans (HS.out.len (s := 0) (by omega)) (by have h7 : (r ++ [(0, e.t)] ++ [(2, e.o)]).length ≤ 900000 := (by simp only [List.length_append, List.length_cons, List.length_nil]; omega); omega)
       go_wp2_with fail
       refine (made11_any w.heap.size h.a0.A h.a0.n h.a0.c (spk 0 (r ++ [(0, e.t)] ++ [(2, e.o)])) e.vt e.vk hql Xn5 HS.out.below.size (HS.out.rg.own 0 _ rfl)).mono ?_
       rintro _ Y ⟨A1, c1, X1, rfl, ho, hb, hg, hat⟩
       obtain ⟨q, hq⟩ : ∃ q, (madeL (spk 0 (r ++ [(0, e.t)] ++ [(2, e.o)])) e.vt e.vk).length = q := ⟨_, rfl⟩
       rw [hq] at ho hat ⊢
       obtain ⟨hb3, hK, h, hS⟩ := HS.out.made hb hg ho hat
       have yy := hb3.cell 0
       have ff := hb3.frozen 0
       clear hq ho hb hg hat zz hql e5 e6
       have KE := Lib.hid (hK _ _ _ KE.out (by decide) (by decide))
       have HS := Lib.hid hS
       clear hS hK
       go_wp2_with fail
       generalize Y.setCell ⟨B3, 0, none⟩ (.slice A1 q c1) = Xn6 at *
       clear yy ff hb3
       skip
       go_meet
       exact ⟨_, h, HS, KE, ⟨HQ.out, by simp only [List.length_append, List.length_cons, List.length_nil]; have := refsV_len e.vt e.vk; omega⟩⟩
     ·have hb1 : (e.kd == 1) = false := by simp; omega
      have hb2 : (e.kd == 2) = false := by simp; omega
      have hb3 : (e.kd == 3) = false := by simp; omega
      by_cases hk4 : e.kd = 4
      ·have HQ : Hid ((r ++ [(0, e.t)] ++ [(3, e.p)]) ++ e.scan.flatMap refsS = r ++ refsE e) := by show _ = _; unfold refsE refsK; rw [if_neg hk, if_neg hk23, if_pos hk4]; simp
       have hb4 : (e.kd == 4) = true := by rw [hk4]; rfl
       clear hk hk23 hk4
       go_upto_region 14 with fail
       have zz : Xn1.cell? ⟨B3, 3, none⟩ = some (.slice h.a3.A h.a3.n h.a3.c) := HS.out.b3.cell 3
       have e7 : Xn1.cell? ⟨E, 7, none⟩ = some (.int .i64 e.p) := KE.out.cell 7
       have hql : h.a3.n ≤ 1000000 := Nat.le_trans (HS.out.len (s := 3) (by omega)) (by have h7 : (r ++ [(0, e.t)]).length ≤ 900000 := (by simp only [List.length_append, List.length_cons, List.length_nil]; omega); omega)
       go_wp2_with fail
       refine (first11_any w.heap.size h.a3.A h.a3.n h.a3.c (spk 3 (r ++ [(0, e.t)])) e.p hql Xn1 HS.out.below.size (HS.out.rg.own 3 _ rfl)).mono ?_
       rintro _ Y ⟨A1, c1, X1, rfl, ho, hb, hg, hat⟩
       obtain ⟨q, hq⟩ : ∃ q, (addI (spk 3 (r ++ [(0, e.t)])) e.p).length = q := ⟨_, rfl⟩
       rw [hq] at ho hat ⊢
       obtain ⟨hb3, hK, h, hS⟩ := HS.out.first (s := 3) (by omega) hb hg ho hat
       have yy := hb3.cell 3
       have ff := hb3.frozen 3
       clear hq ho hb hg hat zz hql e7
       have KE := Lib.hid (hK _ _ _ KE.out (by decide) (by decide))
       have HS := Lib.hid hS
       clear hS hK
       go_wp2_with fail
       generalize Y.setCell ⟨B3, 3, none⟩ (.slice A1 q c1) = Xn7 at *
       clear yy ff hb3
       skip
       go_meet
       exact ⟨_, h, HS, KE, ⟨HQ.out, by simp only [List.length_append, List.length_cons, List.length_nil]; omega⟩⟩
      ·have HQ : Hid ((r ++ [(0, e.t)]) ++ e.scan.flatMap refsS = r ++ refsE e) := by show _ = _; rw [HSC.out e (List.mem_of_getElem? HSI.out) hk4]; unfold refsE refsK; rw [if_neg hk, if_neg hk23, if_neg hk4]; simp
       have hb4 : (e.kd == 4) = false := by simp; omega
       clear hk hk23 hk4
       go_wp2_with fail
       skip
       go_meet
       exact ⟨_, h, HS, KE, ⟨HQ.out, by simp only [List.length_append, List.length_cons, List.length_nil]; omega⟩⟩
   case rest =>
    clear HS KE
    obtain ⟨r2, h, HS, KE, HQ⟩ := hcut
    have e8 : wc.cell? ⟨E, 8, none⟩ = some (.slice hd.A hd.n hd.c) := KE.out.cell 8
    have hrl2 : r2.length ≤ 100010 := HQ.out.2
    have HLQ := Lib.hid (fun j => flat_le_take (g := refsS) (c := 2) (n := 60) (l := e.scan) (fun s _ => refsS_len s) (HSZ.out.1 e (List.mem_of_getElem? HSI.out)) j)
    go_wp2_with fail
    rename World => wev2
    clear e8
    go_loopw [67] (fun v wr => ∃ (j : Nat) (h : H4), j ≤ hd.n ∧ v = .int .i64 j ∧ Hid (SpkI w m B3 wr (r2 ++ (e.scan.take j).flatMap refsS) h) ∧ Hid (Blk wr E 39 #[.int .i64 e.kd, .int .i64 e.t, .int .i64 e.s, .int .i64 e.lev, .int .i64 e.o, .int .i64 e.vt, .int .i64 e.vk, .int .i64 e.p, .slice hd.A hd.n hd.c])) (fun v _ => hd.n - (intOf v).toNat)
    case atStart => exact ⟨0, h, Nat.zero_le _, rfl, HS.out.to (by simp), KE⟩
    case round =>
     clear HS KE
     obtain ⟨j, h, hj0, rfl, HS, KE⟩ := hrel
     by_cases hjn : j < hd.n
     ·have hjl : (j : Int) < (hd.n : Int) := by omega
      obtain ⟨s, hs⟩ : ∃ s, e.scan[j]? = some s := ⟨e.scan[j]'(by rw [HLS.out]; exact hjn), List.getElem?_eq_getElem _⟩
      obtain ⟨b2, o2, hA2, hbl2, hc2⟩ := row_cells seCs_len (by omega) (HRS.out.below HS.out.below) hs
      have d0 : wr.cell? ⟨b2, o2 + j * 3, none⟩ = some (.int .i64 s.o) := hc2 0 _ rfl
      have d1 : wr.cell? ⟨b2, o2 + j * 3 + 1, none⟩ = some (.int .i64 s.t) := hc2 1 _ rfl
      have d2 : wr.cell? ⟨b2, o2 + j * 3 + 2, none⟩ = some (.int .i64 s.k) := hc2 2 _ rfl
      rw [show hd.A = some ⟨b2, o2, none⟩ from hA2]
      have HA2 := Lib.hid hA2
      have hal : Below wr.heap.size wr (wr.alloc (.cells #[.int .i64 s.o, .int .i64 s.t, .int .i64 s.k] 59)) := (Below.refl _ _).alloc (Nat.le_refl _) _
      have HNS := Lib.hid (flat_take (g := refsS) hs)
      have hr3 : (r2 ++ (e.scan.take j).flatMap refsS).length ≤ 100200 := by have h1 := HLQ.out j; rw [List.length_append]; omega
      have HS := Lib.hid (HS.out.on hal)
      have KE2 : Hid (Blk (wr.alloc (.cells #[.int .i64 s.o, .int .i64 s.t, .int .i64 s.k] 59)) E 39 #[.int .i64 e.kd, .int .i64 e.t, .int .i64 e.s, .int .i64 e.lev, .int .i64 e.o, .int .i64 e.vt, .int .i64 e.vk, .int .i64 e.p, .slice hd.A hd.n hd.c]) := KE.out.below hal KE.out.lt
      have KS : Hid (Blk (wr.alloc (.cells #[.int .i64 s.o, .int .i64 s.t, .int .i64 s.k] 59)) wr.heap.size 59 #[.int .i64 s.o, .int .i64 s.t, .int .i64 s.k]) := Blk.new _ _ _
      clear hs hc2 hbl2 hA2 hal KE
      go_upto_region 18 with fail
      clear d0 d1 d2
      generalize (wr.alloc (.cells #[.int .i64 s.o, .int .i64 s.t, .int .i64 s.k] 59)) = X1s at *
      generalize wr.heap.size = ES at *
      generalize hR3 : r2 ++ (e.scan.take j).flatMap refsS = r3 at *
      have HR3 := Lib.hid hR3
      clear hR3
      have zz : X1s.cell? ⟨B3, 2, none⟩ = some (.slice h.a2.A h.a2.n h.a2.c) := HS.out.b3.cell 2
      have e0 : X1s.cell? ⟨ES, 0, none⟩ = some (.int .i64 s.o) := KS.out.cell 0
      have hql : h.a2.n ≤ 1000000 := Nat.le_trans (HS.out.len (s := 2) (by omega)) (by have h7 : (r3).length ≤ 900000 := (by omega); omega)
      go_wp2_with fail
      refine (first11_any w.heap.size h.a2.A h.a2.n h.a2.c (spk 2 (r3)) s.o hql X1s HS.out.below.size (HS.out.rg.own 2 _ rfl)).mono ?_
      rintro _ Y ⟨A1, c1, X1, rfl, ho, hb, hg, hat⟩
      obtain ⟨q, hq⟩ : ∃ q, (addI (spk 2 (r3)) s.o).length = q := ⟨_, rfl⟩
      rw [hq] at ho hat ⊢
      obtain ⟨hb3, hK, h, hS⟩ := HS.out.first (s := 2) (by omega) hb hg ho hat
      have yy := hb3.cell 2
      have ff := hb3.frozen 2
      clear hq ho hb hg hat zz hql e0
      have KE2 := Lib.hid (hK _ _ _ KE2.out (by decide) (by decide))
      have KS := Lib.hid (hK _ _ _ KS.out (by decide) (by decide))
      have HS := Lib.hid hS
      clear hS hK
      go_upto_region 19 with fail
      generalize Y.setCell ⟨B3, 2, none⟩ (.slice A1 q c1) = Xn8 at *
      clear yy ff hb3
      have zz : Xn8.cell? ⟨B3, 0, none⟩ = some (.slice h.a0.A h.a0.n h.a0.c) := HS.out.b3.cell 0
      have e1 : Xn8.cell? ⟨ES, 1, none⟩ = some (.int .i64 s.t) := KS.out.cell 1
      have e2 : Xn8.cell? ⟨ES, 2, none⟩ = some (.int .i64 s.k) := KS.out.cell 2
      have hql : h.a0.n ≤ 1000000 := Nat.le_trans (HS.out.len (s := 0) (by omega)) (by have h7 : (r3 ++ [(2, s.o)]).length ≤ 900000 := (by simp only [List.length_append, List.length_cons, List.length_nil]; omega); omega)
      go_wp2_with fail
      refine (made11_any w.heap.size h.a0.A h.a0.n h.a0.c (spk 0 (r3 ++ [(2, s.o)])) s.t s.k hql Xn8 HS.out.below.size (HS.out.rg.own 0 _ rfl)).mono ?_
      rintro _ Y ⟨A1, c1, X1, rfl, ho, hb, hg, hat⟩
      obtain ⟨q, hq⟩ : ∃ q, (madeL (spk 0 (r3 ++ [(2, s.o)])) s.t s.k).length = q := ⟨_, rfl⟩
      rw [hq] at ho hat ⊢
      obtain ⟨hb3, hK, h, hS⟩ := HS.out.made hb hg ho hat
      have yy := hb3.cell 0
      have ff := hb3.frozen 0
      clear hq ho hb hg hat zz hql e1 e2
      have KE2 := Lib.hid (hK _ _ _ KE2.out (by decide) (by decide))
      have KS := Lib.hid (hK _ _ _ KS.out (by decide) (by decide))
      have HS := Lib.hid hS
      clear hS hK
      go_wp2_with fail
      generalize Y.setCell ⟨B3, 0, none⟩ (.slice A1 q c1) = Xn9 at *
      clear yy ff hb3
      have HS : Hid (SpkI w m B3 Xn9 (r2 ++ (e.scan.take (j + 1)).flatMap refsS) h) := HS.out.to (by rw [HNS.out, ← List.append_assoc, HR3.out]; unfold refsS; simp)
      go_roundw
      case rel => exact ⟨j + 1, h, hjn, by go_num, HS, by rw [← show hd.A = _ from HA2.out]; exact KE2⟩
      case measure => simp [intOf]; omega
     ·have hje : j = hd.n := by omega
      have HS : Hid (SpkI w m B3 wr ((m.pl.ev.take (i + 1)).flatMap refsE) h) := HS.out.to (by rw [HNX.out, ← HQ.out.1, List.take_of_length_le (by rw [hje, HLS.out]; exact Nat.le_refl _)])
      clear hje
      go_wp2_with fail
      go_roundw
      case rel => exact ⟨i + 1, h, hin, by go_num, HS⟩
      case measure => simp [intOf]; omega
  ·have hie : i = m.ev.1.n := by omega
   have HS : Hid (SpkI w m B3 wr (m.pl.ev.flatMap refsE) h) := HS.out.to (by rw [List.take_of_length_le (by rw [hie, ← HLE.out.1]; exact Nat.le_of_eq (List.length_map ..))])
   rw [hie]
   clear hie hin hi0
   rename World => wev
   have z5 : wev.cell? ⟨w.heap.size, 5, none⟩ = some (.slice m.od.1.A m.od.1.n m.od.1.c) := HS.out.bh.cell 5
   have hnod : m.od.1.n ≤ 60 := HN.out.2.1
   go_wp2_with fail
   clear z5
   go_loopw [88] (fun v wr => ∃ (i : Nat) (h : H4), i ≤ m.od.1.n ∧ v = .int .i64 i ∧ Hid (SpkI w m B3 wr (m.pl.ev.flatMap refsE ++ (m.pl.od.take i).flatMap refsO) h)) (fun v _ => m.od.1.n - (intOf v).toNat)
   case atStart => exact ⟨0, h, Nat.zero_le _, rfl, HS.out.to (by simp)⟩
   case round =>
    clear HS
    obtain ⟨i, h, hi0, rfl, HS⟩ := hrel
    by_cases hin : i < m.od.1.n
    ·have hlt : (i : Int) < (m.od.1.n : Int) := by omega
     obtain ⟨⟨e, hd⟩, hs⟩ : ∃ p, m.od.2[i]? = some p := ⟨m.od.2[i]'(by rw [HLE.out.2.1]; exact hin), List.getElem?_eq_getElem _⟩
     have HSI : Hid (m.pl.od[i]? = some e) := by show m.pl.od[i]? = _; unfold HistM.pl; simp [hs]
     obtain ⟨b, o, hA, hbl, hc⟩ := row_cells odCs_len (by omega) (HM.out.od.below HS.out.below) hs
     have c0 : wr.cell? ⟨b, o + i * 2, none⟩ = some (.int .i64 e.o) := hc 0 _ rfl
     have c1 : wr.cell? ⟨b, o + i * 2 + 1, none⟩ = some (.slice hd.A hd.n hd.c) := hc 1 _ rfl
     have HRS := Lib.hid (HM.out.ot _ (List.mem_of_getElem? hs))
     have HLS : Hid (e.ts.length = hd.n) := (HFIT.out.ot _ (List.mem_of_getElem? hs)).1
     have hsn : hd.n ≤ 60 := by have := HLS.out; have := HSZ.out.2.1 e (List.mem_of_getElem? HSI.out); omega
     rw [hA]
     have HA0 := Lib.hid hA
     have hal : Below wr.heap.size wr (wr.alloc (.cells #[.int .i64 e.o, .slice hd.A hd.n hd.c] 61)) := (Below.refl _ _).alloc (Nat.le_refl _) _
     have HNX := Lib.hid (flat_take (g := refsO) HSI.out)
     have hrl : (m.pl.ev.flatMap refsE ++ (m.pl.od.take i).flatMap refsO).length ≤ 100000 := by have h1 := HLV.out i; have h2 := HLO.out i; have h3 := HLM.out i; have h4 := HLW.out i; have h5 := HFU.out; simp only [List.length_append]; omega
     have HS := Lib.hid (HS.out.on hal)
     have KE : Hid (Blk (wr.alloc (.cells #[.int .i64 e.o, .slice hd.A hd.n hd.c] 61)) wr.heap.size 61 #[.int .i64 e.o, .slice hd.A hd.n hd.c]) := Blk.new _ _ _
     clear hs hc hbl hA hal
     go_upto_region 25 with fail
     clear c0 c1
     generalize (wr.alloc (.cells #[.int .i64 e.o, .slice hd.A hd.n hd.c] 61)) = X1 at *
     generalize wr.heap.size = E at *
     generalize hR : m.pl.ev.flatMap refsE ++ (m.pl.od.take i).flatMap refsO = r at *
     have HR := Lib.hid hR
     clear hR
     have zz : X1.cell? ⟨B3, 2, none⟩ = some (.slice h.a2.A h.a2.n h.a2.c) := HS.out.b3.cell 2
     have e0 : X1.cell? ⟨E, 0, none⟩ = some (.int .i64 e.o) := KE.out.cell 0
     have hql : h.a2.n ≤ 1000000 := Nat.le_trans (HS.out.len (s := 2) (by omega)) (by have h7 : (r).length ≤ 900000 := (by omega); omega)
     go_wp2_with fail
     refine (first11_any w.heap.size h.a2.A h.a2.n h.a2.c (spk 2 (r)) e.o hql X1 HS.out.below.size (HS.out.rg.own 2 _ rfl)).mono ?_
     rintro _ Y ⟨A1, c1, X1, rfl, ho, hb, hg, hat⟩
     obtain ⟨q, hq⟩ : ∃ q, (addI (spk 2 (r)) e.o).length = q := ⟨_, rfl⟩
     rw [hq] at ho hat ⊢
     obtain ⟨hb3, hK, h, hS⟩ := HS.out.first (s := 2) (by omega) hb hg ho hat
     have yy := hb3.cell 2
     have ff := hb3.frozen 2
     clear hq ho hb hg hat zz hql e0
     have KE := Lib.hid (hK _ _ _ KE.out (by decide) (by decide))
     have HS := Lib.hid hS
     clear hS hK
     go_upto_region 26 with fail
     generalize Y.setCell ⟨B3, 2, none⟩ (.slice A1 q c1) = Xn10 at *
     clear yy ff hb3
     have e1 : Xn10.cell? ⟨E, 1, none⟩ = some (.slice hd.A hd.n hd.c) := KE.out.cell 1
     go_wp2_with fail
     rename World => wt_od
     clear e1 KE
     go_loopw [101] (fun v wr => ∃ (j : Nat) (h : H4), j ≤ hd.n ∧ v = .int .i64 j ∧ Hid (SpkI w m B3 wr (r ++ [(2, e.o)] ++ refsT (e.ts.take j)) h)) (fun v _ => hd.n - (intOf v).toNat)
     case atStart => exact ⟨0, h, Nat.zero_le _, rfl, HS.out.to (by simp [refsT])⟩
     case round =>
      clear HS
      obtain ⟨j, h, hj0, rfl, HS⟩ := hrel
      by_cases hjn : j < hd.n
      ·have hjl : (j : Int) < (hd.n : Int) := by omega
       obtain ⟨t, ht⟩ : ∃ t, e.ts[j]? = some t := ⟨e.ts[j]'(by rw [HLS.out]; exact hjn), List.getElem?_eq_getElem _⟩
       obtain ⟨b2, o2, hA2, hbl2, hc2⟩ := int_at (HRS.out.below HS.out.below) ht
       rw [show hd.A = some ⟨b2, o2, none⟩ from hA2]
       have HNT := Lib.hid (refsT_take ht)
       have hr3 : (r ++ [(2, e.o)] ++ refsT (e.ts.take j)).length ≤ 100200 := by have h9 : (e.ts.take j).length ≤ e.ts.length := (by rw [List.length_take]; omega); have h8 := HLS.out; rw [List.length_append, refsT_len]; simp only [List.length_append, List.length_cons, List.length_nil]; omega
       generalize hR3 : r ++ [(2, e.o)] ++ refsT (e.ts.take j) = r3 at *
       have HR3 := Lib.hid hR3
       clear hR3 ht hbl2 hA2
       go_upto_region 29 with fail
       clear hc2
       have zz : wr.cell? ⟨B3, 0, none⟩ = some (.slice h.a0.A h.a0.n h.a0.c) := HS.out.b3.cell 0
       have hql : h.a0.n ≤ 1000000 := Nat.le_trans (HS.out.len (s := 0) (by omega)) (by have h7 : (r3).length ≤ 900000 := (by omega); omega)
       go_wp2_with fail
       refine (first11_any w.heap.size h.a0.A h.a0.n h.a0.c (spk 0 (r3)) t hql wr HS.out.below.size (HS.out.rg.own 0 _ rfl)).mono ?_
       rintro _ Y ⟨A1, c1, X1, rfl, ho, hb, hg, hat⟩
       obtain ⟨q, hq⟩ : ∃ q, (addI (spk 0 (r3)) t).length = q := ⟨_, rfl⟩
       rw [hq] at ho hat ⊢
       obtain ⟨hb3, hK, h, hS⟩ := HS.out.first (s := 0) (by omega) hb hg ho hat
       have yy := hb3.cell 0
       have ff := hb3.frozen 0
       clear hq ho hb hg hat zz hql 
       have HS := Lib.hid hS
       clear hS hK
       go_wp2_with fail
       generalize Y.setCell ⟨B3, 0, none⟩ (.slice A1 q c1) = Xn11 at *
       clear yy ff hb3
       have HS : Hid (SpkI w m B3 Xn11 (r ++ [(2, e.o)] ++ refsT (e.ts.take (j + 1))) h) := HS.out.to (by rw [HNT.out, ← List.append_assoc, HR3.out])
       go_roundw
       case rel => exact ⟨j + 1, h, hjn, by go_num, HS⟩
       case measure => simp [intOf]; omega
      ·have hje : j = hd.n := by omega
       have HS : Hid (SpkI w m B3 wr (m.pl.ev.flatMap refsE ++ (m.pl.od.take (i + 1)).flatMap refsO) h) := HS.out.to (by rw [HNX.out, ← List.append_assoc, HR.out, List.take_of_length_le (by rw [hje, HLS.out]; exact Nat.le_refl _)]; unfold refsO; simp)
       clear hje
       go_wp2_with fail
       go_roundw
       case rel => exact ⟨i + 1, h, hin, by go_num, HS⟩
       case measure => simp [intOf]; omega
    ·have hie : i = m.od.1.n := by omega
     have HS : Hid (SpkI w m B3 wr (m.pl.ev.flatMap refsE ++ m.pl.od.flatMap refsO) h) := HS.out.to (by rw [List.take_of_length_le (by rw [hie, ← HLE.out.2.1]; exact Nat.le_of_eq (List.length_map ..))])
     rw [hie]
     clear hie hin hi0
     rename World => wod
     have z6 : wod.cell? ⟨w.heap.size, 6, none⟩ = some (.slice m.ma.1.A m.ma.1.n m.ma.1.c) := HS.out.bh.cell 6
     have hnma : m.ma.1.n ≤ 60 := HN.out.2.2.1
     go_wp2_with fail
     clear z6
     go_loopw [115] (fun v wr => ∃ (i : Nat) (h : H4), i ≤ m.ma.1.n ∧ v = .int .i64 i ∧ Hid (SpkI w m B3 wr (m.pl.ev.flatMap refsE ++ m.pl.od.flatMap refsO ++ (m.pl.ma.take i).flatMap refsM) h)) (fun v _ => m.ma.1.n - (intOf v).toNat)
     case atStart => exact ⟨0, h, Nat.zero_le _, rfl, HS.out.to (by simp)⟩
     case round =>
      clear HS
      obtain ⟨i, h, hi0, rfl, HS⟩ := hrel
      by_cases hin : i < m.ma.1.n
      ·have hlt : (i : Int) < (m.ma.1.n : Int) := by omega
       obtain ⟨⟨e, hd⟩, hs⟩ : ∃ p, m.ma.2[i]? = some p := ⟨m.ma.2[i]'(by rw [HLE.out.2.2.1]; exact hin), List.getElem?_eq_getElem _⟩
       have HSI : Hid (m.pl.ma[i]? = some e) := by show m.pl.ma[i]? = _; unfold HistM.pl; simp [hs]
       obtain ⟨b, o, hA, hbl, hc⟩ := row_cells maCs_len (by omega) (HM.out.ma.below HS.out.below) hs
       have c0 : wr.cell? ⟨b, o + i * 4, none⟩ = some (.int .i64 e.p) := hc 0 _ rfl
       have c1 : wr.cell? ⟨b, o + i * 4 + 1, none⟩ = some (.int .i64 e.o) := hc 1 _ rfl
       have c2 : wr.cell? ⟨b, o + i * 4 + 2, none⟩ = some (.bool e.fi) := hc 2 _ rfl
       have c3 : wr.cell? ⟨b, o + i * 4 + 3, none⟩ = some (.slice hd.A hd.n hd.c) := hc 3 _ rfl
       have HRS := Lib.hid (HM.out.mt _ (List.mem_of_getElem? hs))
       have HLS : Hid (e.ts.length = hd.n) := (HFIT.out.mt _ (List.mem_of_getElem? hs)).1
       have hsn : hd.n ≤ 60 := by have := HLS.out; have := HSZ.out.2.2 e (List.mem_of_getElem? HSI.out); omega
       rw [hA]
       have HA0 := Lib.hid hA
       have hal : Below wr.heap.size wr (wr.alloc (.cells #[.int .i64 e.p, .int .i64 e.o, .bool e.fi, .slice hd.A hd.n hd.c] 64)) := (Below.refl _ _).alloc (Nat.le_refl _) _
       have HNX := Lib.hid (flat_take (g := refsM) HSI.out)
       have hrl : (m.pl.ev.flatMap refsE ++ m.pl.od.flatMap refsO ++ (m.pl.ma.take i).flatMap refsM).length ≤ 100000 := by have h1 := HLV.out i; have h2 := HLO.out i; have h3 := HLM.out i; have h4 := HLW.out i; have h5 := HFU.out; simp only [List.length_append]; omega
       have HS := Lib.hid (HS.out.on hal)
       have KE : Hid (Blk (wr.alloc (.cells #[.int .i64 e.p, .int .i64 e.o, .bool e.fi, .slice hd.A hd.n hd.c] 64)) wr.heap.size 64 #[.int .i64 e.p, .int .i64 e.o, .bool e.fi, .slice hd.A hd.n hd.c]) := Blk.new _ _ _
       clear hs hc hbl hA hal
       go_upto_region 35 with fail
       clear c0 c1 c2 c3
       generalize (wr.alloc (.cells #[.int .i64 e.p, .int .i64 e.o, .bool e.fi, .slice hd.A hd.n hd.c] 64)) = X1 at *
       generalize wr.heap.size = E at *
       generalize hR : m.pl.ev.flatMap refsE ++ m.pl.od.flatMap refsO ++ (m.pl.ma.take i).flatMap refsM = r at *
       have HR := Lib.hid hR
       clear hR
       have zz : X1.cell? ⟨B3, 3, none⟩ = some (.slice h.a3.A h.a3.n h.a3.c) := HS.out.b3.cell 3
       have e0 : X1.cell? ⟨E, 0, none⟩ = some (.int .i64 e.p) := KE.out.cell 0
       have hql : h.a3.n ≤ 1000000 := Nat.le_trans (HS.out.len (s := 3) (by omega)) (by have h7 : (r).length ≤ 900000 := (by omega); omega)
       go_wp2_with fail
       refine (first11_any w.heap.size h.a3.A h.a3.n h.a3.c (spk 3 (r)) e.p hql X1 HS.out.below.size (HS.out.rg.own 3 _ rfl)).mono ?_
       rintro _ Y ⟨A1, c1, X1, rfl, ho, hb, hg, hat⟩
       obtain ⟨q, hq⟩ : ∃ q, (addI (spk 3 (r)) e.p).length = q := ⟨_, rfl⟩
       rw [hq] at ho hat ⊢
       obtain ⟨hb3, hK, h, hS⟩ := HS.out.first (s := 3) (by omega) hb hg ho hat
       have yy := hb3.cell 3
       have ff := hb3.frozen 3
       clear hq ho hb hg hat zz hql e0
       have KE := Lib.hid (hK _ _ _ KE.out (by decide) (by decide))
       have HS := Lib.hid hS
       clear hS hK
       go_upto_region 36 with fail
       generalize Y.setCell ⟨B3, 3, none⟩ (.slice A1 q c1) = Xn12 at *
       clear yy ff hb3
       have zz : Xn12.cell? ⟨B3, 2, none⟩ = some (.slice h.a2.A h.a2.n h.a2.c) := HS.out.b3.cell 2
       have e1 : Xn12.cell? ⟨E, 1, none⟩ = some (.int .i64 e.o) := KE.out.cell 1
       have hql : h.a2.n ≤ 1000000 := Nat.le_trans (HS.out.len (s := 2) (by omega)) (by have h7 : (r ++ [(3, e.p)]).length ≤ 900000 := (by simp only [List.length_append, List.length_cons, List.length_nil]; omega); omega)
       go_wp2_with fail
       refine (first11_any w.heap.size h.a2.A h.a2.n h.a2.c (spk 2 (r ++ [(3, e.p)])) e.o hql Xn12 HS.out.below.size (HS.out.rg.own 2 _ rfl)).mono ?_
       rintro _ Y ⟨A1, c1, X1, rfl, ho, hb, hg, hat⟩
       obtain ⟨q, hq⟩ : ∃ q, (addI (spk 2 (r ++ [(3, e.p)])) e.o).length = q := ⟨_, rfl⟩
       rw [hq] at ho hat ⊢
       obtain ⟨hb3, hK, h, hS⟩ := HS.out.first (s := 2) (by omega) hb hg ho hat
       have yy := hb3.cell 2
       have ff := hb3.frozen 2
       clear hq ho hb hg hat zz hql e1
       have KE := Lib.hid (hK _ _ _ KE.out (by decide) (by decide))
       have HS := Lib.hid hS
       clear hS hK
       go_upto_region 37 with fail
       generalize Y.setCell ⟨B3, 2, none⟩ (.slice A1 q c1) = Xn13 at *
       clear yy ff hb3
       have e3 : Xn13.cell? ⟨E, 3, none⟩ = some (.slice hd.A hd.n hd.c) := KE.out.cell 3
       go_wp2_with fail
       rename World => wt_ma
       clear e3 KE
       go_loopw [134] (fun v wr => ∃ (j : Nat) (h : H4), j ≤ hd.n ∧ v = .int .i64 j ∧ Hid (SpkI w m B3 wr (r ++ [(3, e.p)] ++ [(2, e.o)] ++ refsT (e.ts.take j)) h)) (fun v _ => hd.n - (intOf v).toNat)
       case atStart => exact ⟨0, h, Nat.zero_le _, rfl, HS.out.to (by simp [refsT])⟩
       case round =>
        clear HS
        obtain ⟨j, h, hj0, rfl, HS⟩ := hrel
        by_cases hjn : j < hd.n
        ·have hjl : (j : Int) < (hd.n : Int) := by omega
         obtain ⟨t, ht⟩ : ∃ t, e.ts[j]? = some t := ⟨e.ts[j]'(by rw [HLS.out]; exact hjn), List.getElem?_eq_getElem _⟩
         obtain ⟨b2, o2, hA2, hbl2, hc2⟩ := int_at (HRS.out.below HS.out.below) ht
         rw [show hd.A = some ⟨b2, o2, none⟩ from hA2]
         have HNT := Lib.hid (refsT_take ht)
         have hr3 : (r ++ [(3, e.p)] ++ [(2, e.o)] ++ refsT (e.ts.take j)).length ≤ 100200 := by have h9 : (e.ts.take j).length ≤ e.ts.length := (by rw [List.length_take]; omega); have h8 := HLS.out; rw [List.length_append, refsT_len]; simp only [List.length_append, List.length_cons, List.length_nil]; omega
         generalize hR3 : r ++ [(3, e.p)] ++ [(2, e.o)] ++ refsT (e.ts.take j) = r3 at *
         have HR3 := Lib.hid hR3
         clear hR3 ht hbl2 hA2
         go_upto_region 40 with fail
         clear hc2
         have zz : wr.cell? ⟨B3, 0, none⟩ = some (.slice h.a0.A h.a0.n h.a0.c) := HS.out.b3.cell 0
         have hql : h.a0.n ≤ 1000000 := Nat.le_trans (HS.out.len (s := 0) (by omega)) (by have h7 : (r3).length ≤ 900000 := (by omega); omega)
         go_wp2_with fail
         refine (first11_any w.heap.size h.a0.A h.a0.n h.a0.c (spk 0 (r3)) t hql wr HS.out.below.size (HS.out.rg.own 0 _ rfl)).mono ?_
         rintro _ Y ⟨A1, c1, X1, rfl, ho, hb, hg, hat⟩
         obtain ⟨q, hq⟩ : ∃ q, (addI (spk 0 (r3)) t).length = q := ⟨_, rfl⟩
         rw [hq] at ho hat ⊢
         obtain ⟨hb3, hK, h, hS⟩ := HS.out.first (s := 0) (by omega) hb hg ho hat
         have yy := hb3.cell 0
         have ff := hb3.frozen 0
         clear hq ho hb hg hat zz hql 
         have HS := Lib.hid hS
         clear hS hK
         go_wp2_with fail
         generalize Y.setCell ⟨B3, 0, none⟩ (.slice A1 q c1) = Xn14 at *
         clear yy ff hb3
         have HS : Hid (SpkI w m B3 Xn14 (r ++ [(3, e.p)] ++ [(2, e.o)] ++ refsT (e.ts.take (j + 1))) h) := HS.out.to (by rw [HNT.out, ← List.append_assoc, HR3.out])
         go_roundw
         case rel => exact ⟨j + 1, h, hjn, by go_num, HS⟩
         case measure => simp [intOf]; omega
        ·have hje : j = hd.n := by omega
         have HS : Hid (SpkI w m B3 wr (m.pl.ev.flatMap refsE ++ m.pl.od.flatMap refsO ++ (m.pl.ma.take (i + 1)).flatMap refsM) h) := HS.out.to (by rw [HNX.out, ← List.append_assoc, HR.out, List.take_of_length_le (by rw [hje, HLS.out]; exact Nat.le_refl _)]; unfold refsM; simp)
         clear hje
         go_wp2_with fail
         go_roundw
         case rel => exact ⟨i + 1, h, hin, by go_num, HS⟩
         case measure => simp [intOf]; omega
      ·have hie : i = m.ma.1.n := by omega
       have HS : Hid (SpkI w m B3 wr (m.pl.ev.flatMap refsE ++ m.pl.od.flatMap refsO ++ m.pl.ma.flatMap refsM) h) := HS.out.to (by rw [List.take_of_length_le (by rw [hie, ← HLE.out.2.2.1]; exact Nat.le_of_eq (List.length_map ..))])
       rw [hie]
       clear hie hin hi0
       rename World => wma
       have z7 : wma.cell? ⟨w.heap.size, 7, none⟩ = some (.slice m.wa.1.A m.wa.1.n m.wa.1.c) := HS.out.bh.cell 7
       have hnwa : m.wa.1.n ≤ 60 := HN.out.2.2.2
       go_wp2_with fail
       clear z7
       go_loopw [148] (fun v wr => ∃ (i : Nat) (h : H4), i ≤ m.wa.1.n ∧ v = .int .i64 i ∧ Hid (SpkI w m B3 wr (m.pl.ev.flatMap refsE ++ m.pl.od.flatMap refsO ++ m.pl.ma.flatMap refsM ++ (m.pl.wa.take i).flatMap refsW) h)) (fun v _ => m.wa.1.n - (intOf v).toNat)
       case atStart => exact ⟨0, h, Nat.zero_le _, rfl, HS.out.to (by simp)⟩
       case round =>
        clear HS
        obtain ⟨i, h, hi0, rfl, HS⟩ := hrel
        by_cases hin : i < m.wa.1.n
        ·have hlt : (i : Int) < (m.wa.1.n : Int) := by omega
         obtain ⟨e, hs⟩ : ∃ p, m.wa.2[i]? = some p := ⟨m.wa.2[i]'(by rw [HLE.out.2.2.2]; exact hin), List.getElem?_eq_getElem _⟩
         have HSI : Hid (m.pl.wa[i]? = some e) := hs
         obtain ⟨b, o, hA, hbl, hc⟩ := row_cells waCs_len (by omega) (HM.out.wa.below HS.out.below) hs
         have c0 : wr.cell? ⟨b, o + i * 2, none⟩ = some (.int .i64 e.s) := hc 0 _ rfl
         have c1 : wr.cell? ⟨b, o + i * 2 + 1, none⟩ = some (.int .i64 e.b) := hc 1 _ rfl
         rw [hA]
         have HA0 := Lib.hid hA
         have hal : Below wr.heap.size wr (wr.alloc (.cells #[.int .i64 e.s, .int .i64 e.b] 67)) := (Below.refl _ _).alloc (Nat.le_refl _) _
         have HNX := Lib.hid (flat_take (g := refsW) HSI.out)
         have hrl : (m.pl.ev.flatMap refsE ++ m.pl.od.flatMap refsO ++ m.pl.ma.flatMap refsM ++ (m.pl.wa.take i).flatMap refsW).length ≤ 100000 := by have h1 := HLV.out i; have h2 := HLO.out i; have h3 := HLM.out i; have h4 := HLW.out i; have h5 := HFU.out; simp only [List.length_append]; omega
         have HS := Lib.hid (HS.out.on hal)
         have KE : Hid (Blk (wr.alloc (.cells #[.int .i64 e.s, .int .i64 e.b] 67)) wr.heap.size 67 #[.int .i64 e.s, .int .i64 e.b]) := Blk.new _ _ _
         clear hs hc hbl hA hal
         go_upto_region 46 with fail
         clear c0 c1
         generalize (wr.alloc (.cells #[.int .i64 e.s, .int .i64 e.b] 67)) = X1 at *
         generalize wr.heap.size = E at *
         generalize hR : m.pl.ev.flatMap refsE ++ m.pl.od.flatMap refsO ++ m.pl.ma.flatMap refsM ++ (m.pl.wa.take i).flatMap refsW = r at *
         have HR := Lib.hid hR
         clear hR
         have zz : X1.cell? ⟨B3, 1, none⟩ = some (.slice h.a1.A h.a1.n h.a1.c) := HS.out.b3.cell 1
         have e0 : X1.cell? ⟨E, 0, none⟩ = some (.int .i64 e.s) := KE.out.cell 0
         have hql : h.a1.n ≤ 1000000 := Nat.le_trans (HS.out.len (s := 1) (by omega)) (by have h7 : (r).length ≤ 900000 := (by omega); omega)
         go_wp2_with fail
         refine (first11_any w.heap.size h.a1.A h.a1.n h.a1.c (spk 1 (r)) e.s hql X1 HS.out.below.size (HS.out.rg.own 1 _ rfl)).mono ?_
         rintro _ Y ⟨A1, c1, X1, rfl, ho, hb, hg, hat⟩
         obtain ⟨q, hq⟩ : ∃ q, (addI (spk 1 (r)) e.s).length = q := ⟨_, rfl⟩
         rw [hq] at ho hat ⊢
         obtain ⟨hb3, hK, h, hS⟩ := HS.out.first (s := 1) (by omega) hb hg ho hat
         have yy := hb3.cell 1
         have ff := hb3.frozen 1
         clear hq ho hb hg hat zz hql e0
         have HS := Lib.hid hS
         clear hS hK
         go_wp2_with fail
         generalize Y.setCell ⟨B3, 1, none⟩ (.slice A1 q c1) = Xn15 at *
         clear yy ff hb3
         have HS : Hid (SpkI w m B3 Xn15 (m.pl.ev.flatMap refsE ++ m.pl.od.flatMap refsO ++ m.pl.ma.flatMap refsM ++ (m.pl.wa.take (i + 1)).flatMap refsW) h) := HS.out.to (by rw [HNX.out, ← List.append_assoc, HR.out]; rfl)
         go_roundw
         case rel => exact ⟨i + 1, h, hin, by go_num, HS⟩
         case measure => simp [intOf]; omega
        ·have hie : i = m.wa.1.n := by omega
         have HS : Hid (SpkI w m B3 wr (m.pl.ev.flatMap refsE ++ m.pl.od.flatMap refsO ++ m.pl.ma.flatMap refsM ++ m.pl.wa.flatMap refsW) h) := HS.out.to (by rw [List.take_of_length_le (by rw [hie, ← HLE.out.2.2.2]; exact Nat.le_of_eq (rfl))])
         rw [hie]
         clear hie hin hi0
         rename World => wwa
         have HS : Hid (SpkI w m B3 wwa (refs m.pl) h) := HS.out.to (by unfold refs; simp only [List.append_assoc])
         have z0 : wwa.cell? ⟨B3, 0, none⟩ = some (.slice h.a0.A h.a0.n h.a0.c) := HS.out.b3.cell 0
         have z1 : wwa.cell? ⟨B3, 1, none⟩ = some (.slice h.a1.A h.a1.n h.a1.c) := HS.out.b3.cell 1
         have z2 : wwa.cell? ⟨B3, 2, none⟩ = some (.slice h.a2.A h.a2.n h.a2.c) := HS.out.b3.cell 2
         have z3 : wwa.cell? ⟨B3, 3, none⟩ = some (.slice h.a3.A h.a3.n h.a3.c) := HS.out.b3.cell 3
         have y0 := HS.out.br.cell 0
         have f0 := HS.out.br.frozen 0
         have y1 := HS.out.br.cell 1
         have f1 := HS.out.br.frozen 1
         have y2 := HS.out.br.cell 2
         have f2 := HS.out.br.frozen 2
         have y3 := HS.out.br.cell 3
         have f3 := HS.out.br.frozen 3
         go_wp2_with fail
         clear z0 y0 f0 z1 y1 f1 z2 y2 f2 z3 y3 f3
         have kf := ((((HS.out.br.set_ 0 (.slice h.a0.A h.a0.n h.a0.c)).set_ 1 (.slice h.a1.A h.a1.n h.a1.c)).set_ 2 (.slice h.a2.A h.a2.n h.a2.c)).set_ 3 (.slice h.a3.A h.a3.n h.a3.c))
         simp at kf
         have hk : KeepT 77 wwa ((((wwa.setCell ⟨w.heap.size + 1, 0, none⟩ (.slice h.a0.A h.a0.n h.a0.c)).setCell ⟨w.heap.size + 1, 1, none⟩ (.slice h.a1.A h.a1.n h.a1.c)).setCell ⟨w.heap.size + 1, 2, none⟩ (.slice h.a2.A h.a2.n h.a2.c)).setCell ⟨w.heap.size + 1, 3, none⟩ (.slice h.a3.A h.a3.n h.a3.c)) := (((((Keep.refl (fun j => ∀ cs, ¬ Blk wwa j 77 cs) wwa).set (.inr fun h => h _ HS.out.br) 0 (.slice h.a0.A h.a0.n h.a0.c)).set (.inr fun h => h _ HS.out.br) 1 (.slice h.a1.A h.a1.n h.a1.c)).set (.inr fun h => h _ HS.out.br) 2 (.slice h.a2.A h.a2.n h.a2.c)).set (.inr fun h => h _ HS.out.br) 3 (.slice h.a3.A h.a3.n h.a3.c))
         have HRG := Lib.hid (HS.out.rg.keepT hk (by decide))
         have HBF := Lib.hid ((((((((HS.out.below).setCell (p := ⟨w.heap.size + 1, 0, none⟩) (Nat.le_succ _) (.slice h.a0.A h.a0.n h.a0.c))).setCell (p := ⟨w.heap.size + 1, 1, none⟩) (Nat.le_succ _) (.slice h.a1.A h.a1.n h.a1.c))).setCell (p := ⟨w.heap.size + 1, 2, none⟩) (Nat.le_succ _) (.slice h.a2.A h.a2.n h.a2.c))).setCell (p := ⟨w.heap.size + 1, 3, none⟩) (Nat.le_succ _) (.slice h.a3.A h.a3.n h.a3.c))
         clear hk HS
         generalize ((((wwa.setCell ⟨w.heap.size + 1, 0, none⟩ (.slice h.a0.A h.a0.n h.a0.c)).setCell ⟨w.heap.size + 1, 1, none⟩ (.slice h.a1.A h.a1.n h.a1.c)).setCell ⟨w.heap.size + 1, 2, none⟩ (.slice h.a2.A h.a2.n h.a2.c)).setCell ⟨w.heap.size + 1, 3, none⟩ (.slice h.a3.A h.a3.n h.a3.c)) = wf at *
         have r0 : wf.cell? ⟨w.heap.size + 1, 0, none⟩ = some (.slice h.a0.A h.a0.n h.a0.c) := kf.cell 0
         have r1 : wf.cell? ⟨w.heap.size + 1, 1, none⟩ = some (.slice h.a1.A h.a1.n h.a1.c) := kf.cell 1
         have r2 : wf.cell? ⟨w.heap.size + 1, 2, none⟩ = some (.slice h.a2.A h.a2.n h.a2.c) := kf.cell 2
         have r3 : wf.cell? ⟨w.heap.size + 1, 3, none⟩ = some (.slice h.a3.A h.a3.n h.a3.c) := kf.cell 3
         exact bodyPost_ret (v := .agg #[.slice h.a0.A h.a0.n h.a0.c, .slice h.a1.A h.a1.n h.a1.c, .slice h.a2.A h.a2.n h.a2.c, .slice h.a3.A h.a3.n h.a3.c]) (by simp [results, Tryz.results34, go_sem, r0, r1, r2, r3]) rfl ⟨h, rfl, HRG.out, HBF.out⟩
end Go.Proofs.YtlnbmmaminflcaaGreatDoor
namespace Go.Proofs.YtlnbmmaminflcaaGreatDoor
open Go.RowKit Go.Shelf

theorem upto_next {l : List Int} {j : Nat} (h : l.take j = upI j) (hz : l[j]? = some (j : Int)) : l.take (j + 1) = upI (j + 1) := by rw [List.take_add_one, h, hz, upI_succ]; rfl
theorem upto_not {l : List Int} {j n : Nat} {z : Int} (hz : l[j]? = some z) (hn : z ≠ (j : Int)) : l ≠ upI n := by
 rintro rfl
 have hj := (List.getElem?_eq_some_iff.1 hz).1
 rw [upI_len] at hj
 rw [upI_at hj] at hz
 injection hz with hz
 exact hn hz.symm
theorem r4s_0 (A0 A1 A2 A3 : Option Addr) (n0 c0 n1 c1 n2 c2 n3 c3 : Nat) (W : World) : (Instr.index 77 (.agg #[.slice A0 n0 c0, .slice A1 n1 c1, .slice A2 n2 c2, .slice A3 n3 c3]) (.int .i64 0)).run Tryz.prog W = .ok (.slice A0 n0 c0) W := by kernel_rfl
theorem r4i_0 (a b c d : Int) (W : World) : (Instr.index 68 (.agg #[.int .i64 a, .int .i64 b, .int .i64 c, .int .i64 d]) (.int .i64 0)).run Tryz.prog W = .ok (.int .i64 a) W := by kernel_rfl
theorem r4s_1 (A0 A1 A2 A3 : Option Addr) (n0 c0 n1 c1 n2 c2 n3 c3 : Nat) (W : World) : (Instr.index 77 (.agg #[.slice A0 n0 c0, .slice A1 n1 c1, .slice A2 n2 c2, .slice A3 n3 c3]) (.int .i64 1)).run Tryz.prog W = .ok (.slice A1 n1 c1) W := by kernel_rfl
theorem r4i_1 (a b c d : Int) (W : World) : (Instr.index 68 (.agg #[.int .i64 a, .int .i64 b, .int .i64 c, .int .i64 d]) (.int .i64 1)).run Tryz.prog W = .ok (.int .i64 b) W := by kernel_rfl
theorem r4s_2 (A0 A1 A2 A3 : Option Addr) (n0 c0 n1 c1 n2 c2 n3 c3 : Nat) (W : World) : (Instr.index 77 (.agg #[.slice A0 n0 c0, .slice A1 n1 c1, .slice A2 n2 c2, .slice A3 n3 c3]) (.int .i64 2)).run Tryz.prog W = .ok (.slice A2 n2 c2) W := by kernel_rfl
theorem r4i_2 (a b c d : Int) (W : World) : (Instr.index 68 (.agg #[.int .i64 a, .int .i64 b, .int .i64 c, .int .i64 d]) (.int .i64 2)).run Tryz.prog W = .ok (.int .i64 c) W := by kernel_rfl
theorem r4s_3 (A0 A1 A2 A3 : Option Addr) (n0 c0 n1 c1 n2 c2 n3 c3 : Nat) (W : World) : (Instr.index 77 (.agg #[.slice A0 n0 c0, .slice A1 n1 c1, .slice A2 n2 c2, .slice A3 n3 c3]) (.int .i64 3)).run Tryz.prog W = .ok (.slice A3 n3 c3) W := by kernel_rfl
theorem r4i_3 (a b c d : Int) (W : World) : (Instr.index 68 (.agg #[.int .i64 a, .int .i64 b, .int .i64 c, .int .i64 d]) (.int .i64 3)).run Tryz.prog W = .ok (.int .i64 d) W := by kernel_rfl
set_option maxRecDepth 100000 in
set_option maxHeartbeats 8000000 in
theorem rright11_any (m : HistM) (hS : Small m.pl) (hcap : (m.tr.1.n ≤ m.tr.1.c) ∧ (m.se.1.n ≤ m.se.1.c) ∧ (m.ob.1.n ≤ m.ob.1.c) ∧ m.pr.1.n ≤ m.pr.1.c) (w : World) (hm : HRd w w.heap.size m) : Calls Tryz.prog 10 #[.agg #[.slice m.tr.1.A m.tr.1.n m.tr.1.c, .slice m.se.1.A m.se.1.n m.se.1.c, .slice m.ob.1.A m.ob.1.n m.ob.1.c, .slice m.pr.1.A m.pr.1.n m.pr.1.c, .slice m.ev.1.A m.ev.1.n m.ev.1.c, .slice m.od.1.A m.od.1.n m.od.1.c, .slice m.ma.1.A m.ma.1.n m.ma.1.c, .slice m.wa.1.A m.wa.1.n m.wa.1.c]] w fun x w' => x = .returned (.bool (rightB m.pl)) ∧ Below w.heap.size w w' := by
 obtain ⟨kh, b0, hs0⟩ := ibox w #[.slice m.tr.1.A m.tr.1.n m.tr.1.c, .slice m.se.1.A m.se.1.n m.se.1.c, .slice m.ob.1.A m.ob.1.n m.ob.1.c, .slice m.pr.1.A m.pr.1.n m.pr.1.c, .slice m.ev.1.A m.ev.1.n m.ev.1.c, .slice m.od.1.A m.od.1.n m.od.1.c, .slice m.ma.1.A m.ma.1.n m.ma.1.c, .slice m.wa.1.A m.wa.1.n m.wa.1.c] 28
 obtain ⟨W0, hW0⟩ : ∃ W0, W0 = (w.alloc (.cells #[.slice m.tr.1.A m.tr.1.n m.tr.1.c, .slice m.se.1.A m.se.1.n m.se.1.c, .slice m.ob.1.A m.ob.1.n m.ob.1.c, .slice m.pr.1.A m.pr.1.n m.pr.1.c, .slice m.ev.1.A m.ev.1.n m.ev.1.c, .slice m.od.1.A m.od.1.n m.od.1.c, .slice m.ma.1.A m.ma.1.n m.ma.1.c, .slice m.wa.1.A m.wa.1.n m.wa.1.c] 28)) := ⟨_, rfl⟩
 rw [← hW0] at kh b0
 have KH : Hid (Blk W0 w.heap.size 28 m.cs) := kh
 have BW := Lib.hid b0
 have HM := Lib.hid hm
 have HL0 : Hid (m.pl.many 0 = m.tr.1.n) := strs_len hm.tr
 have HL1 : Hid (m.pl.many 1 = m.se.1.n) := strs_len hm.se
 have HL2 : Hid (m.pl.many 2 = m.ob.1.n) := strs_len hm.ob
 have HL3 : Hid (m.pl.many 3 = m.pr.1.n) := strs_len hm.pr
 clear kh b0 hs0
 go_enter Tryz.func10, Tryz.ntmps10
 go_upto_region 1 with fail
 rw [← hW0]
 clear hW0
 obtain ⟨z0, z1, z2, z3, z4, z5, z6, z7⟩ := c8 KH.out
 go_wp2_with fail
 refine (rshaped_any m hS hcap W0 ((HM.out.on BW.out).more BW.out.size)).mono ?_
 rintro _ W1 ⟨rfl, bb⟩
 have KH := Lib.hid (KH.out.below bb KH.out.lt)
 have BW := Lib.hid (BW.out.trans (bb.mono BW.out.size))
 clear bb z0 z1 z2 z3 z4 z5 z6 z7
 cases hsh : shapedB m.pl
 ·have HF := Lib.hid (right_unshaped hsh)
  clear hsh
  go_wp2_with fail
  go_ret
  exact ⟨by rw [HF.out]; rfl, BW.out⟩
 ·have HSH := Lib.hid hsh
  clear hsh
  obtain ⟨z0, z1, z2, z3, z4, z5, z6, z7⟩ := c8 KH.out
  go_wp2_with fail
  refine (spoken11_any m hS (fun e he hk => fine_scan (shaped_ev HSH.out he) hk) W1 ((HM.out.on BW.out).more BW.out.size)).mono ?_
  rintro _ W2 ⟨h, rfl, hrg, bb⟩
  have HRG := Lib.hid (hrg.mono BW.out.size)
  have KH := Lib.hid (KH.out.below bb KH.out.lt)
  have BW := Lib.hid (BW.out.trans (bb.mono BW.out.size))
  clear hrg bb z0 z1 z2 z3 z4 z5 z6 z7
  go_wp2_with fail
  go_loopw [13] (fun v wr => ∃ k : Nat, k ≤ 4 ∧ v = .int .i64 k ∧ Hid (∀ s, s < k → spk s (refs m.pl) = upI (m.pl.many s)) ∧ Hid (RG 3 1 w.heap.size wr (h.rows (refs m.pl))) ∧ Hid (Blk wr w.heap.size 28 m.cs) ∧ Hid (Below w.heap.size w wr)) (fun v _ => 4 - (intOf v).toNat)
  case atStart => exact ⟨0, by omega, rfl, fun s hs => absurd hs (Nat.not_lt_zero _), HRG, KH, BW⟩
  case round =>
   clear HRG KH BW
   obtain ⟨k, hk, rfl, HK, HRG, KH, BW⟩ := hrel
   have h5 : k = 0 ∨ k = 1 ∨ k = 2 ∨ k = 3 ∨ k = 4 := by omega
   clear hk
   rcases h5 with rfl | rfl | rfl | rfl | rfl
   ·have hix := r4s_0 h.a0.A h.a1.A h.a2.A h.a3.A h.a0.n h.a0.c h.a1.n h.a1.c h.a2.n h.a2.c h.a3.n h.a3.c wr
    have hiy := r4i_0 m.tr.1.n m.se.1.n m.ob.1.n m.pr.1.n wr
    simp only [show ((0 : Nat) : Int) = 0 from rfl]
    have HR := Lib.hid (Reads.of_own (HRG.out.own 0 _ rfl))
    have HLN : Hid ((spk 0 (refs m.pl)).length = h.a0.n) := ints_len HR.out
    have z0 : wr.cell? ⟨w.heap.size, 0, none⟩ = some (.slice m.tr.1.A m.tr.1.n m.tr.1.c) := KH.out.cell 0
    have z1 : wr.cell? ⟨w.heap.size, 1, none⟩ = some (.slice m.se.1.A m.se.1.n m.se.1.c) := KH.out.cell 1
    have z2 : wr.cell? ⟨w.heap.size, 2, none⟩ = some (.slice m.ob.1.A m.ob.1.n m.ob.1.c) := KH.out.cell 2
    have z3 : wr.cell? ⟨w.heap.size, 3, none⟩ = some (.slice m.pr.1.A m.pr.1.n m.pr.1.c) := KH.out.cell 3
    by_cases hq : h.a0.n = m.tr.1.n
    ·have hqb : ((h.a0.n : Int) != (m.tr.1.n : Int)) = false := by rw [hq]; simp
     have HQ := Lib.hid hq
     clear hq
     have hsm : h.a0.n ≤ 1000 := by have := HQ.out; have := HL0.out; have := hS.many 0; omega
     go_wp2_with fail
     rename World => wo
     clear hix hiy hqb z0 z1 z2 z3
     go_loopw [38] (fun v wr => ∃ j : Nat, j ≤ h.a0.n ∧ v = .int .i64 j ∧ Hid ((spk 0 (refs m.pl)).take j = upI j) ∧ Hid (RG 3 1 w.heap.size wr (h.rows (refs m.pl))) ∧ Hid (Blk wr w.heap.size 28 m.cs) ∧ Hid (Below w.heap.size w wr)) (fun v _ => h.a0.n - (intOf v).toNat)
     case atStart => exact ⟨0, Nat.zero_le _, rfl, by simp [Hid, upI], HRG, KH, BW⟩
     case round =>
      clear HRG KH BW
      obtain ⟨j, hj, rfl, HT, HRG, KH, BW⟩ := hrel
      by_cases hjn : j < h.a0.n
      ·have hlt : (j : Int) < (h.a0.n : Int) := by omega
       obtain ⟨z, hz⟩ : ∃ z, (spk 0 (refs m.pl))[j]? = some z := ⟨(spk 0 (refs m.pl))[j]'(by rw [HLN.out]; exact hjn), List.getElem?_eq_getElem _⟩
       obtain ⟨b, o, hA, hbl, hc⟩ := int_at (Reads.of_own (HRG.out.own 0 _ rfl)) hz
       rw [show h.a0.A = some ⟨b, o, none⟩ from hA]
       have HZ := Lib.hid hz
       clear hz hbl
       by_cases hzj : (j : Int) = z
       ·subst hzj
        have hzb : ((j : Int) != (j : Int)) = false := by simp
        have HT2 := Lib.hid (upto_next HT.out HZ.out)
        clear hA
        go_wp2_with fail
        go_roundw
        case rel => exact ⟨j + 1, hjn, by go_num, HT2, HRG, KH, BW⟩
        case measure => simp [intOf]; omega
       ·have hzb : ((j : Int) != z) = true := by simpa using hzj
        have HF : Hid (rightB m.pl = false) := right_not fun ho => upto_not HZ.out (fun e => hzj e.symm) (ho 0 (by omega))
        clear hA hzj
        go_wp2_with fail
        go_ret
        exact ⟨by rw [HF.out]; rfl, BW.out⟩
      ·have hje : j = h.a0.n := by omega
       have HK2 : Hid (∀ s, s < 1 → spk s (refs m.pl) = upI (m.pl.many s)) := fun s hs => by
        rcases Nat.lt_or_ge s 0 with h9 | h9
        ·exact HK.out s h9
        ·obtain rfl : s = 0 := by omega
         have h8 := HT.out
         rw [hje, List.take_of_length_le (Nat.le_of_eq HLN.out)] at h8
         rw [h8, HL0.out, ← HQ.out]
       rw [hje]
       clear hje hjn hj
       go_wp2_with fail
       go_roundw
       case rel => exact ⟨1, by omega, rfl, HK2, HRG, KH, BW⟩
       case measure => simp [intOf]
    ·have hqb : ((h.a0.n : Int) != (m.tr.1.n : Int)) = true := by simp; omega
     have HF : Hid (rightB m.pl = false) := right_not fun ho => hq (by have h9 := congrArg List.length (ho 0 (by omega)); rw [upI_len, HLN.out, HL0.out] at h9; exact h9)
     clear hq
     go_wp2_with fail
     go_ret
     exact ⟨by rw [HF.out]; rfl, BW.out⟩
   ·have hix := r4s_1 h.a0.A h.a1.A h.a2.A h.a3.A h.a0.n h.a0.c h.a1.n h.a1.c h.a2.n h.a2.c h.a3.n h.a3.c wr
    have hiy := r4i_1 m.tr.1.n m.se.1.n m.ob.1.n m.pr.1.n wr
    simp only [show ((1 : Nat) : Int) = 1 from rfl]
    have HR := Lib.hid (Reads.of_own (HRG.out.own 1 _ rfl))
    have HLN : Hid ((spk 1 (refs m.pl)).length = h.a1.n) := ints_len HR.out
    have z0 : wr.cell? ⟨w.heap.size, 0, none⟩ = some (.slice m.tr.1.A m.tr.1.n m.tr.1.c) := KH.out.cell 0
    have z1 : wr.cell? ⟨w.heap.size, 1, none⟩ = some (.slice m.se.1.A m.se.1.n m.se.1.c) := KH.out.cell 1
    have z2 : wr.cell? ⟨w.heap.size, 2, none⟩ = some (.slice m.ob.1.A m.ob.1.n m.ob.1.c) := KH.out.cell 2
    have z3 : wr.cell? ⟨w.heap.size, 3, none⟩ = some (.slice m.pr.1.A m.pr.1.n m.pr.1.c) := KH.out.cell 3
    by_cases hq : h.a1.n = m.se.1.n
    ·have hqb : ((h.a1.n : Int) != (m.se.1.n : Int)) = false := by rw [hq]; simp
     have HQ := Lib.hid hq
     clear hq
     have hsm : h.a1.n ≤ 1000 := by have := HQ.out; have := HL1.out; have := hS.many 1; omega
     go_wp2_with fail
     rename World => wo
     clear hix hiy hqb z0 z1 z2 z3
     go_loopw [38] (fun v wr => ∃ j : Nat, j ≤ h.a1.n ∧ v = .int .i64 j ∧ Hid ((spk 1 (refs m.pl)).take j = upI j) ∧ Hid (RG 3 1 w.heap.size wr (h.rows (refs m.pl))) ∧ Hid (Blk wr w.heap.size 28 m.cs) ∧ Hid (Below w.heap.size w wr)) (fun v _ => h.a1.n - (intOf v).toNat)
     case atStart => exact ⟨0, Nat.zero_le _, rfl, by simp [Hid, upI], HRG, KH, BW⟩
     case round =>
      clear HRG KH BW
      obtain ⟨j, hj, rfl, HT, HRG, KH, BW⟩ := hrel
      by_cases hjn : j < h.a1.n
      ·have hlt : (j : Int) < (h.a1.n : Int) := by omega
       obtain ⟨z, hz⟩ : ∃ z, (spk 1 (refs m.pl))[j]? = some z := ⟨(spk 1 (refs m.pl))[j]'(by rw [HLN.out]; exact hjn), List.getElem?_eq_getElem _⟩
       obtain ⟨b, o, hA, hbl, hc⟩ := int_at (Reads.of_own (HRG.out.own 1 _ rfl)) hz
       rw [show h.a1.A = some ⟨b, o, none⟩ from hA]
       have HZ := Lib.hid hz
       clear hz hbl
       by_cases hzj : (j : Int) = z
       ·subst hzj
        have hzb : ((j : Int) != (j : Int)) = false := by simp
        have HT2 := Lib.hid (upto_next HT.out HZ.out)
        clear hA
        go_wp2_with fail
        go_roundw
        case rel => exact ⟨j + 1, hjn, by go_num, HT2, HRG, KH, BW⟩
        case measure => simp [intOf]; omega
       ·have hzb : ((j : Int) != z) = true := by simpa using hzj
        have HF : Hid (rightB m.pl = false) := right_not fun ho => upto_not HZ.out (fun e => hzj e.symm) (ho 1 (by omega))
        clear hA hzj
        go_wp2_with fail
        go_ret
        exact ⟨by rw [HF.out]; rfl, BW.out⟩
      ·have hje : j = h.a1.n := by omega
       have HK2 : Hid (∀ s, s < 2 → spk s (refs m.pl) = upI (m.pl.many s)) := fun s hs => by
        rcases Nat.lt_or_ge s 1 with h9 | h9
        ·exact HK.out s h9
        ·obtain rfl : s = 1 := by omega
         have h8 := HT.out
         rw [hje, List.take_of_length_le (Nat.le_of_eq HLN.out)] at h8
         rw [h8, HL1.out, ← HQ.out]
       rw [hje]
       clear hje hjn hj
       go_wp2_with fail
       go_roundw
       case rel => exact ⟨2, by omega, rfl, HK2, HRG, KH, BW⟩
       case measure => simp [intOf]
    ·have hqb : ((h.a1.n : Int) != (m.se.1.n : Int)) = true := by simp; omega
     have HF : Hid (rightB m.pl = false) := right_not fun ho => hq (by have h9 := congrArg List.length (ho 1 (by omega)); rw [upI_len, HLN.out, HL1.out] at h9; exact h9)
     clear hq
     go_wp2_with fail
     go_ret
     exact ⟨by rw [HF.out]; rfl, BW.out⟩
   ·have hix := r4s_2 h.a0.A h.a1.A h.a2.A h.a3.A h.a0.n h.a0.c h.a1.n h.a1.c h.a2.n h.a2.c h.a3.n h.a3.c wr
    have hiy := r4i_2 m.tr.1.n m.se.1.n m.ob.1.n m.pr.1.n wr
    simp only [show ((2 : Nat) : Int) = 2 from rfl]
    have HR := Lib.hid (Reads.of_own (HRG.out.own 2 _ rfl))
    have HLN : Hid ((spk 2 (refs m.pl)).length = h.a2.n) := ints_len HR.out
    have z0 : wr.cell? ⟨w.heap.size, 0, none⟩ = some (.slice m.tr.1.A m.tr.1.n m.tr.1.c) := KH.out.cell 0
    have z1 : wr.cell? ⟨w.heap.size, 1, none⟩ = some (.slice m.se.1.A m.se.1.n m.se.1.c) := KH.out.cell 1
    have z2 : wr.cell? ⟨w.heap.size, 2, none⟩ = some (.slice m.ob.1.A m.ob.1.n m.ob.1.c) := KH.out.cell 2
    have z3 : wr.cell? ⟨w.heap.size, 3, none⟩ = some (.slice m.pr.1.A m.pr.1.n m.pr.1.c) := KH.out.cell 3
    by_cases hq : h.a2.n = m.ob.1.n
    ·have hqb : ((h.a2.n : Int) != (m.ob.1.n : Int)) = false := by rw [hq]; simp
     have HQ := Lib.hid hq
     clear hq
     have hsm : h.a2.n ≤ 1000 := by have := HQ.out; have := HL2.out; have := hS.many 2; omega
     go_wp2_with fail
     rename World => wo
     clear hix hiy hqb z0 z1 z2 z3
     go_loopw [38] (fun v wr => ∃ j : Nat, j ≤ h.a2.n ∧ v = .int .i64 j ∧ Hid ((spk 2 (refs m.pl)).take j = upI j) ∧ Hid (RG 3 1 w.heap.size wr (h.rows (refs m.pl))) ∧ Hid (Blk wr w.heap.size 28 m.cs) ∧ Hid (Below w.heap.size w wr)) (fun v _ => h.a2.n - (intOf v).toNat)
     case atStart => exact ⟨0, Nat.zero_le _, rfl, by simp [Hid, upI], HRG, KH, BW⟩
     case round =>
      clear HRG KH BW
      obtain ⟨j, hj, rfl, HT, HRG, KH, BW⟩ := hrel
      by_cases hjn : j < h.a2.n
      ·have hlt : (j : Int) < (h.a2.n : Int) := by omega
       obtain ⟨z, hz⟩ : ∃ z, (spk 2 (refs m.pl))[j]? = some z := ⟨(spk 2 (refs m.pl))[j]'(by rw [HLN.out]; exact hjn), List.getElem?_eq_getElem _⟩
       obtain ⟨b, o, hA, hbl, hc⟩ := int_at (Reads.of_own (HRG.out.own 2 _ rfl)) hz
       rw [show h.a2.A = some ⟨b, o, none⟩ from hA]
       have HZ := Lib.hid hz
       clear hz hbl
       by_cases hzj : (j : Int) = z
       ·subst hzj
        have hzb : ((j : Int) != (j : Int)) = false := by simp
        have HT2 := Lib.hid (upto_next HT.out HZ.out)
        clear hA
        go_wp2_with fail
        go_roundw
        case rel => exact ⟨j + 1, hjn, by go_num, HT2, HRG, KH, BW⟩
        case measure => simp [intOf]; omega
       ·have hzb : ((j : Int) != z) = true := by simpa using hzj
        have HF : Hid (rightB m.pl = false) := right_not fun ho => upto_not HZ.out (fun e => hzj e.symm) (ho 2 (by omega))
        clear hA hzj
        go_wp2_with fail
        go_ret
        exact ⟨by rw [HF.out]; rfl, BW.out⟩
      ·have hje : j = h.a2.n := by omega
       have HK2 : Hid (∀ s, s < 3 → spk s (refs m.pl) = upI (m.pl.many s)) := fun s hs => by
        rcases Nat.lt_or_ge s 2 with h9 | h9
        ·exact HK.out s h9
        ·obtain rfl : s = 2 := by omega
         have h8 := HT.out
         rw [hje, List.take_of_length_le (Nat.le_of_eq HLN.out)] at h8
         rw [h8, HL2.out, ← HQ.out]
       rw [hje]
       clear hje hjn hj
       go_wp2_with fail
       go_roundw
       case rel => exact ⟨3, by omega, rfl, HK2, HRG, KH, BW⟩
       case measure => simp [intOf]
    ·have hqb : ((h.a2.n : Int) != (m.ob.1.n : Int)) = true := by simp; omega
     have HF : Hid (rightB m.pl = false) := right_not fun ho => hq (by have h9 := congrArg List.length (ho 2 (by omega)); rw [upI_len, HLN.out, HL2.out] at h9; exact h9)
     clear hq
     go_wp2_with fail
     go_ret
     exact ⟨by rw [HF.out]; rfl, BW.out⟩
   ·have hix := r4s_3 h.a0.A h.a1.A h.a2.A h.a3.A h.a0.n h.a0.c h.a1.n h.a1.c h.a2.n h.a2.c h.a3.n h.a3.c wr
    have hiy := r4i_3 m.tr.1.n m.se.1.n m.ob.1.n m.pr.1.n wr
    simp only [show ((3 : Nat) : Int) = 3 from rfl]
    have HR := Lib.hid (Reads.of_own (HRG.out.own 3 _ rfl))
    have HLN : Hid ((spk 3 (refs m.pl)).length = h.a3.n) := ints_len HR.out
    have z0 : wr.cell? ⟨w.heap.size, 0, none⟩ = some (.slice m.tr.1.A m.tr.1.n m.tr.1.c) := KH.out.cell 0
    have z1 : wr.cell? ⟨w.heap.size, 1, none⟩ = some (.slice m.se.1.A m.se.1.n m.se.1.c) := KH.out.cell 1
    have z2 : wr.cell? ⟨w.heap.size, 2, none⟩ = some (.slice m.ob.1.A m.ob.1.n m.ob.1.c) := KH.out.cell 2
    have z3 : wr.cell? ⟨w.heap.size, 3, none⟩ = some (.slice m.pr.1.A m.pr.1.n m.pr.1.c) := KH.out.cell 3
    by_cases hq : h.a3.n = m.pr.1.n
    ·have hqb : ((h.a3.n : Int) != (m.pr.1.n : Int)) = false := by rw [hq]; simp
     have HQ := Lib.hid hq
     clear hq
     have hsm : h.a3.n ≤ 1000 := by have := HQ.out; have := HL3.out; have := hS.many 3; omega
     go_wp2_with fail
     rename World => wo
     clear hix hiy hqb z0 z1 z2 z3
     go_loopw [38] (fun v wr => ∃ j : Nat, j ≤ h.a3.n ∧ v = .int .i64 j ∧ Hid ((spk 3 (refs m.pl)).take j = upI j) ∧ Hid (RG 3 1 w.heap.size wr (h.rows (refs m.pl))) ∧ Hid (Blk wr w.heap.size 28 m.cs) ∧ Hid (Below w.heap.size w wr)) (fun v _ => h.a3.n - (intOf v).toNat)
     case atStart => exact ⟨0, Nat.zero_le _, rfl, by simp [Hid, upI], HRG, KH, BW⟩
     case round =>
      clear HRG KH BW
      obtain ⟨j, hj, rfl, HT, HRG, KH, BW⟩ := hrel
      by_cases hjn : j < h.a3.n
      ·have hlt : (j : Int) < (h.a3.n : Int) := by omega
       obtain ⟨z, hz⟩ : ∃ z, (spk 3 (refs m.pl))[j]? = some z := ⟨(spk 3 (refs m.pl))[j]'(by rw [HLN.out]; exact hjn), List.getElem?_eq_getElem _⟩
       obtain ⟨b, o, hA, hbl, hc⟩ := int_at (Reads.of_own (HRG.out.own 3 _ rfl)) hz
       rw [show h.a3.A = some ⟨b, o, none⟩ from hA]
       have HZ := Lib.hid hz
       clear hz hbl
       by_cases hzj : (j : Int) = z
       ·subst hzj
        have hzb : ((j : Int) != (j : Int)) = false := by simp
        have HT2 := Lib.hid (upto_next HT.out HZ.out)
        clear hA
        go_wp2_with fail
        go_roundw
        case rel => exact ⟨j + 1, hjn, by go_num, HT2, HRG, KH, BW⟩
        case measure => simp [intOf]; omega
       ·have hzb : ((j : Int) != z) = true := by simpa using hzj
        have HF : Hid (rightB m.pl = false) := right_not fun ho => upto_not HZ.out (fun e => hzj e.symm) (ho 3 (by omega))
        clear hA hzj
        go_wp2_with fail
        go_ret
        exact ⟨by rw [HF.out]; rfl, BW.out⟩
      ·have hje : j = h.a3.n := by omega
       have HK2 : Hid (∀ s, s < 4 → spk s (refs m.pl) = upI (m.pl.many s)) := fun s hs => by
        rcases Nat.lt_or_ge s 3 with h9 | h9
        ·exact HK.out s h9
        ·obtain rfl : s = 3 := by omega
         have h8 := HT.out
         rw [hje, List.take_of_length_le (Nat.le_of_eq HLN.out)] at h8
         rw [h8, HL3.out, ← HQ.out]
       rw [hje]
       clear hje hjn hj
       go_wp2_with fail
       go_roundw
       case rel => exact ⟨4, by omega, rfl, HK2, HRG, KH, BW⟩
       case measure => simp [intOf]
    ·have hqb : ((h.a3.n : Int) != (m.pr.1.n : Int)) = true := by simp; omega
     have HF : Hid (rightB m.pl = false) := right_not fun ho => hq (by have h9 := congrArg List.length (ho 3 (by omega)); rw [upI_len, HLN.out, HL3.out] at h9; exact h9)
     clear hq
     go_wp2_with fail
     go_ret
     exact ⟨by rw [HF.out]; rfl, BW.out⟩
   ·have HT : Hid (rightB m.pl = true) := by show _ = _; unfold rightB; rw [HSH.out, ordB_iff.2 fun s hs => HK.out s hs]; rfl
    go_wp2_with fail
    go_ret
    exact ⟨by rw [HT.out]; rfl, BW.out⟩
end Go.Proofs.YtlnbmmaminflcaaGreatDoor
