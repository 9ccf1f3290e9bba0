/- Layer topo: what leads out of a node, through a closure; the edges one by one: contracts. -/
import Derived.Test.YtaigpdpcliecpaaM8
import Derived.Test.YtaigpdpcliecpaaM9
import Derived.Test.YtaigpdpcliecpaaM6
import Derived.Test.YtaigpdpcliecpaaM7
-- holds: YtaigpdpcliecpaaHd YtaigpdpcliecpaaTe
namespace Go.Proofs.Ytaigpdpcliecpaa
open Go.RowKit

/-- The graphs in a law's variables, and a number in another one. -/
def EnvK (w : World) (L : List (Nat × GV)) (b : Nat) (kd : Int) (W : World) : Prop := Env w L W ∧ Blk W b 3 #[.int .i64 kd]
theorem EnvK.on {w W W' : World} {L : List (Nat × GV)} {b : Nat} {kd : Int} (h : EnvK w L b kd W) (hb : Below W.heap.size W W') : EnvK w L b kd W' := ⟨h.1.on hb, h.2.below hb h.2.lt⟩
theorem EnvK.add {w W : World} {L : List (Nat × GV)} {b : Nat} {kd : Int} (h : EnvK w L b kd W) {g : GV} (hg : g.ok W) : EnvK w ((W.heap.size, g) :: L) b kd (W.alloc (.cells #[.int .i64 g.z, .slice g.A g.n g.c] 24)) := ⟨h.1.add hg, h.2.alloc _⟩
theorem reads_put {W : World} {B X k n : Nat} {t : TypeId} {a b u : Value} {A : Option Addr} {es : List Ed} (h : Reads W B 3 A n (cellsE es)) (hx : Blk W X t #[a, b]) : Reads (W.setCell ⟨X, k, none⟩ u) B 3 A n (cellsE es) := by
  refine ⟨h.1, fun hn => ?_⟩
  obtain ⟨ad, rfl, hb, hc⟩ := h.2 hn
  refine ⟨ad, rfl, hb, fun j v hv => ?_⟩
  have hl := h.1
  have h0 := hc 0 _ (List.getElem?_eq_getElem (show 0 < (cellsE es).length by omega))
  have h2 := hc 2 _ (List.getElem?_eq_getElem (show 2 < (cellsE es).length by omega))
  have h3 := hc j v hv
  obtain ⟨bl, o, spot⟩ := ad
  have hspot : spot = none := by simpa [Addr.add] using World.cell?_spot h0
  subst hspot
  rw [Go.WideShapes.add_plain] at h2 h3 ⊢
  by_cases e : bl = X
  · exfalso
    subst e
    rw [hx.cell] at h2
    have : (#[a, b] : Array Value)[o + 2]? = none := Array.getElem?_eq_none (by simp)
    rw [this] at h2
    cases h2
  · rw [World.cell?_setCell_far _ _ _ _ (fun e2 => e e2.symm)]
    exact h3
theorem GV.ok.put {g : GV} {W : World} {X : Nat} {t : TypeId} {a b : Value} (h : g.ok W) (hx : Blk W X t #[a, b]) (u v : Value) : g.ok ((W.setCell ⟨X, 0, none⟩ u).setCell ⟨X, 1, none⟩ v) := by
  have h1 : Blk (W.setCell ⟨X, 0, none⟩ u) X t #[u, b] := by simpa using hx.set_ 0 u
  refine ⟨?_, h.2⟩
  rw [World.size_setCell, World.size_setCell]
  exact reads_put (reads_put h.1 hx) h1
/-- A variable laid with the zero value, and what is stored into it. -/
def Zer (w : World) (L : List (Nat × GV)) (X : Nat) (W : World) : Prop := Blk W X 24 #[.int .i64 0, .slice none 0 0] ∧ w.heap.size ≤ X ∧ ∀ p ∈ L, p.1 ≠ X
theorem Zer.on {w W W' : World} {L : List (Nat × GV)} {X : Nat} (h : Zer w L X W) (hb : Below W.heap.size W W') : Zer w L X W' := ⟨h.1.below hb h.1.lt, h.2⟩
theorem Zer.new {w W : World} {L : List (Nat × GV)} (h : Env w L W) : Zer w L W.heap.size (W.alloc (.cells #[.int .i64 0, .slice none 0 0] 24)) :=
  ⟨Blk.new _ _ _, h.below.size, fun p hp => Nat.ne_of_lt (h.all p hp).1.lt⟩
theorem Env.put {w W : World} {L : List (Nat × GV)} {g : GV} {X : Nat} (h : Env w L W) (hz : Zer w L X W) (hg : g.ok W) : Env w ((X, g) :: L) ((W.setCell ⟨X, 0, none⟩ (.int .i64 g.z)).setCell ⟨X, 1, none⟩ (.slice g.A g.n g.c)) := by
  refine ⟨below_store2 h.below hz.2.1 _ _, fun p hp => ?_⟩
  rcases List.mem_cons.1 hp with rfl | hp
  · exact ⟨store2 hz.1 _ _, hg.put hz.1 _ _⟩
  · have hne := hz.2.2 p hp
    exact ⟨((h.all p hp).1.far (p := ⟨X, 0, none⟩) hne _).far (p := ⟨X, 1, none⟩) hne _, (h.all p hp).2.put hz.1 _ _⟩
theorem ERows.on {W W' : World} {n : Nat} {A : Option Addr} {rs : List ERow} (h : ERows W W.heap.size A n rs) (hb : Below W.heap.size W W') : ERows W' W'.heap.size A n rs :=
  ⟨(Reads.below h.1 hb).more hb.size, fun r hr => ((h.2 r hr).below hb).more hb.size⟩
theorem Reads.on {W W' : World} {n k : Nat} {A : Option Addr} {xs : List Value} (h : Reads W W.heap.size k A n xs) (hb : Below W.heap.size W W') : Reads W' W'.heap.size k A n xs := (h.below hb).more hb.size
theorem erows2 {W : World} (g h : GV) (t : TypeId) (hg : Reads W W.heap.size 3 g.A g.n (cellsE g.es)) (hh : Reads W W.heap.size 3 h.A h.n (cellsE h.es)) :
    ERows (W.alloc (.cells #[.slice g.A g.n g.c, .slice h.A h.n h.c] t)) (W.alloc (.cells #[.slice g.A g.n g.c, .slice h.A h.n h.c] t)).heap.size (some ⟨W.heap.size, 0, none⟩) 2 [⟨g.A, g.n, g.c, g.es⟩, ⟨h.A, h.n, h.c, h.es⟩] := by
  have hb : Below W.heap.size W (W.alloc (.cells #[.slice g.A g.n g.c, .slice h.A h.n h.c] t)) := (Below.refl _ _).alloc (Nat.le_refl _) _
  refine ⟨⟨rfl, fun _ => ⟨_, rfl, by simp, fun j u hu => ?_⟩⟩, fun r hr => ?_⟩
  · rw [Go.WideShapes.add_plain, Nat.zero_add, (Blk.new W t _).cell, ← hu, ← List.getElem?_toArray]
    rfl
  · simp only [List.mem_cons, List.not_mem_nil, or_false] at hr
    rcases hr with rfl | rfl
    · exact (hg.below hb).more hb.size
    · exact (hh.below hb).more hb.size
theorem parts_whole {zs : List Ed} {nodes : Int} (h : IsG nodes zs) (kd : Int) : sorE (catL [⟨none, 0, 0, zs.filter fun p => decide (p.2.2 ≥ kd)⟩, ⟨none, 0, 0, zs.filter fun p => decide (p.2.2 < kd)⟩]) = zs := by
  have hm : ∀ x, x ∈ zs ↔ x ∈ (zs.filter fun p => decide (p.2.2 ≥ kd)) ++ (zs.filter fun p => decide (p.2.2 < kd)) := by
    intro x
    rw [List.mem_append, List.mem_filter, List.mem_filter, decide_eq_true_eq, decide_eq_true_eq]
    refine ⟨fun hx => ?_, fun hx => hx.elim (·.1) (·.1)⟩
    rcases Int.lt_or_le x.2.2 kd with h | h
    · exact .inr ⟨hx, h⟩
    · exact .inl ⟨hx, h⟩
  have e : catL [⟨none, 0, 0, zs.filter fun p => decide (p.2.2 ≥ kd)⟩, ⟨none, 0, 0, zs.filter fun p => decide (p.2.2 < kd)⟩] = (zs.filter fun p => decide (p.2.2 ≥ kd)) ++ (zs.filter fun p => decide (p.2.2 < kd)) := by simp [catL]
  rw [e]
  exact sorE_is (fun p hp => h.ok p ((hm p).2 hp)) h.up hm
theorem parts_len (zs : List Ed) (kd : Int) : (zs.filter fun p => decide (p.2.2 < kd)).length + (zs.filter fun p => decide (p.2.2 ≥ kd)).length = zs.length := by
  induction zs with
  | nil => rfl
  | cons x zs ih =>
    by_cases h : x.2.2 < kd
    · have h2 : ¬ x.2.2 ≥ kd := by omega
      rw [List.filter_cons_of_pos (by simpa using h), List.filter_cons_of_neg (by simpa using h2)]
      simp only [List.length_cons]; omega
    · have h2 : x.2.2 ≥ kd := by omega
      rw [List.filter_cons_of_neg (by simpa using h), List.filter_cons_of_pos (by simpa using h2)]
      simp only [List.length_cons]; omega
end Go.Proofs.Ytaigpdpcliecpaa
namespace Go.Proofs.Ytaigpdpcliecpaa
open Go.RowKit Go.Shelf
attribute [local go_sem] Oper.semAt_some

/-- What the closure that leads out of nodes holds. -/
structure LvAt (B Bg Bs : Nat) (A : Option Addr) (n c : Nat) (Sa : Option Addr) (sc m : Nat) (zs : List Ed) (W : World) : Prop where
  gr : Blk W Bg 24 #[.int .i64 (m : Int), .slice A n c]
  st : Blk W Bs 27 #[.slice Sa (m + 1) sc]
  lt : Bg < B ∧ Bs < B
  es : Reads W B 3 A n (cellsE zs)
  ss : Reads W B 1 Sa (m + 1) (ints (startsE zs (m + 1)))
  nc : n ≤ c
section
variable {B Bg Bs : Nat} {A : Option Addr} {n c : Nat} {Sa : Option Addr} {sc m : Nat} {zs : List Ed} {W W' : World}
theorem LvAt.on (h : LvAt B Bg Bs A n c Sa sc m zs W) (hb : Below B W W') : LvAt B Bg Bs A n c Sa sc m zs W' :=
  ⟨(hb.block Bg h.lt.1).trans h.gr, (hb.block Bs h.lt.2).trans h.st, h.lt, h.es.below hb, h.ss.below hb, h.nc⟩
theorem LvAt.more (h : LvAt B Bg Bs A n c Sa sc m zs W) {B' : Nat} (hb : B ≤ B') : LvAt B' Bg Bs A n c Sa sc m zs W := ⟨h.gr, h.st, by have := h.lt; omega, h.es.more hb, h.ss.more hb, h.nc⟩
end
theorem starts_two {w : World} {B m v : Nat} {Sa : Option Addr} {zs : List Ed} (h : Reads w B 1 Sa (m + 1) (ints (startsE zs (m + 1)))) (hv : v < m) :
    ∃ b o, Sa = some ⟨b, o, none⟩ ∧ b < B ∧ w.cell? ⟨b, o + v, none⟩ = some (.int .i64 (startE zs (v : Int) : Int)) ∧ w.cell? ⟨b, o + (v + 1), none⟩ = some (.int .i64 (startE zs ((v : Int) + 1) : Int)) := by
  obtain ⟨b, o, e, hb, hc⟩ := reads_plain h (by omega)
  have hat : ∀ j, j < m + 1 → (ints (startsE zs (m + 1)))[j]? = some (.int .i64 (startE zs (j : Int) : Int)) := fun j hj => by
    unfold ints startsE
    rw [List.getElem?_map, List.getElem?_map, List.getElem?_range hj]
    rfl
  exact ⟨b, o, e, hb, hc _ _ (hat v (by omega)), hc _ _ (hat (v + 1) (by omega))⟩
theorem out_reads {w : World} {B n c : Nat} {A : Option Addr} {zs : List Ed} (v : Int) (hz : InRow zs) (hnc : n ≤ c) (h : Reads w B 3 A n (cellsE zs)) :
    Reads w B 3 (if c = startE zs v then A else A.map (·.add (startE zs v * 3))) (startE zs (v + 1) - startE zs v) (cellsE (outE zs v)) := by
  have h1 := cut_reads v hz h
  have h2 := start_mono zs (u := v) (v := v + 1) (by omega)
  have h3 := start_le zs (v + 1)
  have h4 := reads_len h
  unfold CutAt at h1
  by_cases e : startE zs (v + 1) = startE zs v
  · refine ⟨h1.1, fun hn => ?_⟩
    omega
  · rw [if_neg e] at h1
    rw [if_neg (by omega)]
    exact h1
/-- The edges that lead out, as they are told. -/
def OutIs (B : Nat) (l : List Ed) (w : World) (e : Ending) (w' : World) : Prop :=
  ∃ (Bx : Nat) (A : Option Addr) (c : Nat), e = .returned (.func (.func 61) #[] #[.pointer (some ⟨Bx, 0, none⟩)]) ∧ Blk w' Bx 22 #[.slice A l.length c] ∧ w.heap.size ≤ Bx ∧ Reads w' B 3 A l.length (cellsE l) ∧ Below w.heap.size w w'

set_option maxRecDepth 100000 in
set_option maxHeartbeats 4000000 in
theorem out1_any (B Bg Bs : Nat) (A : Option Addr) (n c : Nat) (Sa : Option Addr) (sc m : Nat) (zs : List Ed) (v : Nat) (hz : InRow zs) (hm : m ≤ 300) (hv : v < m) (w : World) (h : LvAt B Bg Bs A n c Sa sc m zs w) (hB : B ≤ w.heap.size) :
    Calls Try.prog 56 #[.int .i64 (v : Int), .pointer (some ⟨Bg, 0, none⟩), .pointer (some ⟨Bs, 0, none⟩)] w (OutIs B (outE zs (v : Int)) w) := by
  have hl := reads_len h.es
  have h1 := start_mono zs (u := (v : Int)) (v := (v : Int) + 1) (by omega)
  have h2 := start_le zs ((v : Int) + 1)
  have hnc := h.nc
  have hor := out_reads (v : Int) hz h.nc h.es
  have hol := reads_len hor
  have hs := fun W => pr_slice_lh A n c (startE zs (v : Int)) (startE zs ((v : Int) + 1)) _ _ rfl rfl h1 (by omega) W
  obtain ⟨b, o, rfl, hb, s0, s1⟩ := starts_two h.ss hv
  have g1 := h.gr.cell 1
  have t0 := h.st.cell 0
  have HO : Hid (∀ W, Below B w W → Reads W B 3 (if c = startE zs (v : Int) then A else A.map (·.add (startE zs (v : Int) * 3))) (startE zs ((v : Int) + 1) - startE zs (v : Int)) (cellsE (outE zs (v : Int)))) := fun W hW => hor.below hW
  have HOL : Hid ((outE zs (v : Int)).length = startE zs ((v : Int) + 1) - startE zs (v : Int)) := hol
  obtain ⟨v1, hv1⟩ : ∃ v1, v + 1 = v1 := ⟨_, rfl⟩
  have hwv : IntKind.i64.wrap ((v : Int) + 1) = (v1 : Int) := by rw [IntKind.wrap_i64]; omega
  have hv1m : (v1 : Int) < ((m + 1 : Nat) : Int) := by omega
  have hv0m : (v : Int) < ((m + 1 : Nat) : Int) := by omega
  rw [hv1] at s1
  have HB := Lib.hid hB
  clear h hl h2 hnc hor hol hz hb hv1 hB
  generalize m + 1 = sn at *
  generalize (if c = startE zs (v : Int) then A else A.map (·.add (startE zs (v : Int) * 3))) = C at *
  generalize startE zs (v : Int) = s at *
  generalize startE zs ((v : Int) + 1) = t at *
  go_enter Try.func56, Try.ntmps56
  go_upto_region 1 with fail
  go_still_tail 12, (by kernel_rfl)
  change wpList _ _ _ _ _ w.drew
  have HD : Hid (Below w.heap.size w w.drew) := (Below.refl _ _).drew
  clear g1 t0 s0 s1 hs
  generalize w.drew = wd at *
  go_wp2_with fail
  refine (values_any C (t - s) (c - s) wd).mono ?_
  rintro e w1 ⟨rfl, rfl⟩
  have b1 : Below w.heap.size w (wd.alloc (.cells #[.slice C (t - s) (c - s)] 22)) := HD.out.alloc HD.out.size _
  have HE : Hid (OutIs B (outE zs (v : Int)) w (.returned (.func (.func 61) #[] #[.pointer (some ⟨wd.heap.size, 0, none⟩)])) (wd.alloc (.cells #[.slice C (t - s) (c - s)] 22))) := by
    refine ⟨wd.heap.size, C, c - s, rfl, ?_, HD.out.size, ?_, b1⟩
    · rw [HOL.out]
      exact Blk.new wd _ _
    · rw [HOL.out]
      exact HO.out _ (b1.mono HB.out)
  clear b1
  go_wp2_with fail
  go_ret
  exact HE.out

/-- An edge, as the value that is told. -/
def valE (p : Ed) : Value := .agg #[.int .i64 p.1, .int .i64 p.2.1, .int .i64 p.2.2]
set_option maxRecDepth 100000 in
set_option maxHeartbeats 2000000 in
theorem values_ones (d B Bx n c : Nat) (A : Option Addr) (zs : List Ed) (hn : n ≤ 1000) (w : World) (hs : Blk w Bx 22 #[.slice A n c]) (hR : Reads w B 3 A n (cellsE zs)) (hB : B ≤ w.heap.size) :
    OneSeq d Try.prog 61 #[.pointer (some ⟨Bx, 0, none⟩)] valE (fun ys => ys <+: zs) (fun ys => ys = zs) (fun k => k = Bx ∨ k < B) w := by
  intro l J Jx C0 W hW hC0 hJ _ hY h0
  have hBx := hs.lt
  have s0 := (hW.blk hs (.inl rfl)).cell 0
  have HL := Lib.hid (reads_len hR)
  have HR : Hid (∀ X, Keep (fun k => k = Bx ∨ k < B) w X → Reads X B 3 A n (cellsE zs)) := fun X h => h.reads hR hB fun k hk => .inr hk
  have HYY := Lib.hid hY
  have HJ0 := Lib.hid hJ
  have HW := Lib.hid hW
  have HC := Lib.hid hC0
  have H0 := Lib.hid h0
  have HBX : Hid (Bx < w.heap.size ∧ B ≤ w.heap.size) := ⟨hBx, hB⟩
  clear hY hR hs hW hJ hC0 h0 hBx hB
  refine callsIn_of_wp Try.func61 rfl trivial ?_ rfl
  simp only [Try.ntmps61, List.size_toArray, List.length_cons, List.length_nil, Nat.reduceAdd, Nat.reduceSub, Array.replicate_succ, Array.replicate_zero, List.push_toArray, List.append_toArray, List.nil_append, List.cons_append]
  gi_wp2_with fail
  clear s0
  gi_loopw [7] (fun v wr => ∃ (i : Nat) (C : Nat → Prop), v = .int .i64 i ∧ i ≤ n ∧ Hid (J (zs.take i) C wr) ∧ Hid (Keep (fun k => k = Bx ∨ k < B) w wr) ∧ Hid (∀ k, C k → ¬ (k = Bx ∨ k < B) ∧ k < wr.heap.size) ∧ Hid (W.heap.size ≤ wr.heap.size)) (fun v _ => n - (intOf v).toNat)
  case atStart => exact ⟨0, C0, rfl, Nat.zero_le _, H0, HW, HC, Nat.le_refl _⟩
  case round =>
    obtain ⟨i, C, rfl, hin, HJ, HK, HCC, HSZ⟩ := hrel
    by_cases hin2 : i < n
    · have hlt : (i : Int) < (n : Int) := by omega
      obtain ⟨p, hp⟩ : ∃ p, zs[i]? = some p := ⟨zs[i]'(by rw [HL.out]; omega), List.getElem?_eq_getElem _⟩
      obtain ⟨b, o, rfl, hb, g0, g1, gk2⟩ := ed_at (HR.out wr HK.out) hp
      have KY := Lib.hid (Blk.new wr 50 #[.int .i64 p.1, .int .i64 p.2.1, .int .i64 p.2.2])
      have hJ1 := HJ0.out _ _ _ _ HJ.out ((Keep.refl (fun k => k < W.heap.size ∨ C k) wr).alloc (.cells #[.int .i64 p.1, .int .i64 p.2.1, .int .i64 p.2.2] 50))
      have HK1 := Lib.hid (HK.out.alloc (.cells #[.int .i64 p.1, .int .i64 p.2.1, .int .i64 p.2.2] 50))
      have hs1 : (wr.alloc (.cells #[.int .i64 p.1, .int .i64 p.2.1, .int .i64 p.2.2] 50)).heap.size = wr.heap.size + 1 := by simp
      have hC1 : ∀ k, C k → ¬ (k = Bx ∨ k < B) ∧ k < (wr.alloc (.cells #[.int .i64 p.1, .int .i64 p.2.1, .int .i64 p.2.2] 50)).heap.size := fun k hk => by
        have := HCC.out k hk
        exact ⟨this.1, by omega⟩
      have HTK : Hid (zs.take (i + 1) = zs.take i ++ [p]) := by show _ = _; rw [List.take_add_one, hp]; rfl
      have hpre : zs.take i ++ [p] <+: zs := by rw [← HTK.out]; exact List.take_prefix _ _
      obtain ⟨fn, tmps, assign, body, hy, hRR⟩ := HYY.out (zs.take i) p C _ hJ1 hpre hC1 (by have := HSZ.out; omega)
      have y0 := KY.out.cell 0
      have y1 := KY.out.cell 1
      have y2 := KY.out.cell 2
      unfold valE at hy
      have HRR := Lib.hid hRR
      have HW1 : Hid (w.heap.size ≤ wr.heap.size) := HK.out.size
      have HC1 := Lib.hid hC1
      clear hp KY hRR HJ HK hJ1 hC1 hpre hs1
      gi_wp2_with fail
      refine ⟨(fun h => by cases h), (RoundIn.deep rfl HRR.out).mono ?_⟩
      rintro e W3 (⟨C', hC', hk3, rfl, hJ3⟩ | ⟨rfl, _, hJ3⟩)
      · have HJ3 : Hid (J (zs.take (i + 1)) C' W3) := by rw [HTK.out]; exact hJ3
        have HK3 : Hid (Keep (fun k => k = Bx ∨ k < B) w W3) := HK1.out.trans (hk3.mono fun k _ hS hC => (HC1.out k hC).1 hS)
        have HC3 : Hid (∀ k, C' k → ¬ (k = Bx ∨ k < B) ∧ k < W3.heap.size) := fun k hk => by
          have h1 := hC' k hk
          refine ⟨?_, h1.1⟩
          rcases h1.2 with h2 | h2
          · exact (HC1.out k h2).1
          · have h3 := HBX.out
            have h4 := HW1.out
            simp at h2
            omega
        have HS3 : Hid (W.heap.size ≤ W3.heap.size) := by
          have h1 := hk3.size
          have h2 := HSZ.out
          simp at h1
          show _ ≤ _
          omega
        clear hJ3 hk3 hC' y0 y1 y2 hy HRR g0 g1 gk2
        gi_wp2_with fail
        go_roundw
        case rel => exact ⟨i + 1, C', by go_num, hin2, HJ3, HK3, HC3, HS3⟩
        case measure => simp [intOf]; omega
      · have HJ3 := Lib.hid hJ3
        clear hJ3 y0 y1 y2 hy HRR g0 g1 gk2
        gi_wp2_with fail
        refine bodyPost_ret (results_none rfl _ _ _) rfl ?_
        exact ⟨⟨_, rfl⟩, .inr HJ3.out⟩
    · have hge : ¬ (i : Int) < (n : Int) := by omega
      obtain rfl : i = n := by omega
      have HJ3 : Hid (J zs C wr) := by have := HJ.out; rwa [List.take_of_length_le (by rw [HL.out]; omega)] at this
      gi_wp2_with fail
      go_end0
      exact ⟨⟨_, rfl⟩, .inl ⟨C, HJ3.out⟩⟩

/-- What leads out of nodes, for a graph that may be. -/
def LvIs (zs : List Ed) (m : Nat) (w : World) (e : Ending) (w' : World) : Prop :=
  ∃ (Bg Bs : Nat) (A : Option Addr) (n c : Nat) (Sa : Option Addr) (sc : Nat), e = .returned (.tuple #[.func (.func 56) #[] #[.pointer (some ⟨Bg, 0, none⟩), .pointer (some ⟨Bs, 0, none⟩)], .int .i64 0]) ∧ LvAt w'.heap.size Bg Bs A n c Sa sc m zs w' ∧ n ≤ 1000 ∧ Below w.heap.size w w'

set_option maxRecDepth 100000 in
set_option maxHeartbeats 4000000 in
theorem leaving7_ok (m : Nat) (A : Option Addr) (n c : Nat) (zs : List Ed) (hg : IsG (m : Int) zs) (hn : n ≤ 1000) (hnc : n ≤ c) (w : World) (hR : Reads w w.heap.size 3 A n (cellsE zs)) :
    Calls Try.prog 33 #[.agg #[.int .i64 (m : Int), .slice A n c]] w (LvIs zs m w) := by
  obtain ⟨bx, b0⟩ := box_new w #[.int .i64 (m : Int), .slice A n c] 24
  have HS := Lib.hid (starts_ok (m : Int) A n c zs hg hn _ ((hR.below b0).more b0.size))
  rw [Int.toNat_natCast] at HS
  have BX := Lib.hid bx
  have B0 := Lib.hid b0
  have HR := Lib.hid ((hR.below b0).more b0.size)
  have z0 := bx.cell 0
  have z1 := bx.cell 1
  clear hR bx b0 hg
  go_enter Try.func33, Try.ntmps33
  go_upto_region 1 with fail
  generalize w.alloc (.cells #[.int .i64 (m : Int), .slice A n c] 24) = W0 at *
  go_wp2_with fail
  refine HS.out.mono ?_
  rintro e w1 ⟨Sa, sc, rfl, h1, h2, h3, h4⟩
  have hsl : (startsE zs (m + 1)).length = m + 1 := by simp [startsE]
  rw [hsl] at h1 h2
  rw [hsl]
  have hb1 : Below W0.heap.size W0 (w1.alloc (.cells #[.slice Sa (m + 1) sc] 27)) := h4.alloc h4.size _
  have hb2 : Below w1.heap.size w1 (w1.alloc (.cells #[.slice Sa (m + 1) sc] 27)) := (Below.refl _ _).alloc (Nat.le_refl _) _
  have HE : Hid (LvIs zs m w (.returned (.tuple #[.func (.func 56) #[] #[.pointer (some ⟨w.heap.size, 0, none⟩), .pointer (some ⟨w1.heap.size, 0, none⟩)], .int .i64 0])) (w1.alloc (.cells #[.slice Sa (m + 1) sc] 27))) :=
    ⟨w.heap.size, w1.heap.size, A, n, c, Sa, sc, rfl, ⟨BX.out.below hb1 BX.out.lt, Blk.new w1 _ _, ⟨(BX.out.below hb1 BX.out.lt).lt, (Blk.new w1 _ _).lt⟩, (HR.out.below hb1).more hb1.size, (h1.below hb2).more hb2.size, hnc⟩, hn, B0.out.trans (hb1.mono B0.out.size)⟩
  clear hb1 hb2 h1 h2 h3 h4 z0 z1 HS
  go_wp2_with fail
  go_ret2
  exact HE.out

set_option maxRecDepth 100000 in
set_option maxHeartbeats 4000000 in
theorem leaving7_no (nodes : Int) (A : Option Addr) (n c : Nat) (zs : List Ed) (hg : rightG nodes zs = false) (hn : n ≤ 1000) (w : World) (hR : Reads w w.heap.size 3 A n (cellsE zs)) :
    Calls Try.prog 33 #[.agg #[.int .i64 nodes, .slice A n c]] w fun e w' => e = .returned (.tuple #[.nilFunc, .int .i64 150]) ∧ Below w.heap.size w w' := by
  obtain ⟨bx, b0⟩ := box_new w #[.int .i64 nodes, .slice A n c] 24
  have HS := Lib.hid (starts_no nodes A n c zs hg hn _ ((hR.below b0).more b0.size))
  have B0 := Lib.hid b0
  have z0 := bx.cell 0
  have z1 := bx.cell 1
  clear hR bx b0 hg
  go_enter Try.func33, Try.ntmps33
  go_upto_region 1 with fail
  generalize w.alloc (.cells #[.int .i64 nodes, .slice A n c] 24) = W0 at *
  go_wp2_with fail
  refine HS.out.mono ?_
  rintro e w1 ⟨Sa, sc, rfl, _, _, _, h4⟩
  have B2 : Hid (Below w.heap.size w (w1.alloc (.cells #[.slice Sa ([] : List Int).length sc] 27))) := B0.out.trans ((h4.alloc h4.size _).mono B0.out.size)
  clear h4 z0 z1 HS B0
  go_wp2_with fail
  go_ret2
  exact ⟨rfl, B2.out⟩
end Go.Proofs.Ytaigpdpcliecpaa
