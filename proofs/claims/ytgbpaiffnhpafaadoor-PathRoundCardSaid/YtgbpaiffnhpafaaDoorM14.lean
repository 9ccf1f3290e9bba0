/- Layer scc: Cyclic: contracts. -/
import Derived.Sort.CutIn
import Derived.Sort.LoopGhostIn
import Derived.Maps.AppendAt
import Derived.Maps.OwnIn
import Derived.Scope
import Derived.WalkMore
import Derived.Test.YtgbpaiffnhpafaaDoorM13
import Derived.Test.YtgbpaiffnhpafaaDoorM7
import Derived.Test.YtgbpaiffnhpafaaDoorShelf
import Derived.Test.YtgbpaiffnhpafaaDoorM10
-- holds: YtgbpaiffnhpafaaDoorCu YtgbpaiffnhpafaaDoorCv YtgbpaiffnhpafaaDoorCx YtgbpaiffnhpafaaDoorCy YtgbpaiffnhpafaaDoorCza YtgbpaiffnhpafaaDoorCzb YtgbpaiffnhpafaaDoorCzd
namespace Go.Proofs.YtgbpaiffnhpafaaDoor
open Go.RowKit Go.Shelf
attribute [local go_sem] Oper.semAt_some

theorem wpIn_scope_wide {n : Nat} {P : Program} {c : Code} {Q : Exit → Act → World → Prop} {a : Act} {w : World} (h : c.wpIn Fence.wide n P (Exit.noGoto Q) a w) : (Code.scope c).wpIn Fence.wide n P Q a w := wpIn_wide.2 (wp_scope_straight (wpIn_wide.1 h))

/-- What a walk from a node comes to. -/
def ThroughIs (B1 B2 X P : Nat) (A : Option Addr) (n c : Nat) (Sa : Option Addr) (sn sc m : Nat) (zs : List Ed) (w1 : World) (J : List (List Int) → (Nat → Prop) → World → Prop) (Jx : World → Prop) (pl0 : List Int) (e : Ending) (W : World) : Prop :=
  (e = .returned (.bool true) ∧ ∃ C O oc pl cs, CoAt B1 B2 X P A n c Sa sn sc m zs w1 J C O 0 oc [] pl cs W ∧ ∀ (u : Nat) (q : Int), pl0[u]? = some q → q ≠ -1 → ∃ q', pl[u]? = some q' ∧ q' ≠ -1) ∨ (e = .returned (.bool false) ∧ Jx W)

set_option maxRecDepth 100000 in
set_option maxHeartbeats 8000000 in
theorem through_in (d0 : Nat) (l B1 B2 X P : Nat) (A : Option Addr) (n c : Nat) (Sa : Option Addr) (sc m : Nat) (zs : List Ed) (w1 : World) (J : List (List Int) → (Nat → Prop) → World → Prop) (Jx : World → Prop) (C : Nat → Prop) (O : Option Addr) (oc : Nat) (pl : List Int) (cs : List (List Int)) (v : Nat) (w : World)
    (hg : IsG (m : Int) zs) (hn : n ≤ 1000) (hnc : n ≤ c) (hR : Reads w1 B1 3 A n (cellsE zs)) (hS : Reads w1 B1 1 Sa (m + 1) (ints (startsE zs (m + 1))))
    (hJ : ∀ cs C X Y, J cs C X → Keep (fun j => j < B2 ∨ C j) X Y → J cs C Y)
    (hY : ∀ cs c C X b o, J cs C X → PartsIn zs m (cs ++ [c]) → Reads X X.heap.size 1 (some ⟨b, o, none⟩) c.length (ints c) → ¬ C b → (∀ k, C k → B1 ≤ k ∧ k < X.heap.size) → B2 ≤ X.heap.size →
      YieldAt Fence.wide d0 Tryd.prog l #[.slice (some ⟨b, o, none⟩) c.length c.length] X fun e X' => (∃ C' : Nat → Prop, (∀ k, C' k → k < X'.heap.size ∧ (C k ∨ X.heap.size ≤ k)) ∧ Keep (fun k => ¬ C k) X X' ∧ e = .returned (.bool true) ∧ J (cs ++ [c]) C' X') ∨
        (e = .returned (.bool false) ∧ Jx X'))
    (h : CoAt B1 B2 X P A n c Sa (m + 1) sc m zs w1 J C O 0 oc [] pl cs w) (hv : v < m) (hpv : pl[v]? = some (-1)) :
    CallsIn Fence.wide d0 Tryd.prog 84 #[.pointer (some ⟨X, 0, none⟩), .int .i64 (v : Int), .func (.yield l) #[] #[]] w (ThroughIs B1 B2 X P A n c Sa (m + 1) sc m zs w1 J Jx (pl.set v 0)) := by
  obtain ⟨i0, hi, hz0, hz1, hz2⟩ := info_parts fr_info
  have hm := hg.nodes
  have hm300 : m ≤ 300 := by omega
  have HZ : Hid (InRow zs) := hg.row
  have HEND : Hid (∀ e ∈ zs, 0 ≤ e.1 ∧ 0 ≤ e.2.1 ∧ e.2.1 < (m : Int)) := fun e he => by have := of_decide_eq_true (hg.all e he); omega
  have HOP := Lib.hid fun (W : World) (C : Nat → Prop) (O : Option Addr) (k oc : Nat) (op pl : List Int) (cs : List (List Int)) (v : Nat) (h : CoAt B1 B2 X P A n c Sa (m + 1) sc m zs w1 J C O k oc op pl cs W) (hv : v < m) =>
    opened_any X P A n c Sa sc O k oc B2 m v op pl zs W h.walk ((hR.below h.below).more h.lo) ((hS.below h.below).more h.lo) hg.row hnc (by omega) hv (by have := h.tj.op_len; rw [h.walk.len] at this; exact this) h.tj.len h.size
  have HRD : Hid (∀ (W : World) (v : Int), Below B1 w1 W → Reads W B1 3 (CutAt zs v A) (outE zs v).length (cellsE (outE zs v)) ∧ (outE zs v).length ≤ 1000) := fun W v hb => by
    have h1 := cut_reads v hg.row (hR.below hb)
    have h2 := reads_len h1
    have h3 := reads_len hR
    rw [← h2] at h1
    exact ⟨h1, by unfold outE; have := List.length_filter_le (fun p : Ed => decide (p.1 = v)) zs; omega⟩
  have HJ := Lib.hid hJ
  have HY := Lib.hid hY
  have HC := Lib.hid h
  have HPV := Lib.hid hpv
  have HV := Lib.hid hv
  have HM := Lib.hid hm300
  have H1 := Lib.hid ((HOP.out w C O 0 oc [] pl cs v h hv))
  clear hR hS hJ hY h hg hm hpv
  refine callsIn_of_wp Tryd.func84 rfl trivial ?_ rfl
  simp only [Tryd.ntmps84, List.size_toArray, List.length_cons, List.length_nil, Nat.reduceAdd, Nat.reduceSub, Array.replicate_succ, Array.replicate_zero, List.push_toArray, List.append_toArray, List.nil_append, List.cons_append]
  gi_wp2_with fail
  refine wpIn_scope_wide ?_
  gi_wp2_with fail
  refine ⟨trivial, (fun h => by cases h), (callsIn_wide.2 H1.out).mono ?_⟩
  rintro e wa ⟨O1, oc1, rfl, hw1, hat1, hk1⟩
  have hco := HC.out.opened HJ.out HPV.out hw1 hat1 hk1
  have hbl : Below B1 w wa := hk1.below (Nat.le_trans HC.out.lo HC.out.size) fun j hj => by
    have := HC.out.lo
    exact ⟨by have := HC.out.walk.lo.1; omega, by have := HC.out.walk.lo.2; omega, fun e => by have := (own_in HC.out.walk.op e).1; omega⟩
  have hco2 := hco.keep HJ.out (Keep.of_all _ ((Below.refl _ wa).alloc (Nat.le_refl _) (.cells #[.int .i64 ((0 : Nat) : Int), .int .i64 ((0 : Nat) : Int), .slice (CutAt zs (v : Int) A) (outE zs (v : Int)).length (outE zs (v : Int)).length] 131)))
  have hth := ThAt.push (ThAt.start HC.out) HPV.out (fun g hg => by simp at hg) hco2 (hbl.alloc (Nat.le_trans (Nat.le_trans HC.out.lo HC.out.size) hk1.size) _) (HRD.out _ _ hco2.below)
    (own_new_fr (base := B2) (t := 131) hco.size ⟨0, 0, CutAt zs (v : Int) A, outE zs (v : Int)⟩) (fun g hg => by
      have e : g = wa.heap.size := by simpa [Value.ownBlock] using hg.symm
      subst e
      intro hc
      have := (hco.cC _ hc).2
      omega)
  have HT := Lib.hid hth.again
  clear hw1 hat1 hk1 hco hbl hco2 hth H1
  have e0 : ((0 : Nat) : Int) = 0 := rfl
  rw [e0] at HT
  clear e0
  gi_wp2_with fail
  refine wpIn_label ?_
  gi_wp2_with fail
  generalize wa.alloc (.cells #[.int .i64 0, .int .i64 0, .slice (CutAt zs (v : Int) A) (outE zs (v : Int)).length (outE zs (v : Int)).length] 131) = wb at *
  gi_loopg [7] (2 * (pl.set v 0).count (-1) + 1) (fun gg s7 wr => ∃ (C : Nat → Prop) (O : Option Addr) (k oc : Nat) (op plx : List Int) (cs : List (List Int)) (R : Option Addr) (rn rc : Nat) (fs : List Fr), s7 = .slice R rn rc ∧ 2 * plx.count (-1) + rn ≤ gg ∧
    Hid (ThAt B1 B2 X P A n c Sa (m + 1) sc m zs w1 J (pl.set v 0) C O k oc op plx cs R rn rc fs.reverse fs wr))
  case atStart => exact ⟨_, _, _, _, _, _, _, _, _, _, [⟨0, 0, CutAt zs (v : Int) A, outE zs (v : Int)⟩], rfl, Nat.le_refl _, HT⟩
  case round =>
    clear HT HC HPV HV
    obtain ⟨C, O, k, oc, op, plx, cs, R, rn, rc, fs, rfl, hgk, HT⟩ := hrel
    have HGK := Lib.hid hgk
    clear hgk
    cases fs with
    | nil =>
      obtain rfl : rn = 0 := by have := HT.out.row.1; rw [List.reverse_nil] at this; have h0 : (cellsF []).length = 0 := rfl; omega
      have HE : Hid (ThroughIs B1 B2 X P A n c Sa (m + 1) sc m zs w1 J Jx (pl.set v 0) (.returned (.bool true)) wr) := by
        have hk : k = 0 := HT.out.far
        have hl := HT.out.co.walk.len
        subst hk
        obtain rfl : op = [] := List.eq_nil_of_length_eq_zero hl
        exact .inl ⟨rfl, C, O, oc, plx, cs, HT.out.co, HT.out.met⟩
      gi_wp2_with fail
      rw [Exit.noGoto_ret]
      go_ret
      exact HE.out
    | cons top rest =>
      have hrow := HT.out.row
      rw [List.reverse_cons] at hrow
      obtain ⟨d, hd⟩ : ∃ d, rn = d + 1 := by
        have := hrow.1
        rw [cellsF_length, List.length_append, List.length_singleton] at this
        exact ⟨rest.reverse.length, by omega⟩
      have hrow2 := hrow
      rw [hd] at hrow2
      obtain ⟨hdl, r, rfl, hrc, hrc2, hrl, hrb, _, r0, r1, r2, _⟩ := fr_at hrow2
      have hn0 : (0 : Int) < (rn : Int) := by omega
      have hn1 : 0 < rn := by omega
      have hwd : IntKind.i64.wrap ((rn : Int) - 1) = (d : Int) := by rw [IntKind.wrap_i64]; omega
      have hdn : (d : Int) < (rn : Int) := by omega
      have HD := Lib.hid hd
      have HDL := Lib.hid hdl
      have HRC := Lib.hid (And.intro hrc (And.intro hrc2 (And.intro hrl hrb)))
      have hT1 := HT.out.all HJ.out ((Below.refl _ wr).alloc (Nat.le_refl _) (.cells #[.int .i64 (top.p : Int), .int .i64 (top.l : Int), .slice top.A top.left.length top.left.length] 131))
      have HT1 := Lib.hid hT1
      have HT2 : Hid (TopAt B2 wr.heap.size (some ⟨r, 0, none⟩) rn rc C top (wr.alloc (.cells #[.int .i64 (top.p : Int), .int .i64 (top.l : Int), .slice top.A top.left.length top.left.length] 131))) :=
        ⟨Blk.new wr _ _, fun hc => by have := (HT.out.co.cC _ hc).2; omega, fun e => by have := (own_in HT.out.row e).2.1; omega, HT.out.co.size⟩
      clear hrow hrow2 hd hdl hrc hrc2 hrl hrb hT1 HT
      gi_wp2_with fail
      clear r0 r1 r2
      rw [List.reverse_cons] at HT1
      generalize wr.alloc (.cells #[.int .i64 (top.p : Int), .int .i64 (top.l : Int), .slice top.A top.left.length top.left.length] 131) = wc at *
      generalize wr.heap.size = T at *
      gi_loopg [7] top.left.length (fun g2 s7 wx => ∃ t : Fr, s7 = .slice (some ⟨r, 0, none⟩) rn rc ∧ t.left.length ≤ g2 ∧ Hid (ThAt B1 B2 X P A n c Sa (m + 1) sc m zs w1 J (pl.set v 0) C O k oc op plx cs (some ⟨r, 0, none⟩) rn rc (rest.reverse ++ [top]) (t :: rest) wx) ∧ Hid (TopAt B2 T (some ⟨r, 0, none⟩) rn rc C t wx))
      case atStart => exact ⟨top, rfl, Nat.le_refl _, HT1, HT2⟩
      case round =>
        clear HT1 HT2
        obtain ⟨⟨tp, tl, tA, tleft⟩, rfl, htl, HT1, HT2⟩ := hrel
        have HTL := Lib.hid htl
        clear htl
        cases tleft with
        | cons e es =>
          have hlen : es.length + 1 ≤ 1000 := (HT1.out.reads _ (.head _)).2
          have hrd := (HT1.out.reads _ (.head _)).1
          obtain ⟨A2, hsl, hrd2⟩ := left_tail (A := tA) (e := e) hlen
          obtain ⟨b, o, rfl, hbB, g0, g1, g2⟩ := ed_at hrd (k := 0) rfl
          have hes := (HT1.out.far.2.1.outs e (.head _)).1
          obtain ⟨hen1, hen2, hen3⟩ := HEND.out e hes
          obtain ⟨u, hu⟩ : ∃ u : Nat, e.2.1 = (u : Int) := ⟨e.2.1.toNat, by omega⟩
          have hum : u < m := by omega
          rw [hu] at g1
          rw [Nat.zero_mul, Nat.add_zero] at g0 g1 g2
          obtain ⟨L, hL⟩ : ∃ L, es.length + 1 = L := ⟨_, rfl⟩
          rw [hL] at hsl
          have hL0 : (0 : Int) < (L : Int) := by omega
          have c2 : wr.cell? ⟨T, 2, none⟩ = some (.slice (some ⟨b, o, none⟩) L L) := by rw [← hL]; exact HT2.out.blk.cell 2
          have HU := Lib.hid hu
          have HUM := Lib.hid hum
          have HLL := Lib.hid hL
          have HRD := Lib.hid hrd
          have HRD2 := Lib.hid hrd2
          clear hlen hrd hrd2 hbB hes hen1 hen2 hen3 hu hum hL
          gi_wp2_with fail
          gi_quiet (fail)
          have hbq : Below wr.heap.size wr (wr.drewN nq) := below_drewN (Below.refl _ _) nq
          have HT3 := Lib.hid (HT1.out.all HJ.out hbq)
          have HT4 := Lib.hid (HT2.out.all hbq)
          have HRD3 : Hid (Reads (wr.drewN nq) B1 3 (some ⟨b, o, none⟩) (es.length + 1) (cellsE (e :: es))) := HRD.out
          clear hbq HT1 HT2 HRD c2 g0 g1 g2
          generalize wr.drewN nq = wy at *
          have c2 : wy.cell? ⟨T, 2, none⟩ = some (.slice (some ⟨b, o, none⟩) L L) := by rw [← HLL.out]; exact HT4.out.blk.cell 2
          have f2 := HT4.out.blk.frozen 2
          have HT5 := Lib.hid (HT3.out.top HJ.out HT4.out 2 (.slice A2 es.length es.length))
          have HT6 : Hid (TopAt B2 T (some ⟨r, 0, none⟩) rn rc C ⟨tp, tl, A2, es⟩ (wy.setCell ⟨T, 2, none⟩ (.slice A2 es.length es.length))) := Lib.hid (HT4.out.left_ A2 es)
          have HRD4 : Hid (Reads (wy.setCell ⟨T, 2, none⟩ (.slice A2 es.length es.length)) B1 3 A2 es.length (cellsE es)) := (HRD2.out _ _ HRD3.out).setCell (p := ⟨T, 2, none⟩) (Nat.le_trans HT3.out.co.lo HT4.out.lo) _
          clear HT3 HT4 HRD3 HRD2
          gi_upto_region 8 with fail
          have x3 := HT5.out.co.walk.blk.cell 3
          obtain ⟨q, hq⟩ : ∃ q, plx[u]? = some q := ⟨_, List.getElem?_eq_getElem (by rw [HT5.out.co.tj.len]; exact HUM.out)⟩
          have y0 : (wy.setCell ⟨T, 2, none⟩ (.slice A2 es.length es.length)).cell? ⟨P, u, none⟩ = some (.int .i64 q) := by
            rw [HT5.out.co.walk.pl.cell, List.getElem?_toArray]
            unfold ints
            rw [List.getElem?_map, hq]
            rfl
          have hum : (u : Int) < (m : Int) := by have := HUM.out; omega
          clear c2 f2 hsl hL0
          generalize wy.setCell ⟨T, 2, none⟩ (.slice A2 es.length es.length) = wz at *
          have HQ := Lib.hid hq
          clear hq
          by_cases h1 : q = -1
          · subst h1
            have k0 := HT6.out.blk.cell 0
            have k1 := HT6.out.blk.cell 1
            have k2 := HT6.out.blk.cell 2
            have h5 := HT5.out
            rw [HD.out] at h5
            obtain ⟨_, r', hr', _, _, _, _, _, r0, r1, r2, hfz⟩ := fr_at h5.row
            obtain rfl : r = r' := by injection hr' with e; injection e
            have z0 := hfz (d * 3)
            have z1 := hfz (d * 3 + 1)
            have z2 := hfz (d * 3 + 2)
            have HT7 := Lib.hid (h5.stored HJ.out ⟨tp, tl, A2, es⟩)
            clear hfz h5 hr'
            gi_upto_region 10 with fail
            clear k0 k1 k2 r0 r1 r2 z0 z1 z2 x3 y0 hum HT5 HT6
            have HRDZ : Hid (Reads (((wz.setCell ⟨r, d * 3, none⟩ (.int .i64 (tp : Int))).setCell ⟨r, d * 3 + 1, none⟩ (.int .i64 (tl : Int))).setCell ⟨r, d * 3 + 2, none⟩ (.slice A2 es.length es.length)) B1 3 A2 es.length (cellsE es)) := by
              have hb : B1 ≤ r := Nat.le_trans HT7.out.co.lo (own_in HT7.out.row rfl).1
              exact ((HRD4.out.setCell (p := ⟨r, d * 3, none⟩) hb _).setCell (p := ⟨r, d * 3 + 1, none⟩) hb _).setCell (p := ⟨r, d * 3 + 2, none⟩) hb _
            clear HRD4
            generalize ((wz.setCell ⟨r, d * 3, none⟩ (.int .i64 (tp : Int))).setCell ⟨r, d * 3 + 1, none⟩ (.int .i64 (tl : Int))).setCell ⟨r, d * 3 + 2, none⟩ (.slice A2 es.length es.length) = wx at *
            have H1 := Lib.hid (HOP.out wx C O k oc op plx cs u HT7.out.co HUM.out)
            gi_wp2_with fail
            refine ⟨trivial, (fun h => by cases h), (callsIn_wide.2 H1.out).mono ?_⟩
            rintro e' w4 ⟨O1, oc1, rfl, hw4, hat4, hk4⟩
            clear H1
            have hrow4 : w4.ownsRow B2 131 3 (.slice (some ⟨r, 0, none⟩) rn rc) rn (cellsF (rest.reverse ++ [⟨tp, tl, A2, es⟩])) := by rw [HD.out]; exact HT7.out.rowKept hk4
            have hfew : rn ≤ 300 ∧ B2 ≤ w4.heap.size := by
              have := HT7.out.few
              have := HDL.out
              have := HD.out
              have := HT7.out.co.size
              have := hk4.size
              rw [List.length_reverse] at *
              rw [List.length_cons] at *
              omega
            have W4 := Lib.hid (And.intro hw4 (And.intro hat4 hk4))
            clear hw4 hat4 hk4
            gi_wp2_with (gi_at_builtin; refine wpListIn_append_own_at _ rfl _ _ 133 rfl B2 131 i0 _ 3 40 Tryd.underlying133 hi hz0 hz1 hz2 rfl (by decide) (.slice (some ⟨r, 0, none⟩) rn rc) rn _ rfl (hrow4.alloc _) ⟨w4.heap.size, 0, none⟩ 1 1 (frCells ⟨k, k, CutAt zs (u : Int) A, outE zs (u : Int)⟩) rfl rfl (fr_new _ ⟨k, k, CutAt zs (u : Int) A, outE zs (u : Int)⟩ _) (frCells_one _) (by unfold maxLen; omega) (by omega) (by simp; omega) ?_; intro v5 w5 hown5 hgrow5 _ hat5; obtain ⟨A5, c5, rfl, _, _⟩ := own_form2 hown5)
            have HE : Hid (ThAt B1 B2 X P A n c Sa (m + 1) sc m zs w1 J (pl.set v 0) C O1 (k + 1) oc1 (op ++ [(u : Int)]) (plx.set u (k : Int)) cs A5 (rn + 1) c5 (⟨k, k, CutAt zs (u : Int) A, outE zs (u : Int)⟩ :: ⟨tp, tl, A2, es⟩ :: rest).reverse (⟨k, k, CutAt zs (u : Int) A, outE zs (u : Int)⟩ :: ⟨tp, tl, A2, es⟩ :: rest) w5) := by
              rw [HD.out] at hown5 hat5
              have := HT7.out.pushed (t := ⟨tp, tl, some ⟨b, o, none⟩, e :: es⟩) (rest := rest) HJ.out rfl HU.out HQ.out W4.out.1 W4.out.2.1 W4.out.2.2 hown5 hgrow5 hat5 (by simp) HRD.out HRDZ.out
              rw [← HD.out] at this
              exact this
            have hms : 2 * (plx.set u (k : Int)).count (-1) + 2 = 2 * plx.count (-1) := by
              have := count_seti plx u (k : Int) HQ.out (by omega)
              omega
            clear hown5 hgrow5 hat5 hrow4 W4 HT7 HRDZ HQ
            gi_roundg (2 * (plx.set u (k : Int)).count (-1) + (rn + 1))
            case measure => have := HGK.out; omega
            case rel => exact ⟨_, _, _, _, _, _, _, _, _, _, _, rfl, Nat.le_refl _, HE⟩
          · have hq0 : 0 ≤ q := (HT5.out.step rfl (by rw [HU.out, Int.toNat_natCast]; exact HQ.out) h1 (by rw [HU.out]; omega) HRD4.out).1
            obtain ⟨qn, rfl⟩ : ∃ qn : Nat, q = (qn : Int) := ⟨q.toNat, by omega⟩
            have k1 := HT6.out.blk.cell 1
            have f1 := HT6.out.blk.frozen 1
            obtain ⟨l2, hl2⟩ : ∃ l2, min tl qn = l2 := ⟨_, rfl⟩
            have hmin : min (tl : Int) (qn : Int) = (l2 : Int) := by omega
            have HT7 : Hid (ThAt B1 B2 X P A n c Sa (m + 1) sc m zs w1 J (pl.set v 0) C O k oc op plx cs (some ⟨r, 0, none⟩) rn rc (rest.reverse ++ [top]) (⟨tp, l2, A2, es⟩ :: rest) (wz.setCell ⟨T, 1, none⟩ (.int .i64 (l2 : Int)))) := by
              have h := (HT5.out.step rfl (by rw [HU.out, Int.toNat_natCast]; exact HQ.out) h1 (by rw [HU.out]; omega) HRD4.out).2
              rw [Int.toNat_natCast] at h
              simp only at h
              rw [hl2] at h
              exact h.top HJ.out HT6.out 1 _
            have HT8 : Hid (TopAt B2 T (some ⟨r, 0, none⟩) rn rc C ⟨tp, l2, A2, es⟩ (wz.setCell ⟨T, 1, none⟩ (.int .i64 (l2 : Int)))) := HT6.out.least l2
            clear hl2 hq0 HT5 HT6 HRD4
            gi_upto_region 11 with fail
            gi_region
            have HT9 : Hid (ThAt B1 B2 X P A n c Sa (m + 1) sc m zs w1 J (pl.set v 0) C O k oc op plx cs (some ⟨r, 0, none⟩) rn rc (rest.reverse ++ [top]) (⟨tp, l2, A2, es⟩ :: rest) (wz.setCell ⟨T, 1, none⟩ (.int .i64 (l2 : Int))).drew) := HT7.out.all HJ.out (Below.refl _ _).drew
            have HTA : Hid (TopAt B2 T (some ⟨r, 0, none⟩) rn rc C ⟨tp, l2, A2, es⟩ (wz.setCell ⟨T, 1, none⟩ (.int .i64 (l2 : Int))).drew) := HT8.out.all (Below.refl _ _).drew
            clear HT7 HT8
            gi_wp2_with fail
            gi_roundg es.length
            case measure => have := HTL.out; rw [List.length_cons] at this; omega
            case rel => exact ⟨⟨tp, l2, A2, es⟩, rfl, Nat.le_refl _, HT9, HTA⟩
        | nil =>
          have c2 := HT2.out.blk.cell 2
          have hsl := fr_slice_h (some ⟨r, 0, none⟩) rn rc d (by have := HRC.out.1; omega)
          have k0 := HT2.out.blk.cell 0
          have k1 := HT2.out.blk.cell 1
          gi_upto_if 77 with fail
          have hcut := HT1.out
          rw [HD.out] at hcut
          have HT3 := Lib.hid hcut.cut
          clear c2 hsl k0 k1 HT1 hcut
          gi_cut [] from 77 (fun wy => (tl = tp ∧ Hid (ThAt B1 B2 X P A n c Sa (m + 1) sc m zs w1 J (pl.set v 0) C O k oc op plx cs (some ⟨r, 0, none⟩) d rc rest.reverse (⟨tp, tl, tA, []⟩ :: rest) wy) ∧ Hid (TopAt B2 T (some ⟨r, 0, none⟩) rn rc C ⟨tp, tl, tA, []⟩ wy)) ∨
            (tl ≠ tp ∧ Hid (TopAt B2 T (some ⟨r, 0, none⟩) rn rc C ⟨tp, tl, tA, []⟩ wy) ∧ ∃ fs, Hid (ThAt B1 B2 X P A n c Sa (m + 1) sc m zs w1 J (pl.set v 0) C O k oc op plx cs (some ⟨r, 0, none⟩) d rc fs.reverse fs wy)))
          case first =>
            cases rest with
            | nil =>
              have hd0 : d = 0 := by have := HDL.out; simpa using this.symm
              have HLP := Lib.hid (Far.least_alone HT3.out.far).2
              subst hd0
              gi_wp2_with fail
              gi_meet
              case rel => exact .inl ⟨HLP.out, HT3, HT2⟩
            | cons g rest =>
              obtain ⟨d', hd'⟩ : ∃ d', d = d' + 1 := ⟨rest.length, by have := HDL.out; rw [List.length_reverse, List.length_cons] at this; exact this.symm⟩
              have h3 := HT3.out
              rw [hd', List.reverse_cons] at h3
              obtain ⟨_, r', hr', _, _, _, _, _, _, r1, _, hfz⟩ := fr_at h3.row
              obtain rfl : r = r' := by injection hr' with e; injection e
              obtain ⟨l2, hl2⟩ : ∃ l2, min g.l tl = l2 := ⟨_, rfl⟩
              have hmin : min (g.l : Int) (tl : Int) = (l2 : Int) := by omega
              have z1 := hfz (d' * 3 + 1)
              have k1 := HT2.out.blk.cell 1
              have hwd2 : IntKind.i64.wrap ((d : Int) - 1) = (d' : Int) := by rw [IntKind.wrap_i64]; omega
              have hdd : (d' : Int) < (d : Int) := by omega
              have hd0 : (0 : Int) < (d : Int) := by omega
              have HS := Lib.hid (h3.lessened HJ.out l2)
              have HS2 := Lib.hid (HT2.out.far_ (d' * 3 + 1) (.int .i64 (l2 : Int)))
              have HL2 := Lib.hid hl2
              have HD' := Lib.hid hd'
              clear hfz hr' h3 hl2 hd' HT3 HT2
              gi_upto_region 14 with fail
              gi_region
              clear k1 r1 z1
              have hs := HS.out.all HJ.out (Below.refl _ _).drew
              have HS4 : Hid (TopAt B2 T (some ⟨r, 0, none⟩) rn rc C ⟨tp, tl, tA, []⟩ (wr.setCell ⟨r, d' * 3 + 1, none⟩ (.int .i64 (l2 : Int))).drew) := HS2.out.all (Below.refl _ _).drew
              have HR : Hid ((tl = tp ∧ Hid (ThAt B1 B2 X P A n c Sa (m + 1) sc m zs w1 J (pl.set v 0) C O k oc op plx cs (some ⟨r, 0, none⟩) d rc (g :: rest).reverse (⟨tp, tl, tA, []⟩ :: g :: rest) (wr.setCell ⟨r, d' * 3 + 1, none⟩ (.int .i64 (l2 : Int))).drew) ∧ Hid (TopAt B2 T (some ⟨r, 0, none⟩) rn rc C ⟨tp, tl, tA, []⟩ (wr.setCell ⟨r, d' * 3 + 1, none⟩ (.int .i64 (l2 : Int))).drew)) ∨
                (tl ≠ tp ∧ Hid (TopAt B2 T (some ⟨r, 0, none⟩) rn rc C ⟨tp, tl, tA, []⟩ (wr.setCell ⟨r, d' * 3 + 1, none⟩ (.int .i64 (l2 : Int))).drew) ∧ ∃ fs, Hid (ThAt B1 B2 X P A n c Sa (m + 1) sc m zs w1 J (pl.set v 0) C O k oc op plx cs (some ⟨r, 0, none⟩) d rc fs.reverse fs (wr.setCell ⟨r, d' * 3 + 1, none⟩ (.int .i64 (l2 : Int))).drew))) := by
                rw [← HD'.out] at hs
                by_cases he : tl = tp
                · refine .inl ⟨he, ?_, HS4⟩
                  have hk := Far.least_kept hs.far he
                  have e2 : l2 = g.l := HL2.out.symm.trans hk
                  rw [e2] at hs
                  rw [List.reverse_cons, e2]
                  exact hs
                · refine .inr ⟨he, HS4, ⟨g.p, min g.l tl, g.A, g.left⟩ :: rest, ?_⟩
                  have hlow := hs.far.2.1.low
                  rw [List.reverse_cons, HL2.out]
                  have h2 := hs.merged rfl (show tl < tp by have : tl ≤ tp := hlow; omega)
                  simp only at h2
                  rw [HL2.out] at h2
                  exact h2
              clear hs HS HS2 HS4
              gi_wp2_with fail
              gi_meet
              case rel => exact HR.out
          case rest =>
            rcases hcut with ⟨he, HT3, HT4⟩ | ⟨hne, HT4, fs, HT3⟩
            · subst he
              have hk := HT3.out.far.1
              have hlen := HT3.out.co.walk.len
              have hfw := HT3.out.few.2
              obtain ⟨g, rfl, _⟩ := HT3.out.co.walk.form (by omega)
              have k0 := HT4.out.blk.cell 0
              have k1 := HT4.out.blk.cell 1
              have hk : tl < k := hk
              have HCL := Lib.hid (closed_any X P A n c Sa (m + 1) sc g k oc B2 m tl op plx _ HT3.out.co.walk hk hfw HT3.out.co.tj.len (fun x hx => by
                obtain ⟨j, hj⟩ := List.mem_iff_getElem?.1 hx
                have h1 := HT3.out.co.tj.opn j x hj
                have := HT3.out.co.tj.lt h1.2
                omega))
              have HLEN := Lib.hid hlen
              clear hlen hk hfw
              gi_wp2_with fail
              refine ⟨trivial, (fun h => by cases h), (callsIn_wide.2 HCL.out).mono ?_⟩
              rintro e w5 ⟨rfl, hw5, hrd5, hk5⟩
              obtain ⟨hj, hpi, hcg, hcC, hsz, hcnt, hnext⟩ := HT3.out.told HJ.out HEND.out rfl rfl hw5 hk5
              obtain ⟨fn, tmps, assign, body, hy, hR⟩ := YieldAt.deep rfl (d0 - 1) (HY.out cs (op.drop tl) C w5 g tl hj hpi hrd5 hcg hcC hsz)
              rw [show (op.drop tl).length = k - tl by rw [List.length_drop, HLEN.out]] at hy
              have HR := Lib.hid hR
              have HN := Lib.hid hnext
              have HCNT := Lib.hid hcnt
              clear hw5 hrd5 hk5 hj hpi hcg hcC hsz hcnt hnext hR HCL HT3 HT4 k0 k1
              gi_wp2_with fail
              refine ⟨(fun h => by cases h), HR.out.mono ?_⟩
              rintro e W3 (⟨C', hC', hK3, rfl, hj3⟩ | ⟨rfl, hjx⟩)
              · have HE := Lib.hid (HN.out C' W3 hC' hK3 hj3)
                clear hC' hK3 hj3 hy HR HN
                gi_wp2_with fail
                gi_roundg (2 * (putE plx 300 (op.drop tl)).count (-1) + d)
                case measure => have := HGK.out; have := HCNT.out; have := HD.out; omega
                case rel => exact ⟨_, _, _, _, _, _, _, _, _, _, _, rfl, Nat.le_refl _, HE⟩
              · have HE : Hid (ThroughIs B1 B2 X P A n c Sa (m + 1) sc m zs w1 J Jx (pl.set v 0) (.returned (.bool false)) W3) := .inr ⟨rfl, hjx⟩
                clear hjx hy HR HN
                gi_wp2_with fail
                rw [Exit.noGoto_ret]
                go_ret
                exact HE.out
            · have hne2 : ((tl : Int) == (tp : Int)) = false := by simp; omega
              have k0 := HT4.out.blk.cell 0
              have k1 := HT4.out.blk.cell 1
              clear hne
              gi_wp2_with fail
              refine ⟨trivial, ?_⟩
              gi_wp2_with fail
              refine ⟨(fun f h => by cases h), ?_⟩
              gi_wp2_with fail
              gi_roundg (2 * plx.count (-1) + d)
              case measure => have := HGK.out; have := HD.out; omega
              case rel => exact ⟨_, _, _, _, _, _, _, _, _, _, _, rfl, Nat.le_refl _, HT3⟩
end Go.Proofs.YtgbpaiffnhpafaaDoor
namespace Go.Proofs.YtgbpaiffnhpafaaDoor
open Go.RowKit Go.Shelf
attribute [local go_sem] Oper.semAt_some

/-- Ahead of node v: all nodes ahead of it were met, none is open. -/
structure CompAt (B1 B2 X P : Nat) (A : Option Addr) (n c : Nat) (Sa : Option Addr) (sn sc m : Nat) (zs : List Ed) (w1 : World) (J : List (List Int) → (Nat → Prop) → World → Prop) (v : Nat) (C : Nat → Prop) (O : Option Addr) (oc : Nat) (pl : List Int) (cs : List (List Int)) (W : World) : Prop where
  co : CoAt B1 B2 X P A n c Sa sn sc m zs w1 J C O 0 oc [] pl cs W
  met : ∀ u, u < v → ∃ q, pl[u]? = some q ∧ q ≠ -1
section
variable {B1 B2 X P : Nat} {A : Option Addr} {n c : Nat} {Sa : Option Addr} {sn sc m : Nat} {zs : List Ed} {w1 : World} {J : List (List Int) → (Nat → Prop) → World → Prop} {C : Nat → Prop} {O : Option Addr} {oc v : Nat} {pl : List Int} {cs : List (List Int)} {W : World}
theorem CompAt.skip (h : CompAt B1 B2 X P A n c Sa sn sc m zs w1 J v C O oc pl cs W) {q : Int} (hq : pl[v]? = some q) (hn : q ≠ -1) : CompAt B1 B2 X P A n c Sa sn sc m zs w1 J (v + 1) C O oc pl cs W :=
  ⟨h.co, fun u hu => by
    by_cases e : u = v
    · exact e ▸ ⟨q, hq, hn⟩
    · exact h.met u (by omega)⟩
theorem CompAt.next {C2 : Nat → Prop} {O2 : Option Addr} {oc2 : Nat} {pl2 : List Int} {cs2 : List (List Int)} {W2 : World} (h : CompAt B1 B2 X P A n c Sa sn sc m zs w1 J v C O oc pl cs W) (hv : pl[v]? = some (-1)) (h2 : CoAt B1 B2 X P A n c Sa sn sc m zs w1 J C2 O2 0 oc2 [] pl2 cs2 W2)
    (hm : ∀ (u : Nat) (q : Int), (pl.set v 0)[u]? = some q → q ≠ -1 → ∃ q', pl2[u]? = some q' ∧ q' ≠ -1) : CompAt B1 B2 X P A n c Sa sn sc m zs w1 J (v + 1) C2 O2 oc2 pl2 cs2 W2 :=
  ⟨h2, fun u hu => by
    have hlt := (List.getElem?_eq_some_iff.1 hv).1
    by_cases e : u = v
    · subst e
      exact hm u 0 (by rw [get_set hlt, if_pos rfl]) (by omega)
    · obtain ⟨q, h3, h4⟩ := h.met u (by omega)
      exact hm u q (by rw [get_set hlt, if_neg e]; exact h3) h4⟩
theorem CompAt.done (h : CompAt B1 B2 X P A n c Sa sn sc m zs w1 J m C O oc pl cs W) : PartsAll zs m cs :=
  ⟨h.co.tj.parts, fun v hv => h.co.tj.all (fun u hu e => by
    obtain ⟨q, h1, h2⟩ := h.met u hu
    rw [e] at h1
    injection h1 with h1
    exact h2 h1.symm) hv⟩
end

set_option maxRecDepth 100000 in
set_option maxHeartbeats 4000000 in
theorem components_seq (d0 Bg Bs : Nat) (A : Option Addr) (n c : Nat) (Sa : Option Addr) (sc m : Nat) (zs : List Ed) (w1 : World) (hg : IsG (m : Int) zs) (hn : n ≤ 1000) (hnc : n ≤ c)
    (hG : Blk w1 Bg 24 #[.int .i64 (m : Int), .slice A n c]) (hS : Blk w1 Bs 30 #[.slice Sa (m + 1) sc]) (hR : Reads w1 w1.heap.size 3 A n (cellsE zs)) (hSR : Reads w1 w1.heap.size 1 Sa (m + 1) (ints (startsE zs (m + 1)))) :
    PartsSeq d0 Tryd.prog 82 #[.pointer (some ⟨Bg, 0, none⟩), .pointer (some ⟨Bs, 0, none⟩)] zs m w1 := by
  intro l J Jx C0 W hW hC0 hJ hY h0
  have hm := hg.nodes
  have HB := Lib.hid (begun_any (m : Int) A n c Sa (m + 1) sc (by omega) W)
  have HTH := Lib.hid fun (X P : Nat) (C : Nat → Prop) (O : Option Addr) (oc : Nat) (pl : List Int) (cs : List (List Int)) (v : Nat) (w : World) => through_in (d0 - 1) l w1.heap.size W.heap.size X P A n c Sa sc m zs w1 J Jx C O oc pl cs v w hg hn hnc hR hSR hJ
    (fun cs c C X b o h1 h2 h3 h4 h5 h6 => YieldAt.deep rfl (d0 - 1) (hY cs c C X b o h1 h2 h3 h4 h5 h6))
  have g0 := (hG.below hW hG.lt).cell 0
  have g1 := (hG.below hW hG.lt).cell 1
  have s0 := (hS.below hW hS.lt).cell 0
  have HG : Hid (∀ W', Below w1.heap.size w1 W' → Blk W' Bg 24 #[.int .i64 (m : Int), .slice A n c]) := fun W' h => hG.below h hG.lt
  have HW := Lib.hid hW
  have HC0 := Lib.hid hC0
  have HJ := Lib.hid hJ
  have H0 := Lib.hid h0
  have HM := Lib.hid hm
  clear hW hC0 hJ hY h0 hG hS hR hSR hm
  refine callsIn_of_wp Tryd.func82 rfl trivial ?_ rfl
  simp only [Tryd.ntmps82, List.size_toArray, List.length_cons, List.length_nil, Nat.reduceAdd, Nat.reduceSub, Array.replicate_succ, Array.replicate_zero, List.push_toArray, List.append_toArray, List.nil_append, List.cons_append]
  gi_wp2_with fail
  refine ⟨trivial, (fun h => by cases h), (callsIn_wide.2 HB.out).mono ?_⟩
  rintro e wa ⟨X, P, rfl, hwa, hba⟩
  rw [Int.toNat_natCast] at hwa
  have hX : ∀ j, C0 j → j < W.heap.size := fun j hj => (HC0.out j hj).2
  have HCA : Hid (CompAt w1.heap.size W.heap.size X P A n c Sa (m + 1) sc m zs w1 J 0 C0 none 0 (List.replicate m (-1)) [] wa) :=
    ⟨⟨hwa, Tj.start (by have := HM.out; omega), HW.out.trans (hba.mono HW.out.size), (fun h => (by have := hX _ h; have := hwa.lo.1; omega)), (fun h => (by have := hX _ h; have := hwa.lo.2; omega)), (fun g hg => by cases hg),
      fun j hj => ⟨(HC0.out j hj).1, Nat.lt_of_lt_of_le (hX j hj) hba.size⟩, HJ.out _ _ _ _ H0.out (Keep.of_all _ hba), hba.size, HW.out.size⟩, fun u hu => absurd hu (Nat.not_lt_zero u)⟩
  have g2 := (HG.out wa HCA.out.co.below).cell 0
  clear hwa hba hX HB g0 g1 s0
  gi_wp2_with fail
  clear g2
  gi_loopg [11] m (fun gg s11 wr => ∃ (v : Nat) (C : Nat → Prop) (O : Option Addr) (oc : Nat) (pl : List Int) (cs : List (List Int)), s11 = .int .i64 v ∧ v + gg = m ∧ Hid (CompAt w1.heap.size W.heap.size X P A n c Sa (m + 1) sc m zs w1 J v C O oc pl cs wr))
  case atStart => exact ⟨0, _, _, _, _, _, rfl, by omega, HCA⟩
  case round =>
    clear HCA
    obtain ⟨v, C, O, oc, pl, cs, rfl, hvg, HCA⟩ := hrel
    cases gk with
    | zero =>
      have hge : ¬ (v : Int) < (m : Int) := by omega
      obtain rfl : v = m := by omega
      gi_wp2_with fail
      go_end0
      exact ⟨⟨_, rfl⟩, .inl ⟨cs, HCA.out.done, C, HCA.out.co.j⟩⟩
    | succ g2 =>
      have hlt : (v : Int) < (m : Int) := by omega
      have hvm : v < m := by omega
      have hm3 : m ≤ 300 := by have := HM.out; omega
      have HI := Lib.hid hvg
      obtain ⟨q, hq⟩ : ∃ q, pl[v]? = some q := ⟨_, List.getElem?_eq_getElem (by rw [HCA.out.co.tj.len]; exact hvm)⟩
      have x3 := HCA.out.co.walk.blk.cell 3
      have y0 : wr.cell? ⟨P, v, none⟩ = some (.int .i64 q) := by
        rw [HCA.out.co.walk.pl.cell, List.getElem?_toArray]
        unfold ints
        rw [List.getElem?_map, hq]
        rfl
      have HVM := Lib.hid hvm
      have HQ := Lib.hid hq
      clear hvg hvm hq
      by_cases h1 : q = -1
      · subst h1
        have HT := Lib.hid (HTH.out X P C O oc pl cs v wr HCA.out.co HVM.out HQ.out)
        gi_wp2_with fail
        refine ⟨trivial, (fun h => by cases h), HT.out.mono ?_⟩
        rintro e w2 (⟨rfl, C2, O2, oc2, pl2, cs2, hco, hmet⟩ | ⟨rfl, hjx⟩)
        · have HN := Lib.hid (HCA.out.next HQ.out hco hmet)
          clear hco hmet HT x3 y0 HCA
          gi_wp2_with fail
          gi_roundg g2
          case measure => omega
          case rel => exact ⟨v + 1, _, _, _, _, _, by go_num, by have := HI.out; omega, HN⟩
        · have HX := Lib.hid hjx
          clear hjx HT x3 y0 HCA
          gi_wp2_with fail
          refine bodyPost_ret (results_none rfl _ _ _) rfl ?_
          exact ⟨⟨_, rfl⟩, .inr HX.out⟩
      · have h2 : (q == -1) = false := by simp [h1]
        have HN := Lib.hid (HCA.out.skip HQ.out h1)
        clear h1
        gi_wp2_with fail
        refine ⟨trivial, ?_⟩
        gi_wp2_with fail
        gi_roundg g2
        case measure => omega
        case rel => exact ⟨v + 1, _, _, _, _, _, by go_num, by have := HI.out; omega, HN⟩
end Go.Proofs.YtgbpaiffnhpafaaDoor
namespace Go.Proofs.YtgbpaiffnhpafaaDoor
open Go.RowKit Go.Shelf

def CompsIs (zs : List Ed) (m : Nat) (w : World) (e : Ending) (w' : World) : Prop :=
  ∃ lb : Array Value, e = .returned (.tuple #[.func (.func 82) #[] lb, .int .i64 0]) ∧ (∀ d, PartsSeq d Tryd.prog 82 lb zs m w') ∧ Below w.heap.size w w'

set_option maxRecDepth 100000 in
set_option maxHeartbeats 4000000 in
theorem components_ok (nodes : Int) (A : Option Addr) (n c : Nat) (zs : List Ed) (hg : IsG nodes zs) (hn : n ≤ 1000) (hnc : n ≤ c) (w : World) (hR : Reads w w.heap.size 3 A n (cellsE zs)) :
    Calls Tryd.prog 61 #[.agg #[.int .i64 nodes, .slice A n c]] w (CompsIs zs nodes.toNat w) := by
  obtain ⟨bx, b0⟩ := box_new w #[.int .i64 nodes, .slice A n c] 24
  have hz := hg.nodes
  obtain ⟨m, rfl⟩ : ∃ m : Nat, nodes = (m : Int) := ⟨nodes.toNat, by omega⟩
  have HS := Lib.hid (starts_ok (m : Int) A n c zs hg hn _ ((hR.below b0).more b0.size))
  rw [Int.toNat_natCast] at HS ⊢
  have BX := Lib.hid bx
  have B0 := Lib.hid b0
  have HR := Lib.hid ((hR.below b0).more b0.size)
  have z0 := bx.cell 0
  have z1 := bx.cell 1
  have HG := Lib.hid hg
  clear hR bx b0 hg hz
  go_enter Tryd.func61, Tryd.ntmps61
  go_upto_region 1 with fail
  generalize w.alloc (.cells #[.int .i64 (m : Int), .slice A n c] 24) = W0 at *
  go_wp2_with fail
  refine HS.out.mono ?_
  rintro e w1 ⟨Sa, sc, rfl, h1, h2, h3, h4⟩
  have hsl : (startsE zs (m + 1)).length = m + 1 := by simp [startsE]
  rw [hsl] at h1 h2
  rw [hsl]
  have hb1 : Below W0.heap.size W0 (w1.alloc (.cells #[.slice Sa (m + 1) sc] 30)) := h4.alloc h4.size _
  have hb2 : Below w1.heap.size w1 (w1.alloc (.cells #[.slice Sa (m + 1) sc] 30)) := (Below.refl _ _).alloc (Nat.le_refl _) _
  have HE : Hid (CompsIs zs m w (.returned (.tuple #[.func (.func 82) #[] #[.pointer (some ⟨w.heap.size, 0, none⟩), .pointer (some ⟨w1.heap.size, 0, none⟩)], .int .i64 0])) (w1.alloc (.cells #[.slice Sa (m + 1) sc] 30))) :=
    ⟨_, rfl, fun d => components_seq d w.heap.size w1.heap.size A n c Sa sc m zs _ HG.out hn hnc (BX.out.below hb1 BX.out.lt) (Blk.new w1 _ _) ((HR.out.below hb1).more hb1.size) ((h1.below hb2).more hb2.size), B0.out.trans (hb1.mono B0.out.size)⟩
  clear hb1 hb2 h1 h2 h3 h4 z0 z1 HS
  go_wp2_with fail
  go_ret2
  exact HE.out

set_option maxRecDepth 100000 in
set_option maxHeartbeats 4000000 in
theorem components_no (nodes : Int) (A : Option Addr) (n c : Nat) (zs : List Ed) (hg : rightG nodes zs = false) (hn : n ≤ 1000) (w : World) (hR : Reads w w.heap.size 3 A n (cellsE zs)) :
    Calls Tryd.prog 61 #[.agg #[.int .i64 nodes, .slice A n c]] w fun e w' => e = .returned (.tuple #[.nilFunc, .int .i64 150]) ∧ Below w.heap.size w w' := by
  obtain ⟨bx, b0⟩ := box_new w #[.int .i64 nodes, .slice A n c] 24
  have HS := Lib.hid (starts_no nodes A n c zs hg hn _ ((hR.below b0).more b0.size))
  have B0 := Lib.hid b0
  have z0 := bx.cell 0
  have z1 := bx.cell 1
  clear hR bx b0 hg
  go_enter Tryd.func61, Tryd.ntmps61
  go_upto_region 1 with fail
  generalize w.alloc (.cells #[.int .i64 nodes, .slice A n c] 24) = W0 at *
  go_wp2_with fail
  refine HS.out.mono ?_
  rintro e w1 ⟨Sa, sc, rfl, _, _, _, h4⟩
  have B2 : Hid (Below w.heap.size w (w1.alloc (.cells #[.slice Sa ([] : List Int).length sc] 30))) := B0.out.trans ((h4.alloc h4.size _).mono B0.out.size)
  clear h4 z0 z1 HS B0
  go_wp2_with fail
  go_ret2
  exact ⟨rfl, B2.out⟩
end Go.Proofs.YtgbpaiffnhpafaaDoor
namespace Go.Proofs.YtgbpaiffnhpafaaDoor
open Go.RowKit Go.Shelf
attribute [local go_sem] Oper.semAt_some

theorem eg_comps : ∀ args w, (callFunc 82 args).run Tryd.prog w = .ok (.enter 82 args) w := enters_of Tryd.func82 (by kernel_rfl) rfl
theorem PartsIn.few {zs : List Ed} {m : Nat} {cs : List (List Int)} (h : PartsIn zs m cs) {c : List Int} (hc : c ∈ cs) : c.length ≤ m := by
  have hp : c.Perm (((List.range m).filter fun (w : Nat) => decide ((w : Int) ∈ c)).map fun (w : Nat) => (w : Int)) := by
    refine (List.perm_ext_iff_of_nodup (h.once c hc) ?_).2 fun x => ?_
    · rw [List.nodup_iff_pairwise_ne, List.pairwise_map]
      exact ((List.pairwise_lt_range).filter _).imp fun h => by omega
    · rw [List.mem_map]
      constructor
      · intro hx
        obtain ⟨w, rfl, hw⟩ := h.nat hc hx
        exact ⟨w, List.mem_filter.2 ⟨List.mem_range.2 hw, by simpa using hx⟩, rfl⟩
      · rintro ⟨w, hw, rfl⟩
        simpa using (List.mem_filter.1 hw).2
  rw [hp.length_eq, List.length_map]
  exact Nat.le_trans (List.length_filter_le _ _) (by simp)
theorem ints_reads {w : World} {B b o n : Nat} {c : List Int} (h : Reads w B 1 (some ⟨b, o, none⟩) n (ints c)) {j : Nat} {x : Int} (hx : c[j]? = some x) : w.cell? ⟨b, o + j, none⟩ = some (.int .i64 x) := by
  have hj := (List.getElem?_eq_some_iff.1 hx).1
  have hl := h.1
  rw [ints_length] at hl
  obtain ⟨ad, e, _, hc⟩ := h.2 (by omega)
  injection e with e
  subst e
  have := hc j (.int .i64 x) (by unfold ints; rw [List.getElem?_map, hx]; rfl)
  rwa [Go.WideShapes.add_plain] at this
theorem min_any {b o cap : Nat} {c : List Int} {B : Nat} (hc : c ≠ []) (hl : c.length ≤ 1000) (w : World) (hR : Reads w B 1 (some ⟨b, o, none⟩) c.length (ints c)) :
    Calls Tryd.prog 29 #[.slice (some ⟨b, o, none⟩) c.length cap] w fun e w' => e = .returned (.int .i64 (Lib.minOf c)) ∧ w' = w := by
  have h0 : 0 < c.length := List.length_pos_iff.2 hc
  have := Tryd.slices_Min_int b o c.length cap c w h0 (Nat.le_refl _) (by omega) (fun j hj => by
    rw [ints_reads hR (List.getElem?_eq_getElem hj)]
    simp [List.getD_eq_getElem?_getD, List.getElem?_eq_getElem hj])
  rwa [List.take_length] at this

/-- The numbers of the nodes' components, and how many there are. -/
def NumsIs (zs : List Ed) (m : Nat) (w : World) (e : Ending) (w' : World) : Prop :=
  ∃ (ls : List (List Int)) (os : List Int) (A : Option Addr) (c : Nat), e = .returned (.tuple #[.slice A m c, .int .i64 (ls.length : Int), .int .i64 0]) ∧ Comps zs m ls os ∧ os.length = m ∧
    w'.ownsRow w.heap.size 3 1 (.slice A m c) m (ints os) ∧ m ≤ c ∧ c ≤ 9223372036854775807 ∧ Below w.heap.size w w'
/-- While the components are told: to each node of those told the least one. -/
structure NumI (w0 : World) (Bf B7 Bg m : Nat) (A : Option Addr) (n c : Nat) (cs : List (List Int)) (C : Nat → Prop) (W : World) : Prop where
  eq : C = fun k => k = Bf
  row : Blk W Bf 3 (ints (firsts cs (List.replicate m 0))).toArray
  box : Blk W B7 30 #[.slice (some ⟨Bf, 0, none⟩) m m]
  g : Blk W Bg 24 #[.int .i64 (m : Int), .slice A n c]
  below : Below w0.heap.size w0 W
theorem NumI.keep {w0 : World} {Bf B7 Bg m : Nat} {A : Option Addr} {n c : Nat} {cs : List (List Int)} {C S : Nat → Prop} {W W' : World} (h : NumI w0 Bf B7 Bg m A n c cs C W) (hk : Keep S W W') (h1 : S Bf) (h2 : S B7) (h3 : S Bg) (h4 : ∀ j, j < w0.heap.size → S j) : NumI w0 Bf B7 Bg m A n c cs C W' :=
  ⟨h.eq, hk.blk h.row h1, hk.blk h.box h2, hk.blk h.g h3, h.below.trans (hk.below h.below.size h4)⟩

set_option maxRecDepth 100000 in
set_option maxHeartbeats 8000000 in
theorem numbers_in (nodes : Int) (A : Option Addr) (n c : Nat) (zs : List Ed) (hg : IsG nodes zs) (hn : n ≤ 1000) (hnc : n ≤ c) (w : World) (hR : Reads w w.heap.size 3 A n (cellsE zs)) :
    CallsIn Fence.wide 6 Tryd.prog 90 #[.agg #[.int .i64 nodes, .slice A n c]] w (NumsIs zs nodes.toNat w) := by
  obtain ⟨bx, b0⟩ := box_new w #[.int .i64 nodes, .slice A n c] 24
  have hz := hg.nodes
  obtain ⟨m, rfl⟩ : ∃ m : Nat, nodes = (m : Int) := ⟨nodes.toNat, by omega⟩
  have HC := Lib.hid (components_ok (m : Int) A n c zs hg hn hnc _ ((hR.below b0).more b0.size))
  rw [Int.toNat_natCast] at HC ⊢
  have hm3 : m ≤ 300 := by omega
  have BX := Lib.hid bx
  have B0 := Lib.hid b0
  have z0 := bx.cell 0
  have z1 := bx.cell 1
  have HG := Lib.hid hg
  clear hR bx b0 hg hz
  refine callsIn_of_wp_marks Tryd.func90 rfl trivial ?_ rfl
  simp only [Tryd.ntmps90, List.size_toArray, List.length_cons, List.length_nil, Nat.reduceAdd, Nat.reduceSub, Array.replicate_succ, Array.replicate_zero, List.push_toArray, List.append_toArray, List.nil_append, List.cons_append]
  gi_upto_region 1 with fail
  generalize w.alloc (.cells #[.int .i64 (m : Int), .slice A n c] 24) = W0 at *
  gi_wp2_with fail
  refine ⟨trivial, (callsIn_wide.2 HC.out).mono ?_⟩
  rintro e w1 ⟨lb, rfl, hseq, hb1⟩
  have BX1 := Lib.hid (BX.out.below hb1 BX.out.lt)
  have B1 : Hid (Below w.heap.size w w1) := B0.out.trans (hb1.mono B0.out.size)
  have HW1 : Hid (w.heap.size < w1.heap.size) := BX1.out.lt
  have HSEQ := Lib.hid hseq
  have z0 := BX1.out.cell 0
  have hmk : (Instr.makeSlice 30 (.int .i64 (m : Int)) (.int .i64 (m : Int))).run Tryd.prog w1 = .ok (.slice (some ⟨w1.heap.size, 0, none⟩) m m) (w1.alloc (.cells (ints (List.replicate m 0)).toArray 3)) := int_make m (m : Int) rfl (by omega) w1
  clear hseq hb1 BX B0 z1 HC
  gi_wp2_with fail
  obtain ⟨W3, hW3⟩ : ∃ W3, (w1.alloc (.cells (ints (List.replicate m 0)).toArray 3)).alloc (.cells #[.slice (some ⟨w1.heap.size, 0, none⟩) m m] 30) = W3 := ⟨_, rfl⟩
  have hb13 : Below w1.heap.size w1 W3 := by rw [← hW3]; exact ((Below.refl _ _).alloc (Nat.le_refl _) _).alloc (by simp) _
  have hsz3 : W3.heap.size = w1.heap.size + 2 := by rw [← hW3]; simp
  have hrow3 : Blk W3 w1.heap.size 3 (ints (List.replicate m 0)).toArray := by rw [← hW3]; exact (Blk.new _ _ _).alloc _
  have hbox3 : Blk W3 (w1.heap.size + 1) 30 #[.slice (some ⟨w1.heap.size, 0, none⟩) m m] := by
    rw [← hW3]
    have := Blk.new (w1.alloc (.cells (ints (List.replicate m 0)).toArray 3)) 30 #[.slice (some ⟨w1.heap.size, 0, none⟩) m m]
    rwa [World.size_alloc] at this
  have hgr3 : Blk W3 w.heap.size 24 #[.int .i64 (m : Int), .slice A n c] := BX1.out.below hb13 HW1.out
  have hI3 : NumI w w1.heap.size (w1.heap.size + 1) w.heap.size m A n c [] (fun k => k = w1.heap.size) W3 := ⟨rfl, hrow3, hbox3, hgr3, B1.out.trans (hb13.mono (Nat.le_of_lt HW1.out))⟩
  have HS3 := Lib.hid hsz3
  rw [hW3]
  clear hW3 hrow3 hbox3 hgr3 z0 hmk hsz3
  refine range_parts (by omega) (gf := 82) (lb := lb) rfl eg_comps (zs := zs) (m := m) (w1 := w1) (HSEQ.out 5) hb13 rfl (NumI w w1.heap.size (w1.heap.size + 1) w.heap.size m A n c) (fun _ => False) (fun k => k = w1.heap.size)
    (fun k hk => by have := HS3.out; omega) hI3 ?hI (fun X Y h _ => h) (fun v => { tmps := #[Value.agg #[.int .i64 (m : Int), .slice A n c], .pointer (some ⟨w.heap.size, 0, none⟩), .slice none 0 0, .int .i64 0, .int .i64 0, Value.func (.func 82) #[] lb, .int .i64 0, .pointer (some ⟨w1.heap.size + 1, 0, none⟩), v, undef, undef, undef, undef, undef, undef, Value.tuple #[.func (.func 82) #[] lb, .int .i64 0], Value.agg #[.int .i64 (m : Int), .slice A n c], Value.tuple #[.func (.func 82) #[] lb, .int .i64 0], Value.func (.func 82) #[] lb, .int .i64 0, .int .i64 0, .bool false, undef, .pointer (some ⟨w.heap.size, 0, none⟩), .int .i64 (m : Int), .slice (some ⟨w1.heap.size, 0, none⟩) m m, Value.func (.func 82) #[] lb, v, undef, undef, undef, undef, undef, undef, undef, undef, undef, undef, undef, undef, undef, undef, undef, undef, undef, undef, undef, undef, undef, undef, undef, undef, undef, undef, undef, undef, undef, undef, undef, undef, undef, undef, undef, undef, undef, undef, undef, undef, undef, undef, undef, undef, undef, undef], defers := [] }) ?assign ?body ?done (fun D W _ h => h.elim)
  case hI =>
    intro cs C X Y h hk
    have := HS3.out
    have := HW1.out
    exact h.keep hk (.inl (by omega)) (.inl (by omega)) (.inl (by omega)) fun j hj => .inl (by omega)
  case assign =>
    intro l v W K hK
    gi_wp2
    exact hK
  case body =>
    intro l cs c2 C X b o hI hpi hR hCb hCk hsz
    have hne : c2 ≠ [] := hpi.some c2 (by simp)
    have hfew : c2.length ≤ m := hpi.few (by simp)
    have HMIN := Lib.hid (min_any (cap := c2.length) hne (by omega) X hR)
    obtain ⟨rfl, hrow, hbox, hgr, hbel⟩ := hI
    have HI := Lib.hid (NumI.mk (w0 := w) (Bf := w1.heap.size) (B7 := w1.heap.size + 1) (Bg := w.heap.size) (cs := cs) rfl hrow hbox hgr hbel)
    have HR := Lib.hid hR
    have HPI := Lib.hid hpi
    have HBB := Lib.hid (show b ≠ w1.heap.size from hCb)
    have HF0 : Hid ((firsts cs (List.replicate m 0)).length = m) := by unfold Hid; rw [firsts_len, List.length_replicate]
    have h0 : Hid (Blk X w1.heap.size 3 (ints (putE (firsts cs (List.replicate m 0)) (Lib.minOf c2) (c2.take 0))).toArray) := by
      rw [List.take_zero]; exact hrow
    have k0 : Hid (Keep (fun k => k ≠ w1.heap.size) X X) := Keep.refl _ _
    have hbo : b < X.heap.size := by
      obtain ⟨ad, e, h1, _⟩ := hR.2 (List.length_pos_iff.2 hne)
      injection e with e
      rw [← e] at h1
      exact h1
    have HBO := Lib.hid hbo
    clear hrow hbox hgr hbel hCk hR hCb hne hpi hbo
    gi_wp2_with fail
    refine ⟨trivial, ((callsIn_wide.2 HMIN.out).inRound l).mono ?_⟩
    rintro e X2 ⟨rfl, rfl⟩
    gi_wp2_with fail
    obtain ⟨least, hle⟩ : ∃ x, Lib.minOf c2 = x := ⟨_, rfl⟩
    have HLE := Lib.hid hle
    rw [hle] at h0 ⊢
    clear hle HMIN
    gi_loopg [32] c2.length (fun gg s32 wr => ∃ i : Nat, s32 = .int .i64 i ∧ i + gg = c2.length ∧ Hid (Blk wr w1.heap.size 3 (ints (putE (firsts cs (List.replicate m 0)) least (c2.take i))).toArray) ∧ Hid (Keep (fun k => k ≠ w1.heap.size) X2 wr))
    case atStart => exact ⟨0, rfl, by omega, h0, k0⟩
    case round =>
      clear h0 k0
      obtain ⟨i, rfl, hi, HN, HK⟩ := hrel
      cases gk with
      | zero =>
        have hge : ¬ (i : Int) < (c2.length : Int) := by omega
        have hie : i = c2.length := by omega
        have HI2 : Hid (NumI w w1.heap.size (w1.heap.size + 1) w.heap.size m A n c (cs ++ [c2]) (fun k => k = w1.heap.size) wr) := by
          have hn := HN.out
          rw [hie, List.take_length, ← HLE.out, ← firsts_snoc] at hn
          exact ⟨rfl, hn, HK.out.blk HI.out.box (Nat.succ_ne_self _), HK.out.blk HI.out.g (Nat.ne_of_lt HW1.out), HI.out.below.trans (HK.out.below HI.out.below.size fun j hj e => by have := HW1.out; omega)⟩
        clear HN hi hie
        gi_wp2_with fail
        exact .inl ⟨_, fun k hk => by rw [hk]; exact ⟨HI2.out.row.lt, .inl rfl⟩, HK.out, rfl, HI2.out⟩
      | succ g2 =>
        have hlt : (i : Int) < (c2.length : Int) := by omega
        have hil : i < c2.length := by omega
        have HIL := Lib.hid hi
        obtain ⟨x, hx⟩ : ∃ x, c2[i]? = some x := ⟨_, List.getElem?_eq_getElem hil⟩
        obtain ⟨a, rfl, ham⟩ := HPI.out.nat (by simp) (List.mem_of_getElem? hx)
        have c0 : wr.cell? ⟨b, o + i, none⟩ = some (.int .i64 (a : Int)) := (World.cell?_of_block (HK.out.block b HBO.out HBB.out)).trans (ints_reads HR.out hx)
        have b0 := (HK.out.blk HI.out.box (Nat.succ_ne_self _)).cell 0
        have hal : a < (ints (putE (firsts cs (List.replicate m 0)) least (c2.take i))).length := by rw [ints_length, putE_len, HF0.out]; exact ham
        obtain ⟨u0, hu0⟩ : ∃ u, (ints (putE (firsts cs (List.replicate m 0)) least (c2.take i)))[a]? = some u := ⟨_, List.getElem?_eq_getElem hal⟩
        have y0 : wr.cell? ⟨w1.heap.size, a, none⟩ = some u0 := by rw [HN.out.cell, List.getElem?_toArray]; exact hu0
        have f0 : wr.frozen? ⟨w1.heap.size, a, none⟩ = false := HN.out.frozen a
        have ham2 : (a : Int) < (m : Int) := by omega
        have HN2 : Hid (Blk (wr.setCell ⟨w1.heap.size, a, none⟩ (.int .i64 least)) w1.heap.size 3 (ints (putE (firsts cs (List.replicate m 0)) least (c2.take (i + 1)))).toArray) := by
          have := HN.out.set_ a (.int .i64 least)
          rw [List.setIfInBounds_toArray, ints_set] at this
          rw [putE_next (v := (a : Int)) hx, Int.toNat_natCast]
          exact this
        have HK2 : Hid (Keep (fun k => k ≠ w1.heap.size) X2 (wr.setCell ⟨w1.heap.size, a, none⟩ (.int .i64 least))) := HK.out.set (.inr fun h => h rfl) _ _
        clear hi hil hx ham hal hu0 HN HK
        gi_wp2_with fail
        gi_roundg g2
        case measure => omega
        case rel => exact ⟨i + 1, by go_num, by have := HIL.out; omega, HN2, HK2⟩
  case done =>
    intro cs C D W hD hall hI hdef
    obtain ⟨bs, hA⟩ := AllM.make (zs := zs) (m := m) HG.out.all
    have hDl := (Array.getElem?_eq_some_iff.1 hdef).1
    have g0 := hI.g.cell 0
    have hmk : (Instr.makeSlice 30 (.int .i64 (m : Int)) (.int .i64 (m : Int))).run Tryd.prog W = .ok (.slice (some ⟨W.heap.size, 0, none⟩) m m) (W.alloc (.cells (ints (List.replicate m 0)).toArray 3)) := int_make m (m : Int) rfl (by omega) W
    have HI2 := Lib.hid (hI.keep ((Keep.refl (fun _ => True) W).alloc (.cells (ints (List.replicate m 0)).toArray 3)) trivial trivial trivial fun _ _ => trivial)
    have g1 := HI2.out.g.cell 0
    have HN0 := Lib.hid (Blk.new W 3 (ints (List.replicate m 0)).toArray)
    have HDF : Hid ((W.alloc (.cells (ints (List.replicate m 0)).toArray 3)).heap[D]? = some (.deferred (some []))) := (Below.heap_alloc W _ D hDl).trans hdef
    have HLT : Hid (w1.heap.size + 1 < W.heap.size ∧ D < W.heap.size ∧ w1.heap.size + 2 ≤ D) := ⟨hI.box.lt, hDl, by have := HS3.out; omega⟩
    have HALL := Lib.hid hall
    have HA := Lib.hid hA
    clear hall hA hdef hDl hD hI hI3 hb13
    gi_wp2_with fail
    clear hmk g0 g1
    generalize W.alloc (.cells (ints (List.replicate m 0)).toArray 3) = W2 at *
    generalize W.heap.size = Bo at *
    gi_loopg [13, 46] m (fun gg s13 s46 wr => ∃ (v many : Nat) (ol : List Int), s13 = .int .i64 many ∧ s46 = .int .i64 v ∧ v + gg = m ∧ Hid (Nums bs m v ol many) ∧ Hid (Blk wr Bo 3 (ints ol).toArray) ∧ Hid (Keep (fun k => k ≠ Bo) W2 wr))
    case atStart => exact ⟨0, 0, List.replicate m 0, rfl, rfl, by omega, Nums.start bs m, HN0, Keep.refl _ _⟩
    case round =>
      clear HN0
      obtain ⟨v, many, ol, rfl, rfl, hvg, HNU, HO, HK⟩ := hrel
      cases gk with
      | zero =>
        have hge : ¬ (v : Int) < (m : Int) := by omega
        obtain rfl : v = m := by omega
        have HDW := Lib.hid (HK.out.obj HDF.out (by have := HLT.out; omega))
        have hb2 : Below w.heap.size w wr := HI2.out.below.trans (HK.out.below HI2.out.below.size fun j hj e => by have := HLT.out; have := HW1.out; omega)
        have HBW := Lib.hid hb2
        clear hb2 hvg
        gi_wp2_with fail
        refine ⟨by simp, .inl ⟨_, _, rfl, run_takeDeferred HDW.out, ?_⟩⟩
        obtain ⟨hc, hmany⟩ := HNU.out.done HA.out
        subst hmany
        have hlt := HLT.out
        have hw1 := HW1.out
        have hl := HNU.out.len
        have hk2 : ∀ o, Keep (fun k => k ≠ D) wr (wr.putObj D o) := fun o => (Keep.refl _ wr).put (.inr fun h => h rfl) o
        exact ⟨_, by simp [results, Tryd.results90, go_sem], _, ol, _, v, rfl, hc, hl, blk_own1 (by omega) ((hk2 _).blk HO.out (by omega)) (by rw [ints_length, hl]) (by omega), Nat.le_refl _, by omega, HBW.out.trans ((hk2 _).below HBW.out.size fun j hj => by omega)⟩
      | succ g2 =>
        have hlt : (v : Int) < (m : Int) := by omega
        have hvm : v < m := by omega
        obtain ⟨f, hf, h1, h2⟩ := HNU.out.next HALL.out HA.out hvm
        have hmany : many ≤ v := by
          rw [HNU.out.many]
          exact Nat.le_trans (List.length_filter_le _ _) (by simp)
        have b0 := (HK.out.blk HI2.out.box (by have := HLT.out; omega)).cell 0
        have HFR := HK.out.blk HI2.out.row (by have := HLT.out; omega)
        have y0 : wr.cell? ⟨w1.heap.size, v, none⟩ = some (.int .i64 (f : Int)) := by
          rw [HFR.cell, List.getElem?_toArray]
          unfold ints
          rw [List.getElem?_map, hf]
          rfl
        have hol := HNU.out.len
        have HVG := Lib.hid hvg
        have HH1 := Lib.hid h1
        have HH2 := Lib.hid h2
        have hvl : v < (ints ol).length := by rw [ints_length, hol]; exact hvm
        obtain ⟨u0, hu0⟩ : ∃ u, (ints ol)[v]? = some u := ⟨_, List.getElem?_eq_getElem hvl⟩
        have o0 : wr.cell? ⟨Bo, v, none⟩ = some u0 := by rw [HO.out.cell, List.getElem?_toArray]; exact hu0
        have f0 : wr.frozen? ⟨Bo, v, none⟩ = false := HO.out.frozen v
        clear hf h1 h2 HFR hvl hu0 hvg
        by_cases hfv : f < v
        · have hfv2 : (f : Int) < (v : Int) := by omega
          obtain ⟨x, hx, hnx⟩ := HH1.out hfv
          have x0 : wr.cell? ⟨Bo, f, none⟩ = some (.int .i64 x) := by
            rw [HO.out.cell, List.getElem?_toArray]
            unfold ints
            rw [List.getElem?_map, hx]
            rfl
          have hfm : (f : Int) < (m : Int) := by omega
          have HN2 := Lib.hid hnx
          have HO2 : Hid (Blk (wr.setCell ⟨Bo, v, none⟩ (.int .i64 x)) Bo 3 (ints (ol.set v x)).toArray) := by
            have := HO.out.set_ v (.int .i64 x)
            rw [List.setIfInBounds_toArray, ints_set] at this
            exact this
          have HK2 : Hid (Keep (fun k => k ≠ Bo) W2 (wr.setCell ⟨Bo, v, none⟩ (.int .i64 x))) := HK.out.set (.inr fun h => h rfl) _ _
          clear hx hnx HH1 HH2 HO HK HNU
          gi_wp2_with fail
          gi_roundg g2
          case measure => omega
          case rel => exact ⟨v + 1, many, _, rfl, by go_num, by have := HVG.out; omega, HN2, HO2, HK2⟩
        · have hfv2 : ¬ (f : Int) < (v : Int) := by omega
          have HN2 := Lib.hid (HH2.out hfv)
          have HO2 : Hid (Blk (wr.setCell ⟨Bo, v, none⟩ (.int .i64 (many : Int))) Bo 3 (ints (ol.set v (many : Int))).toArray) := by
            have := HO.out.set_ v (.int .i64 (many : Int))
            rw [List.setIfInBounds_toArray, ints_set] at this
            exact this
          have HK2 : Hid (Keep (fun k => k ≠ Bo) W2 (wr.setCell ⟨Bo, v, none⟩ (.int .i64 (many : Int)))) := HK.out.set (.inr fun h => h rfl) _ _
          clear HH1 HH2 HO HK HNU
          gi_wp2_with fail
          gi_roundg g2
          case measure => omega
          case rel => exact ⟨v + 1, many + 1, _, by go_num, by go_num, by have := HVG.out; omega, HN2, HO2, HK2⟩
theorem numbers_ok (nodes : Int) (A : Option Addr) (n c : Nat) (zs : List Ed) (hg : IsG nodes zs) (hn : n ≤ 1000) (hnc : n ≤ c) (w : World) (hR : Reads w w.heap.size 3 A n (cellsE zs)) :
    Calls Tryd.prog 90 #[.agg #[.int .i64 nodes, .slice A n c]] w (NumsIs zs nodes.toNat w) := callsIn_wide.1 (numbers_in nodes A n c zs hg hn hnc w hR)

set_option maxRecDepth 100000 in
set_option maxHeartbeats 4000000 in
theorem numbers_no (nodes : Int) (A : Option Addr) (n c : Nat) (zs : List Ed) (hg : rightG nodes zs = false) (hn : n ≤ 1000) (w : World) (hR : Reads w w.heap.size 3 A n (cellsE zs)) :
    Calls Tryd.prog 90 #[.agg #[.int .i64 nodes, .slice A n c]] w fun e w' => e = .returned (.tuple #[.slice none 0 0, .int .i64 0, .int .i64 150]) ∧ Below w.heap.size w w' := by
  obtain ⟨bx, b0⟩ := box_new w #[.int .i64 nodes, .slice A n c] 24
  have HC := Lib.hid (components_no nodes A n c zs hg hn _ ((hR.below b0).more b0.size))
  have B0 := Lib.hid b0
  have z0 := bx.cell 0
  have z1 := bx.cell 1
  clear hR bx b0 hg
  go_enter Tryd.func90, Tryd.ntmps90
  go_upto_region 1 with fail
  generalize w.alloc (.cells #[.int .i64 nodes, .slice A n c] 24) = W0 at *
  go_wp2_with fail
  refine HC.out.mono ?_
  rintro e w1 ⟨rfl, h4⟩
  have B2 : Hid (Below w.heap.size w w1) := B0.out.trans (h4.mono B0.out.size)
  clear h4 z0 z1 HC B0
  go_wp2_with fail
  exact bodyPost_ret (v := .tuple #[.slice none 0 0, .int .i64 0, .int .i64 150]) (by simp [results, Tryd.results90, go_sem]) rfl ⟨rfl, B2.out⟩
end Go.Proofs.YtgbpaiffnhpafaaDoor
namespace Go.Proofs.YtgbpaiffnhpafaaDoor
open Go.RowKit Go.Shelf
attribute [local go_sem] Oper.semAt_some

set_option maxRecDepth 100000 in
set_option maxHeartbeats 2000000 in
theorem inner1_any (p : Ed) (os : List Int) (m B : Nat) (Oa : Option Addr) (oc : Nat) (W : World) (hl : os.length = m) (hm : m ≤ 300) (hp : rightE (m : Int) p = true) (hB : Blk W B 30 #[.slice Oa m oc]) (hR : Reads W W.heap.size 1 Oa m (ints os)) :
    Calls Tryd.prog 92 #[.agg #[.int .i64 p.1, .int .i64 p.2.1, .int .i64 p.2.2], .pointer (some ⟨B, 0, none⟩)] W fun e W' => e = .returned (.bool (sameOf os p)) ∧ Below W.heap.size W W' := by
  obtain ⟨p1, p2, p3⟩ := p
  have hpr := of_decide_eq_true hp
  simp only at hpr
  obtain ⟨a, rfl⟩ : ∃ a : Nat, p1 = (a : Int) := ⟨p1.toNat, by omega⟩
  obtain ⟨b, rfl⟩ : ∃ b : Nat, p2 = (b : Int) := ⟨p2.toNat, by omega⟩
  have ham : (a : Int) < (m : Int) := hpr.1.2
  have hbm : (b : Int) < (m : Int) := hpr.2.1.2
  have b0 : Below W.heap.size W (W.alloc (.cells #[.int .i64 (a : Int), .int .i64 (b : Int), .int .i64 p3] 53)) := (Below.refl _ _).alloc (Nat.le_refl _) _
  obtain ⟨g, o, rfl, hg, hc⟩ := reads_plain hR (by omega)
  have hat : ∀ j, j < m → (W.alloc (.cells #[.int .i64 (a : Int), .int .i64 (b : Int), .int .i64 p3] 53)).cell? ⟨g, o + j, none⟩ = some (.int .i64 (os.getD j 0)) := fun j hj => by
    rw [← ints_get hc j (by omega)]
    exact b0.cell (p := ⟨g, o + j, none⟩) hg
  have c0 := hat a (by omega)
  have c1 := hat b (by omega)
  have k0 := (hB.below b0 hB.lt).cell 0
  have HX := Lib.hid (Blk.new W 53 #[.int .i64 (a : Int), .int .i64 (b : Int), .int .i64 p3])
  have y0 := HX.out.cell 0
  have y1 := HX.out.cell 1
  have B0 := Lib.hid b0
  have HQ : Hid (sameOf os ((a : Int), (b : Int), p3) = (os.getD a 0 == os.getD b 0)) := rfl
  clear hp hpr hl hm hB hR b0 hc hat hg
  go_enter Tryd.func92, Tryd.ntmps92
  go_upto_region 1 with fail
  generalize W.alloc (.cells #[.int .i64 (a : Int), .int .i64 (b : Int), .int .i64 p3] 53) = W0 at *
  generalize os.getD a 0 = va at *
  generalize os.getD b 0 = vb at *
  cases hq : va == vb
  all_goals
    have HQ2 := Lib.hid (HQ.out.trans hq)
    clear HQ
    go_quiet (fail)
    go_wp2_with fail
    go_ret
    exact ⟨by rw [HQ2.out]; first | rfl | exact congrArg (fun b => Ending.returned (Value.bool (!b))) hq, below_drewN B0.out _⟩

set_option maxRecDepth 100000 in
set_option maxHeartbeats 2000000 in
theorem those_in_inner1 (m : Nat) (hm : 1 ≤ m) (l Bs Bf Bv Bq : Nat) (A : Option Addr) (n c : Nat) (zs : List Ed) (q : Ed → Bool) (hn : n ≤ 1000) (J Jm Jx : Nat → World → Prop)
    (hF : ∀ i W, J i W → Blk W Bs 22 #[.slice A n c] ∧ Blk W Bf 127 #[.func (.func 92) #[] #[.pointer (some ⟨Bv, 0, none⟩)]] ∧ Reads W Bq 3 A n (cellsE zs))
    (hAsk : ∀ i p W, zs[i]? = some p → J i W → Calls Tryd.prog 92 #[.agg #[.int .i64 p.1, .int .i64 p.2.1, .int .i64 p.2.2], .pointer (some ⟨Bv, 0, none⟩)] (W.alloc (.cells #[.int .i64 p.1, .int .i64 p.2.1, .int .i64 p.2.2] 53)) fun e W' => e = .returned (.bool (q p)) ∧ Jm i W' ∧ Blk W' W.heap.size 53 #[.int .i64 p.1, .int .i64 p.2.1, .int .i64 p.2.2])
    (hSkip : ∀ i p W, zs[i]? = some p → q p = false → Jm i W → J (i + 1) W)
    (hY : ∀ i p W, zs[i]? = some p → q p = true → Jm i W → YieldAt Fence.wide (m - 1) Tryd.prog l (encE p) W fun e W' => (e = .returned (.bool true) ∧ J (i + 1) W') ∨ (e = .returned (.bool false) ∧ Jx i W'))
    (W : World) (h0 : J 0 W) :
    CallsIn Fence.wide m Tryd.prog 111 #[.func (.yield l) #[] #[], .pointer (some ⟨Bs, 0, none⟩), .pointer (some ⟨Bf, 0, none⟩)] W fun e W' => (∃ v, e = .returned v) ∧ (J n W' ∨ ∃ i, Jx i W') := by
  have s0 := (hF 0 W h0).1.cell 0
  have HL := Lib.hid (reads_len (hF 0 W h0).2.2)
  have HF := Lib.hid hF
  have HA := Lib.hid hAsk
  have HS := Lib.hid hSkip
  have HYY := Lib.hid hY
  have H0 := Lib.hid h0
  clear hF hAsk hSkip hY h0
  refine callsIn_of_wp Tryd.func111 rfl trivial ?_ rfl
  simp only [Tryd.ntmps111, List.size_toArray, List.length_cons, List.length_nil, Nat.reduceAdd, Nat.reduceSub, Array.replicate_succ, Array.replicate_zero, List.push_toArray, List.append_toArray, List.nil_append, List.cons_append]
  gi_wp2_with fail
  clear s0
  gi_loopw [8] (fun v wr => ∃ i : Nat, v = .int .i64 i ∧ i ≤ n ∧ Hid (J i wr)) (fun v _ => n - (intOf v).toNat)
  case atStart => exact ⟨0, rfl, Nat.zero_le _, H0⟩
  case round =>
    obtain ⟨i, rfl, hin, HJ⟩ := hrel
    by_cases hin2 : i < n
    · have hlt : (i : Int) < (n : Int) := by omega
      obtain ⟨p, hp⟩ : ∃ p, zs[i]? = some p := ⟨zs[i]'(by rw [HL.out]; omega), List.getElem?_eq_getElem _⟩
      obtain ⟨kS, kF, kR⟩ := HF.out i wr HJ.out
      obtain ⟨b, o, rfl, hb, g0, g1, gk2⟩ := ed_at kR hp
      have KF := Lib.hid (kF.alloc (.cells #[.int .i64 p.1, .int .i64 p.2.1, .int .i64 p.2.2] 53))
      have KY := Lib.hid (Blk.new wr 53 #[.int .i64 p.1, .int .i64 p.2.1, .int .i64 p.2.2])
      have HC := Lib.hid (HA.out i p wr hp HJ.out)
      have f0 := KF.out.cell 0
      have y0 := KY.out.cell 0
      have y1 := KY.out.cell 1
      have y2 := KY.out.cell 2
      have HP := Lib.hid hp
      clear hp kS kF kR KF KY
      cases hq : q p
      · rw [hq] at HC
        have HQ := Lib.hid hq
        clear hq
        gi_wp2_with fail
        refine ⟨trivial, (callsIn_wide.2 HC.out).mono ?_⟩
        rintro e w1 ⟨rfl, hJm, kY⟩
        have HJ2 := Lib.hid (HS.out i p w1 HP.out HQ.out hJm)
        clear hJm kY y0 y1 y2 f0 g0 g1 gk2 HC
        gi_wp2_with fail
        refine ⟨(fun f h => by cases h), ?_⟩
        gi_wp2_with fail
        go_roundw
        case rel => exact ⟨i + 1, by go_num, hin2, HJ2⟩
        case measure => simp [intOf]; omega
      · rw [hq] at HC
        have HQ := Lib.hid hq
        clear hq
        gi_wp2_with fail
        refine ⟨trivial, (callsIn_wide.2 HC.out).mono ?_⟩
        rintro e w1 ⟨rfl, hJm, kY⟩
        obtain ⟨fn, tmps, assign, body, hy, hR⟩ := HYY.out i p w1 HP.out HQ.out hJm
        clear y0 y1 y2 f0 g0 g1 gk2 HC
        unfold encE at hy
        have HRR := Lib.hid hR
        have y0 := kY.cell 0
        have y1 := kY.cell 1
        have y2 := kY.cell 2
        clear hR hJm kY
        gi_wp2_with fail
        refine HRR.out.mono ?_
        rintro e W3 (⟨rfl, hJ3⟩ | ⟨rfl, hJ3⟩)
        · have HJ3 := Lib.hid hJ3
          clear hJ3 y0 y1 y2 hy HRR
          gi_wp2_with fail
          go_roundw
          case rel => exact ⟨i + 1, by go_num, hin2, HJ3⟩
          case measure => simp [intOf]; omega
        · have HJ3 := Lib.hid hJ3
          clear hJ3 y0 y1 y2 hy HRR
          gi_wp2_with fail
          refine bodyPost_ret (results_none rfl _ _ _) rfl ?_
          exact ⟨⟨_, rfl⟩, .inr ⟨i, HJ3.out⟩⟩
    · have hge : ¬ (i : Int) < (n : Int) := by omega
      obtain rfl : i = n := by omega
      gi_wp2_with fail
      go_end0
      exact ⟨⟨_, rfl⟩, .inl HJ.out⟩

theorem those_stops_inner1 (m : Nat) (hm : 1 ≤ m) (Bs Bf Bv n c : Nat) (A : Option Addr) (zs : List Ed) (q : Ed → Bool) (hn : n ≤ 1000) (w : World)
    (hs : Blk w Bs 22 #[.slice A n c]) (hf : Blk w Bf 127 #[.func (.func 92) #[] #[.pointer (some ⟨Bv, 0, none⟩)]]) (hR : Reads w w.heap.size 3 A n (cellsE zs))
    (hq : ∀ p W, p ∈ zs → Below w.heap.size w W → Calls Tryd.prog 92 #[.agg #[.int .i64 p.1, .int .i64 p.2.1, .int .i64 p.2.2], .pointer (some ⟨Bv, 0, none⟩)] W fun e W' => e = .returned (.bool (q p)) ∧ Below W.heap.size W W') :
    SeqStopsK Fence.wide m Tryd.prog 111 #[.pointer (some ⟨Bs, 0, none⟩), .pointer (some ⟨Bf, 0, none⟩)] encE (fun X Y => Below w.heap.size X Y) (fun ys => ys = zs.filter q) (fun _ => True) n w := by
  intro l J Jx W hW hJ _ hY h0
  have hl := reads_len hR
  refine (those_in_inner1 m hm l Bs Bf Bv w.heap.size A n c zs q hn (fun i W1 => J (fil q zs i) W1 ∧ Below w.heap.size w W1) (fun i W1 => J (fil q zs i) W1 ∧ Below w.heap.size w W1) (fun _ W1 => ∃ pre, Jx pre W1)
    (fun i W1 h => ⟨hs.below h.2 hs.lt, hf.below h.2 hf.lt, hR.below h.2⟩) (fun i p W1 hp h => ?_) (fun i p W1 hp hqp h => ⟨by rw [fil_skip hp hqp]; exact h.1, h.2⟩) (fun i p W1 hp hqp h => ?_) W ⟨h0, hW⟩).mono ?_
  · have hb := h.2.alloc h.2.size (.cells #[.int .i64 p.1, .int .i64 p.2.1, .int .i64 p.2.2] 53)
    refine (hq p _ (List.mem_of_getElem? hp) hb).mono ?_
    rintro e W' ⟨rfl, b⟩
    exact ⟨rfl, ⟨hJ _ _ _ none (hJ _ _ _ none h.1 (World.grownBy_alloc _ _ _) (fun r e => by cases e)) (grown_of_below b) (fun r e => by cases e), hb.trans (b.mono hb.size)⟩, (Blk.new _ _ _).below b (by simp)⟩
  · have hlen : (fil q zs i).length < n := by
      have h1 := List.length_filter_le q (zs.take i)
      rw [List.length_take] at h1
      have := (List.getElem?_eq_some_iff.1 hp).1
      unfold fil
      omega
    refine (hY (fil q zs i) p W1 h.1 hlen).mono ?_
    rintro e W' (⟨rfl, h1, h2⟩ | ⟨rfl, h1⟩)
    · exact .inl ⟨rfl, by rw [fil_keep hp hqp]; exact h1, h.2.trans h2⟩
    · exact .inr ⟨rfl, _, h1⟩
  · rintro e W' ⟨hv, (⟨h1, _⟩ | ⟨_, pre, h1⟩)⟩
    · exact ⟨hv, .inl ⟨_, rfl, by rw [fil_all (by omega)] at h1; exact h1⟩⟩
    · exact ⟨hv, .inr ⟨pre, trivial, h1⟩⟩

set_option maxRecDepth 100000 in
set_option maxHeartbeats 4000000 in
theorem filter_inner1 (m : Nat) (A : Option Addr) (n c : Nat) (Bv : Nat) (Oa : Option Addr) (oc : Nat) (os : List Int) (hol : os.length = m) (zs : List Ed) (hg : IsG (m : Int) zs) (hn : n ≤ 1000) (w : World) (hR : Reads w w.heap.size 3 A n (cellsE zs)) (hBv : Blk w Bv 30 #[.slice Oa m oc]) (hO : Reads w w.heap.size 1 Oa m (ints os)) :
    Calls Tryd.prog 91 #[.agg #[.int .i64 (m : Int), .slice A n c], .func (.func 92) #[] #[.pointer (some ⟨Bv, 0, none⟩)]] w (GErr (m : Int) (zs.filter (sameOf os)) 0 w) := by
  obtain ⟨rs, hrs⟩ : ∃ rs, zs.filter (sameOf os) = rs := ⟨_, rfl⟩
  have HRS := Lib.hid hrs
  rw [hrs]
  clear hrs
  obtain ⟨k0, k1, b0⟩ := two_new w #[.int .i64 (m : Int), .slice A n c] #[.int .i64 0, .slice none 0 0] 24 24
  obtain ⟨W0, hW0⟩ : ∃ W0, (w.alloc (.cells #[.int .i64 (m : Int), .slice A n c] 24)).alloc (.cells #[.int .i64 0, .slice none 0 0] 24) = W0 := ⟨_, rfl⟩
  rw [hW0] at k0 k1 b0
  have hl := reads_len hR
  have HC := Lib.hid (check_any (m : Int) A n c zs hn W0 ((hR.below b0).more b0.size))
  rw [check_yes (rightG_iff.2 hg)] at HC
  have HCP := Lib.hid fun W (h : Below w.heap.size w W) => copied_any A n c zs (by omega) W ((hR.below h).more h.size)
  have HK0 := Lib.hid fun W (h : Below W0.heap.size W0 W) => k0.below h k0.lt
  have HK1 := Lib.hid fun W (h : Below W0.heap.size W0 W) => k1.below h k1.lt
  have HLN : Hid (zs.length ≤ 1000) := by show _ ≤ _; omega
  have hm3 : m ≤ 300 := by have := hg.nodes; omega
  have HQ := Lib.hid fun W (h : Below w.heap.size w W) (p : Ed) (hp : p ∈ zs) => inner1_any p os m Bv Oa oc W hol hm3 (hg.all p hp) (hBv.below h hBv.lt) ((hO.below h).more h.size)
  have B0 := Lib.hid b0
  have z0 := k0.cell 0
  have z1 := k0.cell 1
  clear hR k0 k1 b0 hg hl hBv hO hol hm3
  go_enter Tryd.func91, Tryd.ntmps91
  go_wp2_with fail
  clear hW0
  refine HC.out.mono ?_
  rintro e w1 ⟨rfl, b⟩
  have B1 : Hid (Below W0.heap.size W0 w1) := Lib.hid b
  have BW1 : Hid (Below w.heap.size w w1) := B0.out.trans (b.mono B0.out.size)
  clear b z0 z1 HC
  have z0 := (HK0.out _ B1.out).cell 0
  have z1 := (HK0.out _ B1.out).cell 1
  go_wp2_with fail
  refine (HCP.out _ BW1.out).mono ?_
  rintro e w2 hx
  obtain ⟨A2, c2, rfl, h1, h2, h3, h4⟩ := rows_row hx
  have B2 : Hid (Below W0.heap.size W0 w2) := B1.out.trans (h4.mono B1.out.size)
  have R2 := Lib.hid (reads_own h1)
  clear h1 h2 h3 h4 hx HCP z0 z1
  obtain ⟨q, hq⟩ : ∃ q, zs.length = q := ⟨_, rfl⟩
  rw [hq] at R2 HLN ⊢
  clear hq
  go_wp2_with fail
  refine (those_any A2 q c2 92 #[.pointer (some ⟨Bv, 0, none⟩)] w2).mono ?_
  rintro e w3 ⟨rfl, rfl⟩
  obtain ⟨W3, hW3, t0, t1, t2, t3⟩ := those_laid A2 q c2 92 #[.pointer (some ⟨Bv, 0, none⟩)] zs w2 R2.out
  rw [← hW3]
  clear hW3
  have B3 : Hid (Below W0.heap.size W0 W3) := B2.out.trans (t3.mono B2.out.size)
  have hx : ∀ W, Below W3.heap.size W3 W → Below w.heap.size w W := fun W h => B0.out.trans ((B3.out.trans (h.mono B3.out.size)).mono B0.out.size)
  have HS := Lib.hid (those_stops_inner1 9 (by omega) w2.heap.size (w2.heap.size + 1) Bv q c2 A2 zs (sameOf os) HLN.out W3 t0 t1 t2 (fun p W hp h => HQ.out W (hx W h) p hp))
  have HCO := Lib.hid (collect_any _ _ _ q HLN.out _ W3 eg_those HS.out W3 (Below.refl _ _))
  rw [HRS.out] at HCO
  clear t0 t1 t2 t3 HS hx
  go_wp2_with fail
  refine HCO.out.mono ?_
  rintro e w4 hx
  obtain ⟨A3, c3, rfl, h1, h2, h3, h4⟩ := rows_row hx
  have B4 : Hid (Below W0.heap.size W0 w4) := B3.out.trans (h4.mono B3.out.size)
  have K1 := Lib.hid (HK1.out _ B4.out)
  have z0 := (HK0.out _ B4.out).cell 0
  have z1 := (HK0.out _ B4.out).cell 1
  have q0 := K1.out.cell 0
  have q1 := K1.out.cell 1
  have q2 := K1.out.frozen 0
  have q3 := K1.out.frozen 1
  have y0 := (store2 K1.out (.int .i64 (m : Int)) (.slice A3 rs.length c3)).cell 0
  have y1 := (store2 K1.out (.int .i64 (m : Int)) (.slice A3 rs.length c3)).cell 1
  have HE : Hid (GErr (m : Int) rs 0 w (.returned (.tuple #[.agg #[.int .i64 (m : Int), .slice A3 rs.length c3], .int .i64 0])) ((w4.setCell ⟨w.heap.size + 1, 0, none⟩ (.int .i64 (m : Int))).setCell ⟨w.heap.size + 1, 1, none⟩ (.slice A3 rs.length c3))) :=
    ⟨A3, c3, rfl, own_store2 (own_base h1 (Nat.le_trans B0.out.size B3.out.size)) K1.out (by decide) _ _, h2, h3, below_store2 (B0.out.trans (B4.out.mono B0.out.size)) (Nat.le_succ _) _ _⟩
  clear h1 h2 h3 h4 hx HCO
  go_wp2_with fail
  exact bodyPost_ret (v := .tuple #[.agg #[.int .i64 (m : Int), .slice A3 rs.length c3], .int .i64 0]) (by simp [results, Tryd.results91, go_sem, y0, y1]) rfl HE.out

end Go.Proofs.YtgbpaiffnhpafaaDoor
namespace Go.Proofs.YtgbpaiffnhpafaaDoor
open Go.RowKit Go.Shelf

set_option maxRecDepth 100000 in
set_option maxHeartbeats 4000000 in
theorem inner6_any : AtG 69 InnerC := by
  rintro ⟨z, A, n, c, zs⟩ w hn ⟨hR, hnc, -, -⟩
  simp only at hn hR hnc ⊢
  obtain ⟨k0, k1, b0⟩ := two_new w #[.int .i64 z, .slice A n c] #[.int .i64 0, .slice none 0 0] 24 24
  have B0 := Lib.hid b0
  have K0 := Lib.hid k0
  have K1 := Lib.hid k1
  have z0 := k0.cell 0
  have z1 := k0.cell 1
  have HR0 := Lib.hid ((hR.below b0).more b0.size)
  cases hg : rightG z zs
  · have HC := Lib.hid (numbers_no z A n c zs hg (by omega) _ ((hR.below b0).more b0.size))
    have HG := Lib.hid hg
    clear hR k0 k1 b0 hg hnc
    go_enter Tryd.func69, Tryd.ntmps69
    go_upto_region 1 with fail
    generalize (w.alloc (.cells #[.int .i64 z, .slice A n c] 24)).alloc (.cells #[.int .i64 0, .slice none 0 0] 24) = W0 at *
    go_wp2_with fail
    refine HC.out.mono ?_
    rintro e w1 ⟨rfl, h4⟩
    have h5 := h4.alloc h4.size (.cells #[.slice none 0 0] 30)
    clear z0 z1
    go_upto_region 2 with fail
    generalize w1.alloc (.cells #[.slice none 0 0] 30) = w2 at *
    have B1 : Hid (Below w.heap.size w w2) := B0.out.trans (h5.mono B0.out.size)
    have H1 := Lib.hid (K1.out.below h5 K1.out.lt)
    have q0 := H1.out.cell 0
    have q1 := H1.out.cell 1
    have q2 := H1.out.frozen 0
    have q3 := H1.out.frozen 1
    have y0 := (store2 H1.out (.int .i64 0) (.slice none 0 0)).cell 0
    have y1 := (store2 H1.out (.int .i64 0) (.slice none 0 0)).cell 1
    have HE : Hid (InnerC z zs w (.returned (.tuple #[.agg #[.int .i64 0, .slice none 0 0], .int .i64 150])) ((w2.setCell ⟨w.heap.size + 1, 0, none⟩ (.int .i64 0)).setCell ⟨w.heap.size + 1, 1, none⟩ (.slice none 0 0))) :=
      ⟨0, [], 150, ⟨none, 0, rfl, World.ownsRow_nil _ _ _ _, Nat.le_refl _, by decide, below_store2 B1.out (Nat.le_succ _) _ _⟩, (fun e => (by rw [HG.out] at e; cases e)), fun _ => ⟨rfl, rfl, rfl⟩⟩
    clear h4 h5 HC B0 K0 K1
    go_wp2_with fail
    exact bodyPost_ret (v := .tuple #[.agg #[.int .i64 0, .slice none 0 0], .int .i64 150]) (by simp [results, Tryd.results69, go_sem, y0, y1]) rfl HE.out
  · have hgg := rightG_iff.1 hg
    have hz := hgg.nodes
    obtain ⟨m, rfl⟩ : ∃ m : Nat, z = (m : Int) := ⟨z.toNat, by omega⟩
    have HC := Lib.hid (numbers_ok (m : Int) A n c zs hgg (by omega) hnc _ ((hR.below b0).more b0.size))
    rw [Int.toNat_natCast] at HC
    have HGG := Lib.hid hgg
    clear hR k0 k1 b0 hnc hz hgg
    go_enter Tryd.func69, Tryd.ntmps69
    go_upto_region 1 with fail
    generalize (w.alloc (.cells #[.int .i64 (m : Int), .slice A n c] 24)).alloc (.cells #[.int .i64 0, .slice none 0 0] 24) = W0 at *
    go_wp2_with fail
    refine HC.out.mono ?_
    rintro e w1 ⟨ls, os, A2, c2, rfl, h1, h2, h3, h4, h5, h6⟩
    have hb1 : Below w1.heap.size w1 (w1.alloc (.cells #[.slice A2 m c2] 30)) := (Below.refl _ _).alloc (Nat.le_refl _) _
    have hb2 : Below W0.heap.size W0 (w1.alloc (.cells #[.slice A2 m c2] 30)) := h6.alloc h6.size _
    have HF := Lib.hid (filter_inner1 m A n c w1.heap.size A2 c2 os h2 zs HGG.out (by omega) _ ((HR0.out.below hb2).more hb2.size) (Blk.new _ _ _) (((Reads.of_own h3).below hb1).more hb1.size))
    have H0 := Lib.hid (K0.out.below hb2 K0.out.lt)
    have H1 := Lib.hid (K1.out.below hb2 K1.out.lt)
    have B2 : Hid (Below w.heap.size w (w1.alloc (.cells #[.slice A2 m c2] 30))) := B0.out.trans (hb2.mono B0.out.size)
    have HCO := Lib.hid h1
    clear h1 h2 h3 h4 h5 h6 hb1 hb2 z0 z1 HC B0 K0 K1 HR0
    have z0 := H0.out.cell 0
    have z1 := H0.out.cell 1
    go_upto_region 4 with fail
    generalize w1.alloc (.cells #[.slice A2 m c2] 30) = W2 at *
    go_wp2_with fail
    refine HF.out.mono ?_
    rintro e w3 ⟨A3, c3, rfl, h1, h2, h3, h4⟩
    have H3 := Lib.hid (H1.out.below h4 H1.out.lt)
    have q0 := H3.out.cell 0
    have q1 := H3.out.cell 1
    have q2 := H3.out.frozen 0
    have q3 := H3.out.frozen 1
    obtain ⟨rs, hrs⟩ : ∃ rs, zs.filter (sameOf os) = rs := ⟨_, rfl⟩
    have HRS := Lib.hid hrs
    rw [hrs] at h1 h2 ⊢
    have y0 := (store2 H3.out (.int .i64 (m : Int)) (.slice A3 rs.length c3)).cell 0
    have y1 := (store2 H3.out (.int .i64 (m : Int)) (.slice A3 rs.length c3)).cell 1
    have HE : Hid (InnerC (m : Int) zs w (.returned (.tuple #[.agg #[.int .i64 (m : Int), .slice A3 rs.length c3], .int .i64 0])) ((w3.setCell ⟨w.heap.size + 1, 0, none⟩ (.int .i64 (m : Int))).setCell ⟨w.heap.size + 1, 1, none⟩ (.slice A3 rs.length c3))) :=
      ⟨(m : Int), rs, 0, ⟨A3, c3, rfl, own_store2 (own_base h1 B2.out.size) H3.out (by decide) _ _, h2, h3, below_store2 (B2.out.trans (h4.mono B2.out.size)) (Nat.le_succ _) _ _⟩,
        fun _ => ⟨rfl, rfl, ls, os, HCO.out, HRS.out.symm⟩, fun e => by rw [hg] at e; cases e⟩
    clear h1 h2 h3 h4 hrs z0 z1 HF H0 H1 hg
    go_wp2_with fail
    exact bodyPost_ret (v := .tuple #[.agg #[.int .i64 (m : Int), .slice A3 rs.length c3], .int .i64 0]) (by simp [results, Tryd.results69, go_sem, y0, y1]) rfl HE.out
end Go.Proofs.YtgbpaiffnhpafaaDoor
namespace Go.Proofs.YtgbpaiffnhpafaaDoor
open Go.RowKit Go.Shelf
attribute [local go_sem] Oper.semAt_some

set_option maxHeartbeats 1000000 in
theorem round_any (A : Option Addr) (n c : Nat) (W : World) : Calls Tryd.prog 62 #[.slice A n c] W fun e W' => e = .returned (.bool (decide (1 < n))) ∧ W' = W := by
  go_enter Tryd.func62, Tryd.ntmps62
  go_wp2_with fail
  go_ret
  exact ⟨by simp <;> omega, rfl⟩
theorem three_new (w : World) (a b c : Array Value) (ta tb tc : TypeId) :
    Blk (((w.alloc (.cells a ta)).alloc (.cells b tb)).alloc (.cells c tc)) w.heap.size ta a ∧ Blk (((w.alloc (.cells a ta)).alloc (.cells b tb)).alloc (.cells c tc)) (w.heap.size + 1) tb b ∧ Blk (((w.alloc (.cells a ta)).alloc (.cells b tb)).alloc (.cells c tc)) (w.heap.size + 2) tc c ∧
      Below w.heap.size w (((w.alloc (.cells a ta)).alloc (.cells b tb)).alloc (.cells c tc)) := by
  obtain ⟨h0, h1, h2⟩ := two_new w a b ta tb
  have h3 := Blk.new ((w.alloc (.cells a ta)).alloc (.cells b tb)) tc c
  rw [show ((w.alloc (.cells a ta)).alloc (.cells b tb)).heap.size = w.heap.size + 2 by simp] at h3
  exact ⟨h0.alloc _, h1.alloc _, h3, h2.alloc h2.size _⟩

structure CycI (zs : List Ed) (m : Nat) (w : World) (cs : List (List Int)) (C : Nat → Prop) (W : World) : Prop where
  eq : C = fun _ => False
  b1 : Blk W (w.heap.size + 1) 4 #[.bool false]
  b2 : Blk W (w.heap.size + 2) 31 #[.int .i64 0]
  below : Below w.heap.size w W
  none : ∀ c ∈ cs, ¬ 1 < c.length

set_option maxRecDepth 100000 in
set_option maxHeartbeats 8000000 in
theorem cyclic6_any : AtG 27 CyclicC := by
  rintro ⟨z, A, n, c, zs⟩ w hn ⟨hR, hnc, -, -⟩
  simp only at hn hR hnc ⊢
  obtain ⟨k0, k1, k2, b0⟩ := three_new w #[.int .i64 z, .slice A n c] #[.bool false] #[.int .i64 0] 24 4 31
  have B0 := Lib.hid b0
  have K1 := Lib.hid k1
  have K2 := Lib.hid k2
  have z0 := k0.cell 0
  have z1 := k0.cell 1
  cases hg : rightG z zs
  · have HC := Lib.hid (components_no z A n c zs hg (by omega) _ ((hR.below b0).more b0.size))
    have HG := Lib.hid hg
    clear hR k0 k1 k2 b0 hg hnc
    go_enter Tryd.func27, Tryd.ntmps27
    go_upto_region 1 with fail
    generalize ((w.alloc (.cells #[.int .i64 z, .slice A n c] 24)).alloc (.cells #[.bool false] 4)).alloc (.cells #[.int .i64 0] 31) = W0 at *
    go_wp2_with fail
    refine HC.out.mono ?_
    rintro e w1 ⟨rfl, h4⟩
    have B1 : Hid (Below w.heap.size w w1) := B0.out.trans (h4.mono B0.out.size)
    have H1 := Lib.hid (K1.out.below h4 K1.out.lt)
    have H2 := Lib.hid (K2.out.below h4 K2.out.lt)
    have q1 := H1.out.cell 0
    have q2 := H2.out.cell 0
    have q3 := H1.out.frozen 0
    have q4 := H2.out.frozen 0
    have e1 : Blk ((w1.setCell ⟨w.heap.size + 1, 0, none⟩ (.bool false)).setCell ⟨w.heap.size + 2, 0, none⟩ (.int .i64 150)) (w.heap.size + 1) 4 #[.bool false] := by
      have := (H1.out.set_ 0 (.bool false)).far (p := ⟨w.heap.size + 2, 0, none⟩) (by simp) (.int .i64 150)
      simpa using this
    have e2 : Blk ((w1.setCell ⟨w.heap.size + 1, 0, none⟩ (.bool false)).setCell ⟨w.heap.size + 2, 0, none⟩ (.int .i64 150)) (w.heap.size + 2) 31 #[.int .i64 150] := by
      have := (H2.out.far (p := ⟨w.heap.size + 1, 0, none⟩) (by simp) (.bool false)).set_ 0 (.int .i64 150)
      simpa using this
    have y1 := e1.cell 0
    have y2 := e2.cell 0
    have HE : Hid (CyclicC z zs w (.returned (.tuple #[.bool false, .int .i64 150])) ((w1.setCell ⟨w.heap.size + 1, 0, none⟩ (.bool false)).setCell ⟨w.heap.size + 2, 0, none⟩ (.int .i64 150))) :=
      ⟨false, 150, rfl, (B1.out.setCell (p := ⟨w.heap.size + 1, 0, none⟩) (Nat.le_succ _) _).setCell (p := ⟨w.heap.size + 2, 0, none⟩) (by show w.heap.size ≤ w.heap.size + 2; omega) _, (fun e => (by rw [HG.out] at e; cases e)), fun _ => ⟨rfl, rfl⟩⟩
    clear h4 z0 z1 HC B0 K1 K2 e1 e2
    go_wp2_with fail
    exact bodyPost_ret (v := .tuple #[.bool false, .int .i64 150]) (by simp [results, Tryd.results27, go_sem, y1, y2]) rfl HE.out
  · have hgg := rightG_iff.1 hg
    have hz := hgg.nodes
    obtain ⟨m, rfl⟩ : ∃ m : Nat, z = (m : Int) := ⟨z.toNat, by omega⟩
    have hm3 : m ≤ 300 := by omega
    have HC := Lib.hid (components_ok (m : Int) A n c zs hgg (by omega) hnc _ ((hR.below b0).more b0.size))
    rw [Int.toNat_natCast] at HC
    have HGG := Lib.hid hgg
    clear hR k0 k1 k2 b0 hnc hz hgg hg
    refine (callsIn_wide (n := 6)).1 (callsIn_of_wp_marks Tryd.func27 rfl trivial ?_ rfl)
    simp only [Tryd.ntmps27, List.size_toArray, List.length_cons, List.length_nil, Nat.reduceAdd, Nat.reduceSub, Array.replicate_succ, Array.replicate_zero, List.push_toArray, List.append_toArray, List.nil_append, List.cons_append]
    gi_upto_region 1 with fail
    generalize ((w.alloc (.cells #[.int .i64 (m : Int), .slice A n c] 24)).alloc (.cells #[.bool false] 4)).alloc (.cells #[.int .i64 0] 31) = W0 at *
    gi_wp2_with fail
    refine ⟨trivial, (callsIn_wide.2 HC.out).mono ?_⟩
    rintro e w1 ⟨lb, rfl, hseq, h4⟩
    have B1 : Hid (Below w.heap.size w w1) := B0.out.trans (h4.mono B0.out.size)
    have H1 := Lib.hid (K1.out.below h4 K1.out.lt)
    have H2 := Lib.hid (K2.out.below h4 K2.out.lt)
    have HSEQ := Lib.hid hseq
    clear hseq h4 z0 z1 HC B0 K1 K2
    gi_wp2_with fail
    refine range_parts (by omega) (gf := 82) (lb := lb) rfl eg_comps (zs := zs) (m := m) (w1 := w1) (HSEQ.out 5) (Below.refl _ _) rfl (CycI zs m w)
      (fun W => Blk W (w.heap.size + 1) 4 #[.bool true] ∧ Blk W (w.heap.size + 2) 31 #[.int .i64 0] ∧ Below w.heap.size w W ∧ ∃ v : Nat, Leads zs (v : Int) (v : Int)) (fun _ => False)
      (fun k hk => hk.elim) ⟨rfl, H1.out, H2.out, B1.out, by simp⟩ ?hI ?hIx (fun v => { tmps := #[Value.agg #[.int .i64 (m : Int), .slice A n c], .pointer (some ⟨w.heap.size, 0, none⟩), .pointer (some ⟨w.heap.size + 1, 0, none⟩), .pointer (some ⟨w.heap.size + 1 + 1, 0, none⟩), Value.func (.func 82) #[] lb, .int .i64 0, v, Value.tuple #[.func (.func 82) #[] lb, .int .i64 0], Value.agg #[.int .i64 (m : Int), .slice A n c], Value.tuple #[.func (.func 82) #[] lb, .int .i64 0], Value.func (.func 82) #[] lb, .int .i64 0, .int .i64 0, .bool false, undef, Value.func (.func 82) #[] lb, v, undef, undef], defers := [] }) ?assign ?body ?done ?stop
    case hI =>
      intro cs C X Y h hk
      have h1 := H1.out.lt
      have h2 := H2.out.lt
      exact ⟨h.eq, hk.blk h.b1 (.inl h1), hk.blk h.b2 (.inl h2), h.below.trans (hk.below h.below.size fun j hj => .inl (by omega)), h.none⟩
    case hIx =>
      rintro X Y ⟨g1, g2, g3, g4⟩ hk
      have h1 := H1.out.lt
      have h2 := H2.out.lt
      exact ⟨hk.blk g1 h1, hk.blk g2 h2, g3.trans (hk.below g3.size fun j hj => by show j < w1.heap.size; omega), g4⟩
    case assign =>
      intro l v W K hK
      gi_wp2
      exact hK
    case body =>
      intro l cs c2 C X b o hI hpi hR hCb hCk hsz
      have HI := Lib.hid hI
      have HPI := Lib.hid hpi
      have HRA := Lib.hid (round_any (some ⟨b, o, none⟩) c2.length c2.length X)
      clear hI hpi hR hCb hCk
      gi_wp2_with fail
      refine ⟨trivial, ((callsIn_wide.2 HRA.out).inRound l).mono ?_⟩
      rintro e X2 ⟨rfl, rfl⟩
      by_cases h1 : 1 < c2.length
      · have hd : decide (1 < c2.length) = true := by simp [h1]
        rw [hd]
        have q1 := HI.out.b1.cell 0
        have q2 := HI.out.b2.cell 0
        have q3 := HI.out.b1.frozen 0
        have q4 := HI.out.b2.frozen 0
        have e1 : Hid (Blk ((X2.setCell ⟨w.heap.size + 1, 0, none⟩ (.bool true)).setCell ⟨w.heap.size + 2, 0, none⟩ (.int .i64 0)) (w.heap.size + 1) 4 #[.bool true]) := by
          unfold Hid
          have := (HI.out.b1.set_ 0 (.bool true)).far (p := ⟨w.heap.size + 2, 0, none⟩) (by simp) (.int .i64 0)
          simpa using this
        have e2 : Hid (Blk ((X2.setCell ⟨w.heap.size + 1, 0, none⟩ (.bool true)).setCell ⟨w.heap.size + 2, 0, none⟩ (.int .i64 0)) (w.heap.size + 2) 31 #[.int .i64 0]) := by
          unfold Hid
          have := (HI.out.b2.far (p := ⟨w.heap.size + 1, 0, none⟩) (by simp) (.bool true)).set_ 0 (.int .i64 0)
          simpa using this
        have e3 : Hid (Below w.heap.size w ((X2.setCell ⟨w.heap.size + 1, 0, none⟩ (.bool true)).setCell ⟨w.heap.size + 2, 0, none⟩ (.int .i64 0))) :=
          (HI.out.below.setCell (p := ⟨w.heap.size + 1, 0, none⟩) (Nat.le_succ _) _).setCell (p := ⟨w.heap.size + 2, 0, none⟩) (by show w.heap.size ≤ w.heap.size + 2; omega) _
        have e4 : Hid (∃ v : Nat, Leads zs (v : Int) (v : Int)) := by
          have hm : c2 ∈ cs ++ [c2] := by simp
          obtain ⟨x, hx⟩ := List.exists_mem_of_ne_nil _ (HPI.out.some c2 hm)
          obtain ⟨v, rfl, _⟩ := HPI.out.nat hm hx
          exact ⟨v, (HPI.out.round HGG.out.all hm hx).1 h1⟩
        have e5 : Hid (Keep (fun k => w1.heap.size ≤ k ∧ ¬ C k) X2 ((X2.setCell ⟨w.heap.size + 1, 0, none⟩ (.bool true)).setCell ⟨w.heap.size + 2, 0, none⟩ (.int .i64 0))) :=
          ((Keep.refl _ _).set (.inr fun h => by have := H1.out.lt; omega) _ _).set (.inr fun h => by have := H2.out.lt; omega) _ _
        clear hd h1
        gi_wp2_with fail
        exact .inr ⟨rfl, e5.out, e1.out, e2.out, e3.out, e4.out⟩
      · have hd : decide (1 < c2.length) = false := by simp; omega
        rw [hd]
        have HI2 : Hid (CycI zs m w (cs ++ [c2]) C X2) := ⟨HI.out.eq, HI.out.b1, HI.out.b2, HI.out.below, fun d hm => by
          rcases List.mem_append.1 hm with hm | hm
          · exact HI.out.none d hm
          · simp at hm; subst hm; exact h1⟩
        clear hd h1
        gi_wp2_with fail
        exact .inl ⟨C, fun k hk => by rw [HI2.out.eq] at hk; exact hk.elim, Keep.refl _ _, rfl, HI2.out⟩
    case done =>
      intro cs C D W hD hall hI hdef
      have q1 := hI.b1.cell 0
      have q2 := hI.b2.cell 0
      have q3 := hI.b1.frozen 0
      have q4 := hI.b2.frozen 0
      have HDL : Hid (D ≠ w.heap.size + 1 ∧ D ≠ w.heap.size + 2 ∧ w.heap.size < D) := by have := H1.out.lt; have := H2.out.lt; show _ ∧ _ ∧ _; omega
      have HI := Lib.hid hI
      have HALL := Lib.hid hall
      have HDF : Hid (((W.setCell ⟨w.heap.size + 1, 0, none⟩ (.bool false)).setCell ⟨w.heap.size + 2, 0, none⟩ (.int .i64 0)).heap[D]? = some (.deferred (some []))) :=
        ((Below.heap_setCell _ ⟨w.heap.size + 2, 0, none⟩ _ D HDL.out.2.1).trans (Below.heap_setCell W ⟨w.heap.size + 1, 0, none⟩ _ D HDL.out.1)).trans hdef
      clear hD hall hI hdef
      gi_wp2_with fail
      refine ⟨by simp, .inl ⟨_, _, rfl, run_takeDeferred HDF.out, ?_⟩⟩
      have hk2 : ∀ o, Keep (fun k => k ≠ D) ((W.setCell ⟨w.heap.size + 1, 0, none⟩ (.bool false)).setCell ⟨w.heap.size + 2, 0, none⟩ (.int .i64 0)) (((W.setCell ⟨w.heap.size + 1, 0, none⟩ (.bool false)).setCell ⟨w.heap.size + 2, 0, none⟩ (.int .i64 0)).putObj D o) := fun o => (Keep.refl _ _).put (.inr fun h => h rfl) o
      have e1 : Blk ((W.setCell ⟨w.heap.size + 1, 0, none⟩ (.bool false)).setCell ⟨w.heap.size + 2, 0, none⟩ (.int .i64 0)) (w.heap.size + 1) 4 #[.bool false] := by
        have := (HI.out.b1.set_ 0 (.bool false)).far (p := ⟨w.heap.size + 2, 0, none⟩) (by simp) (.int .i64 0)
        simpa using this
      have e2 : Blk ((W.setCell ⟨w.heap.size + 1, 0, none⟩ (.bool false)).setCell ⟨w.heap.size + 2, 0, none⟩ (.int .i64 0)) (w.heap.size + 2) 31 #[.int .i64 0] := by
        have := (HI.out.b2.far (p := ⟨w.heap.size + 1, 0, none⟩) (by simp) (.bool false)).set_ 0 (.int .i64 0)
        simpa using this
      have e3 : Below w.heap.size w ((W.setCell ⟨w.heap.size + 1, 0, none⟩ (.bool false)).setCell ⟨w.heap.size + 2, 0, none⟩ (.int .i64 0)) :=
        (HI.out.below.setCell (p := ⟨w.heap.size + 1, 0, none⟩) (Nat.le_succ _) _).setCell (p := ⟨w.heap.size + 2, 0, none⟩) (by show w.heap.size ≤ w.heap.size + 2; omega) _
      have y1 := fun o => ((hk2 o).blk e1 (Ne.symm HDL.out.1)).cell 0
      have y2 := fun o => ((hk2 o).blk e2 (Ne.symm HDL.out.2.1)).cell 0
      have hb6 := fun o => e3.trans ((hk2 o).below e3.size fun j hj => by have := HDL.out.2.2; omega)
      exact ⟨.tuple #[.bool false, .int .i64 0], by simp [results, Tryd.results27, go_sem, y1, y2], false, 0, rfl, hb6 _, fun _ => ⟨rfl, (fun e => (by cases e)), fun h => by
        obtain ⟨c3, hc3, hl3⟩ := (HALL.out.cyclic HGG.out.all).2 h
        exact absurd hl3 (HI.out.none c3 hc3)⟩, fun e => by rw [rightG_iff.2 HGG.out] at e; cases e⟩
    case stop =>
      rintro D W hD ⟨g1, g2, g3, g4⟩ hdef
      have HDL : Hid (D ≠ w.heap.size + 1 ∧ D ≠ w.heap.size + 2 ∧ w.heap.size < D) := by have := H1.out.lt; have := H2.out.lt; show _ ∧ _ ∧ _; omega
      have HDF := Lib.hid hdef
      have G := Lib.hid (And.intro g1 (And.intro g2 (And.intro g3 g4)))
      clear hD g1 g2 g3 g4 hdef
      gi_wp2_with fail
      refine ⟨by simp, .inl ⟨_, _, rfl, run_takeDeferred HDF.out, ?_⟩⟩
      obtain ⟨g1, g2, g3, g4⟩ := G.out
      have hk2 : ∀ o, Keep (fun k => k ≠ D) W (W.putObj D o) := fun o => (Keep.refl _ _).put (.inr fun h => h rfl) o
      have y1 := fun o => ((hk2 o).blk g1 (Ne.symm HDL.out.1)).cell 0
      have y2 := fun o => ((hk2 o).blk g2 (Ne.symm HDL.out.2.1)).cell 0
      have hb6 := fun o => g3.trans ((hk2 o).below g3.size fun j hj => by have := HDL.out.2.2; omega)
      exact ⟨.tuple #[.bool true, .int .i64 0], by simp [results, Tryd.results27, go_sem, y1, y2], true, 0, rfl, hb6 _, fun _ => ⟨rfl, fun _ => g4, fun _ => rfl⟩, fun e => by rw [rightG_iff.2 HGG.out] at e; cases e⟩
end Go.Proofs.YtgbpaiffnhpafaaDoor
