/- Law OrderSame: its walk. -/
import Derived.Test.YtldjffeecbegjaaOh
import Derived.Test.YtldjffeecbegjaaOr
import Derived.Test.YtldjffeecbegjaaOi
import Derived.Deep.CutBlock
namespace Go.Proofs.Ytldjffeecbegjaa
open Go.RowKit Go.Maps

theorem places_up (ps : List Pr) (h : ∀ (i : Nat) (p : Pr), ps[i]? = some p → p.2 = (i : Int)) : ps.Pairwise fun p q => p.2 < q.2 := by
  rw [List.pairwise_iff_getElem]
  intro i j hi hj hij
  rw [h i _ (List.getElem?_eq_getElem hi), h j _ (List.getElem?_eq_getElem hj)]
  omega
/-- Of those of one key the places go up. -/
theorem stable_next (ps : List Pr) (h : ∀ (i : Nat) (p : Pr), ps[i]? = some p → p.2 = (i : Int)) {i : Nat} {q p : Pr} (hq : (srt ltP ps)[i]? = some q) (hp : (srt ltP ps)[i + 1]? = some p) : q.1 < p.1 ∨ q.1 = p.1 ∧ q.2 < p.2 := by
  obtain ⟨i1, e1⟩ := List.getElem?_eq_some_iff.1 hq
  obtain ⟨i2, e2⟩ := List.getElem?_eq_some_iff.1 hp
  have ho := List.pairwise_iff_getElem.1 (srt_order ltP_ahead ps) i (i + 1) i1 i2 (by omega)
  rw [e1, e2] at ho
  have hle : ¬ p.1 < q.1 := by simpa [ltP] using ho
  rcases Int.lt_or_eq_of_le (show q.1 ≤ p.1 by omega) with hlt | heq
  · exact .inl hlt
  · refine .inr ⟨heq, ?_⟩
    have hf : ((srt ltP ps).filter (alike ltP p)).Pairwise fun p q => p.2 < q.2 := by
      rw [srt_alike ltP_ahead]
      exact (places_up ps h).sublist List.filter_sublist
    rw [List.pairwise_filter] at hf
    have := List.pairwise_iff_getElem.1 hf i (i + 1) i1 i2 (by omega)
    rw [e1, e2] at this
    exact this (by unfold alike ltP; simp; omega) (alike_self ltP_ahead p)
theorem srt_count (ps : List Pr) (p : Pr) : (srt ltP ps).count p = ps.count p := by
  rw [← List.count_filter (l := srt ltP ps) (alike_self ltP_ahead p), srt_alike ltP_ahead, List.count_filter (alike_self ltP_ahead p)]

/-- What a map tells of pairs. -/
def CntIs (D : DataW Unit) (f : Pr → Int) : Prop := ∀ p, wfP p → D.atKey (keyP p) (.lit (.int .i64 0)) = .lit (.int .i64 (f p))
theorem cnt_none : CntIs (.map []) fun _ => 0 := fun _ _ => rfl
theorem cnt_put {D : DataW Unit} {f g : Pr → Int} {y : Pr} {c : Int} (h : CntIs D f) (hD : IsMap D) (hy : wfP y) (h1 : g y = c) (h2 : ∀ p, p ≠ y → g p = f p) : CntIs (D.put (keyP y) (.lit (.int .i64 c))) g := fun p hp => by
  by_cases e : p = y
  · subst e
    rw [atKey_put_same hD (keyP_is p), h1]
  · rw [atKey_put_other (keyP_ne hp hy e), h p hp, h2 p e]
theorem count_take (l : List Pr) (k : Nat) (y p : Pr) (h : l[k]? = some y) : (l.take (k + 1)).count p = (l.take k).count p + if p = y then 1 else 0 := by
  obtain ⟨hk, rfl⟩ := List.getElem?_eq_some_iff.1 h
  rw [List.take_succ_eq_append_getElem hk, List.count_append, List.count_singleton]
  congr 1
  by_cases e : p = l[k]
  · simp [e]
  · rw [if_neg e, if_neg (by simpa using fun h => e h.symm)]
theorem zeroInt (w : World) : (zeroValue 3).run Try.prog w = .ok (.int .i64 0) w := by kernel_rfl

/-- Places are laid as far as k. -/
structure Laid (B : Nat) (A : Option Addr) (n c k : Nat) (wr : World) : Prop where
  row : ∃ ps : List Pr, ps.length = n ∧ allP ps ∧ wr.ownsRow B 27 2 (.slice A n c) n (cellsP ps) ∧ ∀ (i : Nat) (p : Pr), ps[i]? = some p → i < k → p.2 = (i : Int)
theorem cellsP_set2 (v : Int) : ∀ (ps : List Pr) (k : Nat) (p : Pr), ps[k]? = some p → (cellsP ps).set (k * 2 + 1) (.int .i64 v) = cellsP (ps.set k (p.1, v))
  | [], k, p, h => by simp at h
  | q :: ps, 0, p, h => by
    simp at h
    subst h
    rfl
  | q :: ps, k + 1, p, h => by
    simp only [List.getElem?_cons_succ] at h
    rw [List.set_cons_succ, cellsP_cons, cellsP_cons, ← cellsP_set2 v ps k p h, Nat.succ_mul, show k * 2 + 2 + 1 = k * 2 + 1 + 1 + 1 from rfl]
    rfl
theorem Laid.cell {B : Nat} {A : Option Addr} {n c k : Nat} {wr : World} (h : Laid B A n c k wr) (hk : k < n) (hn : n ≤ 60) : ∃ (g : Nat) (u : Int), A = some ⟨g, 0, none⟩ ∧ B ≤ g ∧ wr.cell? ⟨g, k * 2 + 1, none⟩ = some (.int .i64 u) ∧ wr.frozen? ⟨g, k * 2 + 1, none⟩ = false ∧
    Laid B A n c (k + 1) (wr.setCell ⟨g, k * 2 + 1, none⟩ (.int .i64 k)) ∧ wr.grownBy (wr.setCell ⟨g, k * 2 + 1, none⟩ (.int .i64 k)) (some g) := by
  obtain ⟨ps, hl, hall, ho, hpl⟩ := h.row
  obtain ⟨p, hp⟩ : ∃ p, ps[k]? = some p := ⟨ps[k]'(by omega), List.getElem?_eq_getElem _⟩
  have ho2 := ho
  rcases ho2.2 with ⟨_, h0⟩ | ⟨g, cap, cur, hv, hb, _⟩
  · omega
  · injection hv with h1 h2 h3
    subst h1
    obtain ⟨s1, s2⟩ := ho.stored (k * 2 + 1) (.int .i64 k)
    refine ⟨g, p.2, rfl, hb, ?_, ho.frozenAt _, ⟨ps.set k (p.1, (k : Int)), by rw [List.length_set]; exact hl, fun q hq => ?_, by rw [cellsP_set2 _ _ _ _ hp] at s1; exact s1, fun i q hq hi => ?_⟩, s2⟩
    · rw [ho.cellAt _ (by omega)]
      exact (cellsP_at hp).2
    · rcases List.mem_or_eq_of_mem_set hq with hq | rfl
      · exact hall q hq
      · exact ⟨(hall p (List.mem_of_getElem? hp)).1, by simp; omega⟩
    · rw [List.getElem?_set] at hq
      split at hq
      · rename_i e
        subst e
        split at hq
        · injection hq with hq
          rw [← hq]
        · cases hq
      · exact hpl i q hq (by omega)

set_option maxRecDepth 100000 in
set_option maxHeartbeats 8000000 in
theorem same_core (A : Option Addr) (n c : Nat) (xs : List Pr) (hx : allP xs) (hc : A = none → c = 0) (hnc : n ≤ c) (hcm : c ≤ 9223372036854775807) (w : World) (hR : Reads w w.heap.size 2 A n (cellsP xs)) :
    Calls Try.prog 6 #[.slice A n c] w fun e w' => e = .returned (.bool true) ∧ Below w.heap.size w w' := by
  obtain ⟨na, hna⟩ : ∃ na, min n 60 = na := ⟨_, rfl⟩
  have ha60 : na ≤ 60 := by omega
  have HF := Lib.hid fun (W : World) (b : Below w.heap.size w W) => few_any A n c xs hc hnc hcm W ((hR.below b).more b.size)
  have hxa : allP (xs.take 60) := fun p hp => hx p (List.mem_of_mem_take hp)
  have hmm := @run_makeMap Try.prog
  rw [hna] at HF
  have HXA := Lib.hid hxa
  clear hna hxa hR hc hcm hnc hx
  go_enter Try.func6, Try.ntmps6
  go_wp2_with fail
  refine (wakes_order _).mono ?_
  rintro e w1 ⟨rfl, b1⟩
  have B1 := Lib.hid b1
  clear b1
  go_wp2_with fail
  refine (HF.out _ B1.out).mono ?_
  rintro e w2 ⟨A2, c2, rfl, o2, k2, k3, b2⟩
  have B2 : Hid (Below w.heap.size w w2) := B1.out.trans (b2.mono B1.out.size)
  have L2 : Hid (Laid w.heap.size A2 na c2 0 w2) := ⟨⟨xs.take 60, reads_len (reads_own o2), HXA.out, own_base o2 B1.out.size, fun i p _ hi => absurd hi (by omega)⟩⟩
  clear o2 b2 B1 HF HXA
  go_wp2_with fail
  go_loopg [19] na (fun gg s19 wr => ∃ i : Nat, i + gg = na ∧ s19 = .int .i64 i ∧ Hid (Laid w.heap.size A2 na c2 i wr) ∧ Hid (Below w.heap.size w wr))
  case atStart => exact ⟨0, by omega, rfl, L2, B2⟩
  case round =>
    obtain ⟨i, hig, rfl, HL, HB⟩ := hrel
    cases gk with
    | succ g2 =>
      have hlt : (i : Int) < (na : Int) := by omega
      have hi0 : (0 : Int) ≤ (i : Int) := by omega
      obtain ⟨g, u, rfl, hbg, g0, z0, hl2, hg2⟩ := HL.out.cell (show i < na by omega) ha60
      have HL2 := Lib.hid hl2
      have HB2 : Hid (Below w.heap.size w (wr.setCell ⟨g, i * 2 + 1, none⟩ (.int .i64 i))) := HB.out.setCell (p := ⟨g, i * 2 + 1, none⟩) hbg _
      have HIG := Lib.hid hig
      clear hl2 hg2 hig
      go_wp2_with fail
      go_roundg g2
      case measure => omega
      case rel => exact ⟨i + 1, by have := HIG.out; omega, by go_num, HL2, HB2⟩
    | zero =>
      have hge : ¬ (i : Int) < (na : Int) := by omega
      obtain ⟨ps, hpl, hall, hown, hpp⟩ := HL.out.row
      have hpp2 : ∀ (j : Nat) (p : Pr), ps[j]? = some p → p.2 = (j : Int) := fun j p hp => hpp j p hp (by have := (List.getElem?_eq_some_iff.1 hp).1; omega)
      have HPP := Lib.hid hpp2
      have HPA := Lib.hid hall
      have HPL := Lib.hid hpl
      have RA := Lib.hid (reads_own hown)
      clear hpl hall hown hpp hpp2 hig L2 B2 HL
      go_wp2_with fail
      refine (sort_any A2 na c2 ps (by omega) wr RA.out).mono ?_
      rintro e w4 ⟨h3, rfl, o4, b4⟩
      have B4 : Hid (Below w.heap.size w w4) := HB.out.trans (b4.mono HB.out.size)
      have R4 := Lib.hid ((RA.out.below b4).more b4.size)
      have S4 := Lib.hid o4.reads
      have HSL := Lib.hid o4.2.1
      clear o4 b4 RA HB
      have HSN := Lib.hid fun (i : Nat) (q p : Pr) => stable_next ps HPP.out (i := i) (q := q) (p := p)
      have HSC := Lib.hid fun p => srt_count ps p
      have HSA : Hid (allP (srt ltP ps)) := fun p hp => HPA.out p ((mem_srt ltP_ahead p ps).1 hp)
      generalize srt ltP ps = S at *
      have M0 : Hid ((w4.alloc (.map #[] 0)).ownsMap (H := Unit) Try.prog 27 (plainElem Try.prog 3) w4.heap.size 0 (.map [])) := World.ownsMap_made _ _ _ _
      have BM : Hid (Below w.heap.size w (w4.alloc (.map #[] 0))) := B4.out.alloc B4.out.size _
      have RM : Hid (Reads (w4.alloc (.map #[] 0)) w4.heap.size 2 A2 na (cellsP ps)) := R4.out.alloc (Nat.le_refl _) _
      have SM : Hid (Reads (w4.alloc (.map #[] 0)) w4.heap.size 2 (some ⟨h3, 0, none⟩) na (cellsP S)) := S4.out.alloc (Nat.le_refl _) _
      have hwB : w.heap.size ≤ w4.heap.size := B4.out.size
      obtain ⟨B, hB⟩ : ∃ B, w4.heap.size = B := ⟨_, rfl⟩
      rw [hB] at M0 RM SM hwB
      clear R4 S4 B4
      go_wp2_with fail
      clear hB hmm
      generalize w4.alloc (.map #[] 0) = wm at *
      have hBm : B < wm.heap.size := M0.out.lt
      have C0 : Hid (CntIs (.map []) fun p => ((S.take 0).count p : Int)) := by simpa [Hid] using cnt_none
      go_loopg [33] na (fun gg s33 wr => ∃ (i : Nat) (D : DataW Unit), i + gg = na ∧ s33 = .int .i64 i ∧ Hid (wr.ownsMap Try.prog 27 (plainElem Try.prog 3) B i D) ∧ Hid (CntIs D fun p => ((S.take i).count p : Int)) ∧ Hid (wm.grownBy wr (some B)))
      case atStart => exact ⟨0, _, by omega, rfl, M0, C0, World.grownBy.refl _ _⟩
      case round =>
        clear M0 C0
        obtain ⟨i, D, hig, rfl, HM, HC, HG⟩ := hrel
        cases gk with
        | zero =>
          have hge : ¬ (i : Int) < (na : Int) := by omega
          have hin : i = na := by omega
          have HCF : Hid (CntIs D fun p => (S.count p : Int)) := by
            have := HC.out
            rw [List.take_of_length_le (by rw [HSL.out]; omega)] at this
            exact this
          have HMF := Lib.hid (HM.out.mono (show i ≤ na by omega))
          clear hin hig
          clear HM HC
          go_wp2_with fail
          have HGM := HG
          clear HG SM
          go_loopg [82] na (fun gg s82 wr => ∃ (j : Nat) (E : DataW Unit), j + gg = na ∧ s82 = .int .i64 j ∧ Hid (wr.ownsMap Try.prog 27 (plainElem Try.prog 3) B (na + j) E) ∧ Hid (CntIs E fun p => (S.count p : Int) - ((ps.take j).count p : Int)) ∧ Hid (wm.grownBy wr (some B)))
          case atStart => exact ⟨0, D, by omega, rfl, HMF, by simpa [Hid] using HCF.out, HGM⟩
          case round =>
            clear HMF HCF HGM
            obtain ⟨j, E, hjg, rfl, HM, HC, HG⟩ := hrel
            cases gk with
            | zero =>
              have hge2 : ¬ (j : Int) < (na : Int) := by omega
              have HCF : Hid (CntIs E fun _ => 0) := fun p hp => by
                have := HC.out p hp
                rw [this, List.take_of_length_le (by rw [HPL.out]; omega)]
                show DataW.lit (.int .i64 ((S.count p : Int) - (ps.count p : Int))) = _
                rw [HSC.out p, Int.sub_self]
              have HBW : Hid (Below w.heap.size w wr) := BM.out.grown HG.out (Nat.le_trans hwB (Nat.le_of_lt hBm)) (fun g hg => by injection hg with hg; omega)
              clear hjg HC HG RM
              obtain ⟨rr, hrr⟩ : ∃ rr, wr.heap.size = rr := ⟨_, rfl⟩
              have hszw := HBW.out.size
              go_wp2_with (at_range; refine wpList_range_own _ rfl _ 43 rfl 27 3 pairKeyed Try.underlying43 _ B (na + j) E rfl HM.out ?_; intro w0 hrg0 hg0 hs0; go_frame)
              rw [hrr] at hrg0
              have HR0 := Lib.hid hrg0
              have HB0 : Hid (Below w.heap.size w w0) := HBW.out.grown hg0 hszw (fun g hg => by cases hg)
              have hrw : w.heap.size ≤ rr := by rw [← hrr]; exact hszw
              clear hrg0 hg0 hs0 HM hrr
              go_loopg [12] (Maps.size E) (fun gg s12 wr => ∃ left : Lit → Bool, Hid (wr.ranges Try.prog 27 (plainElem Try.prog 3) B rr (na + j) E left gg) ∧ Hid (Below w.heap.size w wr))
              case atStart => exact ⟨_, HR0, HB0⟩
              case round =>
                clear HR0 HB0
                obtain ⟨left, HRG, HBB⟩ := hrel
                go_wp2_with (at_next; refine wpList_next_ranges _ rfl _ rfl 27 pairKeyed (plainElem Try.prog 3) agP (Value.int .i64) (fun key kl h => (keyOf_pr_inv h).imp fun p hp => hp.1) (fun v y h => by obtain ⟨c, rfl, _⟩ := plainElem_int_inv Try.underlying3 h; exact ⟨c, rfl⟩) B rr (na + j) E left gk rfl HRG.out ?_ ?_)
                · intro _ _
                  go_wp2_with fail
                  go_ret
                  exact ⟨by simp, HBB.out⟩
                · intro xa xb cv kl yd yp w5 cnt5 hkey _ hv hat hrg5 hlt5 hg5 _ hen
                  have hcz : cv = 0 := by
                    obtain ⟨x', hx, hwf, hkl⟩ := keyOf_pr_inv hkey
                    obtain ⟨c', hc', hy, _⟩ := plainElem_int_inv Try.underlying3 hv
                    have h1 := hat (.lit (.int .i64 0))
                    injection hy with hy _
                    rw [hkl, HCF.out x' hwf, hy] at h1
                    injection hc' with _ hc'
                    injection h1 with h1
                    injection h1 with _ h1
                    rw [hc', ← h1]
                  subst hcz
                  have HR5 := Lib.hid hrg5
                  have HB5 : Hid (Below w.heap.size w w5) := HBB.out.grown hg5 HBB.out.size (fun g hg => by injection hg with hg; omega)
                  clear hkey hv hat hrg5 hg5
                  go_wp2_with fail
                  go_roundg cnt5
                  case measure => exact hlt5
                  case rel => exact ⟨_, HR5, HB5⟩
            | succ g3 =>
              have hjl : (j : Int) < (na : Int) := by omega
              have hj0 : (0 : Int) ≤ (j : Int) := by omega
              have SR : Hid (Reads wr B 2 A2 na (cellsP ps)) := RM.out.grown HG.out (by omega) (fun g hg => by injection hg with hg; omega)
              obtain ⟨p, hp⟩ : ∃ p, ps[j]? = some p := ⟨ps[j]'(by rw [HPL.out]; omega), List.getElem?_eq_getElem _⟩
              obtain ⟨b, o, rfl, hb, g0, g1⟩ := pr_at SR.out hp
              have hwf : wfP p := ⟨WalkArith.wf_i64 (HPA.out p (List.mem_of_getElem? hp)).1, WalkArith.wf_i64 (HPA.out p (List.mem_of_getElem? hp)).2⟩
              have HIG := Lib.hid hjg
              have HP := Lib.hid hp
              have HX := Lib.hid (Blk.new wr 27 #[.int .i64 p.1, .int .i64 p.2])
              have HM1 := Lib.hid (HM.out.alloc (.cells #[.int .i64 p.1, .int .i64 p.2] 27))
              have HG1 := Lib.hid (alloc_only HG.out (.cells #[.int .i64 p.1, .int .i64 p.2] 27))
              obtain ⟨X, hX⟩ : ∃ X, wr.heap.size = X := ⟨_, rfl⟩
              rw [hX] at HX
              clear hjg hp
              go_upto_region 21 with fail
              clear g0 g1 hX SR HM HG
              generalize wr.alloc (.cells #[.int .i64 p.1, .int .i64 p.2] 27) = wz at *
              obtain ⟨cc, v0, st, wq, hat, _, hl, hme, hl1, hgq, hst⟩ := bump pairLaw Try.underlying43 Try.underlying3 zeroInt HM1.out.drew (by unfold maxLen; omega) (show keyOf _ _ (.agg #[.int .i64 p.1, .int .i64 p.2]) = _ from keyOf_pr p hwf)
              have hcc : cc = (S.count p : Int) - ((ps.take j).count p : Int) := by
                have := HC.out p hwf
                rw [hat] at this
                injection this with this
                injection this
              have hcn : (ps.take j).count p ≤ j := Nat.le_trans List.count_le_length (by rw [List.length_take]; omega)
              have hcs : S.count p ≤ na := Nat.le_trans List.count_le_length (by rw [HSL.out]; omega)
              have hc0 : -60 ≤ cc := by omega
              have hc1 : cc ≤ 60 := by omega
              obtain ⟨w2, hs2, hm2, hg2⟩ := hst (cc - 1) (WalkArith.wf_i64 (by omega))
              have HCC := Lib.hid hcc
              have HM2 := Lib.hid hm2
              have HG2 := Lib.hid hg2
              have HWF := Lib.hid hwf
              clear hat hst hcc hm2 hg2 hgq hwf
              have y0 : wz.cell? ⟨X, 0, none⟩ = some (.int .i64 p.1) := HX.out.cell 0
              have y1 : wz.cell? ⟨X, 1, none⟩ = some (.int .i64 p.2) := HX.out.cell 1
              have HGW : Hid (wm.grownBy w2 (some B)) := (drew_only HG1.out).trans HG2.out
              have HCN : Hid (CntIs (E.put (keyP p) (.lit (.int .i64 (cc - 1)))) fun q => (S.count q : Int) - ((ps.take (j + 1)).count q : Int)) :=
                cnt_put HC.out HM1.out.isMap HWF.out (by rw [count_take ps j p p HP.out, if_pos rfl, HCC.out]; omega) (fun q hq => by rw [count_take ps j p q HP.out, if_neg hq]; simp)
              clear HC HCC HG1
              go_region
              all_goals
                clear hl hme hl1 hs2 y0 y1 HX HM1
                go_wp2_with fail
                go_roundg g3
                case measure => omega
                case rel => exact ⟨j + 1, _, by have := HIG.out; omega, by go_num, by rw [← Nat.add_assoc]; exact HM2, HCN, HGW⟩
        | succ g2 =>
          have hlt : (i : Int) < (na : Int) := by omega
          have hi0 : (0 : Int) ≤ (i : Int) := by omega
          have SR : Hid (Reads wr B 2 (some ⟨h3, 0, none⟩) na (cellsP S)) := SM.out.grown HG.out (by omega) (fun g hg => by injection hg with hg; omega)
          obtain ⟨p, hp⟩ : ∃ p, S[i]? = some p := ⟨S[i]'(by rw [HSL.out]; omega), List.getElem?_eq_getElem _⟩
          obtain ⟨b, o, hA, hb, g0, g1⟩ := pr_at SR.out hp
          injection hA with hA
          injection hA with e1 e2 _
          subst e1; subst e2
          rw [Nat.zero_add] at g0 g1
          have hwf : wfP p := ⟨WalkArith.wf_i64 (HSA.out p (List.mem_of_getElem? hp)).1, WalkArith.wf_i64 (HSA.out p (List.mem_of_getElem? hp)).2⟩
          have HIG := Lib.hid hig
          have HP := Lib.hid hp
          have hzz := HG.out.size
          have HX := Lib.hid (Blk.new wr 27 #[.int .i64 p.1, .int .i64 p.2])
          have HM1 := Lib.hid (HM.out.alloc (.cells #[.int .i64 p.1, .int .i64 p.2] 27))
          have HG1 := Lib.hid (alloc_only HG.out (.cells #[.int .i64 p.1, .int .i64 p.2] 27))
          obtain ⟨X, hX⟩ : ∃ X, wr.heap.size = X := ⟨_, rfl⟩
          rw [hX] at HX hzz
          clear hig hp
          go_upto_region 14 with fail
          clear g0 g1 hX SR HM HG
          generalize wr.alloc (.cells #[.int .i64 p.1, .int .i64 p.2] 27) = wz at *
          obtain ⟨cc, v0, st, wq, hat, _, hl, hme, hl1, hgq, hst⟩ := bump pairLaw Try.underlying43 Try.underlying3 zeroInt HM1.out.drew (by unfold maxLen; omega) (show keyOf _ _ (.agg #[.int .i64 p.1, .int .i64 p.2]) = _ from keyOf_pr p hwf)
          have hcc : cc = ((S.take i).count p : Int) := by
            have := HC.out p hwf
            rw [hat] at this
            injection this with this
            injection this
          have hcn : (S.take i).count p ≤ i := Nat.le_trans List.count_le_length (by rw [List.length_take]; omega)
          have hc0 : 0 ≤ cc := by omega
          have hc1 : cc ≤ 60 := by omega
          obtain ⟨w2, hs2, hm2, hg2⟩ := hst (cc + 1) (WalkArith.wf_i64 (by omega))
          have HCC := Lib.hid hcc
          have HM2 := Lib.hid hm2
          have HG2 := Lib.hid hg2
          have HGQ := Lib.hid hgq
          have HWF := Lib.hid hwf
          clear hat hst hcc hm2 hg2 hgq hwf
          have y0 : wz.cell? ⟨X, 0, none⟩ = some (.int .i64 p.1) := HX.out.cell 0
          have y1 : wz.cell? ⟨X, 1, none⟩ = some (.int .i64 p.2) := HX.out.cell 1
          have hXB : X ≠ B := by omega
          have hwz : wz.drew.grownBy w2 (some B) := HG2.out
          have x0 : w2.cell? ⟨X, 0, none⟩ = some (.int .i64 p.1) := (hwz.cell_far ⟨X, 0, none⟩ (show X < wz.heap.size from HX.out.lt) (fun e => hXB (by injection e))).trans y0
          have x1 : w2.cell? ⟨X, 1, none⟩ = some (.int .i64 p.2) := (hwz.cell_far ⟨X, 1, none⟩ (show X < wz.heap.size from HX.out.lt) (fun e => hXB (by injection e))).trans y1
          have HGW : Hid (wm.grownBy w2 (some B)) := (drew_only HG1.out).trans HG2.out
          have HCN : Hid (CntIs (D.put (keyP p) (.lit (.int .i64 (cc + 1)))) fun q => ((S.take (i + 1)).count q : Int)) :=
            cnt_put HC.out HM1.out.isMap HWF.out (by rw [count_take S i p p HP.out, if_pos rfl, HCC.out]; omega) (fun q hq => by rw [count_take S i p q HP.out, if_neg hq]; simp)
          clear hwz HG2 HGQ HC HCC HG1
          go_cut [41] (fun s41 wx => w2 = wx)
          case first =>
            go_region
            all_goals
              go_wp2_with fail
              go_meet
              exact rfl
          case rest =>
            obtain rfl := hcut
            clear hl hme hl1 hs2 y0 y1 HX HM1
            by_cases hi00 : i = 0
            · subst hi00
              go_wp2_with fail
              go_quiet (fail)
              go_wp2_with fail
              go_roundg g2
              case measure => omega
              case rel => exact ⟨0 + 1, _, by have := HIG.out; omega, by go_num, HM2.out, HCN, drewN_only HGW.out _⟩
            · obtain ⟨q, hq⟩ : ∃ q, S[i - 1]? = some q := ⟨S[i - 1]'(by rw [HSL.out]; omega), List.getElem?_eq_getElem _⟩
              have hp1 : S[i - 1 + 1]? = some p := by rw [show i - 1 + 1 = i by omega]; exact HP.out
              have hst2 := HSN.out (i - 1) q p hq hp1
              have SR : Hid (Reads w2 B 2 (some ⟨h3, 0, none⟩) na (cellsP S)) := SM.out.grown HGW.out (by omega) (fun g hg => by injection hg with hg; omega)
              obtain ⟨b', o', hA', hb', z0, z1⟩ := pr_at SR.out hq
              injection hA' with hA'
              injection hA' with e1 e2 _
              subst e1; subst e2
              rw [Nat.zero_add] at z0 z1
              have hip : 0 < i := by omega
              have hs1 : IntKind.i64.wrap ((i : Int) - 1) = (i : Int) - 1 := by rw [IntKind.wrap_i64]; omega
              have ht1 : ((i : Int) - 1).toNat = i - 1 := by omega
              have hj0 : (0 : Int) ≤ (i : Int) - 1 := by omega
              have hj2 : (1 : Int) ≤ (i : Int) := by omega
              have hj1 : (i : Int) - 1 < (na : Int) := by omega
              clear hq hp1 hi00 SR
              rcases hst2 with h | ⟨h, h2⟩
              · have d1 : ¬ p.1 < q.1 := by omega
                have d2 : (q.1 == p.1) = false := by simp; omega
                have d3 : decide (p.1 < q.1) = false := by simp; omega
                clear h
                go_wp2_with fail
                go_quiet (fail)
                go_wp2_with fail
                go_roundg g2
                case measure => omega
                case rel => exact ⟨i + 1, _, by have := HIG.out; omega, by go_num, HM2.out, HCN, drewN_only HGW.out _⟩
              · have d1 : ¬ p.1 < q.1 := by omega
                have d2 : (q.1 == p.1) = true := by simpa using h
                have d3 : decide (p.1 < q.1) = false := by simp; omega
                have d4 : ¬ p.2 ≤ q.2 := by omega
                clear h
                go_wp2_with fail
                go_quiet (fail)
                go_wp2_with fail
                go_roundg g2
                case measure => omega
                case rel => exact ⟨i + 1, _, by have := HIG.out; omega, by go_num, HM2.out, HCN, drewN_only HGW.out _⟩
end Go.Proofs.Ytldjffeecbegjaa
