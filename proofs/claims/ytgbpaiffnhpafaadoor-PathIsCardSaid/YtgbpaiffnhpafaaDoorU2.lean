/- The document's path: Through, Cycle: contracts. -/
import Derived.Test.YtgbpaiffnhpafaaDoorU1
import Derived.Test.YtgbpaiffnhpafaaDoorM26
import Derived.Test.YtgbpaiffnhpafaaDoorM10
import Derived.StillTailTactics
import Derived.Test.YtgbpaiffnhpafaaDoorM7
-- holds: YtgbpaiffnhpafaaDoorUc YtgbpaiffnhpafaaDoorUd YtgbpaiffnhpafaaDoorUe
namespace Go.Proofs.YtgbpaiffnhpafaaDoor
open Go.RowKit

theorem rev_fro {zs : List Ed} {nodes l : Int} (h : IsG nodes zs) : To (EdR (backE zs)) l = Rev (Fro (EdR zs) l) := funext fun x => funext fun y => propext (by
  unfold To Rev Fro
  rw [edR_back h])
set_option maxRecDepth 100000 in
set_option maxHeartbeats 2000000 in
theorem rback8_any (m : Nat) (A : Option Addr) (n c : Nat) (zs : List Ed) (b : Nat) (l : Int) (hg : IsG (m : Int) zs) (hn : n ≤ 900) (hb : b < m) (w : World) (hR : Reads w w.heap.size 3 A n (cellsE zs)) :
    Calls Tryd.prog 44 #[.agg #[.int .i64 (m : Int), .slice A n c], .int .i64 (b : Int), .int .i64 l] w (RFarIs (Rev (Fro (EdR zs) l)) m (b : Int) w) := by
  obtain ⟨k0, b0⟩ := box_new w #[.int .i64 (m : Int), .slice A n c] 24
  have HRV := Lib.hid (rrev_any (m : Int) A n c zs hn _ ((hR.below b0).more b0.size))
  rw [ofE_eq hg.flip_ok] at HRV
  have B0 := Lib.hid b0
  have x0 := k0.cell 0
  have x1 := k0.cell 1
  have HG := Lib.hid hg
  have HL := Lib.hid (reads_len hR)
  have HRF := Lib.hid (rev_fro (l := l) hg)
  clear hR b0 k0 hg
  go_enter Tryd.func44, Tryd.ntmps44
  go_wp2_with fail
  refine HRV.out.mono ?_
  rintro e w1 hx
  obtain ⟨A2, c2, rfl, ho, -, -, b1⟩ := hx
  have HF := Lib.hid (rfar8_any m A2 (sorE (zs.map flipE)).length c2 (sorE (zs.map flipE)) b l HG.out.back (by have := back_len HG.out; have h2 : (backE zs).length = (sorE (zs.map flipE)).length := rfl; have := HL.out; omega) hb w1 (Reads.of_own ho))
  have HRF2 : Hid (To (EdR (sorE (zs.map flipE))) l = Rev (Fro (EdR zs) l)) := HRF.out
  rw [HRF2.out] at HF
  have B1 : Hid (Below w.heap.size w w1) := B0.out.trans (b1.mono B0.out.size)
  clear ho b1 x0 x1 HRV B0
  go_wp2_with fail
  refine HF.out.mono ?_
  rintro e w2 ⟨fl, Af, cf, h1, rfl, h2, h3⟩
  have HE : Hid (RFarIs (Rev (Fro (EdR zs) l)) m (b : Int) w (.returned (.slice Af m cf)) w2) := ⟨fl, Af, cf, h1, rfl, h2, B1.out.trans (h3.mono B1.out.size)⟩
  clear h1 h2 h3 HF
  go_wp2_with fail
  go_ret
  exact HE.out

/-- A way, in memory of the call's own. -/
def RDownIs (R : Int → Int → Prop) (a b : Int) (w : World) (e : Ending) (w' : World) : Prop :=
  ∃ (o : List Int) (A : Option Addr) (c : Nat), LW R a o b ∧ o.length ≤ 301 ∧ e = .returned (.slice A o.length c) ∧ w'.ownsRow w.heap.size 3 1 (.slice A o.length c) o.length (ints o) ∧ o.length ≤ c ∧ c ≤ 9223372036854775807 ∧ Below w.heap.size w w'

set_option maxRecDepth 100000 in
set_option maxHeartbeats 8000000 in
theorem rdown8_any (m : Nat) (A : Option Addr) (n c : Nat) (zs : List Ed) (a b : Nat) (l : Int) (Af : Option Addr) (cf : Nat) (fl : List Int) (hg : IsG (m : Int) zs) (hn : n ≤ 900) (ha : a < m) (hF : FarL (Rev (Fro (EdR zs) l)) m (b : Int) fl) (d0 : Int) (hd0 : fl[a]? = some d0) (h0 : 0 ≤ d0) (hb : b < m) (w : World) (hR : Reads w w.heap.size 3 A n (cellsE zs)) (hA : Reads w w.heap.size 1 Af m (ints fl)) :
    Calls Tryd.prog 45 #[.agg #[.int .i64 (m : Int), .slice A n c], .int .i64 (a : Int), .slice Af m cf] w (RDownIs (Fro (EdR zs) l) (a : Int) (b : Int) w) := by
  have hmn := hg.nodes
  have hin : In (Rev (Fro (EdR zs) l)) m := fun x y hs => ⟨(EdR.in_ hg.all y x hs.1).2, (EdR.in_ hg.all y x hs.1).1⟩
  obtain ⟨k0, b0⟩ := box_new w #[.int .i64 (m : Int), .slice A n c] 24
  have hd1 : d0 < (m : Int) := (hF.at_ a d0 hd0).few hin ⟨by omega, by omega⟩
  have B0 := Lib.hid b0
  have HG := Lib.hid hg
  have HF := Lib.hid hF
  have HRS : Hid (∀ W, Below w.heap.size w W → Reads W W.heap.size 3 A n (cellsE zs) ∧ Reads W W.heap.size 1 Af m (ints fl)) := fun W h => ⟨(hR.below h).more h.size, (hA.below h).more h.size⟩
  have HAM : Hid (In (Rev (Fro (EdR zs) l)) m ∧ b < m ∧ m ≤ 300) := ⟨hin, hb, by omega⟩
  have K0 := Lib.hid k0
  have OW0 : Hid (((w.alloc (.cells #[.int .i64 (m : Int), .slice A n c] 24)).alloc (.cells #[.int .i64 (a : Int)] 3)).ownsRow (w.heap.size + 1) 3 1 (.slice (some ⟨w.heap.size + 1, 0, none⟩) 1 1) 1 (ints [(a : Int)])) := by
    have h1 := Blk.new (w.alloc (.cells #[.int .i64 (m : Int), .slice A n c] 24)) 3 #[.int .i64 (a : Int)]
    rw [show (w.alloc (.cells #[.int .i64 (m : Int), .slice A n c] 24)).heap.size = w.heap.size + 1 by simp] at h1
    exact ⟨rfl, .inr ⟨w.heap.size + 1, 1, _, rfl, Nat.le_refl _, h1, Nat.le_refl _, by decide, rfl, rfl⟩⟩
  have B1 : Hid (Below w.heap.size w ((w.alloc (.cells #[.int .i64 (m : Int), .slice A n c] 24)).alloc (.cells #[.int .i64 (a : Int)] 3))) := b0.alloc b0.size _
  have K1 := Lib.hid (k0.alloc (.cells #[.int .i64 (a : Int)] 3))
  have HD0 : Hid (fl[a]? = some d0 ∧ 0 ≤ d0 ∧ d0 ≤ 300) := ⟨hd0, h0, by omega⟩
  have hm3 : m ≤ 300 := by omega
  obtain ⟨i0, hi, hz0, hz1, hz2⟩ := info_parts int_info
  clear hR hA b0 k0 hg hF hin hmn hd0 h0 hb hd1 B0 K0
  go_enter Tryd.func45, Tryd.ntmps45
  go_wp2_with fail
  generalize (w.alloc (.cells #[.int .i64 (m : Int), .slice A n c] 24)).alloc (.cells #[.int .i64 (a : Int)] 3) = W1 at *
  go_loopg [7, 8] 301 (fun gg s7 s8 wo => ∃ (o : List Int) (v d : Nat) (Ao : Option Addr) (co : Nat), s7 = .slice Ao o.length co ∧ s8 = .int .i64 v ∧ v < m ∧ d ≤ gg ∧ Hid (fl[v]? = some (d : Int)) ∧ Hid (Down (Fro (EdR zs) l) (a : Int) (b : Int) (v : Int) o) ∧ Hid (o.length + d ≤ 301) ∧
    Hid (wo.ownsRow (w.heap.size + 1) 3 1 (.slice Ao o.length co) o.length (ints o)) ∧ Hid (Below w.heap.size w wo) ∧ Hid (Blk wo w.heap.size 24 #[.int .i64 (m : Int), .slice A n c]))
  case atStart => exact ⟨[(a : Int)], a, d0.toNat, _, 1, rfl, rfl, ha, by have := HD0.out; omega, (by have := HD0.out; show _ = _; rw [Int.toNat_of_nonneg this.2.1]; exact this.1), Down.start _ _ _, (by have := HD0.out; show 1 + _ ≤ _; omega), OW0, B1, K1⟩
  case round =>
    clear OW0 B1 K1
    obtain ⟨o, v, d, Ao, co, rfl, rfl, hvm, hdg, HDV, HDN, HOL, OW, HB, KB⟩ := hrel
    rename World => wo
    have HDG := Lib.hid hdg
    obtain ⟨gf, of_, rfl, _, f0⟩ := row_at (HRS.out wo HB.out).2 HDV.out
    have hv1 : (v : Int) < (m : Int) := by omega
    have hv0 : (0 : Int) ≤ (v : Int) := by omega
    have hd3 : d ≤ 301 := by have := HOL.out; omega
    clear hdg
    rcases Nat.eq_zero_or_pos d with hz | hz
    · subst hz
      have HE : Hid (RDownIs (Fro (EdR zs) l) (a : Int) (b : Int) w (.returned (.slice Ao o.length co)) wo) := by
        have h1 : (v : Int) = (b : Int) := (HF.out.at_ v _ HDV.out).here rfl
        have h2 := HDN.out
        rw [h1] at h2
        have h3 := own_form2 OW.out
        obtain ⟨A9, c9, e, h4, h5⟩ := h3
        injection e with _ _ e
        subst e
        exact ⟨o, Ao, co, h2.done, by have := HOL.out; omega, rfl, own_base OW.out (Nat.le_succ _), h4, h5, HB.out⟩
      have f0' : wo.cell? ⟨gf, of_ + v, none⟩ = some (.int .i64 0) := f0
      clear f0
      go_wp2_with fail
      go_ret
      exact HE.out
    · have hd1 : ((d : Nat) : Int) > 0 := by omega
      have x0 := KB.out.cell 0
      go_wp2_with fail
      clear f0 x0
      go_loopg [7, 8, 20] m (fun g2 s7 s8 s20 wi => ∃ j : Nat, s7 = .slice Ao o.length co ∧ s8 = .int .i64 v ∧ s20 = .int .i64 j ∧ j + g2 = m ∧ Hid (∀ x : Nat, x < j → ¬ (fl[x]? = some ((d : Int) - 1) ∧ EdR zs (v : Int) (x : Int))) ∧ Hid (wi.ownsRow (w.heap.size + 1) 3 1 (.slice Ao o.length co) o.length (ints o)) ∧ Hid (Below w.heap.size w wi) ∧ Hid (Blk wi w.heap.size 24 #[.int .i64 (m : Int), .slice A n c]))
      case atStart => exact ⟨0, rfl, rfl, rfl, by omega, fun x hx => absurd hx (Nat.not_lt_zero x), OW, HB, KB⟩
      case round =>
        clear OW HB KB
        obtain ⟨j, rfl, rfl, rfl, hjm, HNO, OW, HB, KB⟩ := hrel
        rename World => wi
        have HJM := Lib.hid hjm
        have hback : ∃ y, FarAt (Rev (Fro (EdR zs) l)) (b : Int) y ((d - 1 : Nat) : Int) ∧ Rev (Fro (EdR zs) l) y (v : Int) := by
          have h1 := HF.out.at_ v _ HDV.out
          obtain ⟨d', rfl⟩ : ∃ d', d = d' + 1 := ⟨d - 1, by omega⟩
          exact h1.back
        have HBK := Lib.hid hback
        clear hback
        cases gk with
        | zero =>
          exfalso
          obtain ⟨y, h1, h2⟩ := HBK.out
          have hy := (HAM.out.1 _ _ h2).1
          obtain ⟨yn, rfl⟩ : ∃ yn : Nat, y = (yn : Int) := ⟨y.toNat, by omega⟩
          obtain ⟨e, h3, h4⟩ := HF.out.get (u := yn) (by omega)
          have h5 := h4.one_ h1
          refine HNO.out yn (by omega) ⟨by rw [h3, h5]; congr 1; omega, h2.1⟩
        | succ g3 =>
          have hj1 : (j : Int) < (m : Int) := by omega
          have hjlt : j < m := by omega
          have hj0 : (0 : Int) ≤ (j : Int) := by omega
          obtain ⟨e, he⟩ : ∃ e, fl[j]? = some e := ⟨_, List.getElem?_eq_getElem (by rw [HF.out.len]; omega)⟩
          obtain ⟨gf', of', ee, _, f1⟩ := row_at (HRS.out wi HB.out).2 he
          injection ee with ee
          injection ee with ee1 ee2
          subst ee1; subst ee2
          obtain ⟨gf', of', ee, _, f0⟩ := row_at (HRS.out wi HB.out).2 HDV.out
          injection ee with ee
          injection ee with ee1 ee2
          subst ee1; subst ee2
          have hw1 : IntKind.i64.wrap ((d : Int) - 1) = (d : Int) - 1 := by rw [IntKind.wrap_i64]; omega
          have HE := Lib.hid he
          have x0 := KB.out.cell 0
          have x1 := KB.out.cell 1
          clear hjm he
          cases h1 : e == (d : Int) - 1
          · have HN2 : Hid (∀ x : Nat, x < j + 1 → ¬ (fl[x]? = some ((d : Int) - 1) ∧ EdR zs (v : Int) (x : Int))) := fun x hx h => by
              rcases Nat.lt_or_eq_of_le (Nat.le_of_lt_succ hx) with h2 | h2
              · exact HNO.out x h2 h
              · subst h2
                rw [HE.out] at h
                have := h.1
                injection this with this
                rw [this] at h1
                simp at h1
            go_upto_region 7 with fail
            go_quiet (fail)
            have hkq : Below wi.heap.size wi (wi.drewN nq) := below_drewN (Below.refl _ _) nq
            have OW2 := Lib.hid ((Keep.of_all (fun _ => True) hkq).own OW.out fun _ _ => trivial)
            have HB2 := Lib.hid (below_drewN HB.out nq)
            have KB2 := Lib.hid (KB.out.below hkq KB.out.lt)
            clear OW HB KB hkq
            generalize wi.drewN nq = wj at *
            go_wp2_with fail
            go_roundg g3
            case measure => omega
            case rel => exact ⟨j + 1, rfl, rfl, by go_num, by have := HJM.out; omega, HN2, OW2, HB2, KB2⟩
          · have h1e : e = (d : Int) - 1 := by simpa using h1
            have HED := Lib.hid (redge8_any (m : Int) (v : Int) (j : Int) A n c zs (by omega) wi.drew (by have h2 : Below w.heap.size w wi.drew := HB.out.drew; exact (HRS.out _ h2).1))
            have HD := Lib.hid (HB.out.drew)
            have OWD : Hid (wi.drew.ownsRow (w.heap.size + 1) 3 1 (.slice Ao o.length co) o.length (ints o)) := OW.out
            have KBD : Hid (Blk wi.drew w.heap.size 24 #[.int .i64 (m : Int), .slice A n c]) := KB.out
            go_upto_region 7 with fail
            go_still_tail 14, (by kernel_rfl)
            change wpList _ _ _ _ _ wi.drew
            clear f0 f1 x0 x1 OW HB KB
            generalize wi.drew = wd at *
            cases hed : edB zs (v : Int) (j : Int)
            · rw [hed] at HED
              have HN2 : Hid (∀ x : Nat, x < j + 1 → ¬ (fl[x]? = some ((d : Int) - 1) ∧ EdR zs (v : Int) (x : Int))) := fun x hx h => by
                rcases Nat.lt_or_eq_of_le (Nat.le_of_lt_succ hx) with h2 | h2
                · exact HNO.out x h2 h
                · subst h2
                  have := edB_iff.2 h.2
                  rw [hed] at this
                  cases this
              clear hed
              go_wp2_with fail
              refine HED.out.mono ?_
              rintro e2 w3 ⟨rfl, b3⟩
              have OW2 := Lib.hid ((Keep.of_all (fun _ => True) b3).own OWD.out fun _ _ => trivial)
              have HB2 : Hid (Below w.heap.size w w3) := HD.out.trans (b3.mono HD.out.size)
              have KB2 := Lib.hid (KBD.out.below b3 KBD.out.lt)
              clear b3
              go_wp2_with fail
              go_roundg g3
              case measure => omega
              case rel => exact ⟨j + 1, rfl, rfl, by go_num, by have := HJM.out; omega, HN2, OW2, HB2, KB2⟩
            · rw [hed] at HED
              have HDN2 : Hid (Down (Fro (EdR zs) l) (a : Int) (b : Int) (j : Int) (o ++ [(j : Int)])) := by
                obtain ⟨y, hy1, hy2⟩ := HBK.out
                have hr : Fro (EdR zs) l (v : Int) (j : Int) := ⟨edB_iff.1 hed, hy2.2⟩
                refine HDN.out.step hr fun t ht => LW.step (d := (d : Int)) (HF.out.at_ v _ HDV.out) (by omega) ?_ hr (fun x e2 hx he2 e3 => ?_) (fun x hx => ?_) ht
                · have := HF.out.at_ j _ HE.out
                  rwa [h1e] at this
                · have hxn := (HAM.out.1 _ _ hx).1
                  apply Classical.byContradiction
                  intro hlt
                  obtain ⟨xn, rfl⟩ : ∃ xn : Nat, x = (xn : Int) := ⟨x.toNat, by omega⟩
                  obtain ⟨e4, h5, h6⟩ := HF.out.get (u := xn) (by omega)
                  have h7 := h6.one_ he2
                  exact HNO.out xn (by omega) ⟨by rw [h5, h7, e3], hx.1⟩
                · have hxn := (HAM.out.1 _ _ hx).1
                  obtain ⟨xn, rfl⟩ : ∃ xn : Nat, x = (xn : Int) := ⟨x.toNat, by omega⟩
                  obtain ⟨e4, _, h6⟩ := HF.out.get (u := xn) (by omega)
                  exact ⟨e4, h6⟩
              have HDJ : Hid (fl[j]? = some ((d - 1 : Nat) : Int)) := by
                show _ = _
                rw [HE.out, h1e]
                congr 1
                omega
              clear hed
              go_wp2_with fail
              refine HED.out.mono ?_
              rintro e2 w3 ⟨rfl, b3⟩
              have OW2 := Lib.hid ((Keep.of_all (fun _ => True) b3).own OWD.out fun _ _ => trivial)
              have HB2 : Hid (Below w.heap.size w w3) := HD.out.trans (b3.mono HD.out.size)
              have KB2 := Lib.hid (KBD.out.below b3 KBD.out.lt)
              clear b3 HED OWD KBD HD HBK HNO
              have HS3 : Hid (w.heap.size + 1 ≤ w3.heap.size) := Nat.succ_le_of_lt KB2.out.lt
              go_wp2_with (at_builtin; refine wpList_append_any _ rfl (.tmp 39) (.tmp 41) 30 rfl (w.heap.size + 1) 3 i0 _ 1 8 Tryd.underlying30 hi hz0 hz1 hz2 rfl (by decide) (.slice Ao o.length co) o.length _ rfl (OW2.out.alloc _) (w3.heap.size + 1) (some ⟨w3.heap.size, 0, none⟩) 1 _ (ints [(j : Int)]) rfl (int_one w3 (j : Int)) (ints_one _) (by have := HOL.out; unfold maxLen; omega) (by have := HOL.out; omega) (by have := HS3.out; simp; omega) ?_; intro v7 w7 hown7 hgrow7 hat7)
              obtain ⟨A7, c7, rfl, -, -⟩ := own_form2 hown7
              have b8 : Below w.heap.size w w7 := (HB2.out.alloc HB2.out.size (.cells #[.int .i64 (j : Int)] 3)).grown hgrow7 (by have := HB2.out.size; simp; omega) (fun k hk => Nat.le_of_succ_le (own_in OW2.out hk).1)
              have hk8 : Keep (fun g => (Value.slice Ao o.length co).ownBlock ≠ some g) w3 w7 := (Keep.of_all _ ((Below.refl _ _).alloc (Nat.le_refl _) _)).trans ((Keep.refl _ _).grown hgrow7 fun g hg => .inr fun h => h hg)
              have KB8 := Lib.hid (hk8.blk KB2.out (fun e => by have := (own_in OW2.out e).1; omega))
              have HB8 := Lib.hid b8
              have OW8 : Hid (w7.ownsRow (w.heap.size + 1) 3 1 (.slice A7 (o ++ [(j : Int)]).length c7) (o ++ [(j : Int)]).length (ints (o ++ [(j : Int)]))) := by
                rw [List.length_append, ints_append]
                exact hown7
              have HLL : Hid ((o ++ [(j : Int)]).length = o.length + 1) := by show _ = _; rw [List.length_append]; rfl
              clear hown7 hgrow7 hat7 b8 hk8
              go_wp2_with fail
              go_roundg (d - 1)
              case measure => have := HDG.out; omega
              case rel => exact ⟨o ++ [(j : Int)], j, d - 1, A7, c7, by rw [HLL.out], rfl, hjlt, Nat.le_refl _, HDJ, HDN2, (by have := HOL.out; have := HLL.out; show _ ≤ _; omega), OW8, HB8, KB8⟩
end Go.Proofs.YtgbpaiffnhpafaaDoor
namespace Go.Proofs.YtgbpaiffnhpafaaDoor
open Go.RowKit

/-- A row, and whether there is one. -/
def RRow (Q : List Int → Prop) (w : World) (e : Ending) (w' : World) : Prop :=
  ∃ (l : List Int) (A : Option Addr) (c : Nat), Q l ∧ (l = [] → A = none ∧ c = 0) ∧ l.length ≤ 302 ∧ e = .returned (.tuple #[.slice A l.length c, .bool (decide (l ≠ []))]) ∧ w'.ownsRow w.heap.size 3 1 (.slice A l.length c) l.length (ints l) ∧ l.length ≤ c ∧ c ≤ 9223372036854775807 ∧ Below w.heap.size w w'
theorem RRow.none {Q : List Int → Prop} {w w' : World} (hq : Q []) (hb : Below w.heap.size w w') : RRow Q w (.returned (.tuple #[.slice Option.none 0 0, .bool false])) w' :=
  ⟨[], Option.none, 0, hq, fun _ => ⟨rfl, rfl⟩, by decide, rfl, World.ownsRow_nil _ _ _ _, Nat.le_refl _, by decide, hb⟩
theorem fro_zero {m : Nat} {zs : List Ed} (h : ∀ p ∈ zs, rightE (m : Int) p = true) : Fro (EdR zs) 0 = EdR zs := funext fun x => funext fun y => propext ⟨fun h => h.1, fun hr => ⟨hr, (EdR.in_ h x y hr).1.1⟩⟩

set_option maxRecDepth 100000 in
set_option maxHeartbeats 2000000 in
theorem rshortest8_any (m : Nat) (A : Option Addr) (n c : Nat) (zs : List Ed) (a b : Nat) (hg : IsG (m : Int) zs) (hn : n ≤ 900) (ha : a < m) (hb : b < m) (w : World) (hR : Reads w w.heap.size 3 A n (cellsE zs)) :
    Calls Tryd.prog 16 #[.agg #[.int .i64 (m : Int), .slice A n c], .int .i64 (a : Int), .int .i64 (b : Int)] w (RRow (Got (EdR zs) (a : Int) (b : Int)) w) := by
  obtain ⟨k0, b0⟩ := box_new w #[.int .i64 (m : Int), .slice A n c] 24
  have HB := Lib.hid (rback8_any m A n c zs b 0 hg hn hb _ ((hR.below b0).more b0.size))
  have hz := fro_zero hg.all
  rw [hz] at HB
  have HZ := Lib.hid hz
  have B0 := Lib.hid b0
  have K0 := Lib.hid k0
  have x0 := k0.cell 0
  have x1 := k0.cell 1
  have HG := Lib.hid hg
  have HRS : Hid (∀ W, Below w.heap.size w W → Reads W W.heap.size 3 A n (cellsE zs)) := fun W h => (hR.below h).more h.size
  clear hR b0 k0 hg hz
  go_enter Tryd.func16, Tryd.ntmps16
  go_wp2_with fail
  refine HB.out.mono ?_
  rintro e w2 ⟨fl, Af, cf, h1, rfl, h2, b2⟩
  have B2 : Hid (Below w.heap.size w w2) := B0.out.trans (b2.mono B0.out.size)
  have K2 := Lib.hid (K0.out.below b2 K0.out.lt)
  obtain ⟨d, hd, hfa⟩ := h1.get ha
  have HF := Lib.hid h1
  have HFR := Lib.hid h2
  have HD := Lib.hid (And.intro hd hfa)
  obtain ⟨gf, of_, rfl, _, f0⟩ := row_at h2 hd
  have ha1 : (a : Int) < (m : Int) := by omega
  clear h1 h2 b2 hd hfa x0 x1 B0 K0 HB
  by_cases hneg : d < 0
  · have HE : Hid (RRow (Got (EdR zs) (a : Int) (b : Int)) w (.returned (.tuple #[.slice none 0 0, .bool false])) w2) :=
      RRow.none (.inr ⟨rfl, fun r hr => by have := (HD.out.2.le hr.rev_).1; omega⟩) B2.out
    go_wp2_with fail
    go_ret2
    exact HE.out
  · have HDW := Lib.hid (rdown8_any m A n c zs a b 0 (some ⟨gf, of_, none⟩) cf fl HG.out hn ha (by rw [HZ.out]; exact HF.out) d HD.out.1 (by omega) hb w2 (HRS.out w2 B2.out) HFR.out)
    rw [HZ.out] at HDW
    have x0 := K2.out.cell 0
    have x1 := K2.out.cell 1
    clear K2
    go_wp2_with fail
    refine HDW.out.mono ?_
    rintro e w3 ⟨o, A3, c3, h1, h2, rfl, h3, h4, h5, b3⟩
    have hne : o ≠ [] := fun e => by have := h1.1.pos; rw [e] at this; simp at this
    have HE : Hid (RRow (Got (EdR zs) (a : Int) (b : Int)) w (.returned (.tuple #[.slice A3 o.length c3, .bool true])) w3) := by
      refine ⟨o, A3, c3, .inl ⟨hne, h1⟩, fun e => absurd e hne, by omega, ?_, own_base h3 B2.out.size, h4, h5, B2.out.trans (b3.mono B2.out.size)⟩
      rw [decide_eq_true hne]
    clear h1 h2 h3 h4 h5 b3 hne HDW
    go_wp2_with fail
    go_ret2
    exact HE.out

/-- Where the first one is, of so many edges out of a node. -/
def PickAt (fl : List Int) (l : Int) (os : List Ed) (i : Nat) (x : Int) : Prop :=
  (x = -1 ∧ ∀ (j : Nat) p e, j < i → os[j]? = some p → l ≤ p.2.1 → fl[p.2.1.toNat]? = some e → e < 0) ∨
  (0 ≤ x ∧ ∃ d, fl[x.toNat]? = some d ∧ 0 ≤ d ∧ l ≤ x ∧ (∃ (j : Nat) (p : Ed), j < i ∧ os[j]? = some p ∧ p.2.1 = x) ∧ ∀ (j : Nat) p e, j < i → os[j]? = some p → l ≤ p.2.1 → fl[p.2.1.toNat]? = some e → 0 ≤ e → d < e ∨ (d = e ∧ x ≤ p.2.1))
section
variable {fl : List Int} {l x e d : Int} {os : List Ed} {i : Nat} {p : Ed}
theorem PickAt.start : PickAt fl l os 0 (-1) := .inl ⟨rfl, fun j p e h => by omega⟩
theorem PickAt.low (h : PickAt fl l os i x) (hp : os[i]? = some p) (hl : ¬ l ≤ p.2.1) : PickAt fl l os (i + 1) x := by
  rcases h with ⟨rfl, h⟩ | ⟨h0, d, h1, h2, h3, ⟨j0, p0, h4⟩, h5⟩
  · refine .inl ⟨rfl, fun j q e hj hq hlq he => ?_⟩
    rcases Nat.lt_or_eq_of_le (Nat.le_of_lt_succ hj) with h6 | h6
    · exact h j q e h6 hq hlq he
    · subst h6; rw [hp] at hq; injection hq with hq; subst hq; exact absurd hlq hl
  · refine .inr ⟨h0, d, h1, h2, h3, ⟨j0, p0, by omega, h4.2⟩, fun j q e hj hq hlq he h7 => ?_⟩
    rcases Nat.lt_or_eq_of_le (Nat.le_of_lt_succ hj) with h6 | h6
    · exact h5 j q e h6 hq hlq he h7
    · subst h6; rw [hp] at hq; injection hq with hq; subst hq; exact absurd hlq hl
theorem PickAt.not_ (h : PickAt fl l os i x) (hp : os[i]? = some p) (he : fl[p.2.1.toNat]? = some e) (hn : e < 0) : PickAt fl l os (i + 1) x := by
  rcases h with ⟨rfl, h⟩ | ⟨h0, d, h1, h2, h3, ⟨j0, p0, h4⟩, h5⟩
  · refine .inl ⟨rfl, fun j q e' hj hq hlq he' => ?_⟩
    rcases Nat.lt_or_eq_of_le (Nat.le_of_lt_succ hj) with h6 | h6
    · exact h j q e' h6 hq hlq he'
    · subst h6; rw [hp] at hq; injection hq with hq; subst hq; rw [he] at he'; injection he' with he'; omega
  · refine .inr ⟨h0, d, h1, h2, h3, ⟨j0, p0, by omega, h4.2⟩, fun j q e' hj hq hlq he' h7 => ?_⟩
    rcases Nat.lt_or_eq_of_le (Nat.le_of_lt_succ hj) with h6 | h6
    · exact h5 j q e' h6 hq hlq he' h7
    · subst h6; rw [hp] at hq; injection hq with hq; subst hq; rw [he] at he'; injection he' with he'; omega
theorem PickAt.keep (hup : os.Pairwise fun p q => p.2.1 ≤ q.2.1) (h : PickAt fl l os i x) (h0 : 0 ≤ x) (hd : fl[x.toNat]? = some d) (hp : os[i]? = some p) (he : fl[p.2.1.toNat]? = some e) (hn : ¬ e < d) : PickAt fl l os (i + 1) x := by
  rcases h with ⟨rfl, h⟩ | ⟨h0, d', h1, h2, h3, ⟨j0, p0, h4, h41, h42⟩, h5⟩
  · omega
  · rw [hd] at h1
    injection h1 with h1
    subst h1
    refine .inr ⟨h0, d, hd, h2, h3, ⟨j0, p0, by omega, h41, h42⟩, fun j q e' hj hq hlq he' h7 => ?_⟩
    rcases Nat.lt_or_eq_of_le (Nat.le_of_lt_succ hj) with h6 | h6
    · exact h5 j q e' h6 hq hlq he' h7
    · subst h6
      rw [hp] at hq
      injection hq with hq
      subst hq
      rw [he] at he'
      injection he' with he'
      obtain ⟨b0, e0⟩ := List.getElem?_eq_some_iff.1 h41
      obtain ⟨b1, e1⟩ := List.getElem?_eq_some_iff.1 hp
      have := List.pairwise_iff_getElem.1 hup j0 j b0 b1 h4
      rw [e0, e1] at this
      omega
theorem PickAt.take (h : PickAt fl l os i x) (hx : 0 ≤ x → ∃ d, fl[x.toNat]? = some d ∧ e < d) (hp : os[i]? = some p) (hp0 : 0 ≤ p.2.1) (hl : l ≤ p.2.1) (he : fl[p.2.1.toNat]? = some e) (hn : 0 ≤ e) : PickAt fl l os (i + 1) p.2.1 := by
  refine .inr ⟨hp0, e, he, hn, hl, ⟨i, p, Nat.lt_succ_self _, hp, rfl⟩, fun j q e' hj hq hlq he' h7 => ?_⟩
  rcases Nat.lt_or_eq_of_le (Nat.le_of_lt_succ hj) with h6 | h6
  · rcases h with ⟨rfl, h⟩ | ⟨h0, d, h1, h2, h3, _, h5⟩
    · have := h j q e' h6 hq hlq he'; omega
    · obtain ⟨d', h8, h9⟩ := hx h0
      rw [h1] at h8
      injection h8 with h8
      have := h5 j q e' h6 hq hlq he' h7
      omega
  · subst h6
    rw [hp] at hq
    injection hq with hq
    subst hq
    rw [he] at he'
    injection he' with he'
    omega
end

/-- The least round of one node, over those that are not below. -/
def RndIs (E : Int → Int → Prop) (l v : Int) (o : List Int) : Prop := (o ≠ [] ∧ LC (To E l) E v o) ∨ (o = [] ∧ ∀ r, ¬ Cw (To E l) E v r)

set_option maxRecDepth 100000 in
set_option maxHeartbeats 8000000 in
theorem rround8_any (m : Nat) (A : Option Addr) (n c : Nat) (zs : List Ed) (v : Nat) (l : Int) (hg : IsG (m : Int) zs) (hn : n ≤ 900) (hv : v < m) (w : World) (hR : Reads w w.heap.size 3 A n (cellsE zs)) :
    Calls Tryd.prog 51 #[.agg #[.int .i64 (m : Int), .slice A n c], .int .i64 (v : Int), .int .i64 l] w (RRow (RndIs (EdR zs) l (v : Int)) w) := by
  have hmn := hg.nodes
  obtain ⟨k0, b0⟩ := box_new w #[.int .i64 (m : Int), .slice A n c] 24
  have HB := Lib.hid (rback8_any m A n c zs v l hg hn hv _ ((hR.below b0).more b0.size))
  have B0 := Lib.hid b0
  have K0 := Lib.hid k0
  have x0 := k0.cell 0
  have x1 := k0.cell 1
  have HG := Lib.hid hg
  have hm3 : m ≤ 300 := by omega
  have HV : Hid (v < m ∧ zs.length ≤ 900) := ⟨hv, by have := reads_len hR; omega⟩
  have HRS : Hid (∀ W, Below w.heap.size w W → Reads W W.heap.size 3 A n (cellsE zs)) := fun W h => (hR.below h).more h.size
  obtain ⟨i0, hi, hz0, hz1, hz2⟩ := info_parts int_info
  clear hR b0 k0 hg hmn
  go_enter Tryd.func51, Tryd.ntmps51
  go_wp2_with fail
  refine HB.out.mono ?_
  rintro e w2 ⟨fl, Af, cf, h1, rfl, h2, b2⟩
  have B2 : Hid (Below w.heap.size w w2) := B0.out.trans (b2.mono B0.out.size)
  have K2 := Lib.hid (K0.out.below b2 K0.out.lt)
  have HF := Lib.hid h1
  have HO := Lib.hid (rout_any (m : Int) (v : Int) A n c zs (by omega) w2 (HRS.out w2 B2.out))
  have HFS : Hid (∀ W, Below w2.heap.size w2 W → Reads W W.heap.size 1 Af m (ints fl)) := fun W h => (h2.below h).more h.size
  clear h1 h2 b2 x0 x1 B0 K0 HB
  have x0 := K2.out.cell 0
  have x1 := K2.out.cell 1
  go_wp2_with fail
  refine HO.out.mono ?_
  rintro e w3 hr3
  obtain ⟨Ao, co, rfl, ho3, h31, h32, b3⟩ := rows_row hr3
  have B3 : Hid (Below w.heap.size w w3) := B2.out.trans (b3.mono B2.out.size)
  have C3 := Lib.hid b3
  have K3 := Lib.hid (K2.out.below b3 K2.out.lt)
  have HOL : Hid ((outE zs (v : Int)).length ≤ 1000) := by
    have h1 : (outE zs (v : Int)).length ≤ zs.length := List.length_filter_le _ _
    have := HV.out.2
    show _ ≤ _
    omega
  have HUP := Lib.hid (out_up HG.out (v : Int))
  have HOA : Hid (∀ p ∈ outE zs (v : Int), EdR zs (v : Int) p.2.1 ∧ 0 ≤ p.2.1 ∧ p.2.1 < (m : Int)) := fun p hp => by
    have hr := edR_out.2 ⟨p, hp, rfl⟩
    exact ⟨hr, ((EdR.in_ HG.out.all _ _ hr).2)⟩
  have OE3 := Lib.hid (Reads.of_own ho3)
  have HQE : Hid (∀ W, Below w3.heap.size w3 W → Reads W W.heap.size 3 Ao (outE zs (v : Int)).length (cellsE (outE zs (v : Int)))) := fun W h => (OE3.out.below h).more h.size
  clear hr3 ho3 h31 h32 b3 x0 x1 K2 HO OE3
  obtain ⟨os, hos⟩ : ∃ os, outE zs (v : Int) = os := ⟨_, rfl⟩
  have HOS := Lib.hid hos
  rw [hos] at HOL HUP HOA HQE ⊢
  clear hos
  obtain ⟨no, hno⟩ : ∃ no, os.length = no := ⟨_, rfl⟩
  have HNO := Lib.hid hno
  rw [hno] at HOL HQE ⊢
  have hno2 : no ≤ 1000 := HOL.out
  clear hno
  go_wp2_with fail
  go_loopg [9, 22] no (fun gg s9 s22 wo => ∃ (i : Nat) (x : Int), s9 = .int .i64 x ∧ s22 = .int .i64 i ∧ i + gg = no ∧ Hid (PickAt fl l os i x) ∧ Hid (Below w3.heap.size w3 wo))
  case atStart => exact ⟨0, -1, rfl, rfl, by omega, PickAt.start, Below.refl _ _⟩
  case round =>
    obtain ⟨i, x, rfl, rfl, hig, HPK, HW⟩ := hrel
    rename World => wo
    have HIG := Lib.hid hig
    cases gk with
    | zero =>
      have hge : ¬ (i : Int) < (no : Int) := by omega
      obtain rfl : i = no := by omega
      have HW2 : Hid (Below w2.heap.size w2 wo) := C3.out.trans (HW.out.mono C3.out.size)
      have HW0 : Hid (Below w.heap.size w wo) := B2.out.trans (HW2.out.mono B2.out.size)
      have KO := Lib.hid (K3.out.below HW.out K3.out.lt)
      have x0 := KO.out.cell 0
      have x1 := KO.out.cell 1
      have HALL : Hid (∀ y, EdR zs (v : Int) y → ∃ (j : Nat) (p : Ed), j < i ∧ os[j]? = some p ∧ p.2.1 = y ∧ 0 ≤ y ∧ y < (m : Int)) := fun y hy => by
        obtain ⟨p, hp, h1⟩ := edR_out.1 hy
        rw [HOS.out] at hp
        obtain ⟨j, h2⟩ := List.mem_iff_getElem?.1 hp
        have := (List.getElem?_eq_some_iff.1 h2).1
        have h3 := HOA.out p hp
        exact ⟨j, p, by have := HNO.out; omega, h2, h1, by omega, by omega⟩
      have HIR := Lib.hid (EdR.irr HG.out.all)
      clear hig K3
      by_cases hneg : x < 0
      · have HE : Hid (RRow (RndIs (EdR zs) l (v : Int)) w (.returned (.tuple #[.slice none 0 0, .bool false])) wo) := by
          refine RRow.none (.inr ⟨rfl, Cw.none_by HIR.out fun y hy hly r hr => ?_⟩) HW0.out
          obtain ⟨j, p, h1, h2, rfl, h4, h5⟩ := HALL.out y hy
          obtain ⟨yn, hyn⟩ : ∃ yn : Nat, p.2.1 = (yn : Int) := ⟨p.2.1.toNat, by omega⟩
          obtain ⟨e, h6, h7⟩ := HF.out.get (u := yn) (by omega)
          rw [hyn] at hr
          have h8 := (h7.le hr.rev_).1
          rcases HPK.out with ⟨_, h⟩ | ⟨h, _⟩
          · have := h j p e h1 h2 hly (by rw [hyn]; simpa using h6)
            omega
          · omega
        go_wp2_with fail
        go_ret2
        exact HE.out
      · have h0 : 0 ≤ x := by omega
        obtain ⟨xn, rfl⟩ : ∃ xn : Nat, x = (xn : Int) := ⟨x.toNat, by omega⟩
        obtain ⟨d, hd, hd0, hlx, hex, hle⟩ : ∃ d, fl[xn]? = some d ∧ 0 ≤ d ∧ l ≤ (xn : Int) ∧ EdR zs (v : Int) (xn : Int) ∧ ∀ (j : Nat) p e, j < i → os[j]? = some p → l ≤ p.2.1 → fl[p.2.1.toNat]? = some e → 0 ≤ e → d < e ∨ (d = e ∧ (xn : Int) ≤ p.2.1) := by
          rcases HPK.out with ⟨h, _⟩ | ⟨_, d, h1, h2, h3, ⟨j, p, _, h4, h5⟩, h6⟩
          · omega
          · exact ⟨d, by simpa using h1, h2, h3, by rw [← h5]; exact (HOA.out p (List.mem_of_getElem? h4)).1, h6⟩
        have hxm : xn < m := by
          have := (List.getElem?_eq_some_iff.1 hd).1
          rw [HF.out.len] at this
          exact this
        have HDW := Lib.hid (rdown8_any m A n c zs xn v l Af cf fl HG.out hn hxm HF.out d hd hd0 HV.out.1 wo (HRS.out wo HW0.out) (HFS.out wo HW2.out))
        have HX : Hid (∀ p, LW (Fro (EdR zs) l) (xn : Int) p (v : Int) → LC (To (EdR zs) l) (EdR zs) (v : Int) ((v : Int) :: p.dropLast)) := fun p hp => by
          refine LC.by_ HIR.out hex hlx (HF.out.at_ xn d hd) hp (fun y e hy hly he h0e => ?_) fun y hy => ?_
          · obtain ⟨j, p, h1, h2, rfl, h4, h5⟩ := HALL.out y hy
            obtain ⟨yn, hyn⟩ : ∃ yn : Nat, p.2.1 = (yn : Int) := ⟨p.2.1.toNat, by omega⟩
            obtain ⟨e', h6, h7⟩ := HF.out.get (u := yn) (by omega)
            rw [hyn] at he
            have h8 := h7.one_ he
            subst h8
            exact hle j p e' h1 h2 hly (by rw [hyn]; simpa using h6) h0e
          · obtain ⟨j, p, h1, h2, rfl, h4, h5⟩ := HALL.out y hy
            obtain ⟨yn, hyn⟩ : ∃ yn : Nat, p.2.1 = (yn : Int) := ⟨p.2.1.toNat, by omega⟩
            obtain ⟨e', h6, h7⟩ := HF.out.get (u := yn) (by omega)
            exact ⟨e', by rw [hyn]; exact h7⟩
        clear h0 hd hd0 hlx hex hle HALL HPK HIR
        go_wp2_with fail
        refine HDW.out.mono ?_
        rintro e w4 ⟨o, A4, c4, h1, h2, rfl, h3, h4, h5, b4⟩
        have hne := h1.1.pos
        obtain ⟨n1, hn1⟩ : ∃ n1, o.length = n1 + 1 := ⟨o.length - 1, by omega⟩
        have HLC := Lib.hid (HX.out o h1)
        have HW4 : Hid (Below w.heap.size w w4) := HW0.out.trans (b4.mono HW0.out.size)
        have HRO : Hid (Reads w4 w4.heap.size 1 A4 n1 (ints o.dropLast)) := by
          have h6 := reads_take (Reads.of_own h3) (k := n1) (by omega)
          have e : (ints o).take (n1 * 1) = ints o.dropLast := by unfold ints; rw [Nat.mul_one, ← List.map_take, List.dropLast_eq_take, hn1]; rfl
          rw [e] at h6
          exact h6
        have hDL : Hid (o.dropLast.length = n1) := by show _ = _; rw [List.length_dropLast]; omega
        obtain ⟨no', hno'⟩ : ∃ no', o.length = no' := ⟨_, rfl⟩
        rw [hno'] at hn1 h4 ⊢
        have hw1 : IntKind.i64.wrap ((no' : Int) - 1) = (n1 : Int) := by rw [IntKind.wrap_i64]; omega
        have hn2 : n1 ≤ no' := by omega
        have hn3 : n1 ≤ 300 := by omega
        have hS4 : w.heap.size ≤ w4.heap.size := HW4.out.size
        have hne2 : (v : Int) :: o.dropLast ≠ [] := List.cons_ne_nil _ _
        have HOW : Hid ((w4.alloc (.cells #[.int .i64 (v : Int)] 3)).ownsRow w.heap.size 3 1 (.slice (some ⟨w4.heap.size, 0, none⟩) 1 1) 1 (ints [(v : Int)])) :=
          ⟨rfl, .inr ⟨w4.heap.size, 1, _, rfl, hS4, Blk.new w4 3 #[.int .i64 (v : Int)], Nat.le_refl _, by decide, rfl, rfl⟩⟩
        clear h1 h2 h3 h5 b4 hne hn1 hno' HDW HX
        go_wp2_with (at_builtin; refine wpList_append_any _ rfl (.tmp 62) (.tmp 67) 30 rfl w.heap.size 3 i0 _ 1 8 Tryd.underlying30 hi hz0 hz1 hz2 rfl (by decide) (.slice (some ⟨w4.heap.size, 0, none⟩) 1 1) 1 _ rfl HOW.out w4.heap.size A4 n1 _ (ints o.dropLast) rfl (HRO.out.alloc (Nat.le_refl _) _) (ints_one _) (by unfold maxLen; omega) (by omega) (by simp; omega) ?_; intro v7 w7 hown7 hgrow7 hat7)
        obtain ⟨A7, c7, rfl, h71, h72⟩ := own_form2 hown7
        have b8 : Below w.heap.size w w7 := (HW4.out.alloc HW4.out.size (.cells #[.int .i64 (v : Int)] 3)).grown hgrow7 (by have := HW4.out.size; simp; omega) (fun k hk => (own_in HOW.out hk).1)
        have HE : Hid (RRow (RndIs (EdR zs) l (v : Int)) w (.returned (.tuple #[.slice A7 (1 + n1) c7, .bool true])) w7) := by
          have hl : ((v : Int) :: o.dropLast).length = 1 + n1 := by rw [List.length_cons, hDL.out]; omega
          refine ⟨(v : Int) :: o.dropLast, A7, c7, .inl ⟨hne2, HLC.out⟩, fun e => absurd e hne2, by omega, ?_, ?_, by omega, h72, b8⟩
          · rw [hl, decide_eq_true hne2]
          · rw [hl]; exact hown7
        clear hown7 hgrow7 hat7 b8 h71 h72 hS4
        go_wp2_with fail
        go_ret2
        exact HE.out
    | succ g2 =>
      have hlt : (i : Int) < (no : Int) := by omega
      obtain ⟨p, hp⟩ : ∃ p, os[i]? = some p := ⟨os[i]'(by rw [HNO.out]; omega), List.getElem?_eq_getElem _⟩
      have hpm := HOA.out p (List.mem_of_getElem? hp)
      obtain ⟨b, o, rfl, hbb, c0, c1, c2⟩ := ed_at (HQE.out wo HW.out) hp
      obtain ⟨y, hy⟩ : ∃ y : Nat, p.2.1 = (y : Int) := ⟨p.2.1.toNat, by omega⟩
      have hym : y < m := by omega
      have hym1 : (y : Int) < (m : Int) := by omega
      obtain ⟨e, he, _⟩ := HF.out.get hym
      have HE2 : Hid (fl[p.2.1.toNat]? = some e) := by show _ = _; rw [hy]; simpa using he
      have bn : Below wo.heap.size wo (wo.alloc (.cells #[.int .i64 p.1, .int .i64 p.2.1, .int .i64 p.2.2] 53)) := (Below.refl _ _).alloc (Nat.le_refl _) _
      have KY := Lib.hid (Blk.new wo 53 #[.int .i64 p.1, .int .i64 p.2.1, .int .i64 p.2.2])
      have HW2 : Hid (Below w3.heap.size w3 (wo.alloc (.cells #[.int .i64 p.1, .int .i64 p.2.1, .int .i64 p.2.2] 53))) := HW.out.trans (bn.mono HW.out.size)
      have HP := Lib.hid hp
      obtain ⟨Y, hY⟩ : ∃ Y, wo.heap.size = Y := ⟨_, rfl⟩
      rw [hY] at KY
      have hY1 := Lib.hid hy
      clear hp bn hbb HW hig hy
      go_upto_region 6 with fail
      clear c0 c1 c2 hY
      generalize wo.alloc (.cells #[.int .i64 p.1, .int .i64 p.2.1, .int .i64 p.2.2] 53) = wy at *
      have y1 := KY.out.cell 1
      have HFY := Lib.hid (HFS.out wy (C3.out.trans (HW2.out.mono C3.out.size)))
      obtain ⟨gf, of_, rfl, _, f1⟩ := row_at HFY.out he
      have HQB : Hid (∀ q, Below w3.heap.size w3 (wy.drewN q)) := fun q => below_drewN HW2.out q
      by_cases hl : l ≤ p.2.1
      · by_cases hneg : e < 0
        · have HN := Lib.hid (HPK.out.not_ HP.out HE2.out hneg)
          rw [hY1.out] at y1 hl
          have hng : ¬ (0 : Int) ≤ e := by omega
          go_upto_region 7 with fail
          go_quiet (fail)
          have HW3 := Lib.hid (HQB.out nq)
          clear y1 f1 HPK HQB HW2
          generalize wy.drewN nq = wj at *
          go_wp2_with fail
          go_roundg g2
          case measure => omega
          case rel => exact ⟨i + 1, x, rfl, by go_num, by have := HIG.out; omega, HN, HW3⟩
        · have hpos : (0 : Int) ≤ e := by omega
          rw [hY1.out] at y1 hl
          by_cases hx : x < 0
          · have HN := Lib.hid (HPK.out.take (fun h => by omega) HP.out hpm.2.1 (by rw [hY1.out]; exact hl) HE2.out hpos)
            rw [hY1.out] at HN
            go_upto_region 7 with fail
            go_quiet (fail)
            have HW3 := Lib.hid (HQB.out nq)
            clear y1 f1 HPK HQB HW2
            generalize wy.drewN nq = wj at *
            go_wp2_with fail
            go_roundg g2
            case measure => omega
            case rel => exact ⟨i + 1, (y : Int), rfl, by go_num, by have := HIG.out; omega, HN, HW3⟩
          · obtain ⟨xn, rfl⟩ : ∃ xn : Nat, x = (xn : Int) := ⟨x.toNat, by omega⟩
            obtain ⟨d, hd⟩ : ∃ d, fl[xn]? = some d := by
              rcases HPK.out with ⟨h, _⟩ | ⟨_, d, h1, _⟩
              · omega
              · exact ⟨d, by simpa using h1⟩
            have hxm : xn < m := by
              have := (List.getElem?_eq_some_iff.1 hd).1
              rw [HF.out.len] at this
              exact this
            have hx0 : (0 : Int) ≤ (xn : Int) := by omega
            have hx1 : (xn : Int) < (m : Int) := by omega
            obtain ⟨gf', of', ee, _, f2⟩ := row_at HFY.out hd
            injection ee with ee
            injection ee with ee1 ee2
            subst ee1; subst ee2
            by_cases hed : e < d
            · have HN := Lib.hid (HPK.out.take (fun h => ⟨d, by simpa using hd, hed⟩) HP.out hpm.2.1 (by rw [hY1.out]; exact hl) HE2.out hpos)
              rw [hY1.out] at HN
              clear hd
              go_upto_region 7 with fail
              go_quiet (fail)
              have HW3 := Lib.hid (HQB.out nq)
              clear y1 f1 f2 HPK HQB HW2
              generalize wy.drewN nq = wj at *
              go_wp2_with fail
              go_roundg g2
              case measure => omega
              case rel => exact ⟨i + 1, (y : Int), rfl, by go_num, by have := HIG.out; omega, HN, HW3⟩
            · have HN := Lib.hid (HPK.out.keep HUP.out hx0 (by simpa using hd) HP.out HE2.out hed)
              clear hd
              go_upto_region 7 with fail
              go_quiet (fail)
              have HW3 := Lib.hid (HQB.out nq)
              clear y1 f1 f2 HPK HQB HW2
              generalize wy.drewN nq = wj at *
              go_wp2_with fail
              go_roundg g2
              case measure => omega
              case rel => exact ⟨i + 1, (xn : Int), rfl, by go_num, by have := HIG.out; omega, HN, HW3⟩
      · have HN := Lib.hid (HPK.out.low HP.out hl)
        rw [hY1.out] at y1 hl
        go_upto_region 7 with fail
        go_quiet (fail)
        have HW3 := Lib.hid (HQB.out nq)
        clear y1 f1 HPK HQB HW2
        generalize wy.drewN nq = wj at *
        go_wp2_with fail
        go_roundg g2
        case measure => omega
        case rel => exact ⟨i + 1, x, rfl, by go_num, by have := HIG.out; omega, HN, HW3⟩
end Go.Proofs.YtgbpaiffnhpafaaDoor
namespace Go.Proofs.YtgbpaiffnhpafaaDoor
open Go.RowKit

theorem RRow.mono {Q Q' : List Int → Prop} {w w' : World} {e : Ending} (h : RRow Q w e w') (hq : ∀ l, Q l → Q' l) : RRow Q' w e w' := by
  obtain ⟨l, A, c, h1, h2⟩ := h
  exact ⟨l, A, c, hq l h1, h2⟩
theorem nilS_eql (w : World) (a : Option Addr) (l c : Nat) : (binOp .eql 30 (.slice a l c) (.slice none 0 0)).run Tryd.prog w = .ok (.bool a.isNone) w := Lib.run_eql_slice_nil w _ _ a l c 0 0 Tryd.underlying30
theorem to_zero {m : Nat} {zs : List Ed} (h : ∀ p ∈ zs, rightE (m : Int) p = true) : To (EdR zs) 0 = EdR zs := funext fun x => funext fun y => propext ⟨fun h => h.1, fun hr => ⟨hr, (EdR.in_ h x y hr).2.1⟩⟩

set_option maxRecDepth 100000 in
set_option maxHeartbeats 2000000 in
theorem rthrough8_any (m : Nat) (A : Option Addr) (n c : Nat) (zs : List Ed) (v : Nat) (hg : IsG (m : Int) zs) (hn : n ≤ 900) (hv : v < m) (w : World) (hR : Reads w w.heap.size 3 A n (cellsE zs)) :
    Calls Tryd.prog 22 #[.agg #[.int .i64 (m : Int), .slice A n c], .int .i64 (v : Int)] w (RRow (ThrIs zs (v : Int)) w) := by
  obtain ⟨k0, b0⟩ := box_new w #[.int .i64 (m : Int), .slice A n c] 24
  have HB := Lib.hid (rround8_any m A n c zs v 0 hg hn hv _ ((hR.below b0).more b0.size))
  have HZ := Lib.hid (to_zero hg.all)
  have B0 := Lib.hid b0
  have x0 := k0.cell 0
  have x1 := k0.cell 1
  clear hR b0 k0 hg
  go_enter Tryd.func22, Tryd.ntmps22
  go_wp2_with fail
  refine HB.out.mono ?_
  rintro e w2 ⟨o, A2, c2, h1, h2, h3, he, h4, h5, h6, b2⟩
  obtain ⟨bb, hbb⟩ : ∃ bb, decide (o ≠ []) = bb := ⟨_, rfl⟩
  rw [hbb] at he
  subst he
  have HE : Hid (RRow (ThrIs zs (v : Int)) w (.returned (.tuple #[.slice A2 o.length c2, .bool bb])) w2) := by
    refine ⟨o, A2, c2, ?_, h2, h3, by rw [hbb], own_base h4 B0.out.size, h5, h6, B0.out.trans (b2.mono B0.out.size)⟩
    unfold RndIs at h1
    rw [HZ.out] at h1
    exact h1
  clear h1 h2 h3 h4 h5 h6 b2 x0 x1 HB hbb
  go_wp2_with fail
  go_ret2
  exact HE.out

set_option maxRecDepth 100000 in
set_option maxHeartbeats 4000000 in
theorem rcycle8_any (m : Nat) (A : Option Addr) (n c : Nat) (zs : List Ed) (hg : IsG (m : Int) zs) (hn : n ≤ 900) (w : World) (hR : Reads w w.heap.size 3 A n (cellsE zs)) :
    Calls Tryd.prog 20 #[.agg #[.int .i64 (m : Int), .slice A n c]] w (RRow (BestIs (EdR zs) m) w) := by
  have hmn := hg.nodes
  obtain ⟨k0, b0⟩ := box_new w #[.int .i64 (m : Int), .slice A n c] 24
  have B0 := Lib.hid b0
  have K0 := Lib.hid k0
  have x0 := k0.cell 0
  have HG := Lib.hid hg
  have hm3 : m ≤ 300 := by omega
  have HRS : Hid (∀ W, Below w.heap.size w W → Reads W W.heap.size 3 A n (cellsE zs)) := fun W h => (hR.below h).more h.size
  clear hR b0 k0 hg hmn
  have qT : ∀ (w : World) (a : Option Addr) (l c : Nat), (binOp .eql 30 (.slice a l c) (.slice none 0 0)).run Tryd.prog w = .ok (.bool a.isNone) w := fun w a l c => nilS_eql w a l c
  go_enter Tryd.func20, Tryd.ntmps20
  go_wp2_with fail
  generalize w.alloc (.cells #[.int .i64 (m : Int), .slice A n c] 24) = W1 at *
  go_loopg [4, 10] m (fun gg s4 s10 wo => ∃ (k : Nat) (o : List Int) (Ao : Option Addr) (co : Nat), s4 = .slice Ao o.length co ∧ s10 = .int .i64 k ∧ k + gg = m ∧ Hid (BestIs (EdR zs) k o) ∧ Hid ((o = [] → Ao = none ∧ co = 0) ∧ o.length ≤ 302 ∧ o.length ≤ co ∧ co ≤ 9223372036854775807) ∧
    Hid (wo.ownsRow w.heap.size 3 1 (.slice Ao o.length co) o.length (ints o)) ∧ Hid (Below w.heap.size w wo) ∧ Hid (Blk wo w.heap.size 24 #[.int .i64 (m : Int), .slice A n c]))
  case atStart => exact ⟨0, [], none, 0, rfl, rfl, by omega, BestIs.start _, ⟨fun _ => ⟨rfl, rfl⟩, by decide, by decide, by decide⟩, World.ownsRow_nil _ _ _ _, B0.out, K0.out⟩
  case round =>
    clear x0 K0 B0
    obtain ⟨k, o, Ao, co, rfl, rfl, hkm, HB, HS, OW, HW, KB⟩ := hrel
    rename World => wo
    have HKM := Lib.hid hkm
    cases gk with
    | zero =>
      have hge : ¬ (k : Int) < (m : Int) := by omega
      obtain rfl : k = m := by omega
      have HE : Hid (RRow (BestIs (EdR zs) k) w (.returned (.tuple #[.slice Ao o.length co, .bool (decide (o ≠ []))])) wo) := ⟨o, Ao, co, HB.out, HS.out.1, HS.out.2.1, rfl, OW.out, HS.out.2.2.1, HS.out.2.2.2, HW.out⟩
      clear hkm
      cases o with
      | nil =>
        obtain ⟨rfl, rfl⟩ := HS.out.1 rfl
        go_wp2_with fail
        go_ret2
        exact HE.out
      | cons x o =>
        obtain ⟨g, rfl, _⟩ := own_cell OW.out (i := 0) rfl
        go_wp2_with fail
        go_ret2
        exact HE.out
    | succ g2 =>
      have hlt : (k : Int) < (m : Int) := by omega
      have x0 := KB.out.cell 0
      have x1 := KB.out.cell 1
      have HRO := Lib.hid (rround8_any m A n c zs k (k : Int) HG.out hn (by omega) wo (HRS.out wo HW.out))
      clear hkm
      go_wp2_with fail
      refine HRO.out.mono ?_
      rintro e w2 ⟨p, A2, c2, h1, h2, h3, he, h4, h5, h6, b2⟩
      have HW2 : Hid (Below w.heap.size w w2) := HW.out.trans (b2.mono HW.out.size)
      have KB2 := Lib.hid (KB.out.below b2 KB.out.lt)
      have OW2 := Lib.hid ((Keep.of_all (fun _ => True) b2).own OW.out fun _ _ => trivial)
      have OP := Lib.hid (own_base h4 HW.out.size)
      have HP : Hid ((p = [] → A2 = none ∧ c2 = 0) ∧ p.length ≤ 302 ∧ p.length ≤ c2 ∧ c2 ≤ 9223372036854775807) := ⟨h2, h3, h5, h6⟩
      have HR1 := Lib.hid h1
      have hp302 := h3
      have ho302 := HS.out.2.1
      clear h1 h2 h3 h4 h5 h6 b2 x0 x1 HRO OW HW KB
      by_cases hp : p = []
      · subst hp
        have HN : Hid (BestIs (EdR zs) (k + 1) o) := HB.out.keep fun r hr => by
          rcases HR1.out with ⟨h, _⟩ | ⟨_, h⟩
          · exact absurd rfl h
          · exact absurd hr (h r)
        rw [show decide (([] : List Int) ≠ []) = false from rfl] at he
        subst he
        go_wp2_with fail
        go_roundg g2
        case measure => omega
        case rel => exact ⟨k + 1, o, Ao, co, rfl, by go_num, by have := HKM.out; omega, HN, HS, OW2, HW2, KB2⟩
      · have HLC : Hid (LC (To (EdR zs) (k : Int)) (EdR zs) (k : Int) p) := by
          rcases HR1.out with ⟨_, h⟩ | ⟨h, _⟩
          · exact h
          · exact absurd h hp
        rw [decide_eq_true hp] at he
        subst he
        by_cases ho : o = []
        · subst ho
          obtain ⟨rfl, rfl⟩ := HS.out.1 rfl
          have HN := Lib.hid (HB.out.turn hp HLC.out fun h => absurd rfl h)
          go_wp2_with fail
          go_roundg g2
          case measure => omega
          case rel => exact ⟨k + 1, p, A2, c2, rfl, by go_num, by have := HKM.out; omega, HN, HP, OP, HW2, KB2⟩
        · have hol : 0 < o.length := List.length_pos_iff.2 ho
          obtain ⟨x, hx⟩ : ∃ x, o[0]? = some x := ⟨_, List.getElem?_eq_getElem hol⟩
          obtain ⟨g, rfl, _⟩ := own_cell OW2.out hx
          clear hx
          by_cases hlt2 : p.length < o.length
          · have HN := Lib.hid (HB.out.turn hp HLC.out fun _ => hlt2)
            go_wp2_with fail
            go_roundg g2
            case measure => omega
            case rel => exact ⟨k + 1, p, A2, c2, rfl, by go_num, by have := HKM.out; omega, HN, HP, OP, HW2, KB2⟩
          · have HN : Hid (BestIs (EdR zs) (k + 1) o) := HB.out.keep fun r hr => ⟨ho, by have := sle_len (HLC.out.2 r hr); omega⟩
            go_wp2_with fail
            go_roundg g2
            case measure => omega
            case rel => exact ⟨k + 1, o, _, co, rfl, by go_num, by have := HKM.out; omega, HN, HS, OW2, HW2, KB2⟩
end Go.Proofs.YtgbpaiffnhpafaaDoor
