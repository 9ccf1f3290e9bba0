/- The document's Of and Round: the number of each node's component; who goes round. -/
import Derived.Test.YtkebeadaoiiokaaM8
-- holds: YtkebeadaoiiokaaCe YtkebeadaoiiokaaCf
namespace Go.Proofs.Ytkebeadaoiiokaa
open Go.RowKit Go.Shelf

def cellM (ms : List (List Bool)) (v w : Nat) : Bool := (ms.getD v []).getD w false
def togM (ms : List (List Bool)) (v w : Nat) : Bool := decide (w = v) || (cellM ms v w && cellM ms w v)
def setE (t : Nat → Nat → Bool) (m v : Nat) : List Int := ((List.range m).filter (t v)).map fun (w : Nat) => (w : Int)
def leastB (t : Nat → Nat → Bool) (m v : Nat) : Bool := (List.range m).all fun w => !t v w || decide (w ≥ v)
def setsE (t : Nat → Nat → Bool) (k m : Nat) : List (List Int) := ((List.range k).filter (leastB t m)).map (setE t m)
theorem cellM_is {ms : List (List Bool)} {v w : Nat} {bs : List Bool} {b : Bool} (h : ms[v]? = some bs) (h2 : bs[w]? = some b) : cellM ms v w = b := by
  unfold cellM
  rw [show ms.getD v [] = bs from by rw [List.getD_eq_getElem?_getD, h]; rfl, List.getD_eq_getElem?_getD, h2]
  rfl
theorem setE_next (t : Nat → Nat → Bool) (i v : Nat) : setE t (i + 1) v = if t v i = true then setE t i v ++ [(i : Int)] else setE t i v := by
  unfold setE
  rw [List.range_succ, List.filter_append, List.map_append]
  cases h : t v i
  · rw [List.filter_cons_of_neg (by simp [h])]; simp
  · rw [List.filter_cons_of_pos h]; simp
theorem leastB_next (t : Nat → Nat → Bool) (i v : Nat) : leastB t (i + 1) v = (leastB t i v && (!t v i || decide (i ≥ v))) := by
  unfold leastB
  rw [List.range_succ, List.all_append]
  simp
theorem setsE_next (t : Nat → Nat → Bool) (i m : Nat) : setsE t (i + 1) m = if leastB t m i = true then setsE t i m ++ [setE t m i] else setsE t i m := by
  unfold setsE
  rw [List.range_succ, List.filter_append, List.map_append]
  cases h : leastB t m i
  · rw [List.filter_cons_of_neg (by simp [h])]; simp
  · rw [List.filter_cons_of_pos h]; simp
theorem setsE_len (t : Nat → Nat → Bool) (k m : Nat) : (setsE t k m).length ≤ k := by
  unfold setsE
  rw [List.length_map]
  exact Nat.le_trans (List.length_filter_le _ _) (by rw [List.length_range]; exact Nat.le_refl _)
theorem setE_len (t : Nat → Nat → Bool) (m v : Nat) : (setE t m v).length ≤ m := by
  unfold setE
  rw [List.length_map]
  exact Nat.le_trans (List.length_filter_le _ _) (by rw [List.length_range]; exact Nat.le_refl _)

/-- A row of rows of numbers, in memory of the call's own. -/
def IRows (W : World) (base : Nat) (A : Option Addr) (n c : Nat) (ls : List (List Int)) : Prop :=
  ∃ rs : List (Option Addr × Nat × Nat), rs.length = n ∧ ls.length = n ∧ W.ownsRow base 35 1 (.slice A n c) n (rs.map fun r => .slice r.1 r.2.1 r.2.2) ∧
    ∀ (i : Nat) (r : Option Addr × Nat × Nat) (l : List Int), rs[i]? = some r → ls[i]? = some l → W.ownsRow base 3 1 (.slice r.1 r.2.1 r.2.2) r.2.1 (ints l)
section
variable {W W' : World} {base n c : Nat} {A : Option Addr} {ls : List (List Int)}
theorem IRows.on (h : IRows W base A n c ls) (hb : Below W.heap.size W W') : IRows W' base A n c ls := by
  obtain ⟨rs, h1, h2, h3, h4⟩ := h
  exact ⟨rs, h1, h2, own_on h3 hb, fun i r bs hr hs => own_on (h4 i r bs hr hs) hb⟩
theorem IRows.base_ (h : IRows W base A n c ls) {base' : Nat} (hb : base' ≤ base) : IRows W base' A n c ls := by
  obtain ⟨rs, h1, h2, h3, h4⟩ := h
  exact ⟨rs, h1, h2, own_base h3 hb, fun i r bs hr hs => own_base (h4 i r bs hr hs) hb⟩
theorem IRows.len (h : IRows W base A n c ls) : ls.length = n := by obtain ⟨_, _, h2, _⟩ := h; exact h2
theorem IRows.nil (W : World) (base : Nat) : IRows W base none 0 0 [] := ⟨[], rfl, rfl, World.ownsRow_nil _ _ _ _, fun i r bs h => by simp at h⟩
/-- One row of it. -/
theorem IRows.at_ (h : IRows W base A n c ls) {i : Nat} (hi : i < n) : ∃ (b o : Nat) (A' : Option Addr) (k' c' : Nat) (l : List Int), A = some ⟨b, o, none⟩ ∧ W.cell? ⟨b, o + i, none⟩ = some (.slice A' k' c') ∧ ls[i]? = some l ∧ W.ownsRow base 3 1 (.slice A' k' c') k' (ints l) := by
  obtain ⟨rs, h1, h2, h3, h4⟩ := h
  obtain ⟨r, hr⟩ : ∃ r, rs[i]? = some r := ⟨rs[i]'(by omega), List.getElem?_eq_getElem _⟩
  obtain ⟨l, hs⟩ : ∃ l, ls[i]? = some l := ⟨ls[i]'(by omega), List.getElem?_eq_getElem _⟩
  obtain ⟨b, o, hA, _, hc⟩ := reads_plain (Reads.of_own h3) (by omega)
  exact ⟨b, o, r.1, r.2.1, r.2.2, l, hA, hc i _ (by rw [List.getElem?_map, hr]; rfl), hs, h4 i r l hr hs⟩
theorem irows_more {rs : List (Option Addr × Nat × Nat)} (h1 : rs.length = n) (h2 : ls.length = n) (h3 : W.ownsRow base 35 1 (.slice A n c) n (rs.map fun r => .slice r.1 r.2.1 r.2.2))
    (h4 : ∀ (i : Nat) (r : Option Addr × Nat × Nat) (l : List Int), rs[i]? = some r → ls[i]? = some l → W.ownsRow base 3 1 (.slice r.1 r.2.1 r.2.2) r.2.1 (ints l))
    {A' : Option Addr} {k' c' : Nat} {l : List Int} {o : Obj} {v5 : Value} (hb : W.ownsRow base 3 1 (.slice A' k' c') k' (ints l)) (h5 : W'.ownsRow base 35 1 v5 (n + 1) ((rs.map fun r => .slice r.1 r.2.1 r.2.2) ++ [.slice A' k' c']))
    (hg : (W.alloc o).grownBy W' (Value.slice A n c).ownBlock) : ∃ A5 c5, v5 = .slice A5 (n + 1) c5 ∧ IRows W' base A5 (n + 1) c5 (ls ++ [l]) := by
  obtain ⟨A5, c5, rfl, _, _⟩ := own_form2 h5
  refine ⟨A5, c5, rfl, rs ++ [(A', k', c')], by rw [List.length_append, h1]; rfl, by rw [List.length_append, h2]; rfl, by simpa using h5, fun i r b hr hs => ?_⟩
  rcases Nat.lt_or_ge i n with hi | hi
  · rw [List.getElem?_append_left (by omega)] at hr hs
    exact own_grown (h4 i r b hr hs) h3 hg (by decide)
  · have hi2 : i = n := by
      have := (List.getElem?_eq_some_iff.1 hr).1
      rw [List.length_append, h1] at this
      simp at this
      omega
    subst hi2
    rw [List.getElem?_append_right (by omega), h1, Nat.sub_self] at hr
    rw [List.getElem?_append_right (by omega), h2, Nat.sub_self] at hs
    simp at hr hs
    subst hr; subst hs
    exact own_grown hb h3 hg (by decide)
end
theorem islice_info : (Try.prog.info? 35).map (fun i => (i.zero, i.size, i.bytes)) = some (some (.slice none 0 0), 1, 24) := by kernel_rfl
def SetsIs (ls : List (List Int)) (w : World) (e : Ending) (w' : World) : Prop :=
  ∃ (A : Option Addr) (c : Nat), e = .returned (.slice A ls.length c) ∧ IRows w' w.heap.size A ls.length c ls ∧ Below w.heap.size w w'
theorem AllM.unique {zs : List Ed} {m : Nat} {ms ms' : List (List Bool)} (h : AllM zs m ms) (h' : AllM zs m ms') : ms = ms' := by
  refine List.ext_getElem (by rw [h.len, h'.len]) fun i h1 h2 => ?_
  obtain ⟨l1, s1⟩ := h.row i _ (List.getElem?_eq_getElem h1)
  obtain ⟨l2, s2⟩ := h'.row i _ (List.getElem?_eq_getElem h2)
  refine List.ext_getElem (by rw [l1, l2]) fun u h3 h4 => ?_
  have := (s1 u).trans (s2 u).symm
  rw [List.getElem?_eq_getElem h3, List.getElem?_eq_getElem h4] at this
  simp only [Option.some.injEq] at this
  exact Bool.eq_iff_iff.2 this

set_option maxRecDepth 100000 in
set_option maxHeartbeats 4000000 in
theorem rsets_any (z : Int) (A : Option Addr) (n c : Nat) (zs : List Ed) (hg : IsG z zs) (hn : n ≤ 1000) (w : World) (hR : Reads w w.heap.size 3 A n (cellsE zs)) :
    Calls Try.prog 38 #[.agg #[.int .i64 z, .slice A n c]] w fun e w' => ∃ ms, AllM zs z.toNat ms ∧ SetsIs (setsE (togM ms) z.toNat z.toNat) w e w' := by
  obtain ⟨bx, b0⟩ := box_new w #[.int .i64 z, .slice A n c] 24
  have hnd := hg.nodes
  obtain ⟨m, hm⟩ : ∃ m : Nat, z = (m : Int) := ⟨z.toNat, by omega⟩
  have hmz : z.toNat = m := by omega
  have hm300 : m ≤ 300 := by omega
  have HALL := rall_any z A n c zs hg hn (w.alloc (.cells #[.int .i64 z, .slice A n c] 24)) ((hR.below b0).more b0.size)
  rw [hmz] at HALL ⊢
  subst hm
  have HAL := Lib.hid HALL
  obtain ⟨i0, hi, hz0, hz1, hz2⟩ := info_parts int_info
  obtain ⟨j0, hj, hy0, hy1, hy2⟩ := info_parts islice_info
  have B0 := Lib.hid b0
  have z0 := bx.cell 0
  have z1 := bx.cell 1
  have BX := Lib.hid bx
  clear hR bx b0 hg hnd hmz HALL
  go_enter Try.func38, Try.ntmps38
  go_wp2_with fail
  generalize w.alloc (.cells #[.int .i64 (m : Int), .slice A n c] 24) = W0 at *
  refine HAL.out.mono ?_
  rintro e w1 ⟨ms, Aa, ca, hms, rfl, hmat, b⟩
  have HMS := Lib.hid hms
  have HMT := Lib.hid hmat
  have BX1 := Lib.hid (BX.out.below b BX.out.lt)
  have B1 : Hid (Below w.heap.size w w1) := B0.out.trans (b.mono B0.out.size)
  clear hms hmat b HAL z0 z1 B0 BX
  have z0 := BX1.out.cell 0
  obtain ⟨t, ht⟩ : ∃ t, togM ms = t := ⟨_, rfl⟩
  have HTT := Lib.hid ht
  clear ht
  go_wp2_with fail
  clear z0
  go_loopg [3, 13] m (fun gg s3 s13 wr => ∃ (i n' : Nat) (A' : Option Addr) (c' : Nat), i + gg = m ∧ s13 = .int .i64 i ∧ s3 = .slice A' n' c' ∧ Hid (IRows wr w1.heap.size A' n' c' (setsE t i m)) ∧ Hid (Below w1.heap.size w1 wr))
  case atStart => exact ⟨0, 0, none, 0, by omega, rfl, rfl, IRows.nil _ _, Below.refl _ _⟩
  case round =>
    obtain ⟨i, n', A', c', hig, rfl, rfl, HI, HB⟩ := hrel
    rename World => wo
    cases gk with
    | zero =>
      obtain rfl : i = m := by omega
      have hlt : ¬ (i : Int) < (i : Int) := by omega
      have HE : Hid (AllM zs i ms ∧ SetsIs (setsE (togM ms) i i) w (.returned (.slice A' n' c')) wo) := by
        rw [HTT.out]
        refine ⟨HMS.out, A', c', by rw [HI.out.len], ?_, B1.out.trans (HB.out.mono B1.out.size)⟩
        rw [HI.out.len]
        exact HI.out.base_ B1.out.size
      clear hig
      go_wp2_with fail
      go_ret
      exact ⟨ms, HE.out⟩
    | succ g2 =>
      have hlt : (i : Int) < (m : Int) := by omega
      have him : i < m := by omega
      have HIG : Hid (i + 1 + g2 = m) := by show _ = _; omega
      have hw1 : IntKind.i64.wrap ((i : Int) + 1) = ((i + 1 : Nat) : Int) := by rw [IntKind.wrap_i64]; omega
      have HW1 := Lib.hid hw1
      have z0 := (BX1.out.below HB.out BX1.out.lt).cell 0
      clear hig hw1
      go_wp2_with fail
      clear z0
      go_loopg [6, 7, 18] m (fun gg s6 s7 s18 wr => ∃ (k u : Nat) (As : Option Addr) (cs : Nat), k + gg = m ∧ s18 = .int .i64 k ∧ s6 = .slice As u cs ∧ s7 = .bool (leastB t k i) ∧ Hid (wr.ownsRow wo.heap.size 3 1 (.slice As u cs) u (ints (setE t k i))) ∧ Hid (Below wo.heap.size wo wr))
      case atStart => exact ⟨0, 0, none, 0, by omega, rfl, rfl, rfl, World.ownsRow_nil _ _ _ _, Below.refl _ _⟩
      case round =>
        obtain ⟨k, u, As, cs, hkg, rfl, rfl, rfl, HO, HJ⟩ := hrel
        cases gk with
        | zero =>
          obtain rfl : k = m := by omega
          have hltk : ¬ (k : Int) < (k : Int) := by omega
          have HI2 := Lib.hid (HI.out.on HJ.out)
          have HJ2 : Hid (Below w1.heap.size w1 wr) := HB.out.trans (HJ.out.mono HB.out.size)
          have HO2 := Lib.hid (own_base HO.out HB.out.size)
          have HNX := Lib.hid (setsE_next t i k)
          have hw1 := HW1.out
          clear hkg HO
          cases hl : leastB t k i
          · rw [hl, if_neg (by decide)] at HNX
            clear hl
            go_wp2_with fail
            go_roundg g2
            case measure => omega
            case rel => exact ⟨i + 1, n', A', c', HIG.out, rfl, rfl, by rw [HNX.out]; exact HI2, HJ2⟩
          · rw [hl, if_pos rfl] at HNX
            clear hl
            have hnn : n' ≤ 300 := by have h1 := HI2.out.len; have h2 := setsE_len t i k; omega
            go_wp2_with (at_builtin; obtain ⟨rs, hr1, hr2, hr3, hr4⟩ := HI2.out; refine wpList_append_own_at _ rfl _ _ 38 rfl w1.heap.size 35 j0 _ 1 24 Try.underlying38 hj hy0 hy1 hy2 rfl (by decide) (.slice A' n' c') n' _ rfl (hr3.alloc _) ⟨wr.heap.size, 0, none⟩ 1 1 [.slice As u cs] rfl rfl (cell_one_new _ _ _) (by intro q hq; simp at hq; subst hq; rfl) (by unfold maxLen; omega) (by omega) (by have := HJ2.out.size; simp; omega) ?_; intro v5 w5 hown5 hgrow5 _ _; obtain ⟨A5, c5, rfl, hm5⟩ := irows_more hr1 hr2 hr3 hr4 HO2.out hown5 hgrow5; have HA5 := Lib.hid hm5; have HB5 : Hid (Below w1.heap.size w1 w5) := (HJ2.out.alloc HJ2.out.size (.cells #[.slice As u cs] 35)).grown hgrow5 (by have := HJ2.out.size; simp; omega) (fun k hk => (hr3.lt k hk).1); clear hown5 hgrow5 hm5 hr1 hr2 hr3 hr4)
            go_roundg g2
            case measure => omega
            case rel => exact ⟨i + 1, n' + 1, A5, c5, HIG.out, rfl, rfl, by rw [HNX.out]; exact HA5, HB5⟩
        | succ g3 =>
          have hltk : (k : Int) < (m : Int) := by omega
          have hkm : k < m := by omega
          have HKG : Hid (k + 1 + g3 = m) := by show _ = _; omega
          have hwk : IntKind.i64.wrap ((k : Int) + 1) = ((k + 1 : Nat) : Int) := by rw [IntKind.wrap_i64]; omega
          have HWK := Lib.hid hwk
          have HNS := Lib.hid (setE_next t k i)
          have HNL := Lib.hid (leastB_next t k i)
          have HUL : Hid (u ≤ 300) := by
            have h1 := HO.out.1
            rw [ints_length] at h1
            have h2 := setE_len t k i
            show _ ≤ _; omega
          have HMW := Lib.hid (HMT.out.on (HB.out.trans (HJ.out.mono HB.out.size)))
          obtain ⟨b1, o1, A1, c1, b1', o1', bs1, v1, hAa, g1, hA1, g1', hb1, hv1⟩ := HMW.out.at_ him hkm
          obtain ⟨b2, o2, A2, c2, b2', o2', bs2, v2, hAa2, g3', hA2, g2', hb2, hv2⟩ := HMW.out.at_ hkm him
          rw [hAa] at hAa2
          injection hAa2 with hAa2
          injection hAa2 with e1 e2
          subst e1; subst e2; subst hA1; subst hA2
          have HTV : Hid (t i k = (decide (k = i) || (v1 && v2))) := by
            show _ = _
            rw [← HTT.out]
            unfold togM
            rw [cellM_is hb1 hv1, cellM_is hb2 hv2]
          have HAA := Lib.hid hAa
          clear hkg hwk hb1 hv1 hb2 hv2
          rw [hAa]
          clear hAa
          generalize leastB t k i = lb at *
          go_upto_region 11 with fail
          go_cut [41] from 21 to 40 (fun s41 wx => s41 = .bool (t i k) ∧ Hid (wx.ownsRow wo.heap.size 3 1 (.slice As u cs) u (ints (setE t k i))) ∧ Hid (Below wo.heap.size wo wx))
          case first =>
            by_cases hki : k = i
            · have hq : ((k : Int) == (i : Int)) = true := by simp; omega
              have hti : t i k = true := by rw [HTV.out, decide_eq_true hki]; rfl
              clear hki
              go_wp2_with fail
              go_meet
              exact ⟨by rw [hti], HO, HJ⟩
            · have hq : ((k : Int) == (i : Int)) = false := by simp; omega
              have hti : t i k = (v1 && v2) := by rw [HTV.out, decide_eq_false hki]; rfl
              clear hki
              cases v1
              · go_wp2_with fail
                go_meet
                exact ⟨by rw [hti]; rfl, HO, HJ⟩
              · go_wp2_with fail
                go_meet
                exact ⟨by rw [hti]; rfl, HO, HJ⟩
          case rest =>
            clear HO HJ HMW g1 g1' g3' g2' HTV
            rename World => wx
            obtain ⟨rfl, HO, HJ⟩ := hcut
            cases ht : t i k
            · rw [ht, if_neg (by decide)] at HNS
              rw [ht] at HNL
              clear ht
              have hwk := HWK.out
              go_wp2_with fail
              rw [← HAA.out]
              go_roundg g3
              case measure => omega
              case rel => exact ⟨k + 1, u, As, cs, HKG.out, rfl, rfl, by rw [HNL.out]; simp, by rw [HNS.out]; exact HO, HJ⟩
            · rw [ht, if_pos rfl] at HNS
              rw [ht] at HNL
              clear ht
              have hul := HUL.out
              go_upto_region 13 with (at_builtin; refine wpList_append_own_at _ rfl _ _ 35 rfl wo.heap.size 3 i0 _ 1 8 Try.underlying35 hi hz0 hz1 hz2 rfl (by decide) (.slice As u cs) u _ rfl (HO.out.alloc _) ⟨wx.heap.size, 0, none⟩ 1 1 [.int .i64 (k : Int)] rfl rfl (cell_one_new _ _ _) (by intro q hq; simp at hq; subst hq; rfl) (by unfold maxLen; omega) (by omega) (by have := HJ.out.size; simp; omega) ?_; intro v5 w5 hown5 hgrow5 _ _; obtain ⟨A5, c5, rfl, _, _⟩ := own_form2 hown5; have HO5 : Hid (w5.ownsRow wo.heap.size 3 1 (.slice A5 (u + 1) c5) (u + 1) (ints (setE t (k + 1) i))) := (by rw [HNS.out, ints_append]; exact hown5); have HJ5 : Hid (Below wo.heap.size wo w5) := (HJ.out.alloc HJ.out.size (.cells #[.int .i64 (k : Int)] 3)).grown hgrow5 (by have := HJ.out.size; simp; omega) (fun k hk => (HO.out.lt k hk).1); clear hown5 hgrow5)
              have hwk := HWK.out
              by_cases hge : i ≤ k
              · have hd : decide ((k : Int) ≥ (i : Int)) = true := by simp; omega
                have hd2 : decide (k ≥ i) = true := decide_eq_true hge
                rw [hd2] at HNL
                have HGE := Lib.hid hge
                clear hge hd2
                cases lb
                · go_wp2_with fail
                  rw [← HAA.out]
                  go_roundg g3
                  case measure => omega
                  case rel => exact ⟨k + 1, u + 1, A5, c5, HKG.out, rfl, rfl, by rw [HNL.out]; rfl, HO5, HJ5⟩
                · go_wp2_with fail
                  rw [← HAA.out]
                  go_roundg g3
                  case measure => omega
                  case rel => exact ⟨k + 1, u + 1, A5, c5, HKG.out, rfl, rfl, by rw [HNL.out, decide_eq_true HGE.out]; rfl, HO5, HJ5⟩
              · have hd : decide ((k : Int) ≥ (i : Int)) = false := by simp; omega
                have hd2 : decide (k ≥ i) = false := decide_eq_false hge
                rw [hd2] at HNL
                have HGE := Lib.hid hge
                clear hge hd2
                cases lb
                · go_wp2_with fail
                  rw [← HAA.out]
                  go_roundg g3
                  case measure => omega
                  case rel => exact ⟨k + 1, u + 1, A5, c5, HKG.out, rfl, rfl, by rw [HNL.out]; rfl, HO5, HJ5⟩
                · go_wp2_with fail
                  rw [← HAA.out]
                  go_roundg g3
                  case measure => omega
                  case rel => exact ⟨k + 1, u + 1, A5, c5, HKG.out, rfl, rfl, by rw [HNL.out, decide_eq_false HGE.out]; rfl, HO5, HJ5⟩
end Go.Proofs.Ytkebeadaoiiokaa
namespace Go.Proofs.Ytkebeadaoiiokaa
open Go.RowKit Go.Shelf

def putE (os : List Int) (i : Int) (l : List Int) : List Int := l.foldl (fun o v => o.set v.toNat i) os
def ofM (ls : List (List Int)) (m : Nat) : Nat → List Int
  | 0 => List.replicate m 0
  | k + 1 => putE (ofM ls m k) k (ls.getD k [])
theorem putE_len (os : List Int) (i : Int) (l : List Int) : (putE os i l).length = os.length := by
  unfold putE
  induction l generalizing os with
  | nil => rfl
  | cons v l ih => rw [List.foldl_cons, ih, List.length_set]
theorem ofM_len (ls : List (List Int)) (m : Nat) : ∀ k, (ofM ls m k).length = m
  | 0 => List.length_replicate
  | k + 1 => by unfold ofM; rw [putE_len, ofM_len ls m k]
theorem putE_next {os l : List Int} {i : Int} {j : Nat} {v : Int} (h : l[j]? = some v) : putE os i (l.take (j + 1)) = (putE os i (l.take j)).set v.toNat i := by
  unfold putE
  rw [List.take_add_one, h, List.foldl_append]
  rfl
/-- Numbers, in memory of the call's own. -/
def IntsOwn (vs : List Int) (w : World) (e : Ending) (w' : World) : Prop :=
  ∃ (A : Option Addr) (c : Nat), e = .returned (.slice A vs.length c) ∧ w'.ownsRow w.heap.size 3 1 (.slice A vs.length c) vs.length (ints vs) ∧ vs.length ≤ c ∧ c ≤ 9223372036854775807 ∧ Below w.heap.size w w'
theorem own_far {W : World} {base n size X k : Nat} {e : TypeId} {v u : Value} {xs : List Value} (h : W.ownsRow base e size v n xs) (hX : X < base) : (W.setCell ⟨X, k, none⟩ u).ownsRow base e size v n xs := by
  refine ⟨h.1, ?_⟩
  rcases h.2 with hn | ⟨g, cap, cur, hv, hbg, hb, rest⟩
  · exact .inl hn
  · exact .inr ⟨g, cap, cur, hv, hbg, (Below.heap_setCell W ⟨X, k, none⟩ u g (by show g ≠ X; omega)).trans hb, rest⟩
theorem IRows.far {W : World} {base n c X k : Nat} {A : Option Addr} {ls : List (List Int)} {u : Value} (h : IRows W base A n c ls) (hX : X < base) : IRows (W.setCell ⟨X, k, none⟩ u) base A n c ls := by
  obtain ⟨rs, h1, h2, h3, h4⟩ := h
  exact ⟨rs, h1, h2, own_far h3 hX, fun i r l hr hs => own_far (h4 i r l hr hs) hX⟩
theorem mem_setE {t : Nat → Nat → Bool} {m v : Nat} {x : Int} (h : x ∈ setE t m v) : 0 ≤ x ∧ x < m := by
  unfold setE at h
  obtain ⟨w, hw, rfl⟩ := List.mem_map.1 h
  have := List.mem_range.1 (List.mem_filter.1 hw).1
  omega
theorem mem_setsE {t : Nat → Nat → Bool} {k m : Nat} {l : List Int} (h : l ∈ setsE t k m) : ∃ v, l = setE t m v := by
  unfold setsE at h
  obtain ⟨w, _, rfl⟩ := List.mem_map.1 h
  exact ⟨w, rfl⟩

set_option maxRecDepth 100000 in
set_option maxHeartbeats 4000000 in
theorem rof6_any (z : Int) (A : Option Addr) (n c : Nat) (zs : List Ed) (hg : IsG z zs) (hn : n ≤ 1000) (w : World) (hR : Reads w w.heap.size 3 A n (cellsE zs)) :
    Calls Try.prog 36 #[.agg #[.int .i64 z, .slice A n c]] w fun e w' => ∃ ms, AllM zs z.toNat ms ∧ IntsOwn (ofM (setsE (togM ms) z.toNat z.toNat) z.toNat (setsE (togM ms) z.toNat z.toNat).length) w e w' := by
  obtain ⟨bx, b0⟩ := box_new w #[.int .i64 z, .slice A n c] 24
  have hnd := hg.nodes
  obtain ⟨m, hm⟩ : ∃ m : Nat, z = (m : Int) := ⟨z.toNat, by omega⟩
  have hmz : z.toNat = m := by omega
  have hm300 : m ≤ 300 := by omega
  have HS := Lib.hid fun W (h : Below w.heap.size w W) => rsets_any z A n c zs hg hn W ((hR.below h).more h.size)
  rw [hmz] at HS ⊢
  subst hm
  have hmk := fun W => int_make m (m : Int) rfl (by omega) W
  have B0 := Lib.hid b0
  have z0 := bx.cell 0
  have z1 := bx.cell 1
  have BX := Lib.hid bx
  clear hR bx b0 hg hnd hmz
  go_enter Try.func36, Try.ntmps36
  obtain ⟨W0, hW0⟩ : ∃ W0, w.alloc (.cells #[.int .i64 (m : Int), .slice A n c] 24) = W0 := ⟨_, rfl⟩
  rw [hW0] at B0 z0 z1 BX
  have hmk0 := hmk W0
  have hb1 : Below W0.heap.size W0 (W0.alloc (.cells (ints (List.replicate m 0)).toArray 3)) := (Below.refl _ _).alloc (Nat.le_refl _) _
  have BX1 := Lib.hid (BX.out.alloc (.cells (ints (List.replicate m 0)).toArray 3))
  have OX := Lib.hid (Blk.new W0 3 (ints (List.replicate m 0)).toArray)
  have B1 : Hid (Below w.heap.size w (W0.alloc (.cells (ints (List.replicate m 0)).toArray 3))) := B0.out.trans (hb1.mono B0.out.size)
  have x0 := BX1.out.cell 0
  have x1 := BX1.out.cell 1
  have HX0 : Hid (w.heap.size ≤ W0.heap.size) := B0.out.size
  have hX1 : W0.heap.size < (W0.alloc (.cells (ints (List.replicate m 0)).toArray 3)).heap.size := by rw [World.size_alloc]; omega
  have HX1 := Lib.hid hX1
  clear hmk hb1 hX1
  go_wp2_with fail
  clear hmk0 z0 z1 x0 x1 hW0
  generalize W0.alloc (.cells (ints (List.replicate m 0)).toArray 3) = W2 at *
  obtain ⟨X, hX⟩ : ∃ X, W0.heap.size = X := ⟨_, rfl⟩
  rw [hX] at OX HX0 HX1 ⊢
  clear hX
  refine (HS.out W2 B1.out).mono ?_
  rintro e w3 ⟨ms, hms, As, cs, rfl, hrows, b⟩
  have HMS := Lib.hid hms
  obtain ⟨ls, hls⟩ : ∃ ls, setsE (togM ms) m m = ls := ⟨_, rfl⟩
  rw [hls] at hrows ⊢
  have HLS := Lib.hid hls
  have HIR := Lib.hid hrows
  have OX3 := Lib.hid (OX.out.below b OX.out.lt)
  have B3 : Hid (Below w.heap.size w w3) := B1.out.trans (b.mono B1.out.size)
  have hlm : ls.length ≤ m := by rw [← hls]; exact setsE_len _ _ _
  clear hms hls hrows b HS OX BX1 BX
  obtain ⟨q, hq⟩ : ∃ q, ls.length = q := ⟨_, rfl⟩
  rw [hq] at HIR hlm ⊢
  have HQ := Lib.hid hq
  clear hq
  go_wp2_with fail
  go_loopg [14] q (fun gg s14 wr => ∃ i : Nat, i + gg = q ∧ s14 = .int .i64 i ∧ Hid (Blk wr X 3 (ints (ofM ls m i)).toArray) ∧ Hid (IRows wr W2.heap.size As q cs ls) ∧ Hid (Below w.heap.size w wr))
  case atStart => exact ⟨0, by omega, rfl, OX3, HIR, B3⟩
  case round =>
    clear OX3 HIR B3
    obtain ⟨i, hig, rfl, OX, HIR, HB⟩ := hrel
    cases gk with
    | zero =>
      obtain rfl : i = q := by omega
      have hlt : ¬ (i : Int) < (i : Int) := by omega
      have HE : Hid (∃ ms, AllM zs m ms ∧ IntsOwn (ofM (setsE (togM ms) m m) m (setsE (togM ms) m m).length) w (.returned (.slice (some ⟨X, 0, none⟩) m m)) wr) := by
        refine ⟨ms, HMS.out, ?_⟩
        rw [HLS.out, HQ.out]
        unfold IntsOwn
        rw [ofM_len]
        exact ⟨_, _, rfl, blk_own1 HX0.out OX.out (by rw [ints_length, ofM_len]) (by omega), Nat.le_refl _, by omega, HB.out⟩
      clear hig
      go_wp2_with fail
      go_ret
      exact HE.out
    | succ g2 =>
      have hlt : (i : Int) < (q : Int) := by omega
      have hiq : i < q := by omega
      have HIG : Hid (i + 1 + g2 = q) := by show _ = _; omega
      have hw1 : IntKind.i64.wrap ((i : Int) + 1) = ((i + 1 : Nat) : Int) := by rw [IntKind.wrap_i64]; omega
      have HW1 := Lib.hid hw1
      obtain ⟨bs, os, A1, k1, c1, l, hAs, g1, hl, hown⟩ := HIR.out.at_ hiq
      have HL := Lib.hid hl
      have HAS := Lib.hid hAs
      have hkl : l.length = k1 := by have := hown.1; rw [ints_length] at this; omega
      have hk1 : k1 ≤ 300 := by
        obtain ⟨v, rfl⟩ := mem_setsE (by rw [HLS.out]; exact List.mem_of_getElem? hl)
        have := setE_len (togM ms) m v
        omega
      have HMEM : Hid (∀ x ∈ l, 0 ≤ x ∧ x < (m : Int)) := by
        obtain ⟨v, rfl⟩ := mem_setsE (by rw [HLS.out]; exact List.mem_of_getElem? hl)
        exact fun x hx => mem_setE hx
      have HOW := Lib.hid hown
      have HKL := Lib.hid hkl
      clear hl hown hkl hw1 hig
      rw [hAs]
      clear hAs
      go_wp2_with fail
      clear g1
      go_loopg [21] k1 (fun gg s21 wr => ∃ j : Nat, j + gg = k1 ∧ s21 = .int .i64 j ∧ Hid (Blk wr X 3 (ints (putE (ofM ls m i) (i : Int) (l.take j))).toArray) ∧ Hid (IRows wr W2.heap.size As q cs ls) ∧ Hid (wr.ownsRow W2.heap.size 3 1 (.slice A1 k1 c1) k1 (ints l)) ∧ Hid (Below w.heap.size w wr))
      case atStart => exact ⟨0, by omega, rfl, OX, HIR, HOW, HB⟩
      case round =>
        clear OX HIR HOW HB
        obtain ⟨j, hjg, rfl, OX, HIR, HOW, HB⟩ := hrel
        cases gk with
        | zero =>
          obtain rfl : j = k1 := by omega
          have hltj : ¬ (j : Int) < (j : Int) := by omega
          have hw1 := HW1.out
          have OX2 : Hid (Blk wr X 3 (ints (ofM ls m (i + 1))).toArray) := by
            have := OX.out
            rw [List.take_of_length_le (by rw [HKL.out]; exact Nat.le_refl _)] at this
            show Blk _ _ _ _
            unfold ofM
            rw [List.getD_eq_getElem?_getD, HL.out]
            exact this
          clear hjg
          go_wp2_with fail
          rw [← HAS.out]
          go_roundg g2
          case measure => omega
          case rel => exact ⟨i + 1, HIG.out, rfl, OX2, HIR, HB⟩
        | succ g3 =>
          have hltj : (j : Int) < (k1 : Int) := by omega
          have hjk : j < k1 := by omega
          have HJG : Hid (j + 1 + g3 = k1) := by show _ = _; omega
          have hwj : IntKind.i64.wrap ((j : Int) + 1) = ((j + 1 : Nat) : Int) := by rw [IntKind.wrap_i64]; omega
          obtain ⟨x, hx⟩ : ∃ x, l[j]? = some x := ⟨l[j]'(by rw [HKL.out]; exact hjk), List.getElem?_eq_getElem _⟩
          have hxr := HMEM.out x (List.mem_of_getElem? hx)
          obtain ⟨xn, rfl⟩ : ∃ xn : Nat, x = (xn : Int) := ⟨x.toNat, by omega⟩
          have hxm : xn < m := by omega
          have hxmI : (xn : Int) < (m : Int) := by omega
          obtain ⟨b3, o3, hA1, _, y0⟩ := int_at (Reads.of_own HOW.out) hx
          have HA1 := Lib.hid hA1
          have HNX := Lib.hid (putE_next (os := ofM ls m i) (i := (i : Int)) hx)
          have hlen : xn < (ints (putE (ofM ls m i) (i : Int) (l.take j))).length := by rw [ints_length, putE_len, ofM_len]; exact hxm
          obtain ⟨u0, hu0⟩ : ∃ u, (ints (putE (ofM ls m i) (i : Int) (l.take j)))[xn]? = some u := ⟨_, List.getElem?_eq_getElem hlen⟩
          have y1 : wr.cell? ⟨X, xn, none⟩ = some u0 := by rw [OX.out.cell, List.getElem?_toArray]; exact hu0
          have f1 : wr.frozen? ⟨X, xn, none⟩ = false := OX.out.frozen xn
          have OX2 : Hid (Blk (wr.setCell ⟨X, xn, none⟩ (.int .i64 (i : Int))) X 3 (ints (putE (ofM ls m i) (i : Int) (l.take (j + 1)))).toArray) := by
            have := OX.out.set_ xn (.int .i64 (i : Int))
            rw [List.setIfInBounds_toArray, ints_set] at this
            rw [HNX.out]
            exact this
          have HIR2 := Lib.hid (HIR.out.far (k := xn) (u := .int .i64 (i : Int)) HX1.out)
          have HOW2 := Lib.hid (own_far (k := xn) (u := .int .i64 (i : Int)) HOW.out HX1.out)
          have HB2 : Hid (Below w.heap.size w (wr.setCell ⟨X, xn, none⟩ (.int .i64 (i : Int)))) := HB.out.setCell HX0.out _
          clear hx hjg hxr hlen hu0 OX HIR HOW HB HNX
          rw [hA1]
          clear hA1
          go_wp2_with fail
          rw [← HA1.out]
          go_roundg g3
          case measure => omega
          case rel => exact ⟨j + 1, HJG.out, rfl, OX2, HIR2, HOW2, HB2⟩

def roundE (ms : List (List Bool)) (m : Nat) : List Int := ((List.range m).filter fun v => cellM ms v v).map fun (v : Nat) => (v : Int)
theorem roundE_next (ms : List (List Bool)) (i : Nat) : roundE ms (i + 1) = if cellM ms i i = true then roundE ms i ++ [(i : Int)] else roundE ms i := by
  unfold roundE
  rw [List.range_succ, List.filter_append, List.map_append]
  cases h : cellM ms i i
  · rw [List.filter_cons_of_neg (by simp [h])]; simp
  · rw [List.filter_cons_of_pos (p := fun v => cellM ms v v) h]; simp
theorem roundE_len (ms : List (List Bool)) (m : Nat) : (roundE ms m).length ≤ m := by
  unfold roundE
  rw [List.length_map]
  exact Nat.le_trans (List.length_filter_le _ _) (by rw [List.length_range]; exact Nat.le_refl _)

end Go.Proofs.Ytkebeadaoiiokaa
