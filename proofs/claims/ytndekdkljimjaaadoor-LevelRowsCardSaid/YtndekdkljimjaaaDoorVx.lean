/- LevelRows: the walk. -/
import Derived.Test.YtndekdkljimjaaaDoorVt
import Derived.Test.YtndekdkljimjaaaDoorVi
import Derived.Deep.Cut
import Derived.Deep.CutBlock
import Derived.Deep.DeepCutAuto
namespace Go.Proofs.YtndekdkljimjaaaDoor
open Go.RowKit Go.Shelf

/-- A row that is at hand, and where the world has come to. -/
def Want (zs : List Int) (w0 : World) (A : Option Addr) (n : Nat) (wx : World) : Prop := Reads wx wx.heap.size 1 A n (ints zs) ∧ Below w0.heap.size w0 wx
theorem Want.nil {w0 wx : World} (h : Below w0.heap.size w0 wx) : Want [] w0 none 0 wx := ⟨Reads.none_, h⟩
theorem uniL_len (p l : Int) : (uniL p l).length ≤ 1000 := by
  unfold uniL
  split
  · rename_i h
    unfold uniE at h
    split at h
    · rw [List.length_replicate]; omega
    · cases h
  · exact Nat.zero_le _
theorem withL_len (xs : List Int) (i l : Int) : (withL xs i l).length ≤ xs.length := by
  unfold withL
  split
  · rw [List.length_set]; exact Nat.le_refl _
  · exact Nat.zero_le _
theorem withE_bad {xs : List Int} {i l : Int} (h : (xs.all levB && levB l) = false) : withE xs i l = 190 ∧ withL xs i l = [] := by
  have h1 : withE xs i l = 190 := by unfold withE; rw [h]; rfl
  exact ⟨h1, by unfold withL; rw [h1]; rfl⟩
theorem withE_off {xs : List Int} {i l : Int} (h : (xs.all levB && levB l) = true) (hi : ¬ (0 ≤ i ∧ i < (xs.length : Int))) : withE xs i l = 2 ∧ withL xs i l = [] := by
  have h1 : withE xs i l = 2 := by unfold withE; rw [h, if_pos rfl, if_neg hi]
  exact ⟨h1, by unfold withL; rw [h1]; rfl⟩
theorem withE_on {xs : List Int} {p : Nat} {l : Int} (h : (xs.all levB && levB l) = true) (hi : p < xs.length) : withE xs (p : Int) l = 0 ∧ withL xs (p : Int) l = xs.set p l := by
  have h1 : withE xs (p : Int) l = 0 := by unfold withE; rw [h, if_pos rfl, if_pos (by omega)]
  exact ⟨h1, by unfold withL; rw [h1]; rfl⟩
theorem uni_off {p l : Int} (h : ¬ (0 ≤ p ∧ p ≤ 1000)) : uniE p l = 2 ∧ uniL p l = [] := by
  have h1 : uniE p l = 2 := by unfold uniE; rw [if_neg h]
  exact ⟨h1, by unfold uniL; rw [h1]; rfl⟩
theorem uni_bad {p l : Int} (h : 0 ≤ p ∧ p ≤ 1000) (hl : levB l = false) : uniE p l = 190 ∧ uniL p l = [] := by
  have h1 : uniE p l = 190 := by unfold uniE; rw [if_pos h, levE_no hl]
  exact ⟨h1, by unfold uniL; rw [h1]; rfl⟩
theorem uni_on {q : Nat} {l : Int} (h : q ≤ 1000) (hl : levB l = true) : uniE (q : Int) l = 0 ∧ uniL (q : Int) l = List.replicate q l := by
  have h1 : uniE (q : Int) l = 0 := by unfold uniE; rw [if_pos (by omega), levE_ok hl]
  exact ⟨h1, by unfold uniL; rw [h1]; rfl⟩
theorem rep_snoc (k : Nat) (l : Int) : ints (List.replicate (k + 1) l) = ints (List.replicate k l) ++ [.int .i64 l] := by
  rw [← List.replicate_append_replicate (n := k) (m := 1), ints_append]; rfl

set_option maxRecDepth 100000 in
set_option maxHeartbeats 16000000 in
theorem rows_core (A : Option Addr) (n c : Nat) (xs : List Int) (B : Option Addr) (m d : Nat) (ys : List Int) (p l : Int) (hnc : n ≤ c) (hcm : c ≤ 9223372036854775807) (hmd : m ≤ d) (hdm : d ≤ 9223372036854775807)
    (w : World) (hT : Tabs w) (h1 : Reads w w.heap.size 1 A n (ints xs)) (h2 : Reads w w.heap.size 1 B m (ints ys)) :
    Calls Tryd.prog 4 #[.slice A n c, .slice B m d, .agg #[.int .i64 p, .int .i64 l]] w fun e w' => e = .returned (.bool true) ∧ Below w.heap.size w w' := by
  have hb0 : Below w.heap.size w (w.alloc (.cells #[.int .i64 p, .int .i64 l] 35)) := (Below.refl _ _).alloc (Nat.le_refl _) _
  have E0 := Lib.hid (((((Env9.start w).add (c := c) h1).add (c := d) h2)).on hb0)
  have HBX := Lib.hid (Blk.new w 35 #[.int .i64 p, .int .i64 l])
  have HC := Lib.hid (And.intro (And.intro hnc hcm) (And.intro hmd hdm))
  have HW := Lib.hid (wakes9_any _ (hT.on hb0 (Nat.le_refl _)))
  clear hT h1 h2 hnc hcm hmd hdm hb0
  go_enter Tryd.func4, Tryd.ntmps4
  go_wp2_with fail
  generalize w.alloc (.cells #[.int .i64 p, .int .i64 l] 35) = w0 at *
  refine HW.out.mono ?_
  rintro e w1 ⟨rfl, b⟩
  have E1 := Lib.hid (E0.out.on b)
  have BX1 := Lib.hid (HBX.out.below b HBX.out.lt)
  clear b HW E0 HBX
  go_wp2_with fail
  refine (few_any A n c xs HC.out.1.1 HC.out.1.2 w1 (E1.out.rd (.tail _ (.head _)))).mono ?_
  rintro e w2 ⟨Aa, na, ca, rfl, h2⟩
  have HNA : Hid (na ≤ 40) := by
    show _ ≤ _
    rw [← h2.len, List.length_take]; omega
  have HLA := Lib.hid h2.len
  have E2 := Lib.hid (E1.out.copy h2)
  have BX2 := Lib.hid (BX1.out.below h2.below BX1.out.lt)
  clear h2 E1 BX1
  obtain ⟨us, hus⟩ : ∃ us, xs.take 40 = us := ⟨_, rfl⟩
  have HUS := Lib.hid hus
  rw [hus] at E2 HLA
  clear hus
  go_wp2_with fail
  refine (few_any B m d ys HC.out.2.1 HC.out.2.2 w2 (E2.out.rd (.tail _ (.head _)))).mono ?_
  rintro e w3 ⟨Ab, nb, cb, rfl, h2⟩
  have HNB : Hid (nb ≤ 40) := by
    show _ ≤ _
    rw [← h2.len, List.length_take]; omega
  have HLB := Lib.hid h2.len
  have E3 := Lib.hid (E2.out.copy h2)
  have BX3 := Lib.hid (BX2.out.below h2.below BX2.out.lt)
  clear h2 E2 BX2
  obtain ⟨vs, hvs⟩ : ∃ vs, ys.take 40 = vs := ⟨_, rfl⟩
  have HVS := Lib.hid hvs
  rw [hvs] at E3 HLB
  clear hvs
  have x0 := BX3.out.cell 0
  have x1 := BX3.out.cell 1
  go_upto_region 4 with fail
  go_quiet (fail)
  have E4 := Lib.hid (E3.out.drewN nq)
  clear E3 BX3 x0 x1
  generalize w3.drewN nq = w4 at *
  go_wp2_with fail
  refine (uni_any p l w4).mono ?_
  rintro e w5 ⟨Au, nu, cu, rfl, h5⟩
  have E5 := Lib.hid (E4.out.copy h5)
  have HNU := Lib.hid h5.len
  clear h5 E4
  have HRT := Lib.hid fun w => rright_any l w
  go_upto_block 0 with fail
  go_cut [13, 14] (fun s13 s14 wx => ∃ (A2 : Option Addr) (n2 c2 : Nat), s13 = .int .i64 (uniE p l) ∧ s14 = .slice A2 n2 c2 ∧ Hid (Want (uniL p l) w5 A2 n2 wx))
  case first =>
    by_cases hp : 0 ≤ p ∧ p ≤ 1000
    · obtain ⟨q, rfl⟩ : ∃ q : Nat, p = q := ⟨p.toNat, by omega⟩
      have hq0 : ¬ (q : Int) < 0 := by omega
      have hq1 : ¬ (q : Int) > 1000 := by omega
      cases hl : levB l
      · have HE := Lib.hid (uni_bad hp hl)
        rw [hl] at HRT
        clear hl hp
        go_wp2_with fail
        refine (HRT.out _).mono ?_
        rintro e w9 ⟨rfl, rfl⟩
        go_wp2_with fail
        go_meet
        exact ⟨none, 0, 0, by rw [HE.out.1], rfl, by rw [HE.out.2]; exact Want.nil (Below.refl _ _)⟩
      · have HE := Lib.hid (uni_on (q := q) (by omega) hl)
        rw [hl] at HRT
        obtain ⟨i0, hi, hz0, hz1, hz2⟩ := info_parts int9_info
        clear hl hp
        go_wp2_with fail
        refine (HRT.out _).mono ?_
        rintro e w9 ⟨rfl, rfl⟩
        go_wp2_with fail
        go_loopw [14, 38] (fun v s wr => ∃ k : Nat, k ≤ q ∧ s = .int .i64 k ∧ Hid (wr.ownsRow w5.heap.size 3 1 v k (ints (List.replicate k l))) ∧ Hid (Below w5.heap.size w5 wr)) (fun _ s _ => q - (intOf s).toNat)
        case atStart => exact ⟨0, by omega, rfl, World.ownsRow_nil _ _ _ _, Below.refl _ _⟩
        case round =>
          obtain ⟨k, hk, rfl, HO, HB⟩ := hrel
          by_cases hkq : k < q
          · have hlt : (k : Int) < (q : Int) := by omega
            have hs1 := HB.out.size
            go_wp2_with (at_builtin; refine wpList_append_own _ rfl _ _ 22 rfl w5.heap.size 3 i0 _ 1 8 Tryd.underlying22 hi hz0 hz1 hz2 rfl (by decide) _ _ _ rfl (HO.out.alloc _) ⟨wr.heap.size, 0, none⟩ 1 1 [_] rfl rfl (cell_one_new _ _ _) (int_one _) (by unfold maxLen; omega) (by omega) (by simp; omega) ?_; intro v' w6 hown' hgrow _)
            have HN : Hid (w6.ownsRow w5.heap.size 3 1 v' (k + 1) (ints (List.replicate (k + 1) l))) := by rw [rep_snoc]; exact hown'
            have HBN : Hid (Below w5.heap.size w5 w6) := (HB.out.alloc hs1 _).grown hgrow (by simp; omega) (own_block9 HO.out)
            clear hown' hgrow
            go_wp2_with fail
            go_roundw
            case rel => exact ⟨k + 1, by omega, by go_num, HN, HBN⟩
            case measure => simp [intOf]; omega
          · obtain rfl : k = q := by omega
            obtain ⟨A2, c2, rfl, _, _⟩ := own_form2 HO.out
            go_wp2_with fail
            go_meet
            exact ⟨A2, k, c2, by rw [HE.out.1], rfl, by rw [HE.out.2]; exact ⟨Reads.of_own HO.out, HB.out⟩⟩
    · have HE := Lib.hid (uni_off (l := l) hp)
      by_cases hp0 : p < 0
      · clear hp
        go_wp2_with fail
        go_meet
        exact ⟨none, 0, 0, by rw [HE.out.1], rfl, by rw [HE.out.2]; exact Want.nil (Below.refl _ _)⟩
      · have hp1 : p > 1000 := by omega
        clear hp
        go_wp2_with fail
        go_meet
        exact ⟨none, 0, 0, by rw [HE.out.1], rfl, by rw [HE.out.2]; exact Want.nil (Below.refl _ _)⟩
  case rest =>
    obtain ⟨A2, n2, c2, rfl, rfl, HWN⟩ := hcut
    have E6 := Lib.hid ((E5.out.on HWN.out.2).add (c := c2) HWN.out.1)
    have HEQ := Lib.hid (eqi_any Au A2 nu n2 cu c2 _ _ (by rw [← HNU.out]; have := uniL_len p l; omega) (by rw [← ints_len HWN.out.1]; have := uniL_len p l; omega) wc (E6.out.rd (.tail _ (.head _))) (E6.out.rd (.head _)))
    have hne : (uniE p l != uniE p l) = false := by simp
    generalize uniE p l = ue at *
    generalize uniL p l = ul at *
    rw [decide_eq_true (rfl : ul = ul)] at HEQ
    clear HWN HNU E5
    go_wp2_with fail
    refine HEQ.out.mono ?_
    rintro e w7 ⟨rfl, b7⟩
    have E7 := Lib.hid (E6.out.on b7)
    clear b7 E6 HEQ hne
    go_wp2_with fail
    refine (with_any Aa na ca us p l (by have := HNA.out; omega) w7 (E7.out.rd (.tail _ (.tail _ (.tail _ (.head _)))))).mono ?_
    rintro e w8 ⟨Aw, nw, cw, rfl, h8⟩
    have HNW := Lib.hid h8.len
    have E8 := Lib.hid (E7.out.copy h8)
    clear h8 E7
    have HALL := Lib.hid (rall_any Aa na ca us (by have := HNA.out; omega) w8 (E8.out.rd (.tail _ (.tail _ (.tail _ (.tail _ (.head _)))))))
    go_upto_block 3 with fail
    go_cut [13, 14] (fun s13 s14 wx => ∃ (A2 : Option Addr) (n2 c2 : Nat), s13 = .int .i64 (withE us p l) ∧ s14 = .slice A2 n2 c2 ∧ Hid (Want (withL us p l) w8 A2 n2 wx))
    case first =>
      cases hall : us.all levB
      · have HE := Lib.hid (withE_bad (xs := us) (i := p) (l := l) (by rw [hall, Bool.false_and]))
        rw [hall] at HALL
        clear hall
        go_wp2_with fail
        refine HALL.out.mono ?_
        rintro e w9 ⟨rfl, rfl⟩
        go_wp2_with fail
        go_meet
        exact ⟨none, 0, 0, by rw [HE.out.1], rfl, by rw [HE.out.2]; exact Want.nil (Below.refl _ _)⟩
      · cases hl : levB l
        · have HE := Lib.hid (withE_bad (xs := us) (i := p) (l := l) (by rw [hall, hl]; rfl))
          rw [hall] at HALL
          rw [hl] at HRT
          clear hall hl
          go_wp2_with fail
          refine HALL.out.mono ?_
          rintro e w9 ⟨rfl, rfl⟩
          go_wp2_with fail
          refine (HRT.out _).mono ?_
          rintro e w9 ⟨rfl, rfl⟩
          go_wp2_with fail
          go_meet
          exact ⟨none, 0, 0, by rw [HE.out.1], rfl, by rw [HE.out.2]; exact Want.nil (Below.refl _ _)⟩
        · have hboth : (us.all levB && levB l) = true := by rw [hall, hl]; rfl
          rw [hall] at HALL
          rw [hl] at HRT
          by_cases hp : 0 ≤ p ∧ p < (na : Int)
          · obtain ⟨q, rfl⟩ : ∃ q : Nat, p = q := ⟨p.toNat, by omega⟩
            have hq0 : ¬ (q : Int) < 0 := by omega
            have hq1 : ¬ (q : Int) ≥ (na : Int) := by omega
            have hq2 : (q : Int) < (na : Int) := hp.2
            have hqn : q < na := by omega
            have HE := Lib.hid (withE_on (p := q) hboth (by rw [HLA.out]; exact hqn))
            have HF := Lib.hid (few_any A n c xs HC.out.1.1 HC.out.1.2 w8 (E8.out.rd (.tail _ (.tail _ (.tail _ (.tail _ (.tail _ (.tail _ (.head _)))))))))
            rw [HUS.out] at HF
            clear hall hl hboth hp
            go_wp2_with fail
            refine HALL.out.mono ?_
            rintro e w9 ⟨rfl, rfl⟩
            go_wp2_with fail
            refine (HRT.out _).mono ?_
            rintro e w9 ⟨rfl, rfl⟩
            go_wp2_with fail
            refine HF.out.mono ?_
            rintro e w9 ⟨Af, nf, cf, rfl, hf⟩
            obtain rfl : na = nf := by rw [← hf.len, HLA.out]
            obtain ⟨x, hx⟩ : ∃ x, us[q]? = some x := ⟨us[q]'(by rw [HLA.out]; exact hqn), List.getElem?_eq_getElem _⟩
            obtain ⟨g5, rfl, _, hg5, hcell, hfr⟩ := hf.form (by omega)
            have y0 := hcell _ _ hx
            have f0 := hfr q
            have HN := Lib.hid (hf.set hg5 q l)
            clear hf hcell hfr hx HF
            go_wp2_with fail
            go_meet
            exact ⟨_, _, _, by rw [HE.out.1], rfl, by rw [HE.out.2]; exact ⟨HN.out.reads, HN.out.below⟩⟩
          · have HE := Lib.hid (withE_off (i := p) hboth (by rw [HLA.out]; exact hp))
            by_cases hp0 : p < 0
            · clear hall hl hboth hp
              go_wp2_with fail
              refine HALL.out.mono ?_
              rintro e w9 ⟨rfl, rfl⟩
              go_wp2_with fail
              refine (HRT.out _).mono ?_
              rintro e w9 ⟨rfl, rfl⟩
              go_wp2_with fail
              go_meet
              exact ⟨none, 0, 0, by rw [HE.out.1], rfl, by rw [HE.out.2]; exact Want.nil (Below.refl _ _)⟩
            · have hp1 : p ≥ (na : Int) := by omega
              clear hall hl hboth hp
              go_wp2_with fail
              refine HALL.out.mono ?_
              rintro e w9 ⟨rfl, rfl⟩
              go_wp2_with fail
              refine (HRT.out _).mono ?_
              rintro e w9 ⟨rfl, rfl⟩
              go_wp2_with fail
              go_meet
              exact ⟨none, 0, 0, by rw [HE.out.1], rfl, by rw [HE.out.2]; exact Want.nil (Below.refl _ _)⟩
    case rest =>
      obtain ⟨A3, n3, c3, rfl, rfl, HWN⟩ := hcut
      have E9 := Lib.hid ((E8.out.on HWN.out.2).add (c := c3) HWN.out.1)
      have HEQ := Lib.hid (eqi_any Aw A3 nw n3 cw c3 _ _ (by rw [← HNW.out]; have := withL_len us p l; have := HLA.out; have := HNA.out; omega) (by rw [← ints_len HWN.out.1]; have := withL_len us p l; have := HLA.out; have := HNA.out; omega) wc (E9.out.rd (.tail _ (.head _))) (E9.out.rd (.head _)))
      have hne : (withE us p l != withE us p l) = false := by simp
      generalize withE us p l = we at *
      generalize withL us p l = wl at *
      rw [decide_eq_true (rfl : wl = wl)] at HEQ
      clear HWN HNW E8 HALL HRT
      go_wp2_with fail
      refine HEQ.out.mono ?_
      rintro e w10 ⟨rfl, b10⟩
      have EA := Lib.hid (E9.out.on b10)
      clear b10 E9 HEQ hne
      have HA := Lib.hid (rall_any Aa na ca us (by have := HNA.out; omega) w10 (EA.out.rd (.tail _ (.tail _ (.tail _ (.tail _ (.tail _ (.head _))))))))
      have HBB := Lib.hid (rall_any Ab nb cb vs (by have := HNB.out; omega) w10 (EA.out.rd (.tail _ (.tail _ (.tail _ (.tail _ (.head _)))))))
      cases ha : us.all levB
      · have HK : Hid (alikeE [us, vs] = 190) := alike_bad (by rw [ha, Bool.false_and])
        rw [ha] at HA
        clear ha
        go_wp2_with fail
        refine HA.out.mono ?_
        rintro e wz ⟨rfl, rfl⟩
        clear HA HBB
        go_wp2_with fail
        refine (below9_no Aa Ab na ca nb cb us vs (by have := HNA.out; omega) (by have := HNB.out; omega) 190 HK.out (by decide) w10 (EA.out.rd (.tail _ (.tail _ (.tail _ (.tail _ (.tail _ (.head _))))))) (EA.out.rd (.tail _ (.tail _ (.tail _ (.tail _ (.head _))))))).mono ?_
        rintro e w11 ⟨rfl, b⟩
        have EB := Lib.hid (EA.out.on b)
        clear b EA
        go_wp2_with fail
        refine (join_no Aa Ab na ca nb cb us vs (by have := HNA.out; omega) (by have := HNB.out; omega) 190 HK.out (by decide) w11 (EB.out.rd (.tail _ (.tail _ (.tail _ (.tail _ (.tail _ (.head _))))))) (EB.out.rd (.tail _ (.tail _ (.tail _ (.tail _ (.head _))))))).mono ?_
        rintro e w12 ⟨Aj, nj, cj, rfl, h⟩
        obtain rfl : nj = 0 := h.len.symm
        have ED := Lib.hid (EB.out.copy h)
        clear h EB
        go_wp2_with fail
        refine (meet_no Aa Ab na ca nb cb us vs (by have := HNA.out; omega) (by have := HNB.out; omega) 190 HK.out (by decide) w12 (ED.out.rd (.tail _ (.tail _ (.tail _ (.tail _ (.tail _ (.tail _ (.head _)))))))) (ED.out.rd (.tail _ (.tail _ (.tail _ (.tail _ (.tail _ (.head _)))))))).mono ?_
        rintro e w13 ⟨Am, nm, cm, rfl, h⟩
        obtain rfl : nm = 0 := h.len.symm
        have EE := Lib.hid (ED.out.copy h)
        clear h ED
        have HF := Lib.hid (few_any A n c xs HC.out.1.1 HC.out.1.2 _ (EE.out.rd (.tail _ (.tail _ (.tail _ (.tail _ (.tail _ (.tail _ (.tail _ (.tail _ (.tail _ (.head _))))))))))))
        rw [HUS.out] at HF
        go_wp2_with fail
        refine HF.out.mono ?_
        rintro e wf ⟨Af, nf, cf, rfl, hf⟩
        obtain rfl : na = nf := by rw [← hf.len, HLA.out]
        have EF := Lib.hid (EE.out.copy hf)
        clear hf HF EE
        have HEQ := Lib.hid (eqi_any Aa Af na na ca cf us us (by have := HNA.out; omega) (by have := HNA.out; omega) wf (EF.out.rd (.tail _ (.tail _ (.tail _ (.tail _ (.tail _ (.tail _ (.tail _ (.tail _ (.head _)))))))))) (EF.out.rd (.head _)))
        rw [decide_eq_true (rfl : us = us)] at HEQ
        go_wp2_with fail
        refine HEQ.out.mono ?_
        rintro e wg ⟨rfl, b⟩
        have EG := Lib.hid (EF.out.on b)
        clear b EF HEQ
        have HF := Lib.hid (few_any B m d ys HC.out.2.1 HC.out.2.2 wg (EG.out.rd (.tail _ (.tail _ (.tail _ (.tail _ (.tail _ (.tail _ (.tail _ (.tail _ (.tail _ (.head _))))))))))))
        rw [HVS.out] at HF
        go_wp2_with fail
        refine HF.out.mono ?_
        rintro e wh ⟨Ah, nh, ch, rfl, hf⟩
        obtain rfl : nb = nh := by rw [← hf.len, HLB.out]
        have EH := Lib.hid (EG.out.copy hf)
        clear hf HF EG
        have HEQ := Lib.hid (eqi_any Ab Ah nb nb cb ch vs vs (by have := HNB.out; omega) (by have := HNB.out; omega) wh (EH.out.rd (.tail _ (.tail _ (.tail _ (.tail _ (.tail _ (.tail _ (.tail _ (.tail _ (.head _)))))))))) (EH.out.rd (.head _)))
        rw [decide_eq_true (rfl : vs = vs)] at HEQ
        go_wp2_with fail
        refine HEQ.out.mono ?_
        rintro e wi ⟨rfl, b⟩
        have EI := Lib.hid (EH.out.on b)
        clear b EH HEQ
        go_wp2_with fail
        go_ret
        exact ⟨by simp, EI.out.below⟩
      · cases hb : vs.all levB
        · have HK : Hid (alikeE [us, vs] = 190) := alike_bad (by rw [hb, Bool.and_false])
          rw [ha] at HA
          rw [hb] at HBB
          clear ha hb
          go_wp2_with fail
          refine HA.out.mono ?_
          rintro e wz ⟨rfl, rfl⟩
          go_wp2_with fail
          refine HBB.out.mono ?_
          rintro e wz ⟨rfl, rfl⟩
          clear HA HBB
          go_wp2_with fail
          refine (below9_no Aa Ab na ca nb cb us vs (by have := HNA.out; omega) (by have := HNB.out; omega) 190 HK.out (by decide) w10 (EA.out.rd (.tail _ (.tail _ (.tail _ (.tail _ (.tail _ (.head _))))))) (EA.out.rd (.tail _ (.tail _ (.tail _ (.tail _ (.head _))))))).mono ?_
          rintro e w11 ⟨rfl, b⟩
          have EB := Lib.hid (EA.out.on b)
          clear b EA
          go_wp2_with fail
          refine (join_no Aa Ab na ca nb cb us vs (by have := HNA.out; omega) (by have := HNB.out; omega) 190 HK.out (by decide) w11 (EB.out.rd (.tail _ (.tail _ (.tail _ (.tail _ (.tail _ (.head _))))))) (EB.out.rd (.tail _ (.tail _ (.tail _ (.tail _ (.head _))))))).mono ?_
          rintro e w12 ⟨Aj, nj, cj, rfl, h⟩
          obtain rfl : nj = 0 := h.len.symm
          have ED := Lib.hid (EB.out.copy h)
          clear h EB
          go_wp2_with fail
          refine (meet_no Aa Ab na ca nb cb us vs (by have := HNA.out; omega) (by have := HNB.out; omega) 190 HK.out (by decide) w12 (ED.out.rd (.tail _ (.tail _ (.tail _ (.tail _ (.tail _ (.tail _ (.head _)))))))) (ED.out.rd (.tail _ (.tail _ (.tail _ (.tail _ (.tail _ (.head _)))))))).mono ?_
          rintro e w13 ⟨Am, nm, cm, rfl, h⟩
          obtain rfl : nm = 0 := h.len.symm
          have EE := Lib.hid (ED.out.copy h)
          clear h ED
          have HF := Lib.hid (few_any A n c xs HC.out.1.1 HC.out.1.2 _ (EE.out.rd (.tail _ (.tail _ (.tail _ (.tail _ (.tail _ (.tail _ (.tail _ (.tail _ (.tail _ (.head _))))))))))))
          rw [HUS.out] at HF
          go_wp2_with fail
          refine HF.out.mono ?_
          rintro e wf ⟨Af, nf, cf, rfl, hf⟩
          obtain rfl : na = nf := by rw [← hf.len, HLA.out]
          have EF := Lib.hid (EE.out.copy hf)
          clear hf HF EE
          have HEQ := Lib.hid (eqi_any Aa Af na na ca cf us us (by have := HNA.out; omega) (by have := HNA.out; omega) wf (EF.out.rd (.tail _ (.tail _ (.tail _ (.tail _ (.tail _ (.tail _ (.tail _ (.tail _ (.head _)))))))))) (EF.out.rd (.head _)))
          rw [decide_eq_true (rfl : us = us)] at HEQ
          go_wp2_with fail
          refine HEQ.out.mono ?_
          rintro e wg ⟨rfl, b⟩
          have EG := Lib.hid (EF.out.on b)
          clear b EF HEQ
          have HF := Lib.hid (few_any B m d ys HC.out.2.1 HC.out.2.2 wg (EG.out.rd (.tail _ (.tail _ (.tail _ (.tail _ (.tail _ (.tail _ (.tail _ (.tail _ (.tail _ (.head _))))))))))))
          rw [HVS.out] at HF
          go_wp2_with fail
          refine HF.out.mono ?_
          rintro e wh ⟨Ah, nh, ch, rfl, hf⟩
          obtain rfl : nb = nh := by rw [← hf.len, HLB.out]
          have EH := Lib.hid (EG.out.copy hf)
          clear hf HF EG
          have HEQ := Lib.hid (eqi_any Ab Ah nb nb cb ch vs vs (by have := HNB.out; omega) (by have := HNB.out; omega) wh (EH.out.rd (.tail _ (.tail _ (.tail _ (.tail _ (.tail _ (.tail _ (.tail _ (.tail _ (.head _)))))))))) (EH.out.rd (.head _)))
          rw [decide_eq_true (rfl : vs = vs)] at HEQ
          go_wp2_with fail
          refine HEQ.out.mono ?_
          rintro e wi ⟨rfl, b⟩
          have EI := Lib.hid (EH.out.on b)
          clear b EH HEQ
          go_wp2_with fail
          go_ret
          exact ⟨by simp, EI.out.below⟩
        · by_cases hln : na = nb
          · subst hln
            have HK : Hid (alikeE [us, vs] = 0) := alike_ok ha hb (by rw [HLA.out, HLB.out])
            have hne : ((na : Int) != (na : Int)) = false := by simp
            rw [ha] at HA
            rw [hb] at HBB
            clear ha hb
            go_wp2_with fail
            refine HA.out.mono ?_
            rintro e wz ⟨rfl, rfl⟩
            go_wp2_with fail
            refine HBB.out.mono ?_
            rintro e wz ⟨rfl, rfl⟩
            clear HA HBB
            go_wp2_with fail
            refine (below9_ok Aa Ab na ca cb us vs (by have := HNA.out; omega) HK.out w10 (EA.out.rd (.tail _ (.tail _ (.tail _ (.tail _ (.tail _ (.head _))))))) (EA.out.rd (.tail _ (.tail _ (.tail _ (.tail _ (.head _))))))).mono ?_
            rintro e w11 ⟨rfl, b⟩
            have EB := Lib.hid (EA.out.on b)
            clear b EA
            obtain ⟨bl, hbl⟩ : ∃ bl, belowB us vs = bl := ⟨_, rfl⟩
            have HBW := Lib.hid hbl
            rw [hbl]
            clear hbl
            go_wp2_with fail
            refine (join_ok Aa Ab na ca cb us vs (by have := HNA.out; omega) HK.out w11 (EB.out.rd (.tail _ (.tail _ (.tail _ (.tail _ (.tail _ (.head _))))))) (EB.out.rd (.tail _ (.tail _ (.tail _ (.tail _ (.head _))))))).mono ?_
            rintro e w12 ⟨Aj, nj, cj, rfl, h⟩
            obtain rfl : na = nj := by rw [← h.len, List.length_zipWith, HLA.out, HLB.out]; omega
            have ED := Lib.hid (EB.out.copy h)
            clear h EB
            go_wp2_with fail
            refine (meet_ok Aa Ab na ca cb us vs (by have := HNA.out; omega) HK.out w12 (ED.out.rd (.tail _ (.tail _ (.tail _ (.tail _ (.tail _ (.tail _ (.head _)))))))) (ED.out.rd (.tail _ (.tail _ (.tail _ (.tail _ (.tail _ (.head _)))))))).mono ?_
            rintro e w13 ⟨Am, nm, cm, rfl, h⟩
            obtain rfl : na = nm := by rw [← h.len, List.length_zipWith, HLA.out, HLB.out]; omega
            have EE := Lib.hid (ED.out.copy h)
            clear h ED
            have HF := Lib.hid (few_any A n c xs HC.out.1.1 HC.out.1.2 _ (EE.out.rd (.tail _ (.tail _ (.tail _ (.tail _ (.tail _ (.tail _ (.tail _ (.tail _ (.tail _ (.head _))))))))))))
            rw [HUS.out] at HF
            go_wp2_with fail
            refine HF.out.mono ?_
            rintro e wf ⟨Af, nf, cf, rfl, hf⟩
            obtain rfl : na = nf := by rw [← hf.len, HLA.out]
            have EF := Lib.hid (EE.out.copy hf)
            clear hf HF EE
            have HEQ := Lib.hid (eqi_any Aa Af na na ca cf us us (by have := HNA.out; omega) (by have := HNA.out; omega) wf (EF.out.rd (.tail _ (.tail _ (.tail _ (.tail _ (.tail _ (.tail _ (.tail _ (.tail _ (.head _)))))))))) (EF.out.rd (.head _)))
            rw [decide_eq_true (rfl : us = us)] at HEQ
            go_wp2_with fail
            refine HEQ.out.mono ?_
            rintro e wg ⟨rfl, b⟩
            have EG := Lib.hid (EF.out.on b)
            clear b EF HEQ
            have HF := Lib.hid (few_any B m d ys HC.out.2.1 HC.out.2.2 wg (EG.out.rd (.tail _ (.tail _ (.tail _ (.tail _ (.tail _ (.tail _ (.tail _ (.tail _ (.tail _ (.head _))))))))))))
            rw [HVS.out] at HF
            go_wp2_with fail
            refine HF.out.mono ?_
            rintro e wh ⟨Ah, nh, ch, rfl, hf⟩
            obtain rfl : na = nh := by rw [← hf.len, HLB.out]
            have EH := Lib.hid (EG.out.copy hf)
            clear hf HF EG
            have HEQ := Lib.hid (eqi_any Ab Ah na na cb ch vs vs (by have := HNB.out; omega) (by have := HNB.out; omega) wh (EH.out.rd (.tail _ (.tail _ (.tail _ (.tail _ (.tail _ (.tail _ (.tail _ (.tail _ (.head _)))))))))) (EH.out.rd (.head _)))
            rw [decide_eq_true (rfl : vs = vs)] at HEQ
            go_wp2_with fail
            refine HEQ.out.mono ?_
            rintro e wi ⟨rfl, b⟩
            have EI := Lib.hid (EH.out.on b)
            clear b EH HEQ
            have HRB := Lib.hid (rbelow_any Aa Ab na ca cb us vs (by have := HNA.out; omega) wi (EI.out.rd (.tail _ (.tail _ (.tail _ (.tail _ (.tail _ (.tail _ (.tail _ (.tail _ (.tail _ (.head _))))))))))) (EI.out.rd (.tail _ (.tail _ (.tail _ (.tail _ (.tail _ (.tail _ (.tail _ (.tail _ (.head _)))))))))))
            rw [HBW.out] at HRB
            have hbb : (bl == bl) = true := by simp
            go_wp2_with fail
            refine HRB.out.mono ?_
            rintro e wj ⟨rfl, b⟩
            have EJ := Lib.hid (EI.out.on b)
            clear b EI HRB
            go_wp2_with fail
            refine (rof_any Aa Ab na ca cb us vs true (by have := HNA.out; omega) wj (EJ.out.rd (.tail _ (.tail _ (.tail _ (.tail _ (.tail _ (.tail _ (.tail _ (.tail _ (.tail _ (.head _))))))))))) (EJ.out.rd (.tail _ (.tail _ (.tail _ (.tail _ (.tail _ (.tail _ (.tail _ (.tail _ (.head _))))))))))).mono ?_
            rintro e wk ⟨Ao, no, co, rfl, h⟩
            obtain rfl : na = no := by rw [← h.len, List.length_zipWith, HLA.out, HLB.out]; omega
            have EK := Lib.hid (EJ.out.copy h)
            clear h EJ
            have HEQ := Lib.hid (eqi_any Aj Ao na na cj co _ _ (by have := HNA.out; omega) (by have := HNA.out; omega) wk (EK.out.rd (.tail _ (.tail _ (.tail _ (.tail _ (.head _)))))) (EK.out.rd (.head _)))
            rw [show (pickB true) = max from funext fun x => funext fun y => pick_max x y, decide_eq_true (rfl : List.zipWith max us vs = List.zipWith max us vs)] at HEQ
            go_wp2_with fail
            refine HEQ.out.mono ?_
            rintro e wl2 ⟨rfl, b⟩
            have EL := Lib.hid (EK.out.on b)
            clear b EK HEQ
            go_wp2_with fail
            refine (rof_any Aa Ab na ca cb us vs false (by have := HNA.out; omega) wl2 (EL.out.rd (.tail _ (.tail _ (.tail _ (.tail _ (.tail _ (.tail _ (.tail _ (.tail _ (.tail _ (.tail _ (.head _)))))))))))) (EL.out.rd (.tail _ (.tail _ (.tail _ (.tail _ (.tail _ (.tail _ (.tail _ (.tail _ (.tail _ (.head _)))))))))))).mono ?_
            rintro e wm ⟨Ap, np, cp, rfl, h⟩
            obtain rfl : na = np := by rw [← h.len, List.length_zipWith, HLA.out, HLB.out]; omega
            have EM := Lib.hid (EL.out.copy h)
            clear h EL
            have HEQ := Lib.hid (eqi_any Am Ap na na cm cp _ _ (by have := HNA.out; omega) (by have := HNA.out; omega) wm (EM.out.rd (.tail _ (.tail _ (.tail _ (.tail _ (.head _)))))) (EM.out.rd (.head _)))
            rw [show (pickB false) = min from funext fun x => funext fun y => pick_min x y, decide_eq_true (rfl : List.zipWith min us vs = List.zipWith min us vs)] at HEQ
            go_wp2_with fail
            refine HEQ.out.mono ?_
            rintro e wn ⟨rfl, b⟩
            have EN := Lib.hid (EM.out.on b)
            clear b EM HEQ
            go_wp2_with fail
            go_ret
            exact ⟨by simp, EN.out.below⟩
          · have HK : Hid (alikeE [us, vs] = 2) := by
              show _ = _
              rw [alike_two, ha, hb]
              have : ¬ us.length = vs.length := by rw [HLA.out, HLB.out]; exact hln
              simp [this]
            have hne : ((na : Int) != (nb : Int)) = true := by simp; omega
            rw [ha] at HA
            rw [hb] at HBB
            clear ha hb hln
            go_wp2_with fail
            refine HA.out.mono ?_
            rintro e wz ⟨rfl, rfl⟩
            go_wp2_with fail
            refine HBB.out.mono ?_
            rintro e wz ⟨rfl, rfl⟩
            clear HA HBB
            go_wp2_with fail
            refine (below9_no Aa Ab na ca nb cb us vs (by have := HNA.out; omega) (by have := HNB.out; omega) 2 HK.out (by decide) w10 (EA.out.rd (.tail _ (.tail _ (.tail _ (.tail _ (.tail _ (.head _))))))) (EA.out.rd (.tail _ (.tail _ (.tail _ (.tail _ (.head _))))))).mono ?_
            rintro e w11 ⟨rfl, b⟩
            have EB := Lib.hid (EA.out.on b)
            clear b EA
            go_wp2_with fail
            refine (join_no Aa Ab na ca nb cb us vs (by have := HNA.out; omega) (by have := HNB.out; omega) 2 HK.out (by decide) w11 (EB.out.rd (.tail _ (.tail _ (.tail _ (.tail _ (.tail _ (.head _))))))) (EB.out.rd (.tail _ (.tail _ (.tail _ (.tail _ (.head _))))))).mono ?_
            rintro e w12 ⟨Aj, nj, cj, rfl, h⟩
            obtain rfl : nj = 0 := h.len.symm
            have ED := Lib.hid (EB.out.copy h)
            clear h EB
            go_wp2_with fail
            refine (meet_no Aa Ab na ca nb cb us vs (by have := HNA.out; omega) (by have := HNB.out; omega) 2 HK.out (by decide) w12 (ED.out.rd (.tail _ (.tail _ (.tail _ (.tail _ (.tail _ (.tail _ (.head _)))))))) (ED.out.rd (.tail _ (.tail _ (.tail _ (.tail _ (.tail _ (.head _)))))))).mono ?_
            rintro e w13 ⟨Am, nm, cm, rfl, h⟩
            obtain rfl : nm = 0 := h.len.symm
            have EE := Lib.hid (ED.out.copy h)
            clear h ED
            have HF := Lib.hid (few_any A n c xs HC.out.1.1 HC.out.1.2 _ (EE.out.rd (.tail _ (.tail _ (.tail _ (.tail _ (.tail _ (.tail _ (.tail _ (.tail _ (.tail _ (.head _))))))))))))
            rw [HUS.out] at HF
            go_wp2_with fail
            refine HF.out.mono ?_
            rintro e wf ⟨Af, nf, cf, rfl, hf⟩
            obtain rfl : na = nf := by rw [← hf.len, HLA.out]
            have EF := Lib.hid (EE.out.copy hf)
            clear hf HF EE
            have HEQ := Lib.hid (eqi_any Aa Af na na ca cf us us (by have := HNA.out; omega) (by have := HNA.out; omega) wf (EF.out.rd (.tail _ (.tail _ (.tail _ (.tail _ (.tail _ (.tail _ (.tail _ (.tail _ (.head _)))))))))) (EF.out.rd (.head _)))
            rw [decide_eq_true (rfl : us = us)] at HEQ
            go_wp2_with fail
            refine HEQ.out.mono ?_
            rintro e wg ⟨rfl, b⟩
            have EG := Lib.hid (EF.out.on b)
            clear b EF HEQ
            have HF := Lib.hid (few_any B m d ys HC.out.2.1 HC.out.2.2 wg (EG.out.rd (.tail _ (.tail _ (.tail _ (.tail _ (.tail _ (.tail _ (.tail _ (.tail _ (.tail _ (.head _))))))))))))
            rw [HVS.out] at HF
            go_wp2_with fail
            refine HF.out.mono ?_
            rintro e wh ⟨Ah, nh, ch, rfl, hf⟩
            obtain rfl : nb = nh := by rw [← hf.len, HLB.out]
            have EH := Lib.hid (EG.out.copy hf)
            clear hf HF EG
            have HEQ := Lib.hid (eqi_any Ab Ah nb nb cb ch vs vs (by have := HNB.out; omega) (by have := HNB.out; omega) wh (EH.out.rd (.tail _ (.tail _ (.tail _ (.tail _ (.tail _ (.tail _ (.tail _ (.tail _ (.head _)))))))))) (EH.out.rd (.head _)))
            rw [decide_eq_true (rfl : vs = vs)] at HEQ
            go_wp2_with fail
            refine HEQ.out.mono ?_
            rintro e wi ⟨rfl, b⟩
            have EI := Lib.hid (EH.out.on b)
            clear b EH HEQ
            go_wp2_with fail
            go_ret
            exact ⟨by simp, EI.out.below⟩
end Go.Proofs.YtndekdkljimjaaaDoor
