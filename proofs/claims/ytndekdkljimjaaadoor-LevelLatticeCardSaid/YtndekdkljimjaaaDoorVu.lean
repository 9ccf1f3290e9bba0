/- LevelLattice: the walk. -/
import Derived.Test.YtndekdkljimjaaaDoorVt
import Derived.Deep.Cut
import Derived.Deep.DeepCutAuto
namespace Go.Proofs.YtndekdkljimjaaaDoor
open Go.RowKit Go.Shelf

set_option maxRecDepth 100000 in
set_option maxHeartbeats 16000000 in
theorem lattice_core (A : Option Addr) (n c : Nat) (xs : List Int) (B : Option Addr) (m d : Nat) (ys : List Int) (C : Option Addr) (k e0 : Nat) (zs : List Int) (hnc : n ≤ c) (hcm : c ≤ 9223372036854775807) (hmd : m ≤ d) (hdm : d ≤ 9223372036854775807) (hke : k ≤ e0) (hem : e0 ≤ 9223372036854775807)
    (w : World) (hT : Tabs w) (h1 : Reads w w.heap.size 1 A n (ints xs)) (h2 : Reads w w.heap.size 1 B m (ints ys)) (h3 : Reads w w.heap.size 1 C k (ints zs)) :
    Calls Tryd.prog 6 #[.slice A n c, .slice B m d, .slice C k e0] w fun e w' => e = .returned (.bool true) ∧ Below w.heap.size w w' := by
  have E0 := Lib.hid ((((Env9.start w).add (c := c) h1).add (c := d) h2).add (c := e0) h3)
  have HC := Lib.hid (And.intro (And.intro hnc hcm) (And.intro (And.intro hmd hdm) (And.intro hke hem)))
  have HW := Lib.hid (wakes9_any w hT)
  clear hT h1 h2 h3 hnc hcm hmd hdm hke hem
  go_enter Tryd.func6, Tryd.ntmps6
  go_wp2_with fail
  refine HW.out.mono ?_
  rintro e w1 ⟨rfl, b⟩
  have E1 := Lib.hid (E0.out.on b)
  clear b HW E0
  go_wp2_with fail
  refine (few_any A n c xs HC.out.1.1 HC.out.1.2 w1 (E1.out.rd (.tail _ (.tail _ (.head _))))).mono ?_
  rintro e w2 ⟨Aa, na, ca, rfl, h2⟩
  have HNA : Hid (na ≤ 40) := by
    show _ ≤ _
    rw [← h2.len, List.length_take]; omega
  have HLA := Lib.hid h2.len
  have E2 := Lib.hid (E1.out.copy h2)
  clear h2 E1
  generalize xs.take 40 = us at *
  go_wp2_with fail
  refine (few_any B m d ys HC.out.2.1.1 HC.out.2.1.2 w2 (E2.out.rd (.tail _ (.tail _ (.head _))))).mono ?_
  rintro e w3 ⟨Ab, nb, cb, rfl, h2⟩
  have HNB : Hid (nb ≤ 40) := by
    show _ ≤ _
    rw [← h2.len, List.length_take]; omega
  have HLB := Lib.hid h2.len
  have E3 := Lib.hid (E2.out.copy h2)
  clear h2 E2
  generalize ys.take 40 = vs at *
  go_wp2_with fail
  refine (few_any C k e0 zs HC.out.2.2.1 HC.out.2.2.2 w3 (E3.out.rd (.tail _ (.tail _ (.head _))))).mono ?_
  rintro e w4 ⟨Ac, nc, cc, rfl, h2⟩
  have HNC : Hid (nc ≤ 40) := by
    show _ ≤ _
    rw [← h2.len, List.length_take]; omega
  have E4 := Lib.hid (E3.out.copy h2)
  clear h2 E3
  generalize zs.take 40 = ts at *
  by_cases hk : alikeE [us, vs] = 0
  · obtain ⟨_, _, h3⟩ := alike_parts hk
    obtain rfl : na = nb := by rw [← HLA.out, ← HLB.out]; exact h3
    have HK := Lib.hid hk
    clear hk h3
    go_wp2_with fail
    refine (join_ok Aa Ab na ca cb us vs (by have := HNA.out; omega) HK.out w4 (E4.out.rd (.tail _ (.tail _ (.head _)))) (E4.out.rd (.tail _ (.head _)))).mono ?_
    rintro e w5 ⟨Aj, nj, cj, rfl, h5⟩
    obtain rfl : na = nj := by rw [← h5.len, List.length_zipWith, HLA.out, HLB.out]; omega
    have E5 := Lib.hid (E4.out.copy h5)
    clear h5 E4
    go_wp2_with fail
    refine (meet_ok Aa Ab na ca cb us vs (by have := HNA.out; omega) HK.out w5 (E5.out.rd (.tail _ (.tail _ (.tail _ (.head _))))) (E5.out.rd (.tail _ (.tail _ (.head _))))).mono ?_
    rintro e w6 ⟨Am, nm, cm, rfl, h6⟩
    obtain rfl : na = nm := by rw [← h6.len, List.length_zipWith, HLA.out, HLB.out]; omega
    have E6 := Lib.hid (E5.out.copy h6)
    clear h6 E5
    have EU := is_up HK.out
    have ED := is_down HK.out
    have HAB := Lib.hid (E6.out.asks HNA.out HNA.out (.tail _ (.tail _ (.tail _ (.tail _ (.head _))))) (.tail _ (.tail _ (.tail _ (.head _)))))
    have HAJ := Lib.hid (E6.out.asks HNA.out HNA.out (.tail _ (.tail _ (.tail _ (.tail _ (.head _))))) (.tail _ (.head _)))
    rw [EU.1] at HAJ
    have HBJ := Lib.hid (E6.out.asks HNA.out HNA.out (.tail _ (.tail _ (.tail _ (.head _)))) (.tail _ (.head _)))
    rw [EU.2] at HBJ
    have HMA := Lib.hid (E6.out.asks HNA.out HNA.out (.head _) (.tail _ (.tail _ (.tail _ (.tail _ (.head _))))))
    rw [ED.1] at HMA
    have HMB := Lib.hid (E6.out.asks HNA.out HNA.out (.head _) (.tail _ (.tail _ (.tail _ (.head _)))))
    rw [ED.2] at HMB
    have HAC := Lib.hid (E6.out.asks HNA.out HNC.out (.tail _ (.tail _ (.tail _ (.tail _ (.head _))))) (.tail _ (.tail _ (.head _))))
    have HBC := Lib.hid (E6.out.asks HNA.out HNC.out (.tail _ (.tail _ (.tail _ (.head _)))) (.tail _ (.tail _ (.head _))))
    have HJC := Lib.hid (E6.out.asks HNA.out HNC.out (.tail _ (.head _)) (.tail _ (.tail _ (.head _))))
    have HCA := Lib.hid (E6.out.asks HNC.out HNA.out (.tail _ (.tail _ (.head _))) (.tail _ (.tail _ (.tail _ (.tail _ (.head _))))))
    have HCB := Lib.hid (E6.out.asks HNC.out HNA.out (.tail _ (.tail _ (.head _))) (.tail _ (.tail _ (.tail _ (.head _)))))
    have HCM := Lib.hid (E6.out.asks HNC.out HNA.out (.tail _ (.tail _ (.head _))) (.head _))
    have HBA := Lib.hid (E6.out.asks HNA.out HNA.out (.tail _ (.tail _ (.tail _ (.head _)))) (.tail _ (.tail _ (.tail _ (.tail _ (.head _))))))
    have EJB := Lib.hid (E6.out.eqs HNA.out HNA.out (.tail _ (.head _)) (.tail _ (.tail _ (.tail _ (.head _)))))
    rw [is_join HK.out] at EJB
    have EMA := Lib.hid (E6.out.eqs HNA.out HNA.out (.head _) (.tail _ (.tail _ (.tail _ (.tail _ (.head _))))))
    rw [is_meet HK.out] at EMA
    have EAB := Lib.hid (E6.out.eqs HNA.out HNA.out (.tail _ (.tail _ (.tail _ (.tail _ (.head _))))) (.tail _ (.tail _ (.tail _ (.head _)))))
    have B : Hid (Below w6.heap.size w6 w6) := Below.refl _ _
    have hq := fun h1 h2 => is_least (zs := ts) HK.out h1 h2
    have hr := fun h1 h2 => is_most (zs := ts) HK.out h1 h2
    have hs := fun h1 h2 => decide_eq_true (is_same HK.out h1 h2)
    have EB := Lib.hid E6.out.below
    clear EU ED E6 HK HLA HLB HNA HNC HNB HC
    obtain ⟨sx, hsx⟩ : ∃ b, isB us vs = b := ⟨_, rfl⟩
    obtain ⟨s2, hs2⟩ : ∃ b, isB vs us = b := ⟨_, rfl⟩
    obtain ⟨s3, hs3⟩ : ∃ b, decide (us = vs) = b := ⟨_, rfl⟩
    obtain ⟨q1, hq1⟩ : ∃ b, isB us ts = b := ⟨_, rfl⟩
    obtain ⟨q2, hq2⟩ : ∃ b, isB vs ts = b := ⟨_, rfl⟩
    obtain ⟨q3, hq3⟩ : ∃ b, isB (List.zipWith max us vs) ts = b := ⟨_, rfl⟩
    obtain ⟨r1, hr1⟩ : ∃ b, isB ts us = b := ⟨_, rfl⟩
    obtain ⟨r2, hr2⟩ : ∃ b, isB ts vs = b := ⟨_, rfl⟩
    obtain ⟨r3, hr3⟩ : ∃ b, isB ts (List.zipWith min us vs) = b := ⟨_, rfl⟩
    rw [hsx] at HAB EJB EMA hs
    rw [hs2] at HBA hs
    rw [hs3] at EAB hs
    rw [hq1] at HAC hq
    rw [hq2] at HBC hq
    rw [hq3] at HJC hq
    rw [hr1] at HCA hr
    rw [hr2] at HCB hr
    rw [hr3] at HCM hr
    clear hsx hs2 hs3 hq1 hq2 hq3 hr1 hr2 hr3
    have HSX : Hid ((sx != sx) = false) := by show _ = _; cases sx <;> rfl
    have HQ : (q1 = false) ∨ (q1 = true ∧ q2 = false) ∨ (q1 = true ∧ q2 = true ∧ q3 = true) := by cases q1 <;> cases q2 <;> simp_all
    have HR : (r1 = false) ∨ (r1 = true ∧ r2 = false) ∨ (r1 = true ∧ r2 = true ∧ r3 = true) := by cases r1 <;> cases r2 <;> simp_all
    have HS : (sx = false) ∨ (sx = true ∧ s2 = false) ∨ (sx = true ∧ s2 = true ∧ s3 = true) := by cases sx <;> cases s2 <;> simp_all
    have HSX2 := HSX.out
    clear hq hr hs HSX
    go_wp2_with fail
    refine (HAB.out.at_ B.out).mono ?_
    rintro e w9 ⟨rfl, b⟩
    have B := Lib.hid (B.out.trans (b.mono B.out.size))
    clear b
    go_upto_region 10 with fail
    go_cut [92] (fun s92 wx => s92 = .bool false ∧ Hid (Below w6.heap.size w6 wx))
    case first =>
      go_wp2_with fail
      refine (HAJ.out.at_ B.out).mono ?_
      rintro e w9 ⟨rfl, b⟩
      have B := Lib.hid (B.out.trans (b.mono B.out.size))
      clear b
      go_wp2_with fail
      refine (HBJ.out.at_ B.out).mono ?_
      rintro e w9 ⟨rfl, b⟩
      have B := Lib.hid (B.out.trans (b.mono B.out.size))
      clear b
      go_wp2_with fail
      refine (HMA.out.at_ B.out).mono ?_
      rintro e w9 ⟨rfl, b⟩
      have B := Lib.hid (B.out.trans (b.mono B.out.size))
      clear b
      go_wp2_with fail
      refine (HMB.out.at_ B.out).mono ?_
      rintro e w9 ⟨rfl, b⟩
      have B := Lib.hid (B.out.trans (b.mono B.out.size))
      clear b
      go_wp2_with fail
      refine (EJB.out.at_ B.out).mono ?_
      rintro e w9 ⟨rfl, b⟩
      have B := Lib.hid (B.out.trans (b.mono B.out.size))
      clear b
      go_wp2_with fail
      refine (EMA.out.at_ B.out).mono ?_
      rintro e w9 ⟨rfl, b⟩
      have B := Lib.hid (B.out.trans (b.mono B.out.size))
      clear b
      go_wp2_with fail
      go_meet
      exact ⟨rfl, B⟩
    case rest =>
      obtain ⟨rfl, B⟩ := hcut
      go_upto_region 12 with fail
      go_cut [128] (fun s128 wx => s128 = .bool false ∧ Hid (Below w6.heap.size w6 wx))
      case first =>
        rcases HQ with rfl | ⟨rfl, rfl⟩ | ⟨rfl, rfl, rfl⟩
        · skip
          go_wp2_with fail
          refine (HAC.out.at_ B.out).mono ?_
          rintro e w9 ⟨rfl, b⟩
          have B := Lib.hid (B.out.trans (b.mono B.out.size))
          clear b
          rcases HR with rfl | ⟨rfl, rfl⟩ | ⟨rfl, rfl, rfl⟩
          · skip
            go_wp2_with fail
            refine (HCA.out.at_ B.out).mono ?_
            rintro e w9 ⟨rfl, b⟩
            have B := Lib.hid (B.out.trans (b.mono B.out.size))
            clear b
            go_wp2_with fail
            go_meet
            exact ⟨rfl, B⟩
          · skip
            go_wp2_with fail
            refine (HCA.out.at_ B.out).mono ?_
            rintro e w9 ⟨rfl, b⟩
            have B := Lib.hid (B.out.trans (b.mono B.out.size))
            clear b
            go_wp2_with fail
            refine (HCB.out.at_ B.out).mono ?_
            rintro e w9 ⟨rfl, b⟩
            have B := Lib.hid (B.out.trans (b.mono B.out.size))
            clear b
            go_wp2_with fail
            go_meet
            exact ⟨rfl, B⟩
          · skip
            go_wp2_with fail
            refine (HCA.out.at_ B.out).mono ?_
            rintro e w9 ⟨rfl, b⟩
            have B := Lib.hid (B.out.trans (b.mono B.out.size))
            clear b
            go_wp2_with fail
            refine (HCB.out.at_ B.out).mono ?_
            rintro e w9 ⟨rfl, b⟩
            have B := Lib.hid (B.out.trans (b.mono B.out.size))
            clear b
            go_wp2_with fail
            refine (HCM.out.at_ B.out).mono ?_
            rintro e w9 ⟨rfl, b⟩
            have B := Lib.hid (B.out.trans (b.mono B.out.size))
            clear b
            go_wp2_with fail
            go_meet
            exact ⟨rfl, B⟩
        · skip
          go_wp2_with fail
          refine (HAC.out.at_ B.out).mono ?_
          rintro e w9 ⟨rfl, b⟩
          have B := Lib.hid (B.out.trans (b.mono B.out.size))
          clear b
          go_wp2_with fail
          refine (HBC.out.at_ B.out).mono ?_
          rintro e w9 ⟨rfl, b⟩
          have B := Lib.hid (B.out.trans (b.mono B.out.size))
          clear b
          rcases HR with rfl | ⟨rfl, rfl⟩ | ⟨rfl, rfl, rfl⟩
          · skip
            go_wp2_with fail
            refine (HCA.out.at_ B.out).mono ?_
            rintro e w9 ⟨rfl, b⟩
            have B := Lib.hid (B.out.trans (b.mono B.out.size))
            clear b
            go_wp2_with fail
            go_meet
            exact ⟨rfl, B⟩
          · skip
            go_wp2_with fail
            refine (HCA.out.at_ B.out).mono ?_
            rintro e w9 ⟨rfl, b⟩
            have B := Lib.hid (B.out.trans (b.mono B.out.size))
            clear b
            go_wp2_with fail
            refine (HCB.out.at_ B.out).mono ?_
            rintro e w9 ⟨rfl, b⟩
            have B := Lib.hid (B.out.trans (b.mono B.out.size))
            clear b
            go_wp2_with fail
            go_meet
            exact ⟨rfl, B⟩
          · skip
            go_wp2_with fail
            refine (HCA.out.at_ B.out).mono ?_
            rintro e w9 ⟨rfl, b⟩
            have B := Lib.hid (B.out.trans (b.mono B.out.size))
            clear b
            go_wp2_with fail
            refine (HCB.out.at_ B.out).mono ?_
            rintro e w9 ⟨rfl, b⟩
            have B := Lib.hid (B.out.trans (b.mono B.out.size))
            clear b
            go_wp2_with fail
            refine (HCM.out.at_ B.out).mono ?_
            rintro e w9 ⟨rfl, b⟩
            have B := Lib.hid (B.out.trans (b.mono B.out.size))
            clear b
            go_wp2_with fail
            go_meet
            exact ⟨rfl, B⟩
        · skip
          go_wp2_with fail
          refine (HAC.out.at_ B.out).mono ?_
          rintro e w9 ⟨rfl, b⟩
          have B := Lib.hid (B.out.trans (b.mono B.out.size))
          clear b
          go_wp2_with fail
          refine (HBC.out.at_ B.out).mono ?_
          rintro e w9 ⟨rfl, b⟩
          have B := Lib.hid (B.out.trans (b.mono B.out.size))
          clear b
          go_wp2_with fail
          refine (HJC.out.at_ B.out).mono ?_
          rintro e w9 ⟨rfl, b⟩
          have B := Lib.hid (B.out.trans (b.mono B.out.size))
          clear b
          rcases HR with rfl | ⟨rfl, rfl⟩ | ⟨rfl, rfl, rfl⟩
          · skip
            go_wp2_with fail
            refine (HCA.out.at_ B.out).mono ?_
            rintro e w9 ⟨rfl, b⟩
            have B := Lib.hid (B.out.trans (b.mono B.out.size))
            clear b
            go_wp2_with fail
            go_meet
            exact ⟨rfl, B⟩
          · skip
            go_wp2_with fail
            refine (HCA.out.at_ B.out).mono ?_
            rintro e w9 ⟨rfl, b⟩
            have B := Lib.hid (B.out.trans (b.mono B.out.size))
            clear b
            go_wp2_with fail
            refine (HCB.out.at_ B.out).mono ?_
            rintro e w9 ⟨rfl, b⟩
            have B := Lib.hid (B.out.trans (b.mono B.out.size))
            clear b
            go_wp2_with fail
            go_meet
            exact ⟨rfl, B⟩
          · skip
            go_wp2_with fail
            refine (HCA.out.at_ B.out).mono ?_
            rintro e w9 ⟨rfl, b⟩
            have B := Lib.hid (B.out.trans (b.mono B.out.size))
            clear b
            go_wp2_with fail
            refine (HCB.out.at_ B.out).mono ?_
            rintro e w9 ⟨rfl, b⟩
            have B := Lib.hid (B.out.trans (b.mono B.out.size))
            clear b
            go_wp2_with fail
            refine (HCM.out.at_ B.out).mono ?_
            rintro e w9 ⟨rfl, b⟩
            have B := Lib.hid (B.out.trans (b.mono B.out.size))
            clear b
            go_wp2_with fail
            go_meet
            exact ⟨rfl, B⟩
      case rest =>
        clear B
        obtain ⟨rfl, B⟩ := hcut
        rcases HS with rfl | ⟨rfl, rfl⟩ | ⟨rfl, rfl, rfl⟩
        · skip
          go_wp2_with fail
          refine (HAB.out.at_ B.out).mono ?_
          rintro e w9 ⟨rfl, b⟩
          have B := Lib.hid (B.out.trans (b.mono B.out.size))
          clear b
          go_wp2_with fail
          go_ret
          exact ⟨by simp, EB.out.trans (B.out.mono EB.out.size)⟩
        · skip
          go_wp2_with fail
          refine (HAB.out.at_ B.out).mono ?_
          rintro e w9 ⟨rfl, b⟩
          have B := Lib.hid (B.out.trans (b.mono B.out.size))
          clear b
          go_wp2_with fail
          refine (HBA.out.at_ B.out).mono ?_
          rintro e w9 ⟨rfl, b⟩
          have B := Lib.hid (B.out.trans (b.mono B.out.size))
          clear b
          go_wp2_with fail
          go_ret
          exact ⟨by simp, EB.out.trans (B.out.mono EB.out.size)⟩
        · skip
          go_wp2_with fail
          refine (HAB.out.at_ B.out).mono ?_
          rintro e w9 ⟨rfl, b⟩
          have B := Lib.hid (B.out.trans (b.mono B.out.size))
          clear b
          go_wp2_with fail
          refine (HBA.out.at_ B.out).mono ?_
          rintro e w9 ⟨rfl, b⟩
          have B := Lib.hid (B.out.trans (b.mono B.out.size))
          clear b
          go_wp2_with fail
          refine (EAB.out.at_ B.out).mono ?_
          rintro e w9 ⟨rfl, b⟩
          have B := Lib.hid (B.out.trans (b.mono B.out.size))
          clear b
          go_wp2_with fail
          go_ret
          exact ⟨by simp, EB.out.trans (B.out.mono EB.out.size)⟩
  · have HK0 : Hid ((alikeE [us, vs] != 0) = true) := by show _ = _; simpa using hk
    obtain ⟨q, hq⟩ : ∃ q, alikeE [us, vs] = q := ⟨_, rfl⟩
    rw [hq] at HK0
    have HQ := Lib.hid hq
    have hq0 := HK0.out
    clear hk hq
    go_wp2_with fail
    refine (join_no Aa Ab na ca nb cb us vs (by have := HNA.out; omega) (by have := HNB.out; omega) q HQ.out HK0.out w4 (E4.out.rd (.tail _ (.tail _ (.head _)))) (E4.out.rd (.tail _ (.head _)))).mono ?_
    rintro e w5 ⟨Aj, nj, cj, rfl, h5⟩
    obtain rfl : nj = 0 := h5.len.symm
    have E5 := Lib.hid (E4.out.copy h5)
    clear h5 E4
    go_wp2_with fail
    refine (meet_no Aa Ab na ca nb cb us vs (by have := HNA.out; omega) (by have := HNB.out; omega) q HQ.out HK0.out w5 (E5.out.rd (.tail _ (.tail _ (.tail _ (.head _))))) (E5.out.rd (.tail _ (.tail _ (.head _))))).mono ?_
    rintro e w6 ⟨Am, nm, cm, rfl, h6⟩
    obtain rfl : nm = 0 := h6.len.symm
    have E6 := Lib.hid (E5.out.copy h6)
    clear h6 E5
    have hqq : (q == q) = true := by simp
    go_wp2_with fail
    go_ret
    exact ⟨by simp, E6.out.below⟩
end Go.Proofs.YtndekdkljimjaaaDoor
