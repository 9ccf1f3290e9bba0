/- Layer graph: Check, asked: contracts. -/
import Derived.Test.YticbgikbpafeoaaGh
namespace Go.Proofs.Yticbgikbpafeoaa
open Go.RowKit

def checkG (nodes : Int) (l : List Ed) : Int := if rightG nodes l = true then 0 else 150
theorem check_yes {nodes : Int} {l : List Ed} (h : rightG nodes l = true) : checkG nodes l = 0 := by unfold checkG; rw [if_pos h]
theorem check_no {nodes : Int} {l : List Ed} (h : rightG nodes l = false) : checkG nodes l = 150 := by unfold checkG; rw [if_neg (by rw [h]; decide)]

set_option maxRecDepth 100000 in
set_option maxHeartbeats 4000000 in
theorem check_any (nodes : Int) (A : Option Addr) (n c : Nat) (zs : List Ed) (hn : n ≤ 1000) (w : World) (hR : Reads w w.heap.size 3 A n (cellsE zs)) :
    Calls Try.prog 11 #[.agg #[.int .i64 nodes, .slice A n c]] w fun e w' => e = .returned (.int .i64 (checkG nodes zs)) ∧ Below w.heap.size w w' := by
  obtain ⟨bx, b0⟩ := box_new w #[.int .i64 nodes, .slice A n c] 24
  have HL := Lib.hid (reads_len hR)
  have HR := Lib.hid fun W (h : Below w.heap.size w W) => (hR.below h)
  have hsz := b0.size
  have BX := Lib.hid bx
  have B0 := Lib.hid b0
  clear hR bx b0
  go_enter Try.func11, Try.ntmps11
  go_wp2_with fail
  refine (may_any nodes _).mono ?_
  rintro e w1 ⟨rfl, rfl⟩
  generalize w.alloc (.cells #[.int .i64 nodes, .slice A n c] 24) = W0 at *
  have z0 : W0.cell? ⟨w.heap.size, 0, none⟩ = some (.int .i64 nodes) := BX.out.cell 0
  have z1 : W0.cell? ⟨w.heap.size, 1, none⟩ = some (.slice A n c) := BX.out.cell 1
  cases hm : mayN nodes
  · have HE := Lib.hid (check_no (rg_may (l := zs) hm))
    clear hm
    go_wp2_with fail
    go_ret
    exact ⟨by rw [HE.out]; rfl, B0.out⟩
  · have HM := Lib.hid hm
    have h40 : ¬ (n : Int) > 40000 := by omega
    have HBT := Lib.hid (between_any nodes A n c zs (by omega) W0 ((HR.out W0 B0.out).more hsz))
    clear hm
    go_wp2_with fail
    refine HBT.out.mono ?_
    rintro e w1 ⟨rfl, b⟩
    have BX1 := Lib.hid (BX.out.below b BX.out.lt)
    have B1 : Hid (Below w.heap.size w w1) := B0.out.trans (b.mono hsz)
    clear b z0 z1 BX B0 HBT
    have z0 : w1.cell? ⟨w.heap.size, 0, none⟩ = some (.int .i64 nodes) := BX1.out.cell 0
    have z1 : w1.cell? ⟨w.heap.size, 1, none⟩ = some (.slice A n c) := BX1.out.cell 1
    cases ha : zs.all (rightE nodes)
    · have HE : Hid (checkG nodes zs = 150) := by
        rw [List.all_eq_false] at ha
        obtain ⟨x, hx, h⟩ := ha
        exact check_no (rg_edge hx (by simpa using h))
      clear ha
      go_wp2_with fail
      go_ret
      exact ⟨by rw [HE.out]; rfl, B1.out⟩
    · have HA := Lib.hid (List.all_eq_true.1 ha)
      have HOK : Hid (∀ p ∈ zs, okE p) := fun p hp => rightE_ok HM.out (HA.out p hp)
      clear ha
      have hsz1 : w.heap.size + 1 ≤ w1.heap.size := by have := BX1.out.lt; omega
      go_wp2_with fail
      clear z0 z1
      go_loopg [3] n (fun gg s3 wr => ∃ (k : Nat) (z : Int), n ≤ k + 1 + gg ∧ k ≤ n ∧ z = (k : Int) + 1 ∧ s3 = .int .i64 z ∧ Hid (∀ j x y, j < k → zs[j]? = some x → zs[j + 1]? = some y → plE x < plE y) ∧ Hid (Below w.heap.size w wr) ∧ Hid (Blk wr w.heap.size 24 #[.int .i64 nodes, .slice A n c]))
      case atStart => exact ⟨0, 1, by omega, by omega, rfl, rfl, fun j x y h => by omega, B1, BX1⟩
      case round =>
        clear B1 BX1 hsz1
        obtain ⟨k, z, hk, hkn, hz, rfl, HO, HB, HX⟩ := hrel
        have z0 : wr.cell? ⟨w.heap.size, 0, none⟩ = some (.int .i64 nodes) := HX.out.cell 0
        have z1 : wr.cell? ⟨w.heap.size, 1, none⟩ = some (.slice A n c) := HX.out.cell 1
        by_cases hlt : k + 1 < n
        · have hltI : z < (n : Int) := by omega
          obtain ⟨p, hp⟩ : ∃ p, zs[k]? = some p := ⟨zs[k]'(by rw [HL.out]; omega), List.getElem?_eq_getElem _⟩
          obtain ⟨q, hq⟩ : ∃ q, zs[k + 1]? = some q := ⟨zs[k + 1]'(by rw [HL.out]; omega), List.getElem?_eq_getElem _⟩
          obtain ⟨b, o, hA1, hb, g0, g1, g2⟩ := ed_at (HR.out _ HB.out) hp
          obtain ⟨b2, o2, hA2, hb2, x0, x1, x2⟩ := ed_at (HR.out _ HB.out) hq
          subst hA1
          injection hA2 with hA2
          injection hA2 with e1 e2 _
          subst e1; subst e2
          have HP := Lib.hid fun W => place_any p (HOK.out p (List.mem_of_getElem? hp)) W
          have HQ := Lib.hid fun W => place_any q (HOK.out q (List.mem_of_getElem? hq)) W
          have HPX := Lib.hid hp
          have HQX := Lib.hid hq
          have HK := Lib.hid (And.intro hk hkn)
          have hXb : w.heap.size < wr.heap.size := HX.out.lt
          have hbl : b < wr.heap.size := by have := HB.out.size; omega
          have J0 : Hid (Below wr.heap.size wr wr.drew) := (Below.refl _ _).drew
          have HSS : Hid (∀ W, Below wr.heap.size wr W → W.cell? ⟨w.heap.size, 0, none⟩ = some (.int .i64 nodes) ∧ W.cell? ⟨w.heap.size, 1, none⟩ = some (.slice (some ⟨b, o, none⟩) n c) ∧
              W.cell? ⟨b, o + k * 3, none⟩ = some (.int .i64 p.1) ∧ W.cell? ⟨b, o + k * 3 + 1, none⟩ = some (.int .i64 p.2.1) ∧ W.cell? ⟨b, o + k * 3 + 2, none⟩ = some (.int .i64 p.2.2) ∧
              W.cell? ⟨b, o + (k + 1) * 3, none⟩ = some (.int .i64 q.1) ∧ W.cell? ⟨b, o + (k + 1) * 3 + 1, none⟩ = some (.int .i64 q.2.1) ∧ W.cell? ⟨b, o + (k + 1) * 3 + 2, none⟩ = some (.int .i64 q.2.2)) :=
            fun W h => ⟨(h.cell (p := ⟨w.heap.size, 0, none⟩) hXb).trans z0, (h.cell (p := ⟨w.heap.size, 1, none⟩) hXb).trans z1, (h.cell (p := ⟨b, _, none⟩) hbl).trans g0, (h.cell (p := ⟨b, _, none⟩) hbl).trans g1, (h.cell (p := ⟨b, _, none⟩) hbl).trans g2, (h.cell (p := ⟨b, _, none⟩) hbl).trans x0, (h.cell (p := ⟨b, _, none⟩) hbl).trans x1, (h.cell (p := ⟨b, _, none⟩) hbl).trans x2⟩
          have hs1 : IntKind.i64.wrap (z - 1) = (k : Int) := by rw [IntKind.wrap_i64]; omega
          have hi0 : (0 : Int) ≤ (k : Int) := by omega
          have hi1 : (k : Int) < (n : Int) := by omega
          have hi2 : (0 : Int) ≤ z := by omega
          have hs2 : IntKind.i64.wrap (z + 1) = z + 1 := by rw [IntKind.wrap_i64]; omega
          have ht1 : z.toNat = k + 1 := by omega
          have HZ := Lib.hid hz
          clear hp hq hk hkn hz
          go_wp2_with fail
          clear z0 z1 g0 g1 g2 x0 x1 x2
          go_region_held3 (fun W => W.cell? ⟨w.heap.size, 0, none⟩ = some (.int .i64 nodes) ∧ W.cell? ⟨w.heap.size, 1, none⟩ = some (.slice (some ⟨b, o, none⟩) n c) ∧
              W.cell? ⟨b, o + k * 3, none⟩ = some (.int .i64 p.1) ∧ W.cell? ⟨b, o + k * 3 + 1, none⟩ = some (.int .i64 p.2.1) ∧ W.cell? ⟨b, o + k * 3 + 2, none⟩ = some (.int .i64 p.2.2) ∧
              W.cell? ⟨b, o + (k + 1) * 3, none⟩ = some (.int .i64 q.1) ∧ W.cell? ⟨b, o + (k + 1) * 3 + 1, none⟩ = some (.int .i64 q.2.1) ∧ W.cell? ⟨b, o + (k + 1) * 3 + 2, none⟩ = some (.int .i64 q.2.2)) (first | exact HSS.out _ J2.out | exact HSS.out _ J1.out | exact HSS.out _ J0.out | fail) (first
            | (have _t := J1; go_at_call 41; refine (HQ.out v1).mono ?_; rintro e v2 ⟨rfl, b⟩; have J2 : Hid (Below wr.heap.size wr v2) := J1.out.trans (b.mono J1.out.size); clear b)
            | (go_at_call 41; refine (HP.out wr.drew).mono ?_; rintro e v1 ⟨rfl, b⟩; have J1 : Hid (Below wr.heap.size wr v1) := J0.out.trans (b.mono J0.out.size); clear b)
            | fail)
          have HB2 : Hid (Below w.heap.size w v2) := HB.out.trans (J2.out.mono HB.out.size)
          have HX2 : Hid (Blk v2 w.heap.size 24 #[.int .i64 nodes, .slice (some ⟨b, o, none⟩) n c]) := HX.out.below J2.out hXb
          clear J0 J1 J2 HSS HB HX HP HQ
          clear hs1 hi0 hi1 ht1
          by_cases hpq : plE p < plE q
          · have hge : ¬ plE p ≥ plE q := by omega
            have HPQ := Lib.hid hpq
            clear hpq
            generalize hxp : plE p = xp at *
            generalize hxq : plE q = xq at *
            have HX1 := Lib.hid (And.intro hxp hxq)
            clear hxp hxq
            go_wp2_with fail
            go_roundg (gk - 1)
            case measure => have := HK.out; omega
            case rel =>
              refine ⟨k + 1, z + 1, by have := HK.out; omega, by omega, by have := HZ.out; omega, rfl, fun j x y hj hx hy => ?_, HB2, HX2⟩
              rcases Nat.lt_or_ge j k with h | h
              · exact HO.out j x y h hx hy
              · obtain rfl : j = k := by omega
                rw [HPX.out] at hx
                rw [HQX.out] at hy
                injection hx with hx
                injection hy with hy
                subst hx; subst hy
                rw [HX1.out.1, HX1.out.2]; exact HPQ.out
          · have hge : plE p ≥ plE q := by omega
            have HE := Lib.hid (check_no (rg_place (nodes := nodes) HPX.out HQX.out hge))
            clear hpq
            generalize plE p = xp at *
            generalize plE q = xq at *
            go_wp2_with fail
            go_ret
            exact ⟨by rw [HE.out]; rfl, HB2.out⟩
        · have hge : ¬ z < (n : Int) := by omega
          have HE : Hid (checkG nodes zs = 0) := check_yes (rg_places HM.out HA.out fun j x y hx hy => HO.out j x y (by
            have := (List.getElem?_eq_some_iff.1 hy).1
            have := HL.out
            omega) hx hy)
          clear hlt hz
          go_wp2_with fail
          go_ret
          exact ⟨by rw [HE.out]; rfl, HB.out⟩
end Go.Proofs.Yticbgikbpafeoaa
