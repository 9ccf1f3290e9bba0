/- Layer level: With: contract. -/
import Derived.Test.YtndekdkljimjaaaDoorVk
namespace Go.Proofs.YtndekdkljimjaaaDoor
open Go.RowKit Go.Shelf

theorem rows9_one {w : World} {g : Nat} {A : Option Addr} {n c : Nat} {xs : List Int} (hb : Blk w g 22 #[.slice A n c]) (h1 : Reads w w.heap.size 1 A n (ints xs)) : Rows9 w (some ⟨g, 0, none⟩) 1 [⟨A, n, c, xs⟩] :=
  ⟨⟨rfl, fun _ => ⟨_, rfl, hb.lt, fun j u hu => by rw [Go.WideShapes.add_plain, Nat.zero_add, hb.cell, ← hu, ← List.getElem?_toArray]; rfl⟩⟩, fun r hr => by
    simp only [List.mem_cons, List.not_mem_nil, or_false] at hr
    subst hr
    exact h1⟩
theorem alike_one (xs : List Int) : alikeE [xs] = if xs.all levB then 0 else 190 := by unfold alikeE; simp
/-- What is wrong with what With is asked. -/
def withE (xs : List Int) (i l : Int) : Int := if xs.all levB && levB l then (if 0 ≤ i ∧ i < xs.length then 0 else 2) else 190
def withL (xs : List Int) (i l : Int) : List Int := if withE xs i l = 0 then xs.set i.toNat l else []
set_option maxRecDepth 100000 in
set_option maxHeartbeats 2000000 in
theorem with_any (A : Option Addr) (n c : Nat) (xs : List Int) (i l : Int) (hn : n ≤ 1000000) (w : World) (h1 : Reads w w.heap.size 1 A n (ints xs)) :
    Calls Tryd.prog 22 #[.slice A n c, .int .i64 i, .int .i64 l] w (RowE (withL xs i l) (withE xs i l) w) := by
  have hb : Below w.heap.size w (w.alloc (.cells #[.slice A n c] 22)) := (Below.refl _ _).alloc (Nat.le_refl _) _
  have HA := Lib.hid (alike_any (some ⟨w.heap.size, 0, none⟩) 1 1 [⟨A, n, c, xs⟩] (by decide) (fun r hr => by
    simp only [List.mem_cons, List.not_mem_nil, or_false] at hr
    subst hr; exact hn) _ (rows9_one (Blk.new w 22 #[.slice A n c]) ((h1.below hb).more hb.size)))
  simp only [List.map_cons, List.map_nil] at HA
  rw [alike_one] at HA
  have HC := Lib.hid fun w => check_any l w
  have HL := Lib.hid (ints_len h1)
  have H1 := Lib.hid ((h1.below hb).more hb.size)
  have HB := Lib.hid hb
  cases hall : xs.all levB
  · have HE : Hid (withE xs i l = 190) := by show _ = _; unfold withE; rw [hall]; rfl
    have HR : Hid (withL xs i l = []) := by show _ = _; unfold withL; rw [HE.out]; rfl
    rw [hall, if_neg Bool.false_ne_true] at HA
    clear hb h1 hall
    go_enter Tryd.func22, Tryd.ntmps22
    go_wp2_with fail
    refine HA.out.mono ?_
    rintro e w1 ⟨rfl, rfl⟩
    go_wp2_with fail
    go_ret2
    rw [HE.out, HR.out]
    exact rowE_nil HB.out
  · rw [hall, if_pos rfl] at HA
    cases hlv : levB l
    · have HE : Hid (withE xs i l = 190) := by show _ = _; unfold withE; rw [hall, hlv]; rfl
      have HR : Hid (withL xs i l = []) := by show _ = _; unfold withL; rw [HE.out]; rfl
      rw [levE_no hlv] at HC
      clear hb h1 hall hlv
      go_enter Tryd.func22, Tryd.ntmps22
      go_wp2_with fail
      refine HA.out.mono ?_
      rintro e w1 ⟨rfl, rfl⟩
      go_wp2_with fail
      refine (HC.out _).mono ?_
      rintro e w1 ⟨rfl, rfl⟩
      go_wp2_with fail
      go_ret2
      rw [HE.out, HR.out]
      exact rowE_nil HB.out
    · rw [levE_ok hlv] at HC
      by_cases hi : 0 ≤ i ∧ i < (n : Int)
      · obtain ⟨p, rfl⟩ : ∃ p : Nat, i = p := ⟨i.toNat, by omega⟩
        have hpn : (p : Int) < (n : Int) := hi.2
        have hpn' : ¬ (p : Int) ≥ (n : Int) := by omega
        have hp0 : ¬ (p : Int) < 0 := by omega
        have hpk : p < n := by omega
        have HE : Hid (withE xs (p : Int) l = 0) := by
          show _ = _
          unfold withE
          rw [hall, hlv, HL.out]
          exact if_pos hi
        have HR : Hid (withL xs (p : Int) l = xs.set p l) := by show _ = _; unfold withL; rw [HE.out]; rfl
        have HCL := Lib.hid (clone9_any A n c xs hn _ H1.out)
        clear hb h1 hall hlv hi
        go_enter Tryd.func22, Tryd.ntmps22
        go_wp2_with fail
        refine HA.out.mono ?_
        rintro e w1 ⟨rfl, rfl⟩
        go_wp2_with fail
        refine (HC.out _).mono ?_
        rintro e w1 ⟨rfl, rfl⟩
        go_wp2_with fail
        refine HCL.out.mono ?_
        rintro e w2 ⟨A2, n2, c2, rfl, h2⟩
        obtain rfl : n = n2 := by rw [← h2.len, HL.out]
        obtain ⟨x, hx⟩ : ∃ x, xs[p]? = some x := ⟨xs[p]'(by rw [HL.out]; exact hpk), List.getElem?_eq_getElem _⟩
        obtain ⟨g5, rfl, _, hg5, hcell, hfr⟩ := h2.form (by omega)
        have y0 := hcell _ _ hx
        have f0 := hfr p
        have HN := Lib.hid ((h2.set hg5 p l).base HB.out)
        clear h2 hcell hfr hx HCL HA
        go_wp2_with fail
        go_ret2
        rw [HE.out, HR.out]
        exact ⟨_, _, _, rfl, HN.out⟩
      · have HE : Hid (withE xs i l = 2) := by
          show _ = _
          unfold withE
          rw [hall, hlv, HL.out]
          exact if_neg hi
        have HR : Hid (withL xs i l = []) := by show _ = _; unfold withL; rw [HE.out]; rfl
        by_cases hi0 : i < 0
        · clear hb h1 hall hlv hi
          go_enter Tryd.func22, Tryd.ntmps22
          go_wp2_with fail
          refine HA.out.mono ?_
          rintro e w1 ⟨rfl, rfl⟩
          go_wp2_with fail
          refine (HC.out _).mono ?_
          rintro e w1 ⟨rfl, rfl⟩
          go_wp2_with fail
          go_ret2
          rw [HE.out, HR.out]
          exact rowE_nil HB.out
        · have hin : i ≥ (n : Int) := by omega
          clear hb h1 hall hlv hi
          go_enter Tryd.func22, Tryd.ntmps22
          go_wp2_with fail
          refine HA.out.mono ?_
          rintro e w1 ⟨rfl, rfl⟩
          go_wp2_with fail
          refine (HC.out _).mono ?_
          rintro e w1 ⟨rfl, rfl⟩
          go_wp2_with fail
          go_ret2
          rw [HE.out, HR.out]
          exact rowE_nil HB.out
end Go.Proofs.YtndekdkljimjaaaDoor
