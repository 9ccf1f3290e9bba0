/- Layer bits, the document's answers: Right, List: contracts. -/
import Derived.Test.YtpkpfnilfabkaaaDoorBRb
namespace Go.Proofs.YtpkpfnilfabkaaaDoor
open Go.RowKit

theorem mem_up {ws : List Nat} {m x : Nat} : x ∈ upW ws m ↔ x < m ∧ hasW ws x = true := by unfold upW; simp
theorem right_no {ws : List Nat} {x : Nat} (h : hasW ws x = true) (hx : 10000 ≤ x) : rightW ws = false := by
  cases hr : rightW ws with
  | false => rfl
  | true => have := right_has hr h; omega
theorem right_long {ws : List Nat} (h : 157 < ws.length) : rightW ws = false := by
  cases hr : rightW ws with
  | false => rfl
  | true => have := right_len hr; omega
theorem right_none {ws : List Nat} (h : ws.length = 0) : rightW ws = true := by unfold rightW; simp [h]
theorem right_zero {ws : List Nat} (h : ws.length ≠ 0) (h0 : ws.getD (ws.length - 1) 0 = 0) : rightW ws = false := by
  unfold rightW
  rw [decide_eq_false h, decide_eq_true h0]; rfl
theorem right_yes {ws : List Nat} (h : W64 ws) (h0 : ws.getD (ws.length - 1) 0 ≠ 0) (hn : ∀ x ∈ upW ws (64 * ws.length), x < 10000) : rightW ws = true :=
  right_of h (.inr h0) fun x hx => hn x (mem_up.2 ⟨has_lt hx, hx⟩)

set_option maxRecDepth 100000 in
set_option maxHeartbeats 2000000 in
theorem right_any (A : Option Addr) (n c : Nat) (ws : List Nat) (h64 : W64 ws) (hn : n ≤ 100000) (w : World) (hA : RW w w.heap.size A n ws) :
    Calls Tryd.prog 13 #[.agg #[.slice A n c]] w fun e w' => e = .returned (.bool (rightW ws)) ∧ Below w.heap.size w w' := by
  have HL := Lib.hid hA.len
  have H64 := Lib.hid h64
  have HR := Lib.hid fun W (h : Below w.heap.size w W) => hA.below h
  have bx := Blk.new w 24 #[.slice A n c]
  have B0 := Lib.hid (one_more w (.cells #[.slice A n c] 24))
  have z0 := bx.cell 0
  have HBX := Lib.hid bx
  have HN := Lib.hid (numbers_any A n c ws h64 hn _ ((hA.below B0.out).more B0.out.size))
  have hup := up_len ws (64 * n)
  clear hA h64 bx
  by_cases h157 : 157 < n
  · have HX := Lib.hid (right_long (ws := ws) (by rw [HL.out]; exact h157))
    go_enter Tryd.func13, Tryd.ntmps13
    go_wp2_with fail
    go_ret
    exact ⟨by rw [HX.out]; rfl, B0.out⟩
  · go_enter Tryd.func13, Tryd.ntmps13
    go_wp2_with fail
    generalize w.alloc (.cells #[.slice A n c] 24) = W0 at *
    refine HN.out.mono ?_
    rintro e w1 ⟨v, rfl, hown, b1⟩
    obtain ⟨A1, c1, rfl, _, _⟩ := own_form1 hown
    have RI1 := Lib.hid (RI.of_own hown)
    have B1 : Hid (Below w.heap.size w w1) := B0.out.trans (b1.mono B0.out.size)
    have K1 := Lib.hid (HBX.out.below b1 HBX.out.lt)
    have z1 := K1.out.cell 0
    have HMM := Lib.hid fun x => @mem_up ws (64 * n) x
    clear hown b1 z0 HBX HN B0
    obtain ⟨m, hm⟩ : ∃ m, (upW ws (64 * n)).length = m := ⟨_, rfl⟩
    rw [hm] at RI1 hup ⊢
    have HLm := Lib.hid hm
    clear hm
    go_wp2_with fail
    go_loop [14] (fun i => ∃ k : Nat, k ≤ m ∧ i = .int .i64 k ∧ Hid (∀ x ∈ (upW ws (64 * n)).take k, x < 10000)) (fun i => m - (intOf i).toNat)
    case atStart => exact ⟨0, Nat.zero_le _, rfl, fun x hx => by simp at hx⟩
    case round =>
      obtain ⟨k, hk, rfl, HT⟩ := hrel
      by_cases hlt : k < m
      · obtain ⟨b, o, rfl, hb, hc⟩ := RI1.out.at_ hlt
        have hkl : k < (upW ws (64 * n)).length := by rw [HLm.out]; exact hlt
        rw [intsN_getD hkl] at hc
        have HM : Hid ((upW ws (64 * n)).getD k 0 ∈ upW ws (64 * n)) := by
          show _ ∈ _
          rw [List.getD_eq_getElem?_getD, List.getElem?_eq_getElem hkl]
          exact List.getElem_mem hkl
        have HS := Lib.hid (take_snoc' (d := 0) hkl)
        clear hkl
        generalize (upW ws (64 * n)).getD k 0 = x at *
        by_cases hx : 10000 ≤ x
        · have hq : decide ((10000 : Int) ≤ (x : Int)) = true := by simp; omega
          have HX := Lib.hid (right_no ((HMM.out _).1 HM.out).2 hx)
          go_wp2_with fail
          go_ret
          exact ⟨by rw [HX.out]; rfl, B1.out⟩
        · have hq : decide ((10000 : Int) ≤ (x : Int)) = false := by simp; omega
          have HT2 : Hid (∀ x ∈ (upW ws (64 * n)).take (k + 1), x < 10000) := fun y hy => by
            rw [HS.out] at hy
            rcases List.mem_append.1 hy with hy | hy
            · exact HT.out y hy
            · simp at hy; omega
          go_wp2_with fail
          go_round
          case rel => exact ⟨k + 1, by omega, by go_num, HT2⟩
          case measure => simp [intOf]; omega
      · obtain rfl : k = m := by omega
        have HT2 : Hid (∀ x ∈ upW ws (64 * n), x < 10000) := fun y hy => HT.out y (by
          rw [List.take_of_length_le (by rw [HLm.out]; exact Nat.le_refl _)]; exact hy)
        clear HT
        by_cases h0 : n = 0
        · have hq : ((n : Int) == 0) = true := by simp; omega
          have HX := Lib.hid (right_none (ws := ws) (by rw [HL.out]; exact h0))
          go_wp2_with fail
          go_ret
          exact ⟨by rw [HX.out]; rfl, B1.out⟩
        · have hq : ((n : Int) == 0) = false := by simp; omega
          obtain ⟨b, o, rfl, hb, hc⟩ := (HR.out _ B1.out).at_ (show n - 1 < n by omega)
          have hi : (n : Int) - 1 = ((n - 1 : Nat) : Int) := by omega
          have HZ : Hid (ws.getD (n - 1) 0 ≠ 0 → rightW ws = true) := fun h => right_yes H64.out (by rw [HL.out]; exact h) (by rw [HL.out]; exact HT2.out)
          have HZ0 : Hid (ws.getD (n - 1) 0 = 0 → rightW ws = false) := fun h => right_zero (by rw [HL.out]; exact h0) (by rw [HL.out]; exact h)
          generalize ws.getD (n - 1) 0 = x at *
          have d1 : (0 : Int) ≤ (n : Int) - 1 := by omega
          have d2 : (n : Int) - 1 < (n : Int) := by omega
          have d3 : ((n : Int) - 1).toNat = n - 1 := by omega
          have d4 : IntKind.i64.wrap ((n : Int) - 1) = (n : Int) - 1 := IntWalk.i64_in _ (by omega)
          clear hi
          by_cases hx : x = 0
          · have hq2 : ((x : Int) != 0) = false := by simp; omega
            have HX := Lib.hid (HZ0.out hx)
            clear hx
            go_wp2_with fail
            go_ret
            exact ⟨by rw [HX.out]; rfl, B1.out⟩
          · have hq2 : ((x : Int) != 0) = true := by simp; omega
            have HX := Lib.hid (HZ.out hx)
            clear hx
            go_wp2_with fail
            go_ret
            exact ⟨by rw [HX.out]; rfl, B1.out⟩

theorem up_nums {ws : List Nat} (h : rightW ws = true) : upW ws (64 * ws.length) = numsF (inW ws) := by
  rw [← rem_nums, show effW ws = ws by unfold effW; rw [if_pos h], rem_all]; rfl
theorem nums_wrong {ws : List Nat} (h : rightW ws = false) : numsF (inW ws) = [] := by
  rw [← rem_nums, show effW ws = [] by unfold effW; rw [h]; rfl]; rfl

set_option maxRecDepth 100000 in
set_option maxHeartbeats 2000000 in
theorem rlist_any (A : Option Addr) (n c : Nat) (ws : List Nat) (h64 : W64 ws) (hn : n ≤ 100000) (w : World) (hA : RW w w.heap.size A n ws) :
    Calls Tryd.prog 11 #[.agg #[.slice A n c]] w (ListOk (numsF (inW ws)) w) := by
  have HL := Lib.hid hA.len
  have bx := Blk.new w 24 #[.slice A n c]
  have B0 := Lib.hid (one_more w (.cells #[.slice A n c] 24))
  have HR := Lib.hid fun W (h : Below w.heap.size w W) => right_any A n c ws h64 hn W ((hA.below h).more h.size)
  have HN := Lib.hid fun W (h : Below w.heap.size w W) => numbers_any A n c ws h64 hn W ((hA.below h).more h.size)
  have z0 := bx.cell 0
  have HBX := Lib.hid bx
  have HY := Lib.hid (@up_nums ws)
  have HW := Lib.hid (@nums_wrong ws)
  clear hA h64 bx
  go_enter Tryd.func11, Tryd.ntmps11
  go_wp2_with fail
  generalize w.alloc (.cells #[.slice A n c] 24) = W0 at *
  rcases Bool.eq_false_or_eq_true (rightW ws) with hr | hr
  · have HE := Lib.hid (HY.out hr)
    rw [hr] at HR
    rw [HL.out] at HE
    clear hr
    refine (HR.out _ B0.out).mono ?_
    rintro e w1 ⟨rfl, b1⟩
    have B1 : Hid (Below w.heap.size w w1) := B0.out.trans (b1.mono B0.out.size)
    have K1 := Lib.hid (HBX.out.below b1 HBX.out.lt)
    have z1 := K1.out.cell 0
    clear b1 z0
    go_wp2_with fail
    refine (HN.out _ B1.out).mono ?_
    rintro e w2 ⟨v, rfl, hown, b2⟩
    obtain ⟨A2, c2, rfl, _, _⟩ := own_form1 hown
    have HO := Lib.hid (own_low hown B1.out.size)
    have B2 : Hid (Below w.heap.size w w2) := B1.out.trans (b2.mono B1.out.size)
    clear hown b2
    go_wp2_with fail
    go_ret
    exact ⟨_, rfl, by rw [← HE.out]; exact HO.out, B2.out⟩
  · have HE := Lib.hid (HW.out hr)
    rw [hr] at HR
    clear hr
    refine (HR.out _ B0.out).mono ?_
    rintro e w1 ⟨rfl, b1⟩
    have B1 : Hid (Below w.heap.size w w1) := B0.out.trans (b1.mono B0.out.size)
    clear b1 z0
    go_wp2_with fail
    go_ret
    exact ⟨_, rfl, by rw [HE.out]; exact World.ownsRow_nil _ _ _ _, B1.out⟩
end Go.Proofs.YtpkpfnilfabkaaaDoor
