/- Law LexStands: its walk. -/
import Derived.Test.YthccgpjbchlocaaDoorLan
import Derived.Deep.RegionHeld3
import Derived.BigQuiet
import Derived.Deep.QuietTactic
import Derived.Outline
import Derived.IntWalk
import Derived.Deep.DeepCutAuto
namespace Go.Proofs.YthccgpjbchlocaaDoor
open Go.RowKit

theorem chain_at {l : List UInt8} {p k : Nat} {ts : List Tk} {t : Tk} (h : Chain l p (ts.drop k)) (ht : ts[k]? = some t) : TokOk l p t ∧ Chain l (t.a + t.tx.length) (ts.drop (k + 1)) := by
  obtain ⟨hk, rfl⟩ := List.getElem?_eq_some_iff.1 ht
  rw [List.drop_eq_getElem_cons hk] at h
  obtain ⟨h1, ⟨R, h2⟩, h3⟩ := h
  exact ⟨tok_ok h1 h2, h3⟩

theorem carry_block2 {W W' : World} {b : Nat} {o : Obj} (h : W.heap[b]? = some o) (hb : Below W.heap.size W W') : W'.heap[b]? = some o :=
  (hb.block b (block_lt h)).trans h

theorem index_no : ∀ {l : List UInt8}, (∀ c ∈ l, c ≠ 10) → Lib.indexByte l 10 = -1
  | [], _ => rfl
  | b :: l, h => by
    have hb : (b == 10) = false := by simpa using h b (by simp)
    have := index_no (l := l) fun c hc => h c (by simp [hc])
    rw [Lib.indexByte, hb, this]
    rfl
theorem no_line (z : ByteArray) (C : List UInt8) (hz : z.data.toList = 35 :: C) (hC : ∀ c ∈ C, c ≠ 10) (w : World) :
    Calls Tryd.prog 11 #[.string z, .string ⟨#[10]⟩] w fun e w' => e = .returned (.bool false) ∧ w = w' := by
  refine (Tryd.strings_Contains_one z 10 w).mono ?_
  rintro e w' ⟨he, hw⟩
  refine ⟨he.trans ?_, hw.symm⟩
  rw [hz, index_no (fun c hc => by
    rcases List.mem_cons.1 hc with rfl | hc
    · decide
    · exact hC c hc)]
  rfl
/-- What Word leaves: a block that was there, and all that lies below a bound. -/
theorem word_kept {g : Nat} {a W : World} {y tx : ByteArray} {v gl : Bool} {x0 x1 : Value} {T : TypeId} (h : Calls Tryd.prog 10 #[.string y] W fun e w' => e = .returned (.bool v) ∧ Below W.heap.size W w')
    (hg : W.heap[g]? = some (.cells #[x0, x1, .string tx, .bool gl] T (0, 0))) (hb : Below a.heap.size a W) :
    Calls Tryd.prog 10 #[.string y] W fun e w' => e = .returned (.bool v) ∧ w'.cell? ⟨g, 0, none⟩ = some x0 ∧ w'.cell? ⟨g, 2, none⟩ = some (.string tx) ∧ Hid (w'.heap[g]? = some (.cells #[x0, x1, .string tx, .bool gl] T (0, 0)) ∧ Below a.heap.size a w') :=
  h.mono fun e w' ⟨he, q⟩ => by
    have h1 := carry_block2 hg q
    obtain ⟨⟨z0, z1, z2, z3⟩, _⟩ := four_cells h1
    exact ⟨he, z0, z2, h1, hb.trans (q.mono hb.size)⟩

set_option maxRecDepth 100000 in
set_option maxHeartbeats 4000000 in
theorem stands_good (s a : ByteArray) (ts : List Tk) (n : Nat) (hn : n = ts.length) (_hn1 : n ≤ 100000) (ha : a.size ≤ 1500) (hch : Chain a.data.toList 0 ts)
    (HC : Hid (∀ w : World, Calls Tryd.prog 5 #[.string s] w fun e w' => e = .returned (.string a) ∧ w = w'))
    (HA : Hid (∀ w : World, Calls Tryd.prog 6 #[.string a] w (AllIs ts n a.size 0 w))) (w : World) :
    Calls Tryd.prog 3 #[.string s] w fun e w' => e = .returned (.bool true) ∧ Below w.heap.size w w' := by
  have H0 := Lib.hid (wakes_lex w)
  have HN := Lib.hid hn
  have HCH := Lib.hid hch
  have hsa := Lib.size_eq a
  have HSA := Lib.hid hsa
  clear hn hch hsa
  go_enter Tryd.func3, Tryd.ntmps3
  go_wp2_with fail
  refine H0.out.mono ?_
  rintro e w1 ⟨rfl, b1⟩
  go_wp2_with fail
  refine (HC.out _).mono ?_
  rintro e wx ⟨rfl, rfl⟩
  go_wp2_with fail
  refine (HA.out _).mono ?_
  rintro e w2 ⟨A2, c2, rfl, r2, q2, l2, m2, _⟩
  have b2 := b1.trans (q2.mono b1.size)
  have R2 := Lib.hid r2
  have B2 := Lib.hid b2
  clear b1 q2 r2 b2
  go_wp2_with fail
  go_loopw [6, 45] (fun v i wr => ∃ (k p : Nat), v = .int .i64 p ∧ i = .int .i64 k ∧ k ≤ n ∧ p ≤ a.size ∧ Hid (Chain a.data.toList p (ts.drop k)) ∧ Hid (k = 0 → p = 0) ∧ Below w2.heap.size w2 wr) (fun _ i _ => n - (intOf i).toNat)
  case atStart => exact ⟨0, 0, rfl, rfl, Nat.zero_le _, Nat.zero_le _, HCH.out, fun _ => rfl, Below.refl _ _⟩
  case round =>
    obtain ⟨k, p, rfl, rfl, hk, hp, hci, HKP, bk⟩ := hrel
    have hsz := bk.size
    by_cases hlt : k < n
    · obtain ⟨t, ht⟩ : ∃ t, ts[k]? = some t := ⟨ts[k]'(by rw [← HN.out]; exact hlt), List.getElem?_eq_getElem _⟩
      obtain ⟨ad, rfl, g0, g1, g2, g3, had⟩ := tok_cells (R2.out.below bk) ht
      obtain ⟨hok, hnx⟩ := chain_at hci.out ht
      obtain ⟨y, hy⟩ : ∃ y : ByteArray, (⟨t.tx.toArray⟩ : ByteArray) = y := ⟨_, rfl⟩
      have hyl : y.data.toList = t.tx := by rw [← hy]
      have hys : y.size = t.tx.length := by rw [Lib.size_eq, hyl]
      have HYS := Lib.hid hys
      have HYL := Lib.hid hyl
      have HNX := Lib.hid hnx
      rw [← HYS.out] at HNX
      rw [hy] at g2
      have hle := hok.le
      have hln := hok.len
      rw [← HYS.out, ← HSA.out] at hln
      have hex : a.extract t.a (t.a + y.size) = y := by
        rw [← hy]
        apply ByteArray.ext
        apply Array.ext'
        simp only [ByteArray.data_extract, Array.toList_extract]
        rw [List.extract_eq_take_drop, Nat.add_sub_cancel_left]
        show _ = t.tx
        have : (⟨t.tx.toArray⟩ : ByteArray).size = t.tx.length := by rw [Lib.size_eq]
        rw [this]
        exact hok.txt
      have hye : y.toList.isEmpty = false := by
        cases hc : t.tx with
        | nil => exact absurd hc hok.ne
        | cons c m => exact isEmpty_no (hyl.trans hc)
      have HBK := Lib.hid (block_new wr (.cells #[.int .i64 t.k, .int .i64 t.a, .string y, .bool t.gl] 29))
      have bk1 := Lib.hid (bk.alloc hsz (.cells #[.int .i64 t.k, .int .i64 t.a, .string y, .bool t.gl] 29))
      have hgl := hok.glue
      have hgap := hok.gap
      have hwd := hok.word
      have hli := hok.line
      have HGP := Lib.hid hgap
      have HWD := Lib.hid hwd
      have HLI := Lib.hid hli
      clear ht hok hnx hgap hwd hli
      rw [← hyl] at HWD HLI
      clear hy hyl hys
      generalize t.a = ta at *
      generalize t.k = tk at *
      generalize t.gl = gl at *
      have HGL := Lib.hid hgl
      clear hgl
      go_upto_region 11 with fail
      go_cut [98] (fun s98 wx => s98 = .bool false ∧ Hid (wx.heap[wr.heap.size]? = some (.cells #[.int .i64 tk, .int .i64 ta, .string y, .bool gl] 29 (0, 0))) ∧ Below w2.heap.size w2 wx)
      case first =>
        have d1 : decide (ta < p) = false := by simp; omega
        have d2 : decide ((ta : Int) < (p : Int)) = false := by simp; omega
        have d3 : decide ((a.size : Int) < (ta : Int) + (y.size : Int)) = false := by simp; omega
        have j0 : (0 : Int) ≤ (ta : Int) := by omega
        have j1 : (0 : Int) ≤ (ta : Int) + (y.size : Int) := by omega
        have j2 : (ta : Int) ≤ (ta : Int) + (y.size : Int) := by omega
        have j3 : (ta : Int) + (y.size : Int) ≤ (a.size : Int) := by omega
        have s1 : IntKind.i64.wrap ((ta : Int) + (y.size : Int)) = (ta : Int) + (y.size : Int) := IntWalk.i64_in _ (by omega)
        have s2 : ((ta : Int) + (y.size : Int)).toNat = ta + y.size := by omega
        cases gl
        · go_wp2_with fail
          go_quiet (fail)
          go_wp2_with fail
          go_meet
          exact ⟨rfl, HBK.out, drewN_below bk1.out _⟩
        · have hg := HGL.out rfl
          have e1 : ((ta : Int) != (p : Int)) = false := by simp; omega
          have e2 : ((k : Int) == 0) = false := by
            have := HKP.out
            simp
            omega
          clear hg
          go_wp2_with fail
          go_quiet (fail)
          go_wp2_with fail
          go_meet
          exact ⟨rfl, HBK.out, drewN_below bk1.out _⟩
      case rest =>
        obtain ⟨rfl, hb, bw⟩ := hcut
        have hszw := bw.size
        have HB := Lib.hid hb
        obtain ⟨⟨x0, x1, x2, x3⟩, _⟩ := four_cells HB.out
        obtain ⟨gb, hgb⟩ : ∃ gb, a.extract p ta = gb := ⟨_, rfl⟩
        have hgl : gb.data.toList = (a.data.toList.drop p).take (ta - p) := by
          rw [← hgb]
          simp only [ByteArray.data_extract, Array.toList_extract, List.extract_eq_take_drop]
        have HGB := Lib.hid hgl
        clear hgl
        have hgs : gb.size ≤ 9223372036854775807 := by
          rw [← hgb]
          simp only [ByteArray.size_extract]
          omega
        have HT := Lib.hid fun w => trim_any gb hgs w
        have HTL := Lib.hid fun w => trimLeft_any gb w
        have j3 : (ta : Int) ≤ (a.size : Int) := by omega
        have j4 : (p : Int) ≤ (ta : Int) := by omega
        clear bk bk1 hb HBK g0 g1 g2 g3
        go_upto_region 13 with fail
        go_cut [120] (fun s120 wx => s120 = .bool false ∧ Hid (wx.heap[wr.heap.size]? = some (.cells #[.int .i64 tk, .int .i64 ta, .string y, .bool gl] 29 (0, 0))) ∧ Below w2.heap.size w2 wx)
        case first =>
          rcases HGP.out with hbl | ⟨hk4, B, C, hBC, hB⟩
          · have htr := trim_blank (l := gb.data.toList) (by rw [HGB.out]; exact hbl)
            rw [htr.1] at HT
            clear htr hbl
            go_wp2_with fail
            refine (HT.out _).mono ?_
            rintro e w3 ⟨rfl, q3⟩
            have HB3 := Lib.hid (carry_block2 HB.out q3)
            have bw3 := Lib.hid (bw.trans (q3.mono hszw))
            clear q3
            go_wp2_with fail
            go_meet
            exact ⟨rfl, HB3.out, bw3.out⟩
          · have htr := trim_sharp (l := B) (m := C) hB
            rw [← hBC, ← HGB.out] at htr
            have hke : (tk != 4) = false := by simpa using hk4
            rw [htr.2] at HTL
            obtain ⟨z, hz⟩ : ∃ z : ByteArray, (⟨(Lib.trimS gb.data.toList bl2).toArray⟩ : ByteArray) = z := ⟨_, rfl⟩
            rw [hz] at HT
            have hze : z.toList.isEmpty = false := by
              rw [← hz]
              cases hc : Lib.trimS gb.data.toList bl2 with
              | nil => exact absurd hc htr.1
              | cons c m => exact isEmpty_no (c := c) (m := m) rfl
            have HHP := Lib.hid fun w => sharp_any C w
            clear htr hk4 hBC hB hz
            go_wp2_with fail
            refine (HT.out _).mono ?_
            rintro e w3 ⟨rfl, q3⟩
            have HB3 := Lib.hid (carry_block2 HB.out q3)
            have bw3 := Lib.hid (bw.trans (q3.mono hszw))
            clear q3 x0 x1 x2 x3
            obtain ⟨⟨x0, x1, x2, x3⟩, _⟩ := four_cells HB3.out
            go_wp2_with fail
            refine (HTL.out _).mono ?_
            rintro e w4 ⟨rfl, q4⟩
            have HB4 := Lib.hid (carry_block2 HB3.out q4)
            have bw4 := Lib.hid (bw3.out.trans (q4.mono bw3.out.size))
            clear q4
            go_wp2_with fail
            refine (HHP.out _).mono ?_
            rintro e w5 ⟨rfl, rfl⟩
            go_wp2_with fail
            go_meet
            exact ⟨rfl, HB4.out, bw4.out⟩
        case rest =>
          obtain ⟨rfl, hb5, bw5⟩ := hcut
          have HB5 := hb5
          clear x0 x1 x2 x3 HB hb5
          obtain ⟨⟨x0, x1, x2, x3⟩, _⟩ := four_cells HB5.out
          have hyz : y.size ≤ 9223372036854775800 := by omega
          have HW := Lib.hid fun w => Word_any y hyz w
          rw [← HWD.out] at HW
          have hk1 : (tk == 1) = decide (tk = 1) := by rw [Bool.eq_iff_iff]; simp
          have hk4 : (tk == 4) = decide (tk = 4) := by rw [Bool.eq_iff_iff]; simp
          have hy1 : (y.toList == [10]) = decide (tk = 4) := by
            rw [HLI.out, ByteArray.toList_eq, Bool.eq_iff_iff]
            simp
          have hy2 : (y == (⟨#[10]⟩ : ByteArray)) = decide (tk = 4) := by
            have e10 : (⟨#[10]⟩ : ByteArray).toList = [10] := by rw [ByteArray.toList_eq]
            rw [beq_toListBytes, e10]
            exact hy1
          generalize decide (tk = 1) = v1 at *
          generalize decide (tk = 4) = v4 at *
          cases v1 <;> cases v4
          · go_wp2_with fail
            have HWK := Lib.hid fun W (hW : W.heap = wc.heap) (bW : Below w2.heap.size w2 W) => word_kept (g := wr.heap.size) (HW.out W) (by rw [hW]; exact HB5.out) bW
            go_region_held3 (fun w' => w'.cell? ⟨wr.heap.size, 0, none⟩ = some (.int .i64 tk) ∧ w'.cell? ⟨wr.heap.size, 2, none⟩ = some (.string y)) (first | exact ⟨x0, x2⟩ | exact ⟨z0, z2⟩ | fail) (first | (go_at_call 10; refine (HWK.out wc.drew rfl bw5.drew).mono ?_; rintro e w6 ⟨rfl, z0, z2, z3⟩) | fail)
            have HB6 := Lib.hid z3.out.1
            have bw6 := Lib.hid z3.out.2
            clear z0 z2 z3 x0 x1 x2 x3 bw5
            obtain ⟨⟨x0, x1, x2, x3⟩, _⟩ := four_cells HB6.out
            go_wp2_with fail
            go_roundw
            case rel => exact ⟨k + 1, ta + y.size, by go_num, by go_num, by omega, by omega, HNX.out, fun h => by omega, bw6.out⟩
            case measure => simp [intOf]; omega
          · go_wp2_with fail
            have HWK := Lib.hid fun W (hW : W.heap = wc.heap) (bW : Below w2.heap.size w2 W) => word_kept (g := wr.heap.size) (HW.out W) (by rw [hW]; exact HB5.out) bW
            go_region_held3 (fun w' => w'.cell? ⟨wr.heap.size, 0, none⟩ = some (.int .i64 tk) ∧ w'.cell? ⟨wr.heap.size, 2, none⟩ = some (.string y)) (first | exact ⟨x0, x2⟩ | exact ⟨z0, z2⟩ | fail) (first | (go_at_call 10; refine (HWK.out wc.drew rfl bw5.drew).mono ?_; rintro e w6 ⟨rfl, z0, z2, z3⟩) | fail)
            have HB6 := Lib.hid z3.out.1
            have bw6 := Lib.hid z3.out.2
            clear z0 z2 z3 x0 x1 x2 x3 bw5
            obtain ⟨⟨x0, x1, x2, x3⟩, _⟩ := four_cells HB6.out
            go_wp2_with fail
            go_roundw
            case rel => exact ⟨k + 1, ta + y.size, by go_num, by go_num, by omega, by omega, HNX.out, fun h => by omega, bw6.out⟩
            case measure => simp [intOf]; omega
          · go_wp2_with fail
            have HWK := Lib.hid fun W (hW : W.heap = wc.heap) (bW : Below w2.heap.size w2 W) => word_kept (g := wr.heap.size) (HW.out W) (by rw [hW]; exact HB5.out) bW
            go_region_held3 (fun w' => w'.cell? ⟨wr.heap.size, 0, none⟩ = some (.int .i64 tk) ∧ w'.cell? ⟨wr.heap.size, 2, none⟩ = some (.string y)) (first | exact ⟨x0, x2⟩ | exact ⟨z0, z2⟩ | fail) (first | (go_at_call 10; refine (HWK.out wc.drew rfl bw5.drew).mono ?_; rintro e w6 ⟨rfl, z0, z2, z3⟩) | fail)
            have HB6 := Lib.hid z3.out.1
            have bw6 := Lib.hid z3.out.2
            clear z0 z2 z3 x0 x1 x2 x3 bw5
            obtain ⟨⟨x0, x1, x2, x3⟩, _⟩ := four_cells HB6.out
            go_wp2_with fail
            go_roundw
            case rel => exact ⟨k + 1, ta + y.size, by go_num, by go_num, by omega, by omega, HNX.out, fun h => by omega, bw6.out⟩
            case measure => simp [intOf]; omega
          · go_wp2_with fail
            have HWK := Lib.hid fun W (hW : W.heap = wc.heap) (bW : Below w2.heap.size w2 W) => word_kept (g := wr.heap.size) (HW.out W) (by rw [hW]; exact HB5.out) bW
            go_region_held3 (fun w' => w'.cell? ⟨wr.heap.size, 0, none⟩ = some (.int .i64 tk) ∧ w'.cell? ⟨wr.heap.size, 2, none⟩ = some (.string y)) (first | exact ⟨x0, x2⟩ | exact ⟨z0, z2⟩ | fail) (first | (go_at_call 10; refine (HWK.out wc.drew rfl bw5.drew).mono ?_; rintro e w6 ⟨rfl, z0, z2, z3⟩) | fail)
            have HB6 := Lib.hid z3.out.1
            have bw6 := Lib.hid z3.out.2
            clear z0 z2 z3 x0 x1 x2 x3 bw5
            obtain ⟨⟨x0, x1, x2, x3⟩, _⟩ := four_cells HB6.out
            go_wp2_with fail
            go_roundw
            case rel => exact ⟨k + 1, ta + y.size, by go_num, by go_num, by omega, by omega, HNX.out, fun h => by omega, bw6.out⟩
            case measure => simp [intOf]; omega
    · have hge : ¬ (k : Int) < (n : Int) := by omega
      have hkn : k = n := by omega
      have hch := hci.out
      rw [hkn, HN.out, List.drop_length] at hch
      obtain ⟨_, hst⟩ := hch
      obtain ⟨gb, hgb⟩ : ∃ gb, a.extract p a.size = gb := ⟨_, rfl⟩
      have hgl : gb.data.toList = a.data.toList.drop p := by rw [← hgb, extract_list]
      have HTL := Lib.hid fun w => trimLeft_any gb w
      have B3 := Lib.hid (B2.out.trans (bk.mono B2.out.size))
      rcases stop_ok2 hst with hbl | ⟨B, C, hBC, hB, hC⟩
      · have htr := trim_blank (l := gb.data.toList) (by rw [hgl]; exact hbl)
        rw [htr.2] at HTL
        clear htr hbl hst hgl hkn hci
        go_wp2_with fail
        refine (HTL.out _).mono ?_
        rintro e w3 ⟨rfl, q3⟩
        have B4 := Lib.hid (B3.out.trans (q3.mono B3.out.size))
        go_wp2_with fail
        go_ret
        exact ⟨rfl, B4.out⟩
      · have htr := (trim_sharp (l := B) (m := C) hB).2
        rw [← hBC, ← hgl] at htr
        rw [htr] at HTL
        obtain ⟨z, hz⟩ : ∃ z : ByteArray, (⟨(35 :: C).toArray⟩ : ByteArray) = z := ⟨_, rfl⟩
        rw [hz] at HTL
        have hzl : z.data.toList = 35 :: C := by rw [← hz]
        have hze := isEmpty_no hzl
        have hz0 : 0 < z.size := by rw [Lib.size_eq, hzl]; simp
        have hzb : ((z[0]'hz0).toNat : Int) = 35 := by
          have : z[0]'hz0 = z.data.toList[0]'(by rw [hzl]; simp) := rfl
          rw [this]
          simp [hzl]
        have hCon := Lib.hid fun w => no_line z C hzl hC w
        clear htr hst hgl hkn hci hBC hB hC hz hzl
        go_wp2_with fail
        refine (HTL.out _).mono ?_
        rintro e w3 ⟨rfl, q3⟩
        have B4 := Lib.hid (B3.out.trans (q3.mono B3.out.size))
        go_wp2_with fail
        refine (hCon.out _).mono ?_
        rintro e w4 ⟨rfl, rfl⟩
        go_wp2_with fail
        go_ret
        exact ⟨rfl, B4.out⟩
end Go.Proofs.YthccgpjbchlocaaDoor
