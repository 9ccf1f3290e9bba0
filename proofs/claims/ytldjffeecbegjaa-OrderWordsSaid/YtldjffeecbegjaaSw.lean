/- Law OrderWords: its walk. -/
import Derived.Test.YtldjffeecbegjaaSq
import Derived.Test.YtldjffeecbegjaaSg
import Derived.Test.YtldjffeecbegjaaOh
import Derived.Deep.CutBlock
import Derived.Deep.RegionHeld3
import Derived.Maps.OwnIn
namespace Go.Proofs.Ytldjffeecbegjaa.Str
open Go.RowKit Go.Maps

theorem zeroBool (w : World) : (zeroValue 4).run Try.prog w = .ok (.bool false) w := by kernel_rfl
theorem str_slice_h (A : Option Addr) (len cap h : Nat) (y : Int) (hy : y = h) (hh : h ≤ cap) (W : World) :
    (Instr.slice 45 (.slice A len cap) none (some (.int .i64 y)) none).run Try.prog W = .ok (.slice A h cap) W := pr_slice_h A len cap h y hy hh W

set_option maxRecDepth 100000 in
set_option maxHeartbeats 4000000 in
theorem owords_core (A : Option Addr) (n c : Nat) (xs : List Tx) (s : Tx) (hx : ∀ x ∈ xs, x.size ≤ 9223372036854775807) (hnc : n ≤ c) (hcm : c ≤ 9223372036854775807) (w : World) (hR : Reads w w.heap.size 1 A n (strs xs)) :
    Calls Try.prog 7 #[.slice A n c, .string s] w fun e w' => e = .returned (.bool true) ∧ Below w.heap.size w w' := by
  obtain ⟨m, hm⟩ : ∃ m, min n 40 = m := ⟨_, rfl⟩
  obtain ⟨L, hL⟩ : ∃ L, xs.take 40 = L := ⟨_, rfl⟩
  have hm40 : m ≤ 40 := by omega
  have hmi : min (n : Int) 40 = (m : Int) := by omega
  have hsl := str_slice_h A n c m m rfl (by omega)
  have hxl := reads_len hR
  have HRm : Hid (Reads w w.heap.size 1 A m (strs L)) := by
    have h := reads_take hR (show m ≤ n by omega)
    rw [Nat.mul_one, ← strs_take] at h
    rw [← hL, show xs.take 40 = xs.take m by rw [List.take_eq_take_iff, hxl]; omega]
    exact h
  have HLX : Hid (∀ x ∈ L, x.size ≤ 9223372036854775807) := fun x hxm => hx x (by rw [← hL] at hxm; exact List.mem_of_mem_take hxm)
  have hmm := @run_makeMap Try.prog
  clear hR hx hL hxl hm
  go_enter Try.func7, Try.ntmps7
  go_wp2_with fail
  have S0 := Lib.hid (Blk.new w 9 #[.string s])
  have B0 : Hid (Below w.heap.size w (w.alloc (.cells #[.string s] 9))) := (Below.refl _ _).alloc (Nat.le_refl _) _
  refine (wakes_order _).mono ?_
  rintro e w1 ⟨rfl, b1⟩
  have S1 := Lib.hid (S0.out.below b1 (by simp))
  have B1 : Hid (Below w.heap.size w w1) := B0.out.trans (b1.mono B0.out.size)
  clear b1 B0 S0
  go_wp2_with fail
  refine (clone_str A m c L (by omega) w1 ((HRm.out.below B1.out).more B1.out.size)).mono ?_
  rintro e w2 ⟨A2, c2, rfl, o2, k2, k3, b2⟩
  have S2 := Lib.hid (S1.out.below b2 S1.out.lt)
  have B2 : Hid (Below w.heap.size w w2) := B1.out.trans (b2.mono B1.out.size)
  have R2 := Lib.hid (reads_own o2)
  clear b2 B1 S1 o2 HRm hsl hmi
  go_wp2_with fail
  refine (sort_any A2 m c2 L (by omega) w2 R2.out).mono ?_
  rintro e w3 ⟨h3, rfl, o3, b3⟩
  have S3 := Lib.hid (S2.out.below b3 S2.out.lt)
  have B3 : Hid (Below w.heap.size w w3) := B2.out.trans (b3.mono B2.out.size)
  have R3 := Lib.hid ((R2.out.below b3).more b3.size)
  have O3 := Lib.hid o3
  clear b3 B2 S2 R2 o3
  go_wp2_with fail
  refine (uniq_any (some ⟨h3, 0, none⟩) m m (srt ltS L) (by omega) w3 O3.out.reads).mono ?_
  rintro e w4 ⟨A5, c5, rfl, o5, k5, k6, b4⟩
  have HLL := Lib.hid (reads_len R3.out)
  have hsln : (srt ltS L).length = m := by rw [srt_len ltS_ahead, HLL.out]
  obtain ⟨hq1, hq2⟩ := uniq_facts (srt_order ltS_ahead L) m (by omega)
  have hum := uniqK_le (srt ltS L) m
  have HQ1 := Lib.hid hq1
  have HQ2 : Hid (∀ x, x ∈ uniqK (srt ltS L) m ↔ x ∈ L) := fun x => by rw [hq2, List.take_of_length_le (by omega), mem_srt ltS_ahead]
  have S4 := Lib.hid (S3.out.below b4 S3.out.lt)
  have B4 : Hid (Below w.heap.size w w4) := B3.out.trans (b4.mono B3.out.size)
  have R4 := Lib.hid ((R3.out.below b4).more b4.size)
  have R5 := Lib.hid (reads_own o5)
  clear b4 B3 S3 R3 o5 O3 hq1 hq2 hsln
  generalize uniqK (srt ltS L) m = Q at *
  obtain ⟨u, hu⟩ : ∃ u, Q.length = u := ⟨_, rfl⟩
  rw [hu] at k5 hum R5
  have HU := Lib.hid hu
  rw [hu]
  clear hu
  have M0 : Hid ((w4.alloc (.map #[] 0)).ownsMap (H := Unit) Try.prog 9 (plainElem Try.prog 4) w4.heap.size 0 (.map [])) := World.ownsMap_made _ _ _ _
  have BM : Hid (Below w.heap.size w (w4.alloc (.map #[] 0))) := B4.out.alloc B4.out.size _
  have RA : Hid (Reads (w4.alloc (.map #[] 0)) w4.heap.size 1 A2 m (strs L)) := R4.out.alloc (Nat.le_refl _) _
  have RQ : Hid (Reads (w4.alloc (.map #[] 0)) w4.heap.size 1 A5 u (strs Q)) := R5.out.alloc (Nat.le_refl _) _
  have SM : Hid (Blk (w4.alloc (.map #[] 0)) w.heap.size 9 #[.string s]) := S4.out.alloc _
  have SB : Hid (w.heap.size < w4.heap.size) := S4.out.lt
  obtain ⟨B, hB⟩ : ∃ B, w4.heap.size = B := ⟨_, rfl⟩
  rw [hB] at M0 RA RQ SB
  clear R4 R5 S4 B4
  go_wp2_with fail
  clear hB hmm
  generalize w4.alloc (.map #[] 0) = wm at *
  have hBm : B < wm.heap.size := M0.out.lt
  have N0 : Hid (SeenIs (.map []) (Q.take 0)) := seen_none
  go_loopg [31] u (fun gg s31 wr => ∃ (i : Nat) (D : DataW Unit), i + gg = u ∧ s31 = .int .i64 i ∧ Hid (wr.ownsMap Try.prog 9 (plainElem Try.prog 4) B i D) ∧ Hid (SeenIs D (Q.take i)) ∧ Hid (wm.grownBy wr (some B)))
  case atStart => exact ⟨0, _, by omega, rfl, M0, N0, World.grownBy.refl _ _⟩
  case round =>
    clear M0 N0
    obtain ⟨i, D, hig, rfl, HM, HN, HG⟩ := hrel
    have hBr : B ≤ wr.heap.size := Nat.le_trans (Nat.le_of_lt hBm) HG.out.size
    have QR : Hid (Reads wr B 1 A5 u (strs Q)) := RQ.out.grown HG.out (by omega) (fun g hg => by injection hg with hg; omega)
    cases gk with
    | zero =>
      have hge : ¬ (i : Int) < (u : Int) := by omega
      clear hig HM HN
      obtain ⟨j, hj⟩ := sought Q s (strict_order HQ1.out)
      have hyes := hj.yes (Lib.containsS L s) (by rw [Lib.containsS_iff]; exact (HQ2.out s).symm)
      have HJ := Lib.hid hj
      have SR : Hid (Blk wr w.heap.size 9 #[.string s]) := SM.out.grown HG.out (fun e => by injection e with e; have := SB.out; omega)
      have HBW : Hid (Below w.heap.size w wr) := BM.out.grown HG.out BM.out.size (fun g hg => by injection hg with hg; have := SB.out; omega)
      have LR : Hid (Reads wr wr.heap.size 1 A2 m (strs L)) := (RA.out.grown HG.out (by omega) (fun g hg => by injection hg with hg; omega)).more hBr
      have QRR := Lib.hid (QR.out.more hBr)
      have hfind := find_two (.pointer (some ⟨w.heap.size, 0, none⟩)) A5 u c5 j Q (fun y => cmpS y s) (Lib.containsS L s) (by omega) wr QRR.out (by have := HJ.out.le; rw [HU.out] at this; exact this) HJ.out.lo HJ.out.hi
        (fun h => hyes.1 (by rw [HU.out]; exact h)) (fun h => hyes.2 (by rw [HU.out]; exact h)) (fun y _ W b => ask_two y w.heap.size s W ((b.cell (p := ⟨w.heap.size, 0, none⟩) SR.out.lt).trans (SR.out.cell 0)))
      have HC := Lib.hid fun W h => contains_low A2 m c2 L s (by omega) W h
      have HF := Lib.hid hfind
      have HLF : Hid (0 < m → ∃ y, L[lstK ltS L m]? = some y ∧ Q[0]? = some y ∧ lstK ltS L m < m) := fun h => least_first HLL.out h (strict_order HQ1.out) HQ2.out
      clear hyes hj hfind QR RA RQ SM HG BM
      generalize Lib.containsS L s = bb at *
      go_wp2_with fail
      refine HF.out.mono ?_
      rintro e w6 ⟨rfl, b6⟩
      have S6 := Lib.hid (SR.out.below b6 SR.out.lt)
      have B6 : Hid (Below w.heap.size w w6) := HBW.out.trans (b6.mono HBW.out.size)
      have L6 := Lib.hid ((LR.out.below b6).more b6.size)
      have Q6 := Lib.hid ((QRR.out.below b6).more b6.size)
      clear HF SR HBW LR QRR b6 HJ
      go_wp2_with fail
      refine (least_any A2 m c2 L (by omega) w6 L6.out).mono ?_
      rintro e w7 ⟨rfl, b7⟩
      have S7 := Lib.hid (S6.out.below b7 S6.out.lt)
      have B7 : Hid (Below w.heap.size w w7) := B6.out.trans (b7.mono B6.out.size)
      have L7 := Lib.hid ((L6.out.below b7).more b7.size)
      have Q7 := Lib.hid ((Q6.out.below b7).more b7.size)
      clear S6 B6 L6 Q6 b7
      have bW : w.heap.size < w7.drew.heap.size := S7.out.lt
      have y0 : w7.drew.cell? ⟨w.heap.size, 0, none⟩ = some (.string s) := S7.out.cell 0
      have b7d : Hid (Below w.heap.size w w7.drew) := B7.out.drew
      have L7d : Hid (Reads w7.drew w7.drew.heap.size 1 A2 m (strs L)) := L7.out
      have Q7d : Hid (Reads w7.drew w7.drew.heap.size 1 A5 u (strs Q)) := Q7.out
      have HSO : Hid (InOrder ltS Q) := strict_order HQ1.out
      rcases Nat.eq_zero_or_pos m with hm0 | hm0
      · subst hm0
        go_wp2_with fail
        refine wp_region_noPanic ?_
        refine wp_region_held_drew (S := fun w' => w'.cell? ⟨w.heap.size, 0, none⟩ = some (.string s)) (by kernel_rfl) y0 (fun hHeld => ?_)
        refine wpAnyH_take (i := 0) (oi := { dst := some 68, op := Op.move (Operand.tmp 13), type := 4, pos := "outright.go:74", after := #[], guard := none }) (v := .bool bb) rfl (by kernel_rfl) (by kernel_rfl) (by kernel_rfl) (fun _ _ _ h => h) (Or.inl ⟨by kernel_rfl, fun w' hSw => by (try dsimp only at hSw); go_simp⟩) (by assumption) ?_
        try simp only [Act.put, List.setIfInBounds_toArray, List.set_cons_zero, List.set_cons_succ]
        refine wpAnyH_take (i := 1) (oi := { dst := some 69, op := Op.move (Operand.tmp 0), type := 45, pos := "outright.go:74", after := #[], guard := none }) (v := .slice A2 0 c2) rfl (by kernel_rfl) (by kernel_rfl) (by kernel_rfl) (fun _ _ _ h => h) (Or.inl ⟨by kernel_rfl, fun w' hSw => by (try dsimp only at hSw); go_simp⟩) (by assumption) ?_
        try simp only [Act.put, List.setIfInBounds_toArray, List.set_cons_zero, List.set_cons_succ]
        refine wpAnyH_take (i := 2) (oi := { dst := some 70, op := Op.load 9 (Operand.tmp 3), type := 9, pos := "outright.go:74", after := #[], guard := none }) (v := .string s) rfl (by kernel_rfl) (by kernel_rfl) (by kernel_rfl) (fun _ _ _ h => h) (Or.inl ⟨by kernel_rfl, fun w' hSw => by (try dsimp only at hSw); go_simp⟩) (by assumption) ?_
        try simp only [Act.put, List.setIfInBounds_toArray, List.set_cons_zero, List.set_cons_succ]
        refine wpAnyH_ready (rs := [3]) (by kernel_rfl) (by simp) ?_
        refine AllReadyH.cons (o := { dst := some 71, op := Op.call { callee := Callee.value (Operand.func 32), args := #[Operand.tmp 69, Operand.tmp 70], argTypes := #[45, 9] }, type := 4, pos := "outright.go:74", after := #[{ on := 1, ground := Ground.data }, { on := 2, ground := Ground.data }], guard := none }) rfl (fun K hK => ?_) AllReadyH.nil
        go_simp
        refine (HC.out w7.drew L7d.out).mono ?_
        rintro e w20 ⟨rfl, b20⟩
        have HB20 : Hid (Below w.heap.size w w20) := b7d.out.trans (b20.mono b7d.out.size)
        have Q20 : Hid (Reads w20 w20.heap.size 1 A5 u (strs Q)) := (Q7d.out.below b20).more b20.size
        have q0 : w20.cell? ⟨w.heap.size, 0, none⟩ = some (.string s) := (b20.cell (p := ⟨w.heap.size, 0, none⟩) bW).trans y0
        have l20 : w.heap.size < w20.heap.size := Nat.lt_of_lt_of_le bW b20.size
        clear b20
        refine hK.out _ _ q0 (fun hHeld => ?_)
        clear hK K
        try simp only [Act.put, List.setIfInBounds_toArray, List.set_cons_zero, List.set_cons_succ]
        refine wpAnyH_take (i := 4) (oi := { dst := some 72, op := Op.binOp BinOp.eql 4 (Operand.tmp 68) (Operand.tmp 71) 4, type := 4, pos := "outright.go:74", after := #[{ on := 0, ground := Ground.data }, { on := 3, ground := Ground.data }], guard := none }) (v := .bool true) rfl (by kernel_rfl) (by kernel_rfl) (by kernel_rfl) (fun _ _ _ h => h) (Or.inl ⟨by kernel_rfl, fun w' hSw => by (try dsimp only at hSw); go_simp⟩) (by assumption) ?_
        try simp only [Act.put, List.setIfInBounds_toArray, List.set_cons_zero, List.set_cons_succ]
        refine wpAnyH_take (i := 5) (oi := { dst := some 73, op := Op.move (Operand.tmp 72), type := 4, pos := "outright.go:74", after := #[{ on := 4, ground := Ground.data }, { on := 3, ground := Ground.chain }], guard := none }) (v := .bool true) rfl (by kernel_rfl) (by kernel_rfl) (by kernel_rfl) (fun _ _ _ h => h) (Or.inl ⟨by kernel_rfl, fun w' hSw => by (try dsimp only at hSw); go_simp⟩) (by assumption) ?_
        try simp only [Act.put, List.setIfInBounds_toArray, List.set_cons_zero, List.set_cons_succ]
        refine wpAnyH_take (i := 6) (oi := { dst := some 74, op := Op.move (Operand.tmp 6), type := 45, pos := "outright.go:74", after := #[{ on := 5, ground := Ground.guard }], guard := some (5, true) }) (v := .slice A5 u c5) rfl (by kernel_rfl) (by kernel_rfl) (by kernel_rfl) (fun _ _ _ h => h) (Or.inl ⟨by kernel_rfl, fun w' hSw => by (try dsimp only at hSw); go_simp⟩) (by assumption) ?_
        try simp only [Act.put, List.setIfInBounds_toArray, List.set_cons_zero, List.set_cons_succ]
        refine wpAnyH_ready (rs := [7]) (by kernel_rfl) (by simp) ?_
        refine AllReadyH.cons (o := { dst := some 75, op := Op.call { callee := Callee.value (Operand.func 33), args := #[Operand.tmp 74], argTypes := #[45] }, type := 4, pos := "outright.go:74", after := #[{ on := 6, ground := Ground.data }, { on := 5, ground := Ground.chain }, { on := 5, ground := Ground.guard }], guard := some (5, true) }) rfl (fun K hK => ?_) AllReadyH.nil
        go_simp
        refine (sorted_str A5 u c5 Q (by omega) HSO.out w20 Q20.out).mono ?_
        rintro e w21 ⟨rfl, b21⟩
        have HB21 : Hid (Below w.heap.size w w21) := HB20.out.trans (b21.mono HB20.out.size)
        have r0 : w21.cell? ⟨w.heap.size, 0, none⟩ = some (.string s) := (b21.cell (p := ⟨w.heap.size, 0, none⟩) l20).trans q0
        clear b21
        refine hK.out _ _ r0 (fun hHeld => ?_)
        clear hK K
        try simp only [Act.put, List.setIfInBounds_toArray, List.set_cons_zero, List.set_cons_succ]
        refine wpAnyH_take (i := 8) (oi := { dst := some 76, op := Op.pick (Operand.tmp 73) (Operand.tmp 75) (Operand.const (Value.bool false)), type := 4, pos := "outright.go:74", after := #[{ on := 5, ground := Ground.data }, { on := 7, ground := Ground.data }], guard := none }) (v := .bool true) rfl (by kernel_rfl) (by kernel_rfl) (by kernel_rfl) (fun _ _ _ h => h) (Or.inl ⟨by kernel_rfl, fun w' hSw => by (try dsimp only at hSw); go_simp⟩) (by assumption) ?_
        try simp only [Act.put, List.setIfInBounds_toArray, List.set_cons_zero, List.set_cons_succ]
        refine wpAnyH_take (i := 9) (oi := { dst := some 77, op := Op.move (Operand.tmp 76), type := 4, pos := "outright.go:74", after := #[{ on := 8, ground := Ground.data }, { on := 7, ground := Ground.chain }], guard := none }) (v := .bool true) rfl (by kernel_rfl) (by kernel_rfl) (by kernel_rfl) (fun _ _ _ h => h) (Or.inl ⟨by kernel_rfl, fun w' hSw => by (try dsimp only at hSw); go_simp⟩) (by assumption) ?_
        try simp only [Act.put, List.setIfInBounds_toArray, List.set_cons_zero, List.set_cons_succ]
        refine wpAnyH_take (i := 10) (oi := { dst := some 78, op := Op.move (Operand.tmp 15), type := 4, pos := "outright.go:74", after := #[{ on := 9, ground := Ground.guard }], guard := some (9, true) }) (v := .bool false) rfl (by kernel_rfl) (by kernel_rfl) (by kernel_rfl) (fun _ _ _ h => h) (Or.inl ⟨by kernel_rfl, fun w' hSw => by (try dsimp only at hSw); go_simp⟩) (by assumption) ?_
        try simp only [Act.put, List.setIfInBounds_toArray, List.set_cons_zero, List.set_cons_succ]
        refine wpAnyH_take (i := 11) (oi := { dst := some 79, op := Op.move (Operand.tmp 0), type := 45, pos := "outright.go:74", after := #[{ on := 9, ground := Ground.guard }], guard := some (9, true) }) (v := .slice A2 0 c2) rfl (by kernel_rfl) (by kernel_rfl) (by kernel_rfl) (fun _ _ _ h => h) (Or.inl ⟨by kernel_rfl, fun w' hSw => by (try dsimp only at hSw); go_simp⟩) (by assumption) ?_
        try simp only [Act.put, List.setIfInBounds_toArray, List.set_cons_zero, List.set_cons_succ]
        refine wpAnyH_take (i := 12) (oi := { dst := some 80, op := Op.call { callee := Callee.builtin Builtin.len, args := #[Operand.tmp 79], argTypes := #[45] }, type := 3, pos := "outright.go:74", after := #[{ on := 11, ground := Ground.data }, { on := 9, ground := Ground.guard }], guard := some (9, true) }) (v := .int .i64 0) rfl (by kernel_rfl) (by kernel_rfl) (by kernel_rfl) (fun _ _ _ h => h) (Or.inl ⟨by kernel_rfl, fun w' hSw => by (try dsimp only at hSw); go_simp⟩) (by assumption) ?_
        try simp only [Act.put, List.setIfInBounds_toArray, List.set_cons_zero, List.set_cons_succ]
        refine wpAnyH_take (i := 13) (oi := { dst := some 81, op := Op.binOp BinOp.gtr 3 (Operand.tmp 80) (Operand.const (Value.int IntKind.i64 0)) 3, type := 4, pos := "outright.go:74", after := #[{ on := 12, ground := Ground.data }, { on := 9, ground := Ground.guard }], guard := some (9, true) }) (v := .bool false) rfl (by kernel_rfl) (by kernel_rfl) (by kernel_rfl) (fun _ _ _ h => h) (Or.inl ⟨by kernel_rfl, fun w' hSw => by (try dsimp only at hSw); go_simp⟩) (by assumption) ?_
        try simp only [Act.put, List.setIfInBounds_toArray, List.set_cons_zero, List.set_cons_succ]
        refine wpAnyH_take (i := 14) (oi := { dst := some 82, op := Op.binOp BinOp.eql 4 (Operand.tmp 78) (Operand.tmp 81) 4, type := 4, pos := "outright.go:74", after := #[{ on := 10, ground := Ground.data }, { on := 13, ground := Ground.data }, { on := 9, ground := Ground.guard }], guard := some (9, true) }) (v := .bool true) rfl (by kernel_rfl) (by kernel_rfl) (by kernel_rfl) (fun _ _ _ h => h) (Or.inl ⟨by kernel_rfl, fun w' hSw => by (try dsimp only at hSw); go_simp⟩) (by assumption) ?_
        try simp only [Act.put, List.setIfInBounds_toArray, List.set_cons_zero, List.set_cons_succ]
        refine wpAnyH_take (i := 15) (oi := { dst := some 83, op := Op.pick (Operand.tmp 77) (Operand.tmp 82) (Operand.const (Value.bool false)), type := 4, pos := "outright.go:74", after := #[{ on := 9, ground := Ground.data }, { on := 14, ground := Ground.data }], guard := none }) (v := .bool true) rfl (by kernel_rfl) (by kernel_rfl) (by kernel_rfl) (fun _ _ _ h => h) (Or.inl ⟨by kernel_rfl, fun w' hSw => by (try dsimp only at hSw); go_simp⟩) (by assumption) ?_
        try simp only [Act.put, List.setIfInBounds_toArray, List.set_cons_zero, List.set_cons_succ]
        refine wpAnyH_take (i := 16) (oi := { dst := some 84, op := Op.move (Operand.tmp 83), type := 4, pos := "outright.go:74", after := #[{ on := 15, ground := Ground.data }, { on := 9, ground := Ground.chain }], guard := none }) (v := .bool true) rfl (by kernel_rfl) (by kernel_rfl) (by kernel_rfl) (fun _ _ _ h => h) (Or.inl ⟨by kernel_rfl, fun w' hSw => by (try dsimp only at hSw); go_simp⟩) (by assumption) ?_
        try simp only [Act.put, List.setIfInBounds_toArray, List.set_cons_zero, List.set_cons_succ]
        refine wpAnyH_take (i := 17) (oi := { dst := some 85, op := Op.move (Operand.tmp 15), type := 4, pos := "outright.go:74", after := #[{ on := 16, ground := Ground.guard }], guard := some (16, true) }) (v := .bool false) rfl (by kernel_rfl) (by kernel_rfl) (by kernel_rfl) (fun _ _ _ h => h) (Or.inl ⟨by kernel_rfl, fun w' hSw => by (try dsimp only at hSw); go_simp⟩) (by assumption) ?_
        try simp only [Act.put, List.setIfInBounds_toArray, List.set_cons_zero, List.set_cons_succ]
        refine wpAnyH_take (i := 18) (oi := { dst := some 86, op := Op.unOp UnOp.not 4 (Operand.tmp 85), type := 4, pos := "outright.go:74", after := #[{ on := 17, ground := Ground.data }, { on := 16, ground := Ground.guard }], guard := some (16, true) }) (v := .bool true) rfl (by kernel_rfl) (by kernel_rfl) (by kernel_rfl) (fun _ _ _ h => h) (Or.inl ⟨by kernel_rfl, fun w' hSw => by (try dsimp only at hSw); go_simp⟩) (by assumption) ?_
        try simp only [Act.put, List.setIfInBounds_toArray, List.set_cons_zero, List.set_cons_succ]
        refine wpAnyH_take (i := 19) (oi := { dst := some 87, op := Op.move (Operand.tmp 86), type := 4, pos := "outright.go:74", after := #[{ on := 18, ground := Ground.data }, { on := 16, ground := Ground.chain }, { on := 16, ground := Ground.guard }], guard := some (16, true) }) (v := .bool true) rfl (by kernel_rfl) (by kernel_rfl) (by kernel_rfl) (fun _ _ _ h => h) (Or.inl ⟨by kernel_rfl, fun w' hSw => by (try dsimp only at hSw); go_simp⟩) (by assumption) ?_
        try simp only [Act.put, List.setIfInBounds_toArray, List.set_cons_zero, List.set_cons_succ]
        refine wpAnyH_take (i := 20) (oi := { dst := some 88, op := Op.move (Operand.tmp 0), type := 45, pos := "outright.go:74", after := #[{ on := 19, ground := Ground.guard }], guard := some (19, false) }) (v := undef) rfl (by kernel_rfl) (by kernel_rfl) (by kernel_rfl) (fun _ _ _ h => h) (Or.inr ⟨by kernel_rfl, rfl⟩) (by assumption) ?_
        try simp only [Act.put, List.setIfInBounds_toArray, List.set_cons_zero, List.set_cons_succ]
        refine wpAnyH_take (i := 21) (oi := { dst := some 89, op := Op.move (Operand.tmp 14), type := 3, pos := "outright.go:74", after := #[{ on := 19, ground := Ground.guard }], guard := some (19, false) }) (v := undef) rfl (by kernel_rfl) (by kernel_rfl) (by kernel_rfl) (fun _ _ _ h => h) (Or.inr ⟨by kernel_rfl, rfl⟩) (by assumption) ?_
        try simp only [Act.put, List.setIfInBounds_toArray, List.set_cons_zero, List.set_cons_succ]
        refine wpAnyH_take (i := 22) (oi := { dst := some 90, op := Op.indexAddr 45 (Operand.tmp 88) (Operand.tmp 89), type := 0, pos := "outright.go:74", after := #[{ on := 20, ground := Ground.data }, { on := 21, ground := Ground.data }, { on := 19, ground := Ground.guard }], guard := some (19, false) }) (v := undef) rfl (by kernel_rfl) (by kernel_rfl) (by kernel_rfl) (fun _ _ _ h => h) (Or.inr ⟨by kernel_rfl, rfl⟩) (by assumption) ?_
        try simp only [Act.put, List.setIfInBounds_toArray, List.set_cons_zero, List.set_cons_succ]
        refine wpAnyH_take (i := 23) (oi := { dst := some 91, op := Op.load 9 (Operand.tmp 90), type := 9, pos := "outright.go:74", after := #[{ on := 22, ground := Ground.data }, { on := 19, ground := Ground.guard }], guard := some (19, false) }) (v := undef) rfl (by kernel_rfl) (by kernel_rfl) (by kernel_rfl) (fun _ _ _ h => h) (Or.inr ⟨by kernel_rfl, rfl⟩) (by assumption) ?_
        try simp only [Act.put, List.setIfInBounds_toArray, List.set_cons_zero, List.set_cons_succ]
        refine wpAnyH_take (i := 24) (oi := { dst := some 92, op := Op.move (Operand.tmp 6), type := 45, pos := "outright.go:74", after := #[{ on := 19, ground := Ground.guard }], guard := some (19, false) }) (v := undef) rfl (by kernel_rfl) (by kernel_rfl) (by kernel_rfl) (fun _ _ _ h => h) (Or.inr ⟨by kernel_rfl, rfl⟩) (by assumption) ?_
        try simp only [Act.put, List.setIfInBounds_toArray, List.set_cons_zero, List.set_cons_succ]
        refine wpAnyH_take (i := 25) (oi := { dst := some 93, op := Op.indexAddr 45 (Operand.tmp 92) (Operand.const (Value.int IntKind.i64 0)), type := 0, pos := "outright.go:74", after := #[{ on := 24, ground := Ground.data }, { on := 19, ground := Ground.guard }], guard := some (19, false) }) (v := undef) rfl (by kernel_rfl) (by kernel_rfl) (by kernel_rfl) (fun _ _ _ h => h) (Or.inr ⟨by kernel_rfl, rfl⟩) (by assumption) ?_
        try simp only [Act.put, List.setIfInBounds_toArray, List.set_cons_zero, List.set_cons_succ]
        refine wpAnyH_take (i := 26) (oi := { dst := some 94, op := Op.load 9 (Operand.tmp 93), type := 9, pos := "outright.go:74", after := #[{ on := 25, ground := Ground.data }, { on := 19, ground := Ground.guard }], guard := some (19, false) }) (v := undef) rfl (by kernel_rfl) (by kernel_rfl) (by kernel_rfl) (fun _ _ _ h => h) (Or.inr ⟨by kernel_rfl, rfl⟩) (by assumption) ?_
        try simp only [Act.put, List.setIfInBounds_toArray, List.set_cons_zero, List.set_cons_succ]
        refine wpAnyH_take (i := 27) (oi := { dst := some 95, op := Op.binOp BinOp.eql 9 (Operand.tmp 91) (Operand.tmp 94) 9, type := 4, pos := "outright.go:74", after := #[{ on := 23, ground := Ground.data }, { on := 26, ground := Ground.data }, { on := 19, ground := Ground.guard }], guard := some (19, false) }) (v := undef) rfl (by kernel_rfl) (by kernel_rfl) (by kernel_rfl) (fun _ _ _ h => h) (Or.inr ⟨by kernel_rfl, rfl⟩) (by assumption) ?_
        try simp only [Act.put, List.setIfInBounds_toArray, List.set_cons_zero, List.set_cons_succ]
        refine wpAnyH_take (i := 28) (oi := { dst := some 96, op := Op.pick (Operand.tmp 87) (Operand.const (Value.bool true)) (Operand.tmp 95), type := 4, pos := "outright.go:74", after := #[{ on := 19, ground := Ground.data }, { on := 27, ground := Ground.data }, { on := 16, ground := Ground.guard }], guard := some (16, true) }) (v := .bool true) rfl (by kernel_rfl) (by kernel_rfl) (by kernel_rfl) (fun _ _ _ h => h) (Or.inl ⟨by kernel_rfl, fun w' hSw => by (try dsimp only at hSw); go_simp⟩) (by assumption) ?_
        try simp only [Act.put, List.setIfInBounds_toArray, List.set_cons_zero, List.set_cons_succ]
        refine wpAnyH_take (i := 29) (oi := { dst := some 97, op := Op.pick (Operand.tmp 84) (Operand.tmp 96) (Operand.const (Value.bool false)), type := 4, pos := "outright.go:74", after := #[{ on := 16, ground := Ground.data }, { on := 28, ground := Ground.data }], guard := none }) (v := .bool true) rfl (by kernel_rfl) (by kernel_rfl) (by kernel_rfl) (fun _ _ _ h => h) (Or.inl ⟨by kernel_rfl, fun w' hSw => by (try dsimp only at hSw); go_simp⟩) (by assumption) ?_
        try simp only [Act.put, List.setIfInBounds_toArray, List.set_cons_zero, List.set_cons_succ]
        refine wpAnyH_take (i := 30) (oi := { dst := some 4, op := Op.assign (Operand.tmp 97), type := 4, pos := "outright.go:74", after := #[{ on := 29, ground := Ground.data }, { on := 19, ground := Ground.chain }, { on := 0, ground := Ground.phase }, { on := 1, ground := Ground.phase }, { on := 2, ground := Ground.phase }, { on := 3, ground := Ground.phase }, { on := 4, ground := Ground.phase }, { on := 5, ground := Ground.phase }, { on := 6, ground := Ground.phase }, { on := 7, ground := Ground.phase }, { on := 8, ground := Ground.phase }, { on := 9, ground := Ground.phase }, { on := 10, ground := Ground.phase }, { on := 11, ground := Ground.phase }, { on := 12, ground := Ground.phase }, { on := 13, ground := Ground.phase }, { on := 14, ground := Ground.phase }, { on := 15, ground := Ground.phase }, { on := 16, ground := Ground.phase }, { on := 17, ground := Ground.phase }, { on := 18, ground := Ground.phase }, { on := 19, ground := Ground.phase }, { on := 20, ground := Ground.phase }, { on := 21, ground := Ground.phase }, { on := 22, ground := Ground.phase }, { on := 23, ground := Ground.phase }, { on := 24, ground := Ground.phase }, { on := 25, ground := Ground.phase }, { on := 26, ground := Ground.phase }, { on := 27, ground := Ground.phase }, { on := 28, ground := Ground.phase }, { on := 29, ground := Ground.phase }], guard := none }) (v := .bool true) rfl (by kernel_rfl) (by kernel_rfl) (by kernel_rfl) (fun _ _ _ h => h) (Or.inl ⟨by kernel_rfl, fun w' hSw => by (try dsimp only at hSw); go_simp⟩) (by assumption) ?_
        try simp only [Act.put, List.setIfInBounds_toArray, List.set_cons_zero, List.set_cons_succ]
        refine wpAnyH_done (by kernel_rfl) ?_ _
        refine NoPanic.normal ?_
        go_wp2_with fail
        go_ret
        exact ⟨by simp, HB21.out⟩
      · obtain ⟨y, hy1, hy2, hll⟩ := HLF.out hm0
        obtain ⟨bl, ol, rfl, hbl, ly⟩ := pr_at L7d.out hy1
        obtain ⟨bq, oq, rfl, hbq, qy⟩ := pr_at Q7d.out hy2
        rw [Nat.add_zero] at qy
        have hu1 : 0 < u := by have := (List.getElem?_eq_some_iff.1 hy2).1; rw [HU.out] at this; exact this
        have hu0 : (0 : Int) < (u : Int) := by have := (List.getElem?_eq_some_iff.1 hy2).1; rw [HU.out] at this; omega
        generalize lstK ltS L m = l at *
        have hj0 : (0 : Int) ≤ (l : Int) := by omega
        have hj1 : (l : Int) < (m : Int) := by omega
        have hm1 : (0 : Int) < (m : Int) := by omega
        have tok1 : True := trivial
        clear hy1 hy2 hll HLF
        go_wp2_with fail
        go_region_held3 (fun w' => w'.cell? ⟨w.heap.size, 0, none⟩ = some (.string s) ∧ w'.cell? ⟨bl, ol + l, none⟩ = some (.string y) ∧ w'.cell? ⟨bq, oq, none⟩ = some (.string y)) (first | exact ⟨y0, ly, qy⟩ | exact ⟨q0, q1, q2⟩ | exact ⟨r0, r1, r2⟩ | fail) (first
          | (have _t := tok1; go_at_call 32; refine (HC.out w7.drew L7d.out).mono ?_; rintro e w20 ⟨rfl, b20⟩; clear tok1; have HB20 : Hid (Below w.heap.size w w20) := b7d.out.trans (b20.mono b7d.out.size); have Q20 : Hid (Reads w20 w20.heap.size 1 (some ⟨bq, oq, none⟩) u (strs Q)) := (Q7d.out.below b20).more b20.size; have q0 : w20.cell? ⟨w.heap.size, 0, none⟩ = some (.string s) := (b20.cell (p := ⟨w.heap.size, 0, none⟩) bW).trans y0; have q1 : w20.cell? ⟨bl, ol + l, none⟩ = some (.string y) := (b20.cell (p := ⟨bl, ol + l, none⟩) hbl).trans ly; have q2 : w20.cell? ⟨bq, oq, none⟩ = some (.string y) := (b20.cell (p := ⟨bq, oq, none⟩) hbq).trans qy; have l20 : w.heap.size < w20.heap.size := Nat.lt_of_lt_of_le bW b20.size; have l21 : bl < w20.heap.size := Nat.lt_of_lt_of_le hbl b20.size; have l22 : bq < w20.heap.size := Nat.lt_of_lt_of_le hbq b20.size; clear b20)
          | (have _t := q0; go_at_call 33; refine (sorted_str (some ⟨bq, oq, none⟩) u c5 Q (by omega) HSO.out w20 Q20.out).mono ?_; rintro e w21 ⟨rfl, b21⟩; have HB21 : Hid (Below w.heap.size w w21) := HB20.out.trans (b21.mono HB20.out.size); have r0 : w21.cell? ⟨w.heap.size, 0, none⟩ = some (.string s) := (b21.cell (p := ⟨w.heap.size, 0, none⟩) l20).trans q0; have r1 : w21.cell? ⟨bl, ol + l, none⟩ = some (.string y) := (b21.cell (p := ⟨bl, ol + l, none⟩) l21).trans q1; have r2 : w21.cell? ⟨bq, oq, none⟩ = some (.string y) := (b21.cell (p := ⟨bq, oq, none⟩) l22).trans q2; clear b21)
          | fail)
        go_wp2_with fail
        go_ret
        exact ⟨by simp, HB21.out⟩
    | succ g2 =>
      have hlt : (i : Int) < (u : Int) := by omega
      have hi0 : (0 : Int) ≤ (i : Int) := by omega
      obtain ⟨p, hp⟩ : ∃ p, Q[i]? = some p := ⟨Q[i]'(by rw [HU.out]; omega), List.getElem?_eq_getElem _⟩
      obtain ⟨b, o, rfl, hb, g0⟩ := pr_at QR.out hp
      have HIG := Lib.hid hig
      have HP := Lib.hid hp
      clear hig hp
      go_upto_region 10 with fail
      have hnew := strict_new HQ1.out HP.out
      have hpm : p ∈ Q := List.mem_of_getElem? HP.out
      have hsz : p.size ≤ maxLen := HLX.out p ((HQ2.out p).1 hpm)
      have hkey : keyOf Try.prog 9 (.string p) = some (.string p.data.toList) := WideMaps.keyOf_string_mk Try.underlying9 hsz
      have HX := Lib.hid (Blk.new wr 9 #[.string p])
      have HM1 := Lib.hid (HM.out.alloc (.cells #[.string p] 9))
      have HG1 := Lib.hid (alloc_only HG.out (.cells #[.string p] 9))
      have hBX : B < wr.heap.size := Nat.lt_of_lt_of_le hBm HG.out.size
      generalize wr.heap.size = X at HX hBX ⊢
      clear g0 QR HM HG hBr
      generalize wr.alloc (.cells #[.string p] 9) = wx at *
      have y0 : wx.cell? ⟨X, 0, none⟩ = some (.string p) := HX.out.cell 0
      have hl := look_not HM1.out (string_keyed Try.underlying9) Try.underlying49 Try.underlying4 (zeroBool _) hkey (HN.out p hnew)
      obtain ⟨j, hj⟩ := sought Q p (strict_order HQ1.out)
      have hyes := hj.yes true (by simp [hpm])
      have hjp := hj.at_ hpm
      have HJ := Lib.hid hj
      have HYES := Lib.hid hyes
      have HJP := Lib.hid hjp
      have HPM := Lib.hid hpm
      have hju : j < u := by have := (List.getElem?_eq_some_iff.1 hjp).1; rw [HU.out] at this; exact this
      clear hyes hjp hpm hj hnew hsz
      go_wp2_with (at_mapUpdate; refine wpList_mapUpdate_own _ rfl _ _ _ 49 rfl 9 4 (string_keyed Try.underlying9) Try.underlying49 _ B i D rfl HM1.out (by unfold maxLen; omega) _ _ (.string p.data.toList) rfl rfl hkey (.lit (.bool true)) [] (plainElem_bool Try.underlying4 true) ?_; intro w5 hown5 hgrow5)
      have HM5 := Lib.hid hown5
      have HG5 : Hid (wm.grownBy w5 (some B)) := HG1.out.trans hgrow5
      have HX5 : Hid (Blk w5 X 9 #[.string p]) := HX.out.grown hgrow5 (fun e => by injection e with e; omega)
      have hsz5 := HG5.out.size
      have Q5 : Hid (Reads w5 w5.heap.size 1 (some ⟨b, o, none⟩) u (strs Q)) := (RQ.out.grown HG5.out (by omega) (fun g hg => by injection hg with hg; omega)).more (by omega)
      have HF := Lib.hid (find_one (.pointer (some ⟨X, 0, none⟩)) (some ⟨b, o, none⟩) u c5 j Q (fun y => cmpS y p) true (by omega) w5 Q5.out (by omega) HJ.out.lo HJ.out.hi
        (fun h => HYES.out.1 (by rw [HU.out]; exact h)) (fun h => HYES.out.2 (by rw [HU.out]; exact h)) (fun y _ W b => ask_one y X p W ((b.cell (p := ⟨X, 0, none⟩) HX5.out.lt).trans (HX5.out.cell 0))))
      clear hown5 hgrow5 hl HX HM1 HG1 y0 HJ HYES
      refine HF.out.mono ?_
      rintro e w6 ⟨rfl, b6⟩
      have HM6 := Lib.hid (HM5.out.kept (below_only b6 none) (by simp))
      have HG6 : Hid (wm.grownBy w6 (some B)) := HG5.out.trans (below_only b6 _)
      obtain ⟨b', o', hA', hb', z0⟩ := pr_at ((Q5.out.below b6).more b6.size) HJP.out
      injection hA' with hA'
      injection hA' with e1 e2 _
      subst e1; subst e2
      have x0 : w6.cell? ⟨X, 0, none⟩ = some (.string p) := (b6.cell (p := ⟨X, 0, none⟩) HX5.out.lt).trans (HX5.out.cell 0)
      have HN6 : Hid (SeenIs (D.put (.string p.data.toList) (.lit (.bool true))) (Q.take (i + 1))) := by
        have htk : Q.take (i + 1) = Q.take i ++ [p] := by
          obtain ⟨hl, rfl⟩ := List.getElem?_eq_some_iff.1 HP.out
          exact List.take_succ_eq_append_getElem hl
        rw [htk]
        exact seen_put HN.out
      have hj0 : (0 : Int) ≤ (j : Int) := by omega
      have hj1 : (j : Int) < (u : Int) := by omega
      clear b6 HF Q5 HX5 HG5 HM5 HN hkey
      go_wp2_with fail
      go_quiet (fail)
      go_wp2_with fail
      go_roundg g2
      case measure => omega
      case rel => exact ⟨i + 1, _, by have := HIG.out; omega, by go_num, HM6.out, HN6, drewN_only HG6.out _⟩
end Go.Proofs.Ytldjffeecbegjaa.Str
