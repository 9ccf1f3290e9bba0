/- The document's answers of layer names: Put: contract. -/
import Derived.Test.YthamkpmbfefpfaaNi
import Derived.Test.YthamkpmbfefpfaaNk
import Derived.Deep.RegionHeld3
namespace Go.Proofs.Ythamkpmbfefpfaa
open Go.RowKit Go.Shelf

theorem own_empty (w : World) (B : Nat) (t : TypeId) (hB : B ≤ w.heap.size) : (w.alloc (.cells #[] t)).ownsRow B t 1 (.slice (some ⟨w.heap.size, 0, none⟩) 0 0) 0 [] :=
  ⟨rfl, .inr ⟨w.heap.size, 0, #[], rfl, hB, Blk.new w t #[], Nat.le_refl _, by decide, rfl, rfl⟩⟩
/-- A row that lies in a block which nothing has turned. -/
theorem slit_grown {w w' : World} {XS : Nat} {s : ByteArray} {row : Option Nat} {B : Nat} (h : Reads w B 1 (some ⟨XS, 0, none⟩) 1 (strs [s])) (hg : w.grownBy w' row) (hne : row ≠ some XS) : Reads w' B 1 (some ⟨XS, 0, none⟩) 1 (strs [s]) := by
  refine ⟨h.1, fun hn => ?_⟩
  obtain ⟨ad, e, hb, hc⟩ := h.2 hn
  refine ⟨ad, e, hb, fun j u hu => ?_⟩
  injection e with e
  subst e
  have h1 := hc j u hu
  rw [← h1]
  rw [Go.WideShapes.add_plain] at h1 ⊢
  have hlt : XS < w.heap.size := World.block_lt_of_cell? w _ h1
  exact World.cell?_of_block (hg.block XS hlt fun e => hne e.symm)

theorem slit_apart {w : World} {XS : Nat} {s : ByteArray} (h : Reads w w.heap.size 1 (some ⟨XS, 0, none⟩) 1 (strs [s])) : (Value.slice (some ⟨w.heap.size, 0, none⟩) 0 0).ownBlock ≠ some XS := fun e => by
  obtain ⟨ad, e2, hb, _⟩ := h.2 (by omega)
  injection e2 with e2
  subst e2
  have e : some w.heap.size = some XS := e
  injection e with e
  have hb : XS < w.heap.size := hb
  omega
theorem own_apart {w : World} {base size n : Nat} {e : TypeId} {v : Value} {xs : List Value} (h : w.ownsRow base e size v n xs) : v.ownBlock ≠ some w.heap.size := fun e => by
  have := (own_in h e).2.1
  omega

/-- What the document's Put gives, for a table that may be. -/
def RPutIs (N : Nat) (ns : List ByteArray) (s : ByteArray) (w : World) (e : Ending) (w' : World) : Prop :=
  ∃ (A : Option Addr) (n c : Nat) (ns' : List ByteArray), e = .returned (.tuple #[.agg #[.slice A n c], .int .i64 (if putE nameB ns s = 0 then (idxN ns s : Int) else 0), .int .i64 (putE nameB ns s)]) ∧ w'.ownsRow N 9 1 (.slice A n c) n (strs ns') ∧
    (putE nameB ns s = 0 → ns' = addN ns s) ∧ (putE nameB ns s ≠ 0 → ns' = []) ∧ Below w.heap.size w w'
theorem RPutIs.err {N : Nat} {ns : List ByteArray} {s : ByteArray} {w w' : World} {k : Int} (h : putE nameB ns s = k) (hk : k ≠ 0) (hb : Below w.heap.size w w') : RPutIs N ns s w (.returned (.tuple #[.agg #[.slice none 0 0], .int .i64 0, .int .i64 k])) w' :=
  ⟨none, 0, 0, [], by rw [h, if_neg hk], World.ownsRow_nil _ _ _ _, fun e => absurd (h.symm.trans e) hk, fun _ => rfl, hb⟩

set_option maxRecDepth 100000 in
set_option maxHeartbeats 16000000 in
theorem rput_any (N : Nat) (A : Option Addr) (n c : Nat) (ns : List ByteArray) (s : ByteArray) (hn : n ≤ 1000) (w : World) (hN : N ≤ w.heap.size) (hO : w.ownsRow N 9 1 (.slice A n c) n (strs ns)) :
    Calls Try.prog 19 #[.agg #[.slice A n c], .string s] w (RPutIs N ns s w) := by
  obtain ⟨i0, hi, hz0, hz1, hz2⟩ := info_parts str_info
  obtain ⟨ka, kr, b0, -⟩ := ntwo w #[.slice A n c] #[.slice none 0 0] 24 24
  have hR := Reads.of_own hO
  have HL := Lib.hid (strs_len hR)
  have HF := Lib.hid (rfind_any A n c ns s (by omega) _ (hR.on_ b0))
  unfold RFind at HF
  have HO := Lib.hid (own_on hO b0)
  have HN := Lib.hid hN
  have KA := Lib.hid ka
  have KR := Lib.hid kr
  have B0 := Lib.hid b0
  have z0 := ka.cell 0
  clear hR hO ka kr b0 hN
  go_enter Try.func19, Try.ntmps19
  go_upto_region 1 with fail
  generalize (w.alloc (.cells #[.slice A n c] 24)).alloc (.cells #[.slice none 0 0] 24) = W0 at *
  go_wp2_with fail
  refine HF.out.mono ?_
  rintro e w1 ⟨rfl, rfl⟩
  have HW := Lib.hid (rword_any s W0)
  have HNB : Hid (nameB s = wordB s.data.toList) := rfl
  clear HF
  generalize wordB s.data.toList = t at *
  cases t
  · have HE := Lib.hid (putE_name (ns := ns) HNB.out)
    go_wp2_with fail
    refine HW.out.mono ?_
    rintro e w2 ⟨rfl, b2⟩
    have KR1 := Lib.hid (KR.out.below b2 KR.out.lt)
    have HBW := Lib.hid (B0.out.trans (b2.mono B0.out.size))
    have y0 := KR1.out.cell 0
    have f0 := KR1.out.frozen 0
    clear b2 z0 HW
    go_wp2_with fail
    have kf : Blk (w2.setCell ⟨w.heap.size + 1, 0, none⟩ (.slice none 0 0)) (w.heap.size + 1) 24 #[.slice none 0 0] := by
      have := KR1.out.set_ 0 (.slice none 0 0)
      simpa using this
    have r1 := kf.cell 0
    refine bodyPost_ret (v := .tuple #[.agg #[.slice none 0 0], .int .i64 0, .int .i64 200]) (by simp [results, Try.results19, go_sem, r1]) rfl ?_
    exact RPutIs.err HE.out (by decide) (HBW.out.setCell (p := ⟨w.heap.size + 1, 0, none⟩) (Nat.le_succ _) _)
  · by_cases hm : s ∈ ns
    · have HE := Lib.hid (putE_in HNB.out hm)
      have HA := Lib.hid (add_in hm)
      have HRF : Hid (rfN ns s = (idxN ns s : Int)) := by show _ = _; unfold rfN; rw [if_pos hm]
      rw [decide_eq_true hm, HRF.out]
      clear hm
      go_wp2_with fail
      refine HW.out.mono ?_
      rintro e w2 ⟨rfl, b2⟩
      have KR1 := Lib.hid (KR.out.below b2 KR.out.lt)
      have HBW := Lib.hid (B0.out.trans (b2.mono B0.out.size))
      have HO2 := Lib.hid (own_on HO.out b2)
      have z1 := (KA.out.below b2 KA.out.lt).cell 0
      have y0 := KR1.out.cell 0
      have f0 := KR1.out.frozen 0
      clear b2 z0 HW
      go_wp2_with fail
      have kf : Blk (w2.setCell ⟨w.heap.size + 1, 0, none⟩ (.slice A n c)) (w.heap.size + 1) 24 #[.slice A n c] := by
        have := KR1.out.set_ 0 (.slice A n c)
        simpa using this
      have r1 := kf.cell 0
      refine bodyPost_ret (v := .tuple #[.agg #[.slice A n c], .int .i64 (idxN ns s : Int), .int .i64 0]) (by simp [results, Try.results19, go_sem, r1]) rfl ?_
      exact ⟨A, n, c, ns, by rw [HE.out, if_pos rfl], own_put HO2.out KR1.out (by decide) _, fun _ => HA.out.symm, fun h => absurd HE.out h, HBW.out.setCell (p := ⟨w.heap.size + 1, 0, none⟩) (Nat.le_succ _) _⟩
    · have HRF : Hid (rfN ns s = 0) := by show _ = _; unfold rfN; rw [if_neg hm]
      rw [decide_eq_false hm, HRF.out]
      by_cases h3 : n = 300
      · have hb : ((n : Int) == 300) = true := by simp; omega
        have HE := Lib.hid (putE_full HNB.out hm (by rw [HL.out, h3]))
        clear hm h3
        go_wp2_with fail
        refine HW.out.mono ?_
        rintro e w2 ⟨rfl, b2⟩
        have KR1 := Lib.hid (KR.out.below b2 KR.out.lt)
        have HBW := Lib.hid (B0.out.trans (b2.mono B0.out.size))
        have z1 := (KA.out.below b2 KA.out.lt).cell 0
        have y0 := KR1.out.cell 0
        have f0 := KR1.out.frozen 0
        clear b2 z0 HW
        go_wp2_with fail
        have kf : Blk (w2.setCell ⟨w.heap.size + 1, 0, none⟩ (.slice none 0 0)) (w.heap.size + 1) 24 #[.slice none 0 0] := by
          have := KR1.out.set_ 0 (.slice none 0 0)
          simpa using this
        have r1 := kf.cell 0
        refine bodyPost_ret (v := .tuple #[.agg #[.slice none 0 0], .int .i64 0, .int .i64 6]) (by simp [results, Try.results19, go_sem, r1]) rfl ?_
        exact RPutIs.err HE.out (by decide) (HBW.out.setCell (p := ⟨w.heap.size + 1, 0, none⟩) (Nat.le_succ _) _)
      · have hb : ((n : Int) == 300) = false := by simp; omega
        have HE := Lib.hid (putE_new HNB.out hm (by rw [HL.out]; exact h3))
        have HIX : Hid (idxN ns s = n) := by show _ = _; rw [idx_out hm, HL.out]
        have HA := Lib.hid (add_out hm)
        clear hm h3
        go_wp2_with fail
        refine HW.out.mono ?_
        rintro e w2 ⟨rfl, b2⟩
        have KR1 := Lib.hid (KR.out.below b2 KR.out.lt)
        have KA1 := Lib.hid (KA.out.below b2 KA.out.lt)
        have HBW := Lib.hid (B0.out.trans (b2.mono B0.out.size))
        have HRD0 := Lib.hid (Reads.of_own (own_on HO.out b2))
        have z1 := KA1.out.cell 0
        clear b2 z0 HW KA KR B0 HO
        go_upto_region 8 with fail
        clear z1
        refine wp_region_noPanic ?_
        refine wp_region_held_drew (S := fun W => W.cell? ⟨w.heap.size, 0, none⟩ = some (.slice A n c)) (by kernel_rfl) (KA1.out.drew.cell 0) (fun hHeld => ?_)
        have BD0 : Hid (Below w2.drew.heap.size w2.drew w2.drew) := Below.refl _ _
        have KA1 := Lib.hid KA1.out.drew
        have KR1 := Lib.hid KR1.out.drew
        have HBW := Lib.hid HBW.out.drew
        have HRD : Hid (Reads w2.drew w2.drew.heap.size 1 A n (strs ns)) := HRD0.out
        have HNW : Hid (N ≤ w.heap.size) := HN.out
        have HQ0 : Hid (w2.drew.heap.size ≤ w2.drew.heap.size ∧ w.heap.size < w2.drew.heap.size ∧ w.heap.size + 1 < w2.drew.heap.size ∧ w.heap.size ≤ w2.drew.heap.size) := ⟨Nat.le_refl _, KA1.out.lt, KR1.out.lt, HBW.out.size⟩
        clear HRD0
        generalize w2.drew = wd at *
        obtain ⟨Q, hQ⟩ : ∃ Q, Q = wd.heap.size := ⟨_, rfl⟩
        have HQ : Hid ((∀ X, Below Q wd X → Q ≤ X.heap.size) ∧ w.heap.size < Q ∧ w.heap.size + 1 < Q ∧ w.heap.size ≤ Q) := ⟨fun X h => by rw [hQ]; exact h.size, by rw [hQ]; exact HQ0.out.2⟩
        rw [← hQ] at BD0 HRD
        clear hQ HQ0
        refine wpAnyH_take (i := 1) (oi := { dst := some 32, op := Op.fieldAddr 24 (Operand.tmp 2) 0, type := 0, pos := "ref.go:54", after := #[], guard := none }) (v := .pointer (some ⟨w.heap.size, 0, none⟩)) rfl (by kernel_rfl) (by kernel_rfl) (by kernel_rfl) (fun _ _ _ h => h) (Or.inl ⟨by kernel_rfl, fun w' hSw => by (try dsimp only at hSw); go_simp⟩) (by assumption) ?_
        try simp only [Act.put, List.setIfInBounds_toArray, List.set_cons_zero, List.set_cons_succ]
        refine wpAnyH_take (i := 2) (oi := { dst := some 33, op := Op.load 22 (Operand.tmp 32), type := 22, pos := "ref.go:54", after := #[{ on := 1, ground := Ground.data }], guard := none }) (v := .slice A n c) rfl (by kernel_rfl) (by kernel_rfl) (by kernel_rfl) (fun _ _ _ h => h) (Or.inl ⟨by kernel_rfl, fun w' hSw => by (try dsimp only at hSw); go_simp⟩) (by assumption) ?_
        try simp only [Act.put, List.setIfInBounds_toArray, List.set_cons_zero, List.set_cons_succ]
        refine wpAnyH_take (i := 4) (oi := { dst := some 35, op := Op.move (Operand.tmp 1), type := 9, pos := "ref.go:54", after := #[], guard := none }) (v := .string s) rfl (by kernel_rfl) (by kernel_rfl) (by kernel_rfl) (fun _ _ _ h => h) (Or.inl ⟨by kernel_rfl, fun w' hSw => by (try dsimp only at hSw); go_simp⟩) (by assumption) ?_
        try simp only [Act.put, List.setIfInBounds_toArray, List.set_cons_zero, List.set_cons_succ]
        refine wpAnyH_take (i := 8) (oi := { dst := some 39, op := Op.fieldAddr 24 (Operand.tmp 2) 0, type := 0, pos := "ref.go:54", after := #[], guard := none }) (v := .pointer (some ⟨w.heap.size, 0, none⟩)) rfl (by kernel_rfl) (by kernel_rfl) (by kernel_rfl) (fun _ _ _ h => h) (Or.inl ⟨by kernel_rfl, fun w' hSw => by (try dsimp only at hSw); go_simp⟩) (by assumption) ?_
        try simp only [Act.put, List.setIfInBounds_toArray, List.set_cons_zero, List.set_cons_succ]
        refine wpAnyH_take (i := 9) (oi := { dst := some 40, op := Op.load 22 (Operand.tmp 39), type := 22, pos := "ref.go:54", after := #[{ on := 8, ground := Ground.data }], guard := none }) (v := .slice A n c) rfl (by kernel_rfl) (by kernel_rfl) (by kernel_rfl) (fun _ _ _ h => h) (Or.inl ⟨by kernel_rfl, fun w' hSw => by (try dsimp only at hSw); go_simp⟩) (by assumption) ?_
        try simp only [Act.put, List.setIfInBounds_toArray, List.set_cons_zero, List.set_cons_succ]
        refine wpAnyH_take (i := 10) (oi := { dst := some 41, op := Op.call { callee := Callee.builtin Builtin.len, args := #[Operand.tmp 40], argTypes := #[22] }, type := 3, pos := "ref.go:54", after := #[{ on := 9, ground := Ground.data }], guard := none }) (v := .int .i64 (n : Int)) rfl (by kernel_rfl) (by kernel_rfl) (by kernel_rfl) (fun _ _ _ h => h) (Or.inl ⟨by kernel_rfl, fun w' hSw => by (try dsimp only at hSw); go_simp⟩) (by assumption) ?_
        try simp only [Act.put, List.setIfInBounds_toArray, List.set_cons_zero, List.set_cons_succ]
        refine wpAnyH_ready (rs := [0, 5]) (by kernel_rfl) (by simp) ?_
        refine AllReadyH.cons (o := { dst := some 31, op := Op.buildSlice 22 0 #[], type := 22, pos := "ref.go:54", after := #[], guard := none }) rfl (fun K hK => ?_) ?_
        · skip
          go_simp
          have BD1 := Lib.hid (BD0.out.alloc (HQ.out.1 _ BD0.out) (.cells #[] 9))
          have O1 := Lib.hid (own_empty wd Q 9 (HQ.out.1 _ BD0.out))
          clear hHeld BD0
          refine hK.out _ _ ((KA1.out.below BD1.out HQ.out.2.1).cell 0) (fun hHeld => ?_)
          clear hK K
          try simp only [Act.put, List.setIfInBounds_toArray, List.set_cons_zero, List.set_cons_succ]
          generalize wd.alloc (.cells #[] 9) = u1 at *
          generalize wd.heap.size = X0 at *
          refine wpAnyH_ready (rs := [3, 5]) (by kernel_rfl) (by simp) ?_
          refine AllReadyH.cons (o := { dst := some 34, op := Op.call { callee := Callee.builtin Builtin.append, args := #[Operand.tmp 31, Operand.tmp 33], argTypes := #[22, 22] }, type := 22, pos := "ref.go:54", after := #[{ on := 0, ground := Ground.data }, { on := 2, ground := Ground.data }], guard := none }) rfl (fun K hK => ?_) ?_
          · skip
            refine step_append_any _ rfl (.tmp 31) (.tmp 33) 22 rfl Q 9 i0 _ 1 16 Try.underlying22 hi hz0 hz1 hz2 rfl (by decide) (.slice (some ⟨X0, 0, none⟩) 0 0) 0 _ rfl O1.out Q A n _ (strs ns) rfl (HRD.out.below BD1.out) (strs_one _) (by unfold maxLen; omega) (by omega) (HQ.out.1 _ BD1.out) ?_
            intro v5 u2 hown5 hgrow5 _
            rw [Nat.zero_add] at hown5
            obtain ⟨A5, c5, rfl, -, -⟩ := own_form2 hown5
            rw [List.nil_append] at hown5
            have BD2 := Lib.hid (BD1.out.grown hgrow5 (HQ.out.1 _ BD1.out) (own_block9 O1.out))
            have O2 := Lib.hid hown5
            clear hown5 hgrow5 hHeld BD1 O1
            refine hK.out _ _ ((KA1.out.below BD2.out HQ.out.2.1).cell 0) (fun hHeld => ?_)
            clear hK K
            try simp only [Act.put, List.setIfInBounds_toArray, List.set_cons_zero, List.set_cons_succ]
            refine wpAnyH_ready (rs := [5]) (by kernel_rfl) (by simp) ?_
            refine AllReadyH.cons (o := { dst := some 36, op := Op.buildSlice 22 1 #[(0, Operand.tmp 35)], type := 22, pos := "ref.go:54", after := #[{ on := 4, ground := Ground.data }], guard := none }) rfl (fun K hK => ?_) ?_
            · skip
              go_simp
              have BD3 := Lib.hid (BD2.out.alloc (HQ.out.1 _ BD2.out) (.cells #[.string s] 9))
              have SL3 : Hid (Reads (u2.alloc (.cells #[.string s] 9)) (u2.alloc (.cells #[.string s] 9)).heap.size 1 (some ⟨u2.heap.size, 0, none⟩) 1 (strs [s])) := str_lit u2 [s] _ _ rfl
              have O3 := Lib.hid (own_on O2.out ((Below.refl _ _).alloc (Nat.le_refl _) (.cells #[.string s] 9)))
              clear hHeld BD2 O2
              refine hK.out _ _ ((KA1.out.below BD3.out HQ.out.2.1).cell 0) (fun hHeld => ?_)
              clear hK K
              try simp only [Act.put, List.setIfInBounds_toArray, List.set_cons_zero, List.set_cons_succ]
              generalize u2.alloc (.cells #[.string s] 9) = u3 at *
              generalize u2.heap.size = XS at *
              refine wpAnyH_ready (rs := [6]) (by kernel_rfl) (by simp) ?_
              refine AllReadyH.cons (o := { dst := some 37, op := Op.call { callee := Callee.builtin Builtin.append, args := #[Operand.tmp 34, Operand.tmp 36], argTypes := #[22, 22] }, type := 22, pos := "ref.go:54", after := #[{ on := 3, ground := Ground.data }, { on := 5, ground := Ground.data }, { on := 3, ground := Ground.chain }], guard := none }) rfl (fun K hK => ?_) ?_
              · skip
                refine step_append_any _ rfl (.tmp 34) (.tmp 36) 22 rfl Q 9 i0 _ 1 16 Try.underlying22 hi hz0 hz1 hz2 rfl (by decide) (.slice A5 n c5) n _ rfl O3.out _ (some ⟨XS, 0, none⟩) 1 _ (strs [s]) rfl SL3.out (strs_one _) (by unfold maxLen; omega) (by omega) (HQ.out.1 _ BD3.out) ?_
                intro v6 u4 hown6 hgrow6 _
                obtain ⟨A6, c6, rfl, -, -⟩ := own_form2 hown6
                rw [← strs_append] at hown6
                have BD4 := Lib.hid (BD3.out.grown hgrow6 (HQ.out.1 _ BD3.out) (own_block9 O3.out))
                have O4 := Lib.hid hown6
                clear hown6 hgrow6 hHeld BD3 O3 SL3
                refine hK.out _ _ ((KA1.out.below BD4.out HQ.out.2.1).cell 0) (fun hHeld => ?_)
                clear hK K
                try simp only [Act.put, List.setIfInBounds_toArray, List.set_cons_zero, List.set_cons_succ]
                refine wpAnyH_take (i := 7) (oi := { dst := some 38, op := Op.build 24 #[(0, Operand.tmp 37)], type := 24, pos := "ref.go:54", after := #[{ on := 6, ground := Ground.data }], guard := none }) (v := .agg #[.slice A6 (n + 1) c6]) rfl (by kernel_rfl) (by kernel_rfl) (by kernel_rfl) (fun _ _ _ h => h) (Or.inl ⟨by kernel_rfl, fun w' hSw => by (try dsimp only at hSw); go_simp⟩) (by assumption) ?_
                try simp only [Act.put, List.setIfInBounds_toArray, List.set_cons_zero, List.set_cons_succ]
                refine wpAnyH_ready (rs := [11]) (by kernel_rfl) (by simp) ?_
                refine AllReadyH.cons (o := { dst := none, op := Op.store 24 (Operand.tmp 4) (Operand.tmp 38), type := 0, pos := "ref.go:54", after := #[{ on := 7, ground := Ground.data }, { on := 6, ground := Ground.chain }, { on := 0, ground := Ground.phase }, { on := 1, ground := Ground.phase }, { on := 2, ground := Ground.phase }, { on := 3, ground := Ground.phase }, { on := 4, ground := Ground.phase }, { on := 5, ground := Ground.phase }, { on := 6, ground := Ground.phase }, { on := 7, ground := Ground.phase }, { on := 8, ground := Ground.textOnly Departure.lateStores }, { on := 9, ground := Ground.textOnly Departure.lateStores }, { on := 10, ground := Ground.textOnly Departure.lateStoresUnsure }], guard := none }) rfl (fun K hK => ?_) ?_
                · skip
                  have y0 := (KR1.out.below BD4.out HQ.out.2.2.1).cell 0
                  have f0 := (KR1.out.below BD4.out HQ.out.2.2.1).frozen 0
                  go_simp
                  clear hHeld y0 f0
                  refine hK.out _ _ ((World.cell?_setCell_far _ ⟨w.heap.size + 1, 0, none⟩ ⟨w.heap.size, 0, none⟩ _ (by show w.heap.size + 1 ≠ w.heap.size; omega)).trans ((KA1.out.below BD4.out HQ.out.2.1).cell 0)) (fun hHeld => ?_)
                  clear hK K
                  try simp only [Act.put, List.setIfInBounds_toArray, List.set_cons_zero, List.set_cons_succ]
                  refine wpAnyH_take (i := 12) (oi := { dst := some 5, op := Op.assign (Operand.tmp 41), type := 3, pos := "ref.go:54", after := #[{ on := 10, ground := Ground.data }, { on := 11, ground := Ground.chain }, { on := 0, ground := Ground.phase }, { on := 1, ground := Ground.phase }, { on := 2, ground := Ground.phase }, { on := 3, ground := Ground.phase }, { on := 4, ground := Ground.phase }, { on := 5, ground := Ground.phase }, { on := 6, ground := Ground.phase }, { on := 7, ground := Ground.phase }, { on := 8, ground := Ground.phase }, { on := 9, ground := Ground.phase }, { on := 10, ground := Ground.phase }, { on := 11, ground := Ground.phase }], guard := none }) (v := .int .i64 (n : Int)) rfl (by kernel_rfl) (by kernel_rfl) (by kernel_rfl) (fun _ _ _ h => h) (Or.inl ⟨by kernel_rfl, fun w' hSw => by (try dsimp only at hSw); go_simp⟩) (by assumption) ?_
                  try simp only [Act.put, List.setIfInBounds_toArray, List.set_cons_zero, List.set_cons_succ]
                  refine wpAnyH_take (i := 13) (oi := { dst := some 6, op := Op.assign (Operand.const (Value.int IntKind.i64 0)), type := 29, pos := "ref.go:54", after := #[{ on := 12, ground := Ground.chain }, { on := 0, ground := Ground.phase }, { on := 1, ground := Ground.phase }, { on := 2, ground := Ground.phase }, { on := 3, ground := Ground.phase }, { on := 4, ground := Ground.phase }, { on := 5, ground := Ground.phase }, { on := 6, ground := Ground.phase }, { on := 7, ground := Ground.phase }, { on := 8, ground := Ground.phase }, { on := 9, ground := Ground.phase }, { on := 10, ground := Ground.phase }, { on := 11, ground := Ground.phase }, { on := 12, ground := Ground.phase }], guard := none }) (v := .int .i64 0) rfl (by kernel_rfl) (by kernel_rfl) (by kernel_rfl) (fun _ _ _ h => h) (Or.inl ⟨by kernel_rfl, fun w' hSw => by (try dsimp only at hSw); go_simp⟩) (by assumption) ?_
                  try simp only [Act.put, List.setIfInBounds_toArray, List.set_cons_zero, List.set_cons_succ]
                  refine wpAnyH_done (by kernel_rfl) ?_ _
                  refine NoPanic.normal ?_
                  clear hHeld
                  have KRF := Lib.hid (KR1.out.below BD4.out HQ.out.2.2.1)
                  have kf : Blk (u4.setCell ⟨w.heap.size + 1, 0, none⟩ (.slice A6 (n + 1) c6)) (w.heap.size + 1) 24 #[.slice A6 (n + 1) c6] := by
                    have := KRF.out.set_ 0 (.slice A6 (n + 1) c6)
                    simpa using this
                  have r1 := kf.cell 0
                  go_wp2_with fail
                  refine bodyPost_ret (v := .tuple #[.agg #[.slice A6 (n + 1) c6], .int .i64 (n : Int), .int .i64 0]) (by simp [results, Try.results19, go_sem, r1]) rfl ?_
                  exact ⟨A6, n + 1, c6, ns ++ [s], by rw [HE.out, HIX.out, if_pos rfl], own_mono (own_put O4.out KRF.out (by decide) _) (Nat.le_trans HNW.out HQ.out.2.2.2), fun _ => HA.out.symm, fun h => absurd HE.out h, (HBW.out.trans (BD4.out.mono HQ.out.2.2.2)).setCell (p := ⟨w.heap.size + 1, 0, none⟩) (Nat.le_succ _) _⟩
                exact AllReadyH.nil
              exact AllReadyH.nil
            exact AllReadyH.nil
          refine AllReadyH.cons (o := { dst := some 36, op := Op.buildSlice 22 1 #[(0, Operand.tmp 35)], type := 22, pos := "ref.go:54", after := #[{ on := 4, ground := Ground.data }], guard := none }) rfl (fun K hK => ?_) ?_
          · skip
            go_simp
            have BD2 := Lib.hid (BD1.out.alloc (HQ.out.1 _ BD1.out) (.cells #[.string s] 9))
            have SL2 : Hid (Reads (u1.alloc (.cells #[.string s] 9)) (u1.alloc (.cells #[.string s] 9)).heap.size 1 (some ⟨u1.heap.size, 0, none⟩) 1 (strs [s])) := str_lit u1 [s] _ _ rfl
            have O2 := Lib.hid (own_on O1.out ((Below.refl _ _).alloc (Nat.le_refl _) (.cells #[.string s] 9)))
            have HXS : Hid ((Value.slice (some ⟨X0, 0, none⟩) 0 0).ownBlock ≠ some u1.heap.size) := own_apart O1.out
            clear hHeld BD1 O1
            refine hK.out _ _ ((KA1.out.below BD2.out HQ.out.2.1).cell 0) (fun hHeld => ?_)
            clear hK K
            try simp only [Act.put, List.setIfInBounds_toArray, List.set_cons_zero, List.set_cons_succ]
            generalize u1.alloc (.cells #[.string s] 9) = u2 at *
            generalize u1.heap.size = XS at *
            refine wpAnyH_ready (rs := [3]) (by kernel_rfl) (by simp) ?_
            refine AllReadyH.cons (o := { dst := some 34, op := Op.call { callee := Callee.builtin Builtin.append, args := #[Operand.tmp 31, Operand.tmp 33], argTypes := #[22, 22] }, type := 22, pos := "ref.go:54", after := #[{ on := 0, ground := Ground.data }, { on := 2, ground := Ground.data }], guard := none }) rfl (fun K hK => ?_) ?_
            · skip
              refine step_append_any _ rfl (.tmp 31) (.tmp 33) 22 rfl Q 9 i0 _ 1 16 Try.underlying22 hi hz0 hz1 hz2 rfl (by decide) (.slice (some ⟨X0, 0, none⟩) 0 0) 0 _ rfl O2.out Q A n _ (strs ns) rfl (HRD.out.below BD2.out) (strs_one _) (by unfold maxLen; omega) (by omega) (HQ.out.1 _ BD2.out) ?_
              intro v5 u3 hown5 hgrow5 _
              rw [Nat.zero_add] at hown5
              obtain ⟨A5, c5, rfl, -, -⟩ := own_form2 hown5
              rw [List.nil_append] at hown5
              have BD3 := Lib.hid (BD2.out.grown hgrow5 (HQ.out.1 _ BD2.out) (own_block9 O2.out))
              have O3 := Lib.hid hown5
              have SL3 : Hid (Reads u3 u3.heap.size 1 (some ⟨XS, 0, none⟩) 1 (strs [s])) := (slit_grown SL2.out hgrow5 (fun e => HXS.out (by first | exact e | exact e.symm))).more hgrow5.size
              clear hown5 hgrow5 hHeld BD2 O2 SL2 HXS
              refine hK.out _ _ ((KA1.out.below BD3.out HQ.out.2.1).cell 0) (fun hHeld => ?_)
              clear hK K
              try simp only [Act.put, List.setIfInBounds_toArray, List.set_cons_zero, List.set_cons_succ]
              refine wpAnyH_ready (rs := [6]) (by kernel_rfl) (by simp) ?_
              refine AllReadyH.cons (o := { dst := some 37, op := Op.call { callee := Callee.builtin Builtin.append, args := #[Operand.tmp 34, Operand.tmp 36], argTypes := #[22, 22] }, type := 22, pos := "ref.go:54", after := #[{ on := 3, ground := Ground.data }, { on := 5, ground := Ground.data }, { on := 3, ground := Ground.chain }], guard := none }) rfl (fun K hK => ?_) ?_
              · skip
                refine step_append_any _ rfl (.tmp 34) (.tmp 36) 22 rfl Q 9 i0 _ 1 16 Try.underlying22 hi hz0 hz1 hz2 rfl (by decide) (.slice A5 n c5) n _ rfl O3.out _ (some ⟨XS, 0, none⟩) 1 _ (strs [s]) rfl SL3.out (strs_one _) (by unfold maxLen; omega) (by omega) (HQ.out.1 _ BD3.out) ?_
                intro v6 u4 hown6 hgrow6 _
                obtain ⟨A6, c6, rfl, -, -⟩ := own_form2 hown6
                rw [← strs_append] at hown6
                have BD4 := Lib.hid (BD3.out.grown hgrow6 (HQ.out.1 _ BD3.out) (own_block9 O3.out))
                have O4 := Lib.hid hown6
                clear hown6 hgrow6 hHeld BD3 O3 SL3
                refine hK.out _ _ ((KA1.out.below BD4.out HQ.out.2.1).cell 0) (fun hHeld => ?_)
                clear hK K
                try simp only [Act.put, List.setIfInBounds_toArray, List.set_cons_zero, List.set_cons_succ]
                refine wpAnyH_take (i := 7) (oi := { dst := some 38, op := Op.build 24 #[(0, Operand.tmp 37)], type := 24, pos := "ref.go:54", after := #[{ on := 6, ground := Ground.data }], guard := none }) (v := .agg #[.slice A6 (n + 1) c6]) rfl (by kernel_rfl) (by kernel_rfl) (by kernel_rfl) (fun _ _ _ h => h) (Or.inl ⟨by kernel_rfl, fun w' hSw => by (try dsimp only at hSw); go_simp⟩) (by assumption) ?_
                try simp only [Act.put, List.setIfInBounds_toArray, List.set_cons_zero, List.set_cons_succ]
                refine wpAnyH_ready (rs := [11]) (by kernel_rfl) (by simp) ?_
                refine AllReadyH.cons (o := { dst := none, op := Op.store 24 (Operand.tmp 4) (Operand.tmp 38), type := 0, pos := "ref.go:54", after := #[{ on := 7, ground := Ground.data }, { on := 6, ground := Ground.chain }, { on := 0, ground := Ground.phase }, { on := 1, ground := Ground.phase }, { on := 2, ground := Ground.phase }, { on := 3, ground := Ground.phase }, { on := 4, ground := Ground.phase }, { on := 5, ground := Ground.phase }, { on := 6, ground := Ground.phase }, { on := 7, ground := Ground.phase }, { on := 8, ground := Ground.textOnly Departure.lateStores }, { on := 9, ground := Ground.textOnly Departure.lateStores }, { on := 10, ground := Ground.textOnly Departure.lateStoresUnsure }], guard := none }) rfl (fun K hK => ?_) ?_
                · skip
                  have y0 := (KR1.out.below BD4.out HQ.out.2.2.1).cell 0
                  have f0 := (KR1.out.below BD4.out HQ.out.2.2.1).frozen 0
                  go_simp
                  clear hHeld y0 f0
                  refine hK.out _ _ ((World.cell?_setCell_far _ ⟨w.heap.size + 1, 0, none⟩ ⟨w.heap.size, 0, none⟩ _ (by show w.heap.size + 1 ≠ w.heap.size; omega)).trans ((KA1.out.below BD4.out HQ.out.2.1).cell 0)) (fun hHeld => ?_)
                  clear hK K
                  try simp only [Act.put, List.setIfInBounds_toArray, List.set_cons_zero, List.set_cons_succ]
                  refine wpAnyH_take (i := 12) (oi := { dst := some 5, op := Op.assign (Operand.tmp 41), type := 3, pos := "ref.go:54", after := #[{ on := 10, ground := Ground.data }, { on := 11, ground := Ground.chain }, { on := 0, ground := Ground.phase }, { on := 1, ground := Ground.phase }, { on := 2, ground := Ground.phase }, { on := 3, ground := Ground.phase }, { on := 4, ground := Ground.phase }, { on := 5, ground := Ground.phase }, { on := 6, ground := Ground.phase }, { on := 7, ground := Ground.phase }, { on := 8, ground := Ground.phase }, { on := 9, ground := Ground.phase }, { on := 10, ground := Ground.phase }, { on := 11, ground := Ground.phase }], guard := none }) (v := .int .i64 (n : Int)) rfl (by kernel_rfl) (by kernel_rfl) (by kernel_rfl) (fun _ _ _ h => h) (Or.inl ⟨by kernel_rfl, fun w' hSw => by (try dsimp only at hSw); go_simp⟩) (by assumption) ?_
                  try simp only [Act.put, List.setIfInBounds_toArray, List.set_cons_zero, List.set_cons_succ]
                  refine wpAnyH_take (i := 13) (oi := { dst := some 6, op := Op.assign (Operand.const (Value.int IntKind.i64 0)), type := 29, pos := "ref.go:54", after := #[{ on := 12, ground := Ground.chain }, { on := 0, ground := Ground.phase }, { on := 1, ground := Ground.phase }, { on := 2, ground := Ground.phase }, { on := 3, ground := Ground.phase }, { on := 4, ground := Ground.phase }, { on := 5, ground := Ground.phase }, { on := 6, ground := Ground.phase }, { on := 7, ground := Ground.phase }, { on := 8, ground := Ground.phase }, { on := 9, ground := Ground.phase }, { on := 10, ground := Ground.phase }, { on := 11, ground := Ground.phase }, { on := 12, ground := Ground.phase }], guard := none }) (v := .int .i64 0) rfl (by kernel_rfl) (by kernel_rfl) (by kernel_rfl) (fun _ _ _ h => h) (Or.inl ⟨by kernel_rfl, fun w' hSw => by (try dsimp only at hSw); go_simp⟩) (by assumption) ?_
                  try simp only [Act.put, List.setIfInBounds_toArray, List.set_cons_zero, List.set_cons_succ]
                  refine wpAnyH_done (by kernel_rfl) ?_ _
                  refine NoPanic.normal ?_
                  clear hHeld
                  have KRF := Lib.hid (KR1.out.below BD4.out HQ.out.2.2.1)
                  have kf : Blk (u4.setCell ⟨w.heap.size + 1, 0, none⟩ (.slice A6 (n + 1) c6)) (w.heap.size + 1) 24 #[.slice A6 (n + 1) c6] := by
                    have := KRF.out.set_ 0 (.slice A6 (n + 1) c6)
                    simpa using this
                  have r1 := kf.cell 0
                  go_wp2_with fail
                  refine bodyPost_ret (v := .tuple #[.agg #[.slice A6 (n + 1) c6], .int .i64 (n : Int), .int .i64 0]) (by simp [results, Try.results19, go_sem, r1]) rfl ?_
                  exact ⟨A6, n + 1, c6, ns ++ [s], by rw [HE.out, HIX.out, if_pos rfl], own_mono (own_put O4.out KRF.out (by decide) _) (Nat.le_trans HNW.out HQ.out.2.2.2), fun _ => HA.out.symm, fun h => absurd HE.out h, (HBW.out.trans (BD4.out.mono HQ.out.2.2.2)).setCell (p := ⟨w.heap.size + 1, 0, none⟩) (Nat.le_succ _) _⟩
                exact AllReadyH.nil
              exact AllReadyH.nil
            exact AllReadyH.nil
          exact AllReadyH.nil
        refine AllReadyH.cons (o := { dst := some 36, op := Op.buildSlice 22 1 #[(0, Operand.tmp 35)], type := 22, pos := "ref.go:54", after := #[{ on := 4, ground := Ground.data }], guard := none }) rfl (fun K hK => ?_) ?_
        · skip
          go_simp
          have BD1 := Lib.hid (BD0.out.alloc (HQ.out.1 _ BD0.out) (.cells #[.string s] 9))
          have SL1 : Hid (Reads (wd.alloc (.cells #[.string s] 9)) (wd.alloc (.cells #[.string s] 9)).heap.size 1 (some ⟨wd.heap.size, 0, none⟩) 1 (strs [s])) := str_lit wd [s] _ _ rfl
          clear hHeld BD0
          refine hK.out _ _ ((KA1.out.below BD1.out HQ.out.2.1).cell 0) (fun hHeld => ?_)
          clear hK K
          try simp only [Act.put, List.setIfInBounds_toArray, List.set_cons_zero, List.set_cons_succ]
          generalize wd.alloc (.cells #[.string s] 9) = u1 at *
          generalize wd.heap.size = XS at *
          refine wpAnyH_ready (rs := [0]) (by kernel_rfl) (by simp) ?_
          refine AllReadyH.cons (o := { dst := some 31, op := Op.buildSlice 22 0 #[], type := 22, pos := "ref.go:54", after := #[], guard := none }) rfl (fun K hK => ?_) ?_
          · skip
            go_simp
            have BD2 := Lib.hid (BD1.out.alloc (HQ.out.1 _ BD1.out) (.cells #[] 9))
            have O2 := Lib.hid (own_empty u1 Q 9 (HQ.out.1 _ BD1.out))
            have SL2 := Lib.hid (SL1.out.on_ ((Below.refl _ _).alloc (Nat.le_refl _) (.cells #[] 9)))
            have HXS : Hid ((Value.slice (some ⟨u1.heap.size, 0, none⟩) 0 0).ownBlock ≠ some XS) := slit_apart SL1.out
            clear hHeld BD1 SL1
            refine hK.out _ _ ((KA1.out.below BD2.out HQ.out.2.1).cell 0) (fun hHeld => ?_)
            clear hK K
            try simp only [Act.put, List.setIfInBounds_toArray, List.set_cons_zero, List.set_cons_succ]
            generalize u1.alloc (.cells #[] 9) = u2 at *
            generalize u1.heap.size = X0 at *
            refine wpAnyH_ready (rs := [3]) (by kernel_rfl) (by simp) ?_
            refine AllReadyH.cons (o := { dst := some 34, op := Op.call { callee := Callee.builtin Builtin.append, args := #[Operand.tmp 31, Operand.tmp 33], argTypes := #[22, 22] }, type := 22, pos := "ref.go:54", after := #[{ on := 0, ground := Ground.data }, { on := 2, ground := Ground.data }], guard := none }) rfl (fun K hK => ?_) ?_
            · skip
              refine step_append_any _ rfl (.tmp 31) (.tmp 33) 22 rfl Q 9 i0 _ 1 16 Try.underlying22 hi hz0 hz1 hz2 rfl (by decide) (.slice (some ⟨X0, 0, none⟩) 0 0) 0 _ rfl O2.out Q A n _ (strs ns) rfl (HRD.out.below BD2.out) (strs_one _) (by unfold maxLen; omega) (by omega) (HQ.out.1 _ BD2.out) ?_
              intro v5 u3 hown5 hgrow5 _
              rw [Nat.zero_add] at hown5
              obtain ⟨A5, c5, rfl, -, -⟩ := own_form2 hown5
              rw [List.nil_append] at hown5
              have BD3 := Lib.hid (BD2.out.grown hgrow5 (HQ.out.1 _ BD2.out) (own_block9 O2.out))
              have O3 := Lib.hid hown5
              have SL3 : Hid (Reads u3 u3.heap.size 1 (some ⟨XS, 0, none⟩) 1 (strs [s])) := (slit_grown SL2.out hgrow5 (fun e => HXS.out (by first | exact e | exact e.symm))).more hgrow5.size
              clear hown5 hgrow5 hHeld BD2 O2 SL2 HXS
              refine hK.out _ _ ((KA1.out.below BD3.out HQ.out.2.1).cell 0) (fun hHeld => ?_)
              clear hK K
              try simp only [Act.put, List.setIfInBounds_toArray, List.set_cons_zero, List.set_cons_succ]
              refine wpAnyH_ready (rs := [6]) (by kernel_rfl) (by simp) ?_
              refine AllReadyH.cons (o := { dst := some 37, op := Op.call { callee := Callee.builtin Builtin.append, args := #[Operand.tmp 34, Operand.tmp 36], argTypes := #[22, 22] }, type := 22, pos := "ref.go:54", after := #[{ on := 3, ground := Ground.data }, { on := 5, ground := Ground.data }, { on := 3, ground := Ground.chain }], guard := none }) rfl (fun K hK => ?_) ?_
              · skip
                refine step_append_any _ rfl (.tmp 34) (.tmp 36) 22 rfl Q 9 i0 _ 1 16 Try.underlying22 hi hz0 hz1 hz2 rfl (by decide) (.slice A5 n c5) n _ rfl O3.out _ (some ⟨XS, 0, none⟩) 1 _ (strs [s]) rfl SL3.out (strs_one _) (by unfold maxLen; omega) (by omega) (HQ.out.1 _ BD3.out) ?_
                intro v6 u4 hown6 hgrow6 _
                obtain ⟨A6, c6, rfl, -, -⟩ := own_form2 hown6
                rw [← strs_append] at hown6
                have BD4 := Lib.hid (BD3.out.grown hgrow6 (HQ.out.1 _ BD3.out) (own_block9 O3.out))
                have O4 := Lib.hid hown6
                clear hown6 hgrow6 hHeld BD3 O3 SL3
                refine hK.out _ _ ((KA1.out.below BD4.out HQ.out.2.1).cell 0) (fun hHeld => ?_)
                clear hK K
                try simp only [Act.put, List.setIfInBounds_toArray, List.set_cons_zero, List.set_cons_succ]
                refine wpAnyH_take (i := 7) (oi := { dst := some 38, op := Op.build 24 #[(0, Operand.tmp 37)], type := 24, pos := "ref.go:54", after := #[{ on := 6, ground := Ground.data }], guard := none }) (v := .agg #[.slice A6 (n + 1) c6]) rfl (by kernel_rfl) (by kernel_rfl) (by kernel_rfl) (fun _ _ _ h => h) (Or.inl ⟨by kernel_rfl, fun w' hSw => by (try dsimp only at hSw); go_simp⟩) (by assumption) ?_
                try simp only [Act.put, List.setIfInBounds_toArray, List.set_cons_zero, List.set_cons_succ]
                refine wpAnyH_ready (rs := [11]) (by kernel_rfl) (by simp) ?_
                refine AllReadyH.cons (o := { dst := none, op := Op.store 24 (Operand.tmp 4) (Operand.tmp 38), type := 0, pos := "ref.go:54", after := #[{ on := 7, ground := Ground.data }, { on := 6, ground := Ground.chain }, { on := 0, ground := Ground.phase }, { on := 1, ground := Ground.phase }, { on := 2, ground := Ground.phase }, { on := 3, ground := Ground.phase }, { on := 4, ground := Ground.phase }, { on := 5, ground := Ground.phase }, { on := 6, ground := Ground.phase }, { on := 7, ground := Ground.phase }, { on := 8, ground := Ground.textOnly Departure.lateStores }, { on := 9, ground := Ground.textOnly Departure.lateStores }, { on := 10, ground := Ground.textOnly Departure.lateStoresUnsure }], guard := none }) rfl (fun K hK => ?_) ?_
                · skip
                  have y0 := (KR1.out.below BD4.out HQ.out.2.2.1).cell 0
                  have f0 := (KR1.out.below BD4.out HQ.out.2.2.1).frozen 0
                  go_simp
                  clear hHeld y0 f0
                  refine hK.out _ _ ((World.cell?_setCell_far _ ⟨w.heap.size + 1, 0, none⟩ ⟨w.heap.size, 0, none⟩ _ (by show w.heap.size + 1 ≠ w.heap.size; omega)).trans ((KA1.out.below BD4.out HQ.out.2.1).cell 0)) (fun hHeld => ?_)
                  clear hK K
                  try simp only [Act.put, List.setIfInBounds_toArray, List.set_cons_zero, List.set_cons_succ]
                  refine wpAnyH_take (i := 12) (oi := { dst := some 5, op := Op.assign (Operand.tmp 41), type := 3, pos := "ref.go:54", after := #[{ on := 10, ground := Ground.data }, { on := 11, ground := Ground.chain }, { on := 0, ground := Ground.phase }, { on := 1, ground := Ground.phase }, { on := 2, ground := Ground.phase }, { on := 3, ground := Ground.phase }, { on := 4, ground := Ground.phase }, { on := 5, ground := Ground.phase }, { on := 6, ground := Ground.phase }, { on := 7, ground := Ground.phase }, { on := 8, ground := Ground.phase }, { on := 9, ground := Ground.phase }, { on := 10, ground := Ground.phase }, { on := 11, ground := Ground.phase }], guard := none }) (v := .int .i64 (n : Int)) rfl (by kernel_rfl) (by kernel_rfl) (by kernel_rfl) (fun _ _ _ h => h) (Or.inl ⟨by kernel_rfl, fun w' hSw => by (try dsimp only at hSw); go_simp⟩) (by assumption) ?_
                  try simp only [Act.put, List.setIfInBounds_toArray, List.set_cons_zero, List.set_cons_succ]
                  refine wpAnyH_take (i := 13) (oi := { dst := some 6, op := Op.assign (Operand.const (Value.int IntKind.i64 0)), type := 29, pos := "ref.go:54", after := #[{ on := 12, ground := Ground.chain }, { on := 0, ground := Ground.phase }, { on := 1, ground := Ground.phase }, { on := 2, ground := Ground.phase }, { on := 3, ground := Ground.phase }, { on := 4, ground := Ground.phase }, { on := 5, ground := Ground.phase }, { on := 6, ground := Ground.phase }, { on := 7, ground := Ground.phase }, { on := 8, ground := Ground.phase }, { on := 9, ground := Ground.phase }, { on := 10, ground := Ground.phase }, { on := 11, ground := Ground.phase }, { on := 12, ground := Ground.phase }], guard := none }) (v := .int .i64 0) rfl (by kernel_rfl) (by kernel_rfl) (by kernel_rfl) (fun _ _ _ h => h) (Or.inl ⟨by kernel_rfl, fun w' hSw => by (try dsimp only at hSw); go_simp⟩) (by assumption) ?_
                  try simp only [Act.put, List.setIfInBounds_toArray, List.set_cons_zero, List.set_cons_succ]
                  refine wpAnyH_done (by kernel_rfl) ?_ _
                  refine NoPanic.normal ?_
                  clear hHeld
                  have KRF := Lib.hid (KR1.out.below BD4.out HQ.out.2.2.1)
                  have kf : Blk (u4.setCell ⟨w.heap.size + 1, 0, none⟩ (.slice A6 (n + 1) c6)) (w.heap.size + 1) 24 #[.slice A6 (n + 1) c6] := by
                    have := KRF.out.set_ 0 (.slice A6 (n + 1) c6)
                    simpa using this
                  have r1 := kf.cell 0
                  go_wp2_with fail
                  refine bodyPost_ret (v := .tuple #[.agg #[.slice A6 (n + 1) c6], .int .i64 (n : Int), .int .i64 0]) (by simp [results, Try.results19, go_sem, r1]) rfl ?_
                  exact ⟨A6, n + 1, c6, ns ++ [s], by rw [HE.out, HIX.out, if_pos rfl], own_mono (own_put O4.out KRF.out (by decide) _) (Nat.le_trans HNW.out HQ.out.2.2.2), fun _ => HA.out.symm, fun h => absurd HE.out h, (HBW.out.trans (BD4.out.mono HQ.out.2.2.2)).setCell (p := ⟨w.heap.size + 1, 0, none⟩) (Nat.le_succ _) _⟩
                exact AllReadyH.nil
              exact AllReadyH.nil
            exact AllReadyH.nil
          exact AllReadyH.nil
        exact AllReadyH.nil
end Go.Proofs.Ythamkpmbfefpfaa
