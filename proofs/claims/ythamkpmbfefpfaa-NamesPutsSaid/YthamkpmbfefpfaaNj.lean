/- Layer names: Move: contract. -/
import Derived.Test.YthamkpmbfefpfaaNi
namespace Go.Proofs.Ythamkpmbfefpfaa
open Go.RowKit Go.Shelf Go.Maps
attribute [local go_sem] Oper.semAt_some

theorem run_store_funcM {P : Program} {w : World} {a : Addr} {m : Mode} (fn : Fn) (first captured : Array Value) : (store a (.func fn first captured) m).run P w = stored P w a (.func fn first captured) m := run_store P w a _ m rfl
attribute [local go_sem] run_store_funcM
/-- What Move gives. -/
def MoveIs (a b : List ByteArray) (w : World) (e : Ending) (w' : World) : Prop :=
  ∃ (R : Option Addr) (m d : Nat) (zs : List Int), e = .returned (.tuple #[.slice R m d, .int .i64 (moveE nameB a b)]) ∧ w'.ownsRow w.heap.size 3 1 (.slice R m d) m (ints zs) ∧ (moveE nameB a b = 0 → zs = numsN a b) ∧ (moveE nameB a b ≠ 0 → zs = []) ∧ Below w.heap.size w w'
theorem MoveIs.err {a b : List ByteArray} {w w' : World} {k : Int} (h : moveE nameB a b = k) (hk : k ≠ 0) (hb : Below w.heap.size w w') : MoveIs a b w (.returned (.tuple #[.slice none 0 0, .int .i64 k])) w' :=
  ⟨none, 0, 0, [], by rw [h], World.ownsRow_nil _ _ _ _, fun e => absurd (h.symm.trans e) hk, fun _ => rfl, hb⟩
section
variable {a b : List ByteArray} {s : ByteArray}
theorem move_bad (h : goodB nameB a = false ∨ goodB nameB b = false) : moveE nameB a b = 201 := by
  unfold moveE
  rw [if_neg (fun h2 => by rcases h with h | h <;> simp [h] at h2)]
theorem move_none (ha : goodB nameB a = true) (hb : goodB nameB b = true) (hs : s ∈ a) (hn : s ∉ b) : moveE nameB a b = 4 := by
  unfold moveE
  rw [if_pos ⟨ha, hb⟩, if_neg (fun h => hn (h s hs))]
theorem move_ok (ha : goodB nameB a = true) (hb : goodB nameB b = true) (h : ∀ s ∈ a, s ∈ b) : moveE nameB a b = 0 := by
  unfold moveE
  rw [if_pos ⟨ha, hb⟩, if_pos h]
theorem nums_next {i m : Nat} (hs : a[i]? = some s) (hl : a.length = m) : (numsN (a.take i) b ++ List.replicate (m - i) 0).set i (idxN b s : Int) = numsN (a.take (i + 1)) b ++ List.replicate (m - (i + 1)) 0 := by
  have hi := (List.getElem?_eq_some_iff.1 hs).1
  have h1 : (numsN (a.take i) b).length = i := by unfold numsN; rw [List.length_map, List.length_take]; omega
  have h2 : numsN (a.take (i + 1)) b = numsN (a.take i) b ++ [(idxN b s : Int)] := by unfold numsN; rw [take_snoc hs, List.map_append]; rfl
  rw [h2, List.set_append_right _ _ (by omega), h1, Nat.sub_self, show m - i = (m - (i + 1)) + 1 by omega, List.replicate_succ, List.set_cons_zero, List.append_assoc]
  rfl
theorem nums_len (a b : List ByteArray) : (numsN a b).length = a.length := by unfold numsN; rw [List.length_map]
end
/-- What Move holds while it goes on. -/
structure MvL (Bn M P B7 B9 na : Nat) (us : List ByteArray) (ws : List Int) (W3 X : World) : Prop where
  num : NumAt Bn M us X
  row : Blk X P 3 (ints ws).toArray
  b7 : Blk X B7 57 #[.func (.func 39) #[] #[.pointer (some ⟨Bn, 0, none⟩)]]
  b9 : Blk X B9 25 #[.slice (some ⟨P, 0, none⟩) na na]
  keep : Keep (fun j => j ≠ M ∧ j ≠ P) W3 X
section
variable {Bn M P B7 B9 na : Nat} {us : List ByteArray} {ws : List Int} {W3 X Y : World}
theorem MvL.on (h : MvL Bn M P B7 B9 na us ws W3 X) (hb : Below X.heap.size X Y) : MvL Bn M P B7 B9 na us ws W3 Y := ⟨h.num.on hb, h.row.below hb h.row.lt, h.b7.below hb h.b7.lt, h.b9.below hb h.b9.lt, h.keep.trans (Keep.of_all _ hb)⟩
theorem MvL.keep_ {S : Nat → Prop} (h : MvL Bn M P B7 B9 na us ws W3 X) (hk : Keep S X Y) (h1 : S Bn) (h2 : S M) (h3 : S P) (h4 : S B7) (h5 : S B9) (h6 : ∀ j, j < W3.heap.size → S j) : MvL Bn M P B7 B9 na us ws W3 Y := ⟨h.num.keep hk h1 h2, hk.blk h.row h3, hk.blk h.b7 h4, hk.blk h.b9 h5, h.keep.then_ (hk.mono fun j _ hj => h6 j hj.1)⟩
theorem MvL.numbered {us' : List ByteArray} (h : MvL Bn M P B7 B9 na us ws W3 X) (hn : NumAt Bn M us' Y) (hk : Keep (fun k => k ≠ M) X Y) : MvL Bn M P B7 B9 na us' ws W3 Y :=
  ⟨hn, hk.blk h.row (h.num.blk_ne h.row), hk.blk h.b7 (h.num.blk_ne h.b7), hk.blk h.b9 (h.num.blk_ne h.b9), h.keep.trans (hk.mono fun _ _ hj => hj.1)⟩
theorem MvL.set (h : MvL Bn M P B7 B9 na us ws W3 X) (i : Nat) (v : Int) : MvL Bn M P B7 B9 na us (ws.set i v) W3 (X.setCell ⟨P, i, none⟩ (.int .i64 v)) := by
  have hk : Keep (fun k => k ≠ P) X (X.setCell ⟨P, i, none⟩ (.int .i64 v)) := (Keep.refl _ X).set (.inr fun e => e rfl) _ _
  refine ⟨h.num.keep hk (Blk.ne_ h.num.box h.row (by decide)) (Ne.symm (h.num.blk_ne h.row)), ?_, hk.blk h.b7 (Blk.ne_ h.b7 h.row (by decide)), hk.blk h.b9 (Blk.ne_ h.b9 h.row (by decide)), h.keep.trans (hk.mono fun j _ hj => hj.2)⟩
  have := h.row.set_ i (.int .i64 v)
  rw [List.setIfInBounds_toArray, ints_set] at this
  exact this
theorem MvL.cell_at (h : MvL Bn M P B7 B9 na us ws W3 X) {k : Nat} (hk : k < ws.length) : X.cell? ⟨P, k, none⟩ = some (.int .i64 (ws.getD k 0)) := by
  rw [h.row.cell, List.getElem?_toArray]
  unfold ints
  rw [List.getElem?_map, List.getD_eq_getElem?_getD, List.getElem?_eq_getElem hk]
  rfl
end
/-- While the names are moved. -/
structure MvI (a b : List ByteArray) (Bn M P B7 B9 na : Nat) (W3 : World) (cs : List (Nat × ByteArray)) (C : Nat → Prop) (X : World) : Prop where
  cC : C = fun j => j = M ∨ j = P
  mv : MvL Bn M P B7 B9 na b (numsN (a.take cs.length) b ++ List.replicate (na - cs.length) 0) W3 X
  ok : ∀ s ∈ a.take cs.length, s ∈ b
structure MvX (a b : List ByteArray) (w : World) (B4 : Nat) (X : World) : Prop where
  no : ∃ s ∈ a, s ∉ b
  b4 : Blk X B4 25 #[.slice none 0 0]
  b5 : Blk X (B4 + 1) 29 #[.int .i64 4]
  below : Below w.heap.size w X

set_option maxRecDepth 100000 in
set_option maxHeartbeats 16000000 in
theorem move_any (Aa : Option Addr) (na ca : Nat) (a : List ByteArray) (hna : na ≤ 1000) (hsa : ∀ s ∈ a, s.size ≤ 9223372036854775807) (Ab : Option Addr) (nb cb : Nat) (b : List ByteArray) (hnb : nb ≤ 1000) (hsb : ∀ s ∈ b, s.size ≤ 9223372036854775807)
    (w : World) (hRa : Reads w w.heap.size 1 Aa na (strs a)) (hRb : Reads w w.heap.size 1 Ab nb (strs b)) :
    Calls Try.prog 20 #[.agg #[.slice Aa na ca], .agg #[.slice Ab nb cb]] w (MoveIs a b w) := by
  obtain ⟨ka, kb, b0, hs0⟩ := ntwo w #[.slice Aa na ca] #[.slice Ab nb cb] 24 24
  obtain ⟨k4, k5, b00, hs00⟩ := ntwo ((w.alloc (.cells #[.slice Aa na ca] 24)).alloc (.cells #[.slice Ab nb cb] 24)) #[.slice none 0 0] #[.int .i64 0] 25 29
  rw [hs0] at k4 k5
  have KA := Lib.hid (ka.below b00 ka.lt)
  have KB := Lib.hid (kb.below b00 kb.lt)
  have K4 := Lib.hid k4
  have K5 : Hid (Blk _ (w.heap.size + 3) _ _) := k5
  have B0 := Lib.hid (b0.trans (b00.mono b0.size))
  have HS0 : Hid (((((w.alloc (.cells #[.slice Aa na ca] 24)).alloc (.cells #[.slice Ab nb cb] 24)).alloc (.cells #[.slice none 0 0] 25)).alloc (.cells #[.int .i64 0] 29)).heap.size = w.heap.size + 4) := by show _ = _; rw [hs00, hs0]
  have HLA := Lib.hid (strs_len hRa)
  have HLB := Lib.hid (strs_len hRb)
  have HRA := Lib.hid hRa
  have HRB := Lib.hid hRb
  have HSA := Lib.hid hsa
  have HSB := Lib.hid hsb
  have z0 := KA.out.cell 0
  have z1 := KB.out.cell 0
  clear ka kb b0 hs0 k4 k5 b00 hs00 hRa hRb hsa hsb
  refine (callsIn_wide (n := 6)).1 (callsIn_of_wp_marks Try.func20 rfl trivial ?_ rfl)
  simp only [Try.ntmps20, List.size_toArray, List.length_cons, List.length_nil, Nat.reduceAdd, Nat.reduceSub, Array.replicate_succ, Array.replicate_zero, List.push_toArray, List.append_toArray, List.nil_append, List.cons_append]
  gi_upto_region 1 with fail
  generalize (((w.alloc (.cells #[.slice Aa na ca] 24)).alloc (.cells #[.slice Ab nb cb] 24)).alloc (.cells #[.slice none 0 0] 25)).alloc (.cells #[.int .i64 0] 29) = W0 at *
  gi_wp2_with fail
  refine ⟨trivial, (callsIn_wide.2 (fine_any Aa na ca a hna HSA.out W0 ((HRA.out.below B0.out).more B0.out.size))).mono ?_⟩
  rintro e w1 ⟨rfl, b1⟩
  have KA1 := Lib.hid (KA.out.below b1 KA.out.lt)
  have KB1 := Lib.hid (KB.out.below b1 KB.out.lt)
  have K41 := Lib.hid (K4.out.below b1 K4.out.lt)
  have K51 := Lib.hid (K5.out.below b1 K5.out.lt)
  have B1 := Lib.hid (B0.out.trans (b1.mono B0.out.size))
  have HS1 : Hid (w.heap.size + 4 ≤ w1.heap.size) := by have := HS0.out; have := b1.size; show _ ≤ _; omega
  clear z0 z1 b1 KA KB K4 K5 B0 HS0
  have z1 := KB1.out.cell 0
  have y4 := K41.out.cell 0
  have f4 := K41.out.frozen 0
  have y5 := K51.out.cell 0
  have f5 := K51.out.frozen 0
  cases hga : goodB nameB a
  · have HE := Lib.hid (move_bad (b := b) (.inl hga))
    rw [fine_no hga]
    clear hga
    gi_wp2_with fail
    have k4 : Blk ((w1.setCell ⟨w.heap.size + 2, 0, none⟩ (.slice none 0 0)).setCell ⟨w.heap.size + 3, 0, none⟩ (.int .i64 201)) (w.heap.size + 2) 25 #[.slice none 0 0] := by
      have := (K41.out.set_ 0 (.slice none 0 0)).far (p := ⟨w.heap.size + 3, 0, none⟩) (by show w.heap.size + 2 ≠ w.heap.size + 3; omega) (.int .i64 201)
      simpa using this
    have k5 : Blk ((w1.setCell ⟨w.heap.size + 2, 0, none⟩ (.slice none 0 0)).setCell ⟨w.heap.size + 3, 0, none⟩ (.int .i64 201)) (w.heap.size + 3) 29 #[.int .i64 201] := by
      have := (K51.out.far (p := ⟨w.heap.size + 2, 0, none⟩) (by show w.heap.size + 3 ≠ w.heap.size + 2; omega) (.slice none 0 0)).set_ 0 (.int .i64 201)
      simpa using this
    have r4 := k4.cell 0
    have r5 := k5.cell 0
    exact ⟨.tuple #[.slice none 0 0, .int .i64 201], by simp [results, Try.results20, go_sem, r4, r5], MoveIs.err HE.out (by decide) ((B1.out.setCell (p := ⟨w.heap.size + 2, 0, none⟩) (by show _ ≤ w.heap.size + 2; omega) _).setCell (p := ⟨w.heap.size + 3, 0, none⟩) (by show _ ≤ w.heap.size + 3; omega) _)⟩
  · rw [fine_ok hga]
    have HGA := Lib.hid hga
    clear hga
    gi_wp2_with fail
    refine ⟨trivial, (callsIn_wide.2 (opened_any Ab nb cb b hnb HSB.out w1 ((HRB.out.below B1.out).more B1.out.size))).mono ?_⟩
    rintro e w2 ⟨Bn, M, rfl, hnum, hB, hM, b2⟩
    obtain ⟨k7, b7, hs7⟩ := nbox w2 #[.func (.func 39) #[] #[.pointer (some ⟨Bn, 0, none⟩)]] 57
    have K7 := Lib.hid k7
    have KA2 := Lib.hid ((KA1.out.below b2 KA1.out.lt).alloc (.cells #[.func (.func 39) #[] #[.pointer (some ⟨Bn, 0, none⟩)]] 57))
    have KB2 := Lib.hid ((KB1.out.below b2 KB1.out.lt).alloc (.cells #[.func (.func 39) #[] #[.pointer (some ⟨Bn, 0, none⟩)]] 57))
    have K42 := Lib.hid ((K41.out.below b2 K41.out.lt).alloc (.cells #[.func (.func 39) #[] #[.pointer (some ⟨Bn, 0, none⟩)]] 57))
    have K52 := Lib.hid ((K51.out.below b2 K51.out.lt).alloc (.cells #[.func (.func 39) #[] #[.pointer (some ⟨Bn, 0, none⟩)]] 57))
    have B2 := Lib.hid ((B1.out.trans (b2.mono B1.out.size)).trans (b7.mono (B1.out.trans (b2.mono B1.out.size)).size))
    have HNUM : Hid (goodB nameB b = true → NumAt Bn M b (w2.alloc (.cells #[.func (.func 39) #[] #[.pointer (some ⟨Bn, 0, none⟩)]] 57))) := fun h => (hnum h).on b7
    have HBM : Hid (w.heap.size + 4 ≤ Bn ∧ w.heap.size + 4 ≤ M ∧ w.heap.size + 4 ≤ w2.heap.size ∧ (w2.alloc (.cells #[.func (.func 39) #[] #[.pointer (some ⟨Bn, 0, none⟩)]] 57)).heap.size = w2.heap.size + 1) := ⟨by have := HS1.out; omega, by have := HS1.out; omega, by have := HS1.out; have := b2.size; omega, hs7⟩
    clear z1 y4 f4 y5 f5 k7 b7 hs7 hnum hB hM b2 KA1 KB1 K41 K51 B1 HS1
    gi_upto_region 5 with fail
    generalize w2.alloc (.cells #[.func (.func 39) #[] #[.pointer (some ⟨Bn, 0, none⟩)]] 57) = W2 at *
    generalize w2.heap.size = B7 at *
    have z0 := KA2.out.cell 0
    have y4 := K42.out.cell 0
    have f4 := K42.out.frozen 0
    have y5 := K52.out.cell 0
    have f5 := K52.out.frozen 0
    cases hgb : goodB nameB b
    · have HE := Lib.hid (move_bad (a := a) (.inr hgb))
      rw [fine_no hgb]
      clear hgb
      gi_wp2_with fail
      have k4 : Blk ((W2.setCell ⟨w.heap.size + 2, 0, none⟩ (.slice none 0 0)).setCell ⟨w.heap.size + 3, 0, none⟩ (.int .i64 201)) (w.heap.size + 2) 25 #[.slice none 0 0] := by
        have := (K42.out.set_ 0 (.slice none 0 0)).far (p := ⟨w.heap.size + 3, 0, none⟩) (by show w.heap.size + 2 ≠ w.heap.size + 3; omega) (.int .i64 201)
        simpa using this
      have k5 : Blk ((W2.setCell ⟨w.heap.size + 2, 0, none⟩ (.slice none 0 0)).setCell ⟨w.heap.size + 3, 0, none⟩ (.int .i64 201)) (w.heap.size + 3) 29 #[.int .i64 201] := by
        have := (K52.out.far (p := ⟨w.heap.size + 2, 0, none⟩) (by show w.heap.size + 3 ≠ w.heap.size + 2; omega) (.slice none 0 0)).set_ 0 (.int .i64 201)
        simpa using this
      have r4 := k4.cell 0
      have r5 := k5.cell 0
      exact ⟨.tuple #[.slice none 0 0, .int .i64 201], by simp [results, Try.results20, go_sem, r4, r5], MoveIs.err HE.out (by decide) ((B2.out.setCell (p := ⟨w.heap.size + 2, 0, none⟩) (by show _ ≤ w.heap.size + 2; omega) _).setCell (p := ⟨w.heap.size + 3, 0, none⟩) (by show _ ≤ w.heap.size + 3; omega) _)⟩
    · rw [fine_ok hgb]
      have HGB := Lib.hid hgb
      have N2 := Lib.hid (HNUM.out hgb)
      clear hgb HNUM y4 f4 y5 f5
      obtain ⟨kp, k9, bp, hsp⟩ := ntwo W2 (ints (List.replicate na 0)).toArray #[.slice (some ⟨W2.heap.size, 0, none⟩) na na] 3 25
      have z2 := (((KA2.out.alloc (.cells (ints (List.replicate na 0)).toArray 3)).alloc (.cells #[.slice (some ⟨W2.heap.size, 0, none⟩) na na] 25))).cell 0
      have KP := Lib.hid kp
      have K9 := Lib.hid k9
      have K7 := Lib.hid (K7.out.below bp K7.out.lt)
      have KB3 := Lib.hid (KB2.out.below bp KB2.out.lt)
      have K43 := Lib.hid (K42.out.below bp K42.out.lt)
      have K53 := Lib.hid (K52.out.below bp K52.out.lt)
      have N3 := Lib.hid (N2.out.on bp)
      have B3 := Lib.hid (B2.out.trans (bp.mono B2.out.size))
      have HSP : Hid (w.heap.size + 4 ≤ Bn ∧ w.heap.size + 4 ≤ M ∧ Bn < W2.heap.size ∧ M < W2.heap.size ∧ w.heap.size + 4 ≤ B7 ∧ W2.heap.size = B7 + 1 ∧ ((W2.alloc (.cells (ints (List.replicate na 0)).toArray 3)).alloc (.cells #[.slice (some ⟨W2.heap.size, 0, none⟩) na na] 25)).heap.size = W2.heap.size + 2) := by
        have h1 := HBM.out
        have h2 := N2.out.lt
        exact ⟨h1.1, h1.2.1, h2.1, h2.2, h1.2.2.1, h1.2.2.2, hsp⟩
      have hmk := int_makeN na (by omega) W2
      clear kp k9 bp hsp KA2 KB2 K42 K52 N2 B2 HBM
      gi_upto_region 8 with fail
      clear hmk z0
      generalize (W2.alloc (.cells (ints (List.replicate na 0)).toArray 3)).alloc (.cells #[.slice (some ⟨W2.heap.size, 0, none⟩) na na] 25) = W2b at *
      generalize W2.heap.size = P at *
      gi_wp2_with fail
      refine ⟨trivial, (callsIn_wide.2 (numbered_any Aa na ca _)).mono ?_⟩
      rintro e w3 ⟨rfl, rfl⟩
      obtain ⟨kt, bt, hst⟩ := nbox W2b #[.slice Aa na ca] 24
      have KT := Lib.hid kt
      have KP := Lib.hid (KP.out.below bt KP.out.lt)
      have K9 := Lib.hid (K9.out.below bt K9.out.lt)
      have K7 := Lib.hid (K7.out.below bt K7.out.lt)
      have KB := Lib.hid (KB3.out.below bt KB3.out.lt)
      have K4 := Lib.hid (K43.out.below bt K43.out.lt)
      have K5 := Lib.hid (K53.out.below bt K53.out.lt)
      have N4 := Lib.hid (N3.out.on bt)
      have B4 := Lib.hid (B3.out.trans (bt.mono B3.out.size))
      have HST : Hid ((W2b.alloc (.cells #[.slice Aa na ca] 24)).heap.size = W2b.heap.size + 1) := hst
      clear kt bt hst KB3 K43 K53 N3 B3 z2
      generalize W2b.alloc (.cells #[.slice Aa na ca] 24) = W3 at *
      obtain ⟨Bt, hBt⟩ : ∃ Bt, Bt = W2b.heap.size := ⟨_, rfl⟩
      rw [← hBt] at KT HST HSP ⊢
      clear hBt
      gi_wp2_with fail
      have HSEQ := Lib.hid (numbered_seq 5 (fun k => k < w.heap.size ∨ k = Bt) w.heap.size Bt Aa na ca a (by omega) W3 (HRA.out.below B4.out) B4.out.size KT.out (fun k h => .inl h) (.inr rfl) (fun k h => by have := B4.out.size; have := HST.out; omega))
      have MV0 : Hid (MvL Bn M P B7 (P + 1) na b (numsN (a.take 0) b ++ List.replicate (na - 0) 0) W3 W3) := ⟨N4.out, KP.out, K7.out, K9.out, Keep.refl _ _⟩
      obtain ⟨B9, hB9⟩ : ∃ B9, B9 = P + 1 := ⟨_, rfl⟩
      rw [← hB9] at K9 MV0 ⊢
      have HB9 := Lib.hid hB9
      clear hB9
      refine range_pair none (by omega) (gf := 38) (lb := #[.pointer (some ⟨Bt, 0, none⟩)]) rfl eg_numbered (ex := toldI) (ey := toldS) (Ok := ToldOk a) (End := fun cs => cs = told a na) (S := fun k => k < w.heap.size ∨ k = Bt) (w1 := W3) HSEQ.out (Keep.refl _ _) (fun k h => by have := B4.out.size; have := HST.out; omega) 31 32 10 11 rfl ToldOk.below ToldOk.loop
        (MvI a b Bn M P B7 B9 na W3) (MvX a b w (w.heap.size + 2)) (fun j => j = M ∨ j = P) (fun k hk => by have := HSP.out; have := HST.out; omega) ⟨rfl, MV0.out, fun s h => by simp at h⟩ ?hI ?hIx ?assign ?body ?done ?stop
      case hI =>
        rintro cs C X Y ⟨rfl, h1, h2⟩ hk
        have h3 := HSP.out
        have h4 := HST.out
        have h5 := HB9.out
        have h6 := N4.out.lt
        exact ⟨rfl, h1.keep_ hk (.inl (by omega)) (.inl (by omega)) (.inl (by omega)) (.inl (by omega)) (.inl (by omega)) (fun _ hj => .inl hj), h2⟩
      case hIx =>
        rintro X Y ⟨h1, h2, h3, h4⟩ hk
        have h5 := HSP.out
        have h6 := HST.out
        exact ⟨h1, hk.blk h2 ⟨by omega, by omega⟩, hk.blk h3 ⟨by omega, by omega⟩, h4.trans (hk.below h4.size fun j hj => ⟨by omega, by omega⟩)⟩
      case assign =>
        intro l c W K hK
        simp only [List.setIfInBounds_toArray, List.set_cons_zero, List.set_cons_succ] at hK ⊢
        gi_wp2_with fail
        exact hK
      case body =>
        rintro l cs c2 C X ⟨rfl, hmv, hok2⟩ hok hCk hsz hlk
        obtain ⟨k, s, hs, rfl, rfl⟩ := hok.inv
        rw [told_len] at hmv hok2
        have MV := Lib.hid hmv
        have HS := Lib.hid hs
        have HSS1 := Lib.hid (HSA.out s (List.mem_of_getElem? hs))
        have HOK2 := Lib.hid hok2
        have hkn : k < na := by have := (List.getElem?_eq_some_iff.1 hs).1; have := HLA.out; omega
        have hkn2 : (k : Int) < (na : Int) := by omega
        have HKL : Hid (k < (numsN (a.take k) b ++ List.replicate (na - k) 0).length) := by
          show _ < _
          rw [List.length_append, nums_len, List.length_take, List.length_replicate]
          have := HLA.out
          omega
        have hbl : b.length ≤ 1000 := by have := HLB.out; omega
        simp only [toldI, toldS]
        simp only [List.setIfInBounds_toArray, List.set_cons_zero, List.set_cons_succ]
        clear hok hCk hsz hlk hs hmv hok2
        have hcase : ((s ∈ b) ∧ ((idxN b s : Int) == (nb : Int)) = false) ∨ ((s ∉ b) ∧ ((idxN b s : Int) == (nb : Int)) = true) := by
          by_cases h : s ∈ b
          · have := idx_lt h
            have := HLB.out
            exact .inl ⟨h, by simp; omega⟩
          · have := idx_out h
            have := HLB.out
            exact .inr ⟨h, by simp; omega⟩
        rcases hcase with ⟨hm, hb⟩ | ⟨hm, hb⟩
        · have HM := Lib.hid hm
          clear hm
          gi_upto_region 11 with fail
          refine region_round (S := fun W => W.cell? ⟨B9, 0, none⟩ = some (.slice (some ⟨P, 0, none⟩) na na) ∧ W.cell? ⟨B7, 0, none⟩ = some (.func (.func 39) #[] #[.pointer (some ⟨Bn, 0, none⟩)])) (by kernel_rfl) (by kernel_rfl) ⟨MV.out.b9.drew.cell 0, MV.out.b7.drew.cell 0⟩ (fun hHeld => ?_)
          have MV0 := Lib.hid (MV.out.on ((Below.refl _ X).drew))
          have KK0 : Hid (Keep (fun _ => True) X X.drew) := (Keep.refl _ X).drew
          generalize X.drew = wd at *
          refine wpAnyH_take (i := 0) (oi := { dst := some 33, op := Op.load 25 (Operand.tmp 9), type := 25, pos := "names.go:74", after := #[], guard := none }) (v := .slice (some ⟨P, 0, none⟩) na na) rfl (by kernel_rfl) (by kernel_rfl) (by kernel_rfl) (fun _ _ _ h => h) (Or.inl ⟨by kernel_rfl, fun w' hSw => by (try dsimp only at hSw); go_simp⟩) (by assumption) ?_
          try simp only [Act.put, List.setIfInBounds_toArray, List.set_cons_zero, List.set_cons_succ]
          refine wpAnyH_take (i := 1) (oi := { dst := some 34, op := Op.move (Operand.tmp 10), type := 3, pos := "names.go:74", after := #[], guard := none }) (v := .int .i64 (k : Int)) rfl (by kernel_rfl) (by kernel_rfl) (by kernel_rfl) (fun _ _ _ h => h) (Or.inl ⟨by kernel_rfl, fun w' hSw => by (try dsimp only at hSw); go_simp⟩) (by assumption) ?_
          try simp only [Act.put, List.setIfInBounds_toArray, List.set_cons_zero, List.set_cons_succ]
          refine wpAnyH_take (i := 2) (oi := { dst := some 35, op := Op.load 57 (Operand.tmp 7), type := 57, pos := "names.go:74", after := #[], guard := none }) (v := .func (.func 39) #[] #[.pointer (some ⟨Bn, 0, none⟩)]) rfl (by kernel_rfl) (by kernel_rfl) (by kernel_rfl) (fun _ _ _ h => h) (Or.inl ⟨by kernel_rfl, fun w' hSw => by (try dsimp only at hSw); go_simp⟩) (by assumption) ?_
          try simp only [Act.put, List.setIfInBounds_toArray, List.set_cons_zero, List.set_cons_succ]
          refine wpAnyH_take (i := 3) (oi := { dst := some 36, op := Op.move (Operand.tmp 11), type := 9, pos := "names.go:74", after := #[], guard := none }) (v := .string s) rfl (by kernel_rfl) (by kernel_rfl) (by kernel_rfl) (fun _ _ _ h => h) (Or.inl ⟨by kernel_rfl, fun w' hSw => by (try dsimp only at hSw); go_simp⟩) (by assumption) ?_
          try simp only [Act.put, List.setIfInBounds_toArray, List.set_cons_zero, List.set_cons_succ]
          refine wpAnyH_ready (rs := [4]) (by kernel_rfl) (by simp) ?_
          refine AllReadyH.cons (o := { dst := some 37, op := Op.call { callee := Callee.value (Operand.tmp 35), args := #[Operand.tmp 36], argTypes := #[9] }, type := 3, pos := "names.go:74", after := #[{ on := 2, ground := Ground.data }, { on := 3, ground := Ground.data }], guard := none }) rfl (fun K hK => ?_) ?_
          · skip
            go_simp
            refine (number_any Bn M b s HSS1.out (by omega) _ MV0.out.num).mono ?_
            rintro e u1 ⟨rfl, hn1, hk1⟩
            have MV1 := Lib.hid (MV0.out.numbered hn1 hk1)
            have KK1 := Lib.hid hk1
            clear hn1 hk1 hHeld MV0
            refine hK.out _ _ ⟨MV1.out.b9.cell 0, MV1.out.b7.cell 0⟩ (fun hHeld => ?_)
            clear hK K
            try simp only [Act.put, List.setIfInBounds_toArray, List.set_cons_zero, List.set_cons_succ]
            refine wpAnyH_take (i := 5) (oi := { dst := some 38, op := Op.indexAddr 25 (Operand.tmp 33) (Operand.tmp 34), type := 0, pos := "names.go:74", after := #[{ on := 0, ground := Ground.data }, { on := 1, ground := Ground.data }, { on := 0, ground := Ground.phase }, { on := 1, ground := Ground.phase }, { on := 2, ground := Ground.phase }, { on := 3, ground := Ground.phase }, { on := 4, ground := Ground.phase }], guard := none }) (v := .pointer (some ⟨P, k, none⟩)) rfl (by kernel_rfl) (by kernel_rfl) (by kernel_rfl) (fun _ _ _ h => h) (Or.inl ⟨by kernel_rfl, fun w' hSw => by (try dsimp only at hSw); go_simp⟩) (by assumption) ?_
            try simp only [Act.put, List.setIfInBounds_toArray, List.set_cons_zero, List.set_cons_succ]
            refine wpAnyH_ready (rs := [6]) (by kernel_rfl) (by simp) ?_
            refine AllReadyH.cons (o := { dst := none, op := Op.store 3 (Operand.tmp 38) (Operand.tmp 37), type := 0, pos := "names.go:74", after := #[{ on := 5, ground := Ground.data }, { on := 4, ground := Ground.data }, { on := 4, ground := Ground.chain }, { on := 0, ground := Ground.phase }, { on := 1, ground := Ground.phase }, { on := 2, ground := Ground.phase }, { on := 3, ground := Ground.phase }, { on := 4, ground := Ground.phase }], guard := none }) rfl (fun K hK => ?_) ?_
            · skip
              have y0 := MV1.out.cell_at HKL.out
              have f0 := MV1.out.row.frozen k
              go_simp
              have MV2 := Lib.hid (MV1.out.set k (idxN b s : Int))
              have KK2 : Hid (Keep (fun j => j ≠ M ∧ j ≠ P) X (u1.setCell ⟨P, k, none⟩ (.int .i64 (idxN b s : Int)))) := ((KK0.out.mono fun _ _ _ => trivial).trans (KK1.out.mono fun j _ hj => hj.1)).set (.inr fun e => e.2 rfl) _ _
              clear hHeld y0 f0 MV1 KK0 KK1
              refine hK.out _ _ ⟨MV2.out.b9.cell 0, MV2.out.b7.cell 0⟩ (fun hHeld => ?_)
              clear hK K
              try simp only [Act.put, List.setIfInBounds_toArray, List.set_cons_zero, List.set_cons_succ]
              generalize u1.setCell ⟨P, k, none⟩ (.int .i64 (idxN b s : Int)) = uF at *
              refine wpAnyH_done (by kernel_rfl) ?_ _
              refine OnlyN.normal ?_
              clear hHeld
              have KBu : Hid (Blk uF (w.heap.size + 1) 24 #[.slice Ab nb cb]) := MV2.out.keep.blk KB.out (by have := HSP.out; omega)
              have hpk : uF.drew.cell? ⟨P, k, none⟩ = some (.int .i64 (idxN b s : Int)) := by
                rw [MV2.out.row.drew.cell, List.getElem?_toArray]
                unfold ints
                rw [List.getElem?_map, List.getElem?_set_self HKL.out]
                rfl
              gi_upto_region 12 with fail
              refine region_round (S := fun W => W.cell? ⟨B9, 0, none⟩ = some (.slice (some ⟨P, 0, none⟩) na na) ∧ W.cell? ⟨P, k, none⟩ = some (.int .i64 (idxN b s : Int)) ∧ W.cell? ⟨w.heap.size + 1, 0, none⟩ = some (.slice Ab nb cb)) (by kernel_rfl) (by kernel_rfl) ⟨MV2.out.b9.drew.cell 0, hpk, KBu.out.drew.cell 0⟩ (fun hHeld => ?_)
              have MV3 := Lib.hid (MV2.out.on ((Below.refl _ uF).drew))
              have KK3 : Hid (Keep (fun _ => True) uF uF.drew) := (Keep.refl _ uF).drew
              have KB3 := Lib.hid KBu.out.drew
              clear MV2 KBu hpk
              generalize uF.drew = uG at *
              refine wpAnyH_take (i := 0) (oi := { dst := some 39, op := Op.load 25 (Operand.tmp 9), type := 25, pos := "names.go:75", after := #[], guard := none }) (v := .slice (some ⟨P, 0, none⟩) na na) rfl (by kernel_rfl) (by kernel_rfl) (by kernel_rfl) (fun _ _ _ h => h) (Or.inl ⟨by kernel_rfl, fun w' hSw => by (try dsimp only at hSw); go_simp⟩) (by assumption) ?_
              try simp only [Act.put, List.setIfInBounds_toArray, List.set_cons_zero, List.set_cons_succ]
              refine wpAnyH_take (i := 1) (oi := { dst := some 40, op := Op.move (Operand.tmp 10), type := 3, pos := "names.go:75", after := #[], guard := none }) (v := .int .i64 (k : Int)) rfl (by kernel_rfl) (by kernel_rfl) (by kernel_rfl) (fun _ _ _ h => h) (Or.inl ⟨by kernel_rfl, fun w' hSw => by (try dsimp only at hSw); go_simp⟩) (by assumption) ?_
              try simp only [Act.put, List.setIfInBounds_toArray, List.set_cons_zero, List.set_cons_succ]
              refine wpAnyH_take (i := 2) (oi := { dst := some 41, op := Op.indexAddr 25 (Operand.tmp 39) (Operand.tmp 40), type := 0, pos := "names.go:75", after := #[{ on := 0, ground := Ground.data }, { on := 1, ground := Ground.data }], guard := none }) (v := .pointer (some ⟨P, k, none⟩)) rfl (by kernel_rfl) (by kernel_rfl) (by kernel_rfl) (fun _ _ _ h => h) (Or.inl ⟨by kernel_rfl, fun w' hSw => by (try dsimp only at hSw); go_simp⟩) (by assumption) ?_
              try simp only [Act.put, List.setIfInBounds_toArray, List.set_cons_zero, List.set_cons_succ]
              refine wpAnyH_take (i := 3) (oi := { dst := some 42, op := Op.load 3 (Operand.tmp 41), type := 3, pos := "names.go:75", after := #[{ on := 2, ground := Ground.data }], guard := none }) (v := .int .i64 (idxN b s : Int)) rfl (by kernel_rfl) (by kernel_rfl) (by kernel_rfl) (fun _ _ _ h => h) (Or.inl ⟨by kernel_rfl, fun w' hSw => by (try dsimp only at hSw); go_simp⟩) (by assumption) ?_
              try simp only [Act.put, List.setIfInBounds_toArray, List.set_cons_zero, List.set_cons_succ]
              refine wpAnyH_take (i := 4) (oi := { dst := some 43, op := Op.fieldAddr 24 (Operand.tmp 3) 0, type := 0, pos := "names.go:75", after := #[], guard := none }) (v := .pointer (some ⟨w.heap.size + 1, 0, none⟩)) rfl (by kernel_rfl) (by kernel_rfl) (by kernel_rfl) (fun _ _ _ h => h) (Or.inl ⟨by kernel_rfl, fun w' hSw => by (try dsimp only at hSw); go_simp⟩) (by assumption) ?_
              try simp only [Act.put, List.setIfInBounds_toArray, List.set_cons_zero, List.set_cons_succ]
              refine wpAnyH_take (i := 5) (oi := { dst := some 44, op := Op.load 22 (Operand.tmp 43), type := 22, pos := "names.go:75", after := #[{ on := 4, ground := Ground.data }], guard := none }) (v := .slice Ab nb cb) rfl (by kernel_rfl) (by kernel_rfl) (by kernel_rfl) (fun _ _ _ h => h) (Or.inl ⟨by kernel_rfl, fun w' hSw => by (try dsimp only at hSw); go_simp⟩) (by assumption) ?_
              try simp only [Act.put, List.setIfInBounds_toArray, List.set_cons_zero, List.set_cons_succ]
              refine wpAnyH_take (i := 6) (oi := { dst := some 45, op := Op.call { callee := Callee.builtin Builtin.len, args := #[Operand.tmp 44], argTypes := #[22] }, type := 3, pos := "names.go:75", after := #[{ on := 5, ground := Ground.data }], guard := none }) (v := .int .i64 (nb : Int)) rfl (by kernel_rfl) (by kernel_rfl) (by kernel_rfl) (fun _ _ _ h => h) (Or.inl ⟨by kernel_rfl, fun w' hSw => by (try dsimp only at hSw); go_simp⟩) (by assumption) ?_
              try simp only [Act.put, List.setIfInBounds_toArray, List.set_cons_zero, List.set_cons_succ]
              refine wpAnyH_take (i := 7) (oi := { dst := some 46, op := Op.binOp BinOp.eql 3 (Operand.tmp 42) (Operand.tmp 45) 3, type := 4, pos := "names.go:75", after := #[{ on := 3, ground := Ground.data }, { on := 6, ground := Ground.data }], guard := none }) (v := .bool false) rfl (by kernel_rfl) (by kernel_rfl) (by kernel_rfl) (fun _ _ _ h => h) (Or.inl ⟨by kernel_rfl, fun w' hSw => by (try dsimp only at hSw); go_simp⟩) (by assumption) ?_
              try simp only [Act.put, List.setIfInBounds_toArray, List.set_cons_zero, List.set_cons_succ]
              refine wpAnyH_done (by kernel_rfl) ?_ _
              refine OnlyN.normal ?_
              clear hHeld
              have HF : Hid (OnePost none W3.heap.size (fun j => j = M ∨ j = P) (MvI a b Bn M P B7 B9 na W3) (MvX a b w (w.heap.size + 2)) (told a k ++ [(k, s)]) X .normal ⟨#[], []⟩ uG) := by
                have h1 := MV3.out
                rw [add_in HM.out, nums_next HS.out HLA.out] at h1
                have hl : (told a k ++ [(k, s)]).length = k + 1 := by rw [List.length_append, told_len]; rfl
                refine .inl ⟨fun j => j = M ∨ j = P, fun j hj => ⟨?_, .inl hj⟩, (KK2.out.trans (KK3.out.mono fun _ _ _ => trivial)).mono fun j _ hj => ⟨fun e => hj (.inl e), fun e => hj (.inr e)⟩, rfl, rfl, by rw [hl]; exact h1, fun t ht => ?_⟩
                · rcases hj with rfl | rfl
                  · exact h1.num.lt.2
                  · exact h1.row.lt
                · rw [hl, take_snoc HS.out, List.mem_append] at ht
                  rcases ht with ht | ht
                  · exact HOK2.out t ht
                  · rw [List.mem_singleton] at ht; rw [ht]; exact HM.out
              clear MV3 KK2 KK3 KB3
              gi_wp2_with fail
              exact HF.out
            exact AllReadyH.nil
          exact AllReadyH.nil
        · have HM := Lib.hid hm
          clear hm
          gi_upto_region 11 with fail
          refine region_round (S := fun W => W.cell? ⟨B9, 0, none⟩ = some (.slice (some ⟨P, 0, none⟩) na na) ∧ W.cell? ⟨B7, 0, none⟩ = some (.func (.func 39) #[] #[.pointer (some ⟨Bn, 0, none⟩)])) (by kernel_rfl) (by kernel_rfl) ⟨MV.out.b9.drew.cell 0, MV.out.b7.drew.cell 0⟩ (fun hHeld => ?_)
          have MV0 := Lib.hid (MV.out.on ((Below.refl _ X).drew))
          have KK0 : Hid (Keep (fun _ => True) X X.drew) := (Keep.refl _ X).drew
          generalize X.drew = wd at *
          refine wpAnyH_take (i := 0) (oi := { dst := some 33, op := Op.load 25 (Operand.tmp 9), type := 25, pos := "names.go:74", after := #[], guard := none }) (v := .slice (some ⟨P, 0, none⟩) na na) rfl (by kernel_rfl) (by kernel_rfl) (by kernel_rfl) (fun _ _ _ h => h) (Or.inl ⟨by kernel_rfl, fun w' hSw => by (try dsimp only at hSw); go_simp⟩) (by assumption) ?_
          try simp only [Act.put, List.setIfInBounds_toArray, List.set_cons_zero, List.set_cons_succ]
          refine wpAnyH_take (i := 1) (oi := { dst := some 34, op := Op.move (Operand.tmp 10), type := 3, pos := "names.go:74", after := #[], guard := none }) (v := .int .i64 (k : Int)) rfl (by kernel_rfl) (by kernel_rfl) (by kernel_rfl) (fun _ _ _ h => h) (Or.inl ⟨by kernel_rfl, fun w' hSw => by (try dsimp only at hSw); go_simp⟩) (by assumption) ?_
          try simp only [Act.put, List.setIfInBounds_toArray, List.set_cons_zero, List.set_cons_succ]
          refine wpAnyH_take (i := 2) (oi := { dst := some 35, op := Op.load 57 (Operand.tmp 7), type := 57, pos := "names.go:74", after := #[], guard := none }) (v := .func (.func 39) #[] #[.pointer (some ⟨Bn, 0, none⟩)]) rfl (by kernel_rfl) (by kernel_rfl) (by kernel_rfl) (fun _ _ _ h => h) (Or.inl ⟨by kernel_rfl, fun w' hSw => by (try dsimp only at hSw); go_simp⟩) (by assumption) ?_
          try simp only [Act.put, List.setIfInBounds_toArray, List.set_cons_zero, List.set_cons_succ]
          refine wpAnyH_take (i := 3) (oi := { dst := some 36, op := Op.move (Operand.tmp 11), type := 9, pos := "names.go:74", after := #[], guard := none }) (v := .string s) rfl (by kernel_rfl) (by kernel_rfl) (by kernel_rfl) (fun _ _ _ h => h) (Or.inl ⟨by kernel_rfl, fun w' hSw => by (try dsimp only at hSw); go_simp⟩) (by assumption) ?_
          try simp only [Act.put, List.setIfInBounds_toArray, List.set_cons_zero, List.set_cons_succ]
          refine wpAnyH_ready (rs := [4]) (by kernel_rfl) (by simp) ?_
          refine AllReadyH.cons (o := { dst := some 37, op := Op.call { callee := Callee.value (Operand.tmp 35), args := #[Operand.tmp 36], argTypes := #[9] }, type := 3, pos := "names.go:74", after := #[{ on := 2, ground := Ground.data }, { on := 3, ground := Ground.data }], guard := none }) rfl (fun K hK => ?_) ?_
          · skip
            go_simp
            refine (number_any Bn M b s HSS1.out (by omega) _ MV0.out.num).mono ?_
            rintro e u1 ⟨rfl, hn1, hk1⟩
            have MV1 := Lib.hid (MV0.out.numbered hn1 hk1)
            have KK1 := Lib.hid hk1
            clear hn1 hk1 hHeld MV0
            refine hK.out _ _ ⟨MV1.out.b9.cell 0, MV1.out.b7.cell 0⟩ (fun hHeld => ?_)
            clear hK K
            try simp only [Act.put, List.setIfInBounds_toArray, List.set_cons_zero, List.set_cons_succ]
            refine wpAnyH_take (i := 5) (oi := { dst := some 38, op := Op.indexAddr 25 (Operand.tmp 33) (Operand.tmp 34), type := 0, pos := "names.go:74", after := #[{ on := 0, ground := Ground.data }, { on := 1, ground := Ground.data }, { on := 0, ground := Ground.phase }, { on := 1, ground := Ground.phase }, { on := 2, ground := Ground.phase }, { on := 3, ground := Ground.phase }, { on := 4, ground := Ground.phase }], guard := none }) (v := .pointer (some ⟨P, k, none⟩)) rfl (by kernel_rfl) (by kernel_rfl) (by kernel_rfl) (fun _ _ _ h => h) (Or.inl ⟨by kernel_rfl, fun w' hSw => by (try dsimp only at hSw); go_simp⟩) (by assumption) ?_
            try simp only [Act.put, List.setIfInBounds_toArray, List.set_cons_zero, List.set_cons_succ]
            refine wpAnyH_ready (rs := [6]) (by kernel_rfl) (by simp) ?_
            refine AllReadyH.cons (o := { dst := none, op := Op.store 3 (Operand.tmp 38) (Operand.tmp 37), type := 0, pos := "names.go:74", after := #[{ on := 5, ground := Ground.data }, { on := 4, ground := Ground.data }, { on := 4, ground := Ground.chain }, { on := 0, ground := Ground.phase }, { on := 1, ground := Ground.phase }, { on := 2, ground := Ground.phase }, { on := 3, ground := Ground.phase }, { on := 4, ground := Ground.phase }], guard := none }) rfl (fun K hK => ?_) ?_
            · skip
              have y0 := MV1.out.cell_at HKL.out
              have f0 := MV1.out.row.frozen k
              go_simp
              have MV2 := Lib.hid (MV1.out.set k (idxN b s : Int))
              have KK2 : Hid (Keep (fun j => j ≠ M ∧ j ≠ P) X (u1.setCell ⟨P, k, none⟩ (.int .i64 (idxN b s : Int)))) := ((KK0.out.mono fun _ _ _ => trivial).trans (KK1.out.mono fun j _ hj => hj.1)).set (.inr fun e => e.2 rfl) _ _
              clear hHeld y0 f0 MV1 KK0 KK1
              refine hK.out _ _ ⟨MV2.out.b9.cell 0, MV2.out.b7.cell 0⟩ (fun hHeld => ?_)
              clear hK K
              try simp only [Act.put, List.setIfInBounds_toArray, List.set_cons_zero, List.set_cons_succ]
              generalize u1.setCell ⟨P, k, none⟩ (.int .i64 (idxN b s : Int)) = uF at *
              refine wpAnyH_done (by kernel_rfl) ?_ _
              refine OnlyN.normal ?_
              clear hHeld
              have KBu : Hid (Blk uF (w.heap.size + 1) 24 #[.slice Ab nb cb]) := MV2.out.keep.blk KB.out (by have := HSP.out; omega)
              have hpk : uF.drew.cell? ⟨P, k, none⟩ = some (.int .i64 (idxN b s : Int)) := by
                rw [MV2.out.row.drew.cell, List.getElem?_toArray]
                unfold ints
                rw [List.getElem?_map, List.getElem?_set_self HKL.out]
                rfl
              gi_upto_region 12 with fail
              refine region_round (S := fun W => W.cell? ⟨B9, 0, none⟩ = some (.slice (some ⟨P, 0, none⟩) na na) ∧ W.cell? ⟨P, k, none⟩ = some (.int .i64 (idxN b s : Int)) ∧ W.cell? ⟨w.heap.size + 1, 0, none⟩ = some (.slice Ab nb cb)) (by kernel_rfl) (by kernel_rfl) ⟨MV2.out.b9.drew.cell 0, hpk, KBu.out.drew.cell 0⟩ (fun hHeld => ?_)
              have MV3 := Lib.hid (MV2.out.on ((Below.refl _ uF).drew))
              have KK3 : Hid (Keep (fun _ => True) uF uF.drew) := (Keep.refl _ uF).drew
              have KB3 := Lib.hid KBu.out.drew
              clear MV2 KBu hpk
              generalize uF.drew = uG at *
              refine wpAnyH_take (i := 0) (oi := { dst := some 39, op := Op.load 25 (Operand.tmp 9), type := 25, pos := "names.go:75", after := #[], guard := none }) (v := .slice (some ⟨P, 0, none⟩) na na) rfl (by kernel_rfl) (by kernel_rfl) (by kernel_rfl) (fun _ _ _ h => h) (Or.inl ⟨by kernel_rfl, fun w' hSw => by (try dsimp only at hSw); go_simp⟩) (by assumption) ?_
              try simp only [Act.put, List.setIfInBounds_toArray, List.set_cons_zero, List.set_cons_succ]
              refine wpAnyH_take (i := 1) (oi := { dst := some 40, op := Op.move (Operand.tmp 10), type := 3, pos := "names.go:75", after := #[], guard := none }) (v := .int .i64 (k : Int)) rfl (by kernel_rfl) (by kernel_rfl) (by kernel_rfl) (fun _ _ _ h => h) (Or.inl ⟨by kernel_rfl, fun w' hSw => by (try dsimp only at hSw); go_simp⟩) (by assumption) ?_
              try simp only [Act.put, List.setIfInBounds_toArray, List.set_cons_zero, List.set_cons_succ]
              refine wpAnyH_take (i := 2) (oi := { dst := some 41, op := Op.indexAddr 25 (Operand.tmp 39) (Operand.tmp 40), type := 0, pos := "names.go:75", after := #[{ on := 0, ground := Ground.data }, { on := 1, ground := Ground.data }], guard := none }) (v := .pointer (some ⟨P, k, none⟩)) rfl (by kernel_rfl) (by kernel_rfl) (by kernel_rfl) (fun _ _ _ h => h) (Or.inl ⟨by kernel_rfl, fun w' hSw => by (try dsimp only at hSw); go_simp⟩) (by assumption) ?_
              try simp only [Act.put, List.setIfInBounds_toArray, List.set_cons_zero, List.set_cons_succ]
              refine wpAnyH_take (i := 3) (oi := { dst := some 42, op := Op.load 3 (Operand.tmp 41), type := 3, pos := "names.go:75", after := #[{ on := 2, ground := Ground.data }], guard := none }) (v := .int .i64 (idxN b s : Int)) rfl (by kernel_rfl) (by kernel_rfl) (by kernel_rfl) (fun _ _ _ h => h) (Or.inl ⟨by kernel_rfl, fun w' hSw => by (try dsimp only at hSw); go_simp⟩) (by assumption) ?_
              try simp only [Act.put, List.setIfInBounds_toArray, List.set_cons_zero, List.set_cons_succ]
              refine wpAnyH_take (i := 4) (oi := { dst := some 43, op := Op.fieldAddr 24 (Operand.tmp 3) 0, type := 0, pos := "names.go:75", after := #[], guard := none }) (v := .pointer (some ⟨w.heap.size + 1, 0, none⟩)) rfl (by kernel_rfl) (by kernel_rfl) (by kernel_rfl) (fun _ _ _ h => h) (Or.inl ⟨by kernel_rfl, fun w' hSw => by (try dsimp only at hSw); go_simp⟩) (by assumption) ?_
              try simp only [Act.put, List.setIfInBounds_toArray, List.set_cons_zero, List.set_cons_succ]
              refine wpAnyH_take (i := 5) (oi := { dst := some 44, op := Op.load 22 (Operand.tmp 43), type := 22, pos := "names.go:75", after := #[{ on := 4, ground := Ground.data }], guard := none }) (v := .slice Ab nb cb) rfl (by kernel_rfl) (by kernel_rfl) (by kernel_rfl) (fun _ _ _ h => h) (Or.inl ⟨by kernel_rfl, fun w' hSw => by (try dsimp only at hSw); go_simp⟩) (by assumption) ?_
              try simp only [Act.put, List.setIfInBounds_toArray, List.set_cons_zero, List.set_cons_succ]
              refine wpAnyH_take (i := 6) (oi := { dst := some 45, op := Op.call { callee := Callee.builtin Builtin.len, args := #[Operand.tmp 44], argTypes := #[22] }, type := 3, pos := "names.go:75", after := #[{ on := 5, ground := Ground.data }], guard := none }) (v := .int .i64 (nb : Int)) rfl (by kernel_rfl) (by kernel_rfl) (by kernel_rfl) (fun _ _ _ h => h) (Or.inl ⟨by kernel_rfl, fun w' hSw => by (try dsimp only at hSw); go_simp⟩) (by assumption) ?_
              try simp only [Act.put, List.setIfInBounds_toArray, List.set_cons_zero, List.set_cons_succ]
              refine wpAnyH_take (i := 7) (oi := { dst := some 46, op := Op.binOp BinOp.eql 3 (Operand.tmp 42) (Operand.tmp 45) 3, type := 4, pos := "names.go:75", after := #[{ on := 3, ground := Ground.data }, { on := 6, ground := Ground.data }], guard := none }) (v := .bool true) rfl (by kernel_rfl) (by kernel_rfl) (by kernel_rfl) (fun _ _ _ h => h) (Or.inl ⟨by kernel_rfl, fun w' hSw => by (try dsimp only at hSw); go_simp⟩) (by assumption) ?_
              try simp only [Act.put, List.setIfInBounds_toArray, List.set_cons_zero, List.set_cons_succ]
              refine wpAnyH_done (by kernel_rfl) ?_ _
              refine OnlyN.normal ?_
              clear hHeld
              have hsp := HSP.out
              have hst := HST.out
              have hxx := KK2.out.trans (KK3.out.mono fun _ _ _ => trivial)
              have hkw := MV3.out.keep
              have K4g := Lib.hid (hkw.blk K4.out (by omega))
              have K5g := Lib.hid (hkw.blk K5.out (by omega))
              have BG : Hid (Below w.heap.size w uG) := B4.out.trans (hkw.below B4.out.size fun j hj => by omega)
              have HXX := Lib.hid hxx
              have y4 := K4g.out.cell 0
              have f4 := K4g.out.frozen 0
              have y5 := K5g.out.cell 0
              have f5 := K5g.out.frozen 0
              have HF : Hid (OnePost none W3.heap.size (fun j => j = M ∨ j = P) (MvI a b Bn M P B7 B9 na W3) (MvX a b w (w.heap.size + 2)) (told a k ++ [(k, s)]) X .ret ⟨#[], []⟩ ((uG.setCell ⟨w.heap.size + 2, 0, none⟩ (.slice none 0 0)).setCell ⟨w.heap.size + 3, 0, none⟩ (.int .i64 4))) := by
                refine .inr ⟨rfl, ?_, ⟨s, List.mem_of_getElem? HS.out, HM.out⟩, ?_, ?_, ?_⟩
                · exact ((HXX.out.mono fun j _ hj => ⟨fun e => hj.2 (.inl e), fun e => hj.2 (.inr e)⟩).set (.inr fun h => by omega) _ _).set (.inr fun h => by omega) _ _
                · have := (K4g.out.set_ 0 (.slice none 0 0)).far (p := ⟨w.heap.size + 3, 0, none⟩) (by show w.heap.size + 2 ≠ w.heap.size + 3; omega) (.int .i64 4)
                  simpa using this
                · have := (K5g.out.far (p := ⟨w.heap.size + 2, 0, none⟩) (by show w.heap.size + 3 ≠ w.heap.size + 2; omega) (.slice none 0 0)).set_ 0 (.int .i64 4)
                  simpa using this
                · exact (BG.out.setCell (p := ⟨w.heap.size + 2, 0, none⟩) (by show _ ≤ w.heap.size + 2; omega) _).setCell (p := ⟨w.heap.size + 3, 0, none⟩) (by show _ ≤ w.heap.size + 3; omega) _
              clear MV3 KK2 KK3 KB3 hsp hst hxx hkw
              gi_wp2_with fail
              exact HF.out
            exact AllReadyH.nil
          exact AllReadyH.nil
      case done =>
        rintro cs C D W hD rfl ⟨rfl, hmv, hok2⟩ hdef
        rw [told_len] at hmv hok2
        have hsp := HSP.out
        have hst := HST.out
        have hk := hmv.keep
        have K4g := Lib.hid (hk.blk K4.out (by omega))
        have K5g := Lib.hid (hk.blk K5.out (by omega))
        have BG : Hid (Below w.heap.size w W) := B4.out.trans (hk.below B4.out.size fun j hj => by omega)
        have z9 := hmv.b9.cell 0
        have y4 := K4g.out.cell 0
        have f4 := K4g.out.frozen 0
        have y5 := K5g.out.cell 0
        have f5 := K5g.out.frozen 0
        have HE := Lib.hid (move_ok HGA.out HGB.out fun s hs => hok2 s (by rw [← HLA.out, List.take_length]; exact hs))
        have hrow := hmv.row
        rw [Nat.sub_self, List.replicate_zero, List.append_nil, ← HLA.out, List.take_length] at hrow
        have HROW := Lib.hid hrow
        have HDF := Lib.hid hdef
        have HDL : Hid (w.heap.size + 4 ≤ P ∧ P < D ∧ w.heap.size + 4 ≤ D) := by show _ ∧ _; omega
        clear hmv hok2 hdef hrow hk hsp hst hD
        unfold mkMark
        gi_wp2_with fail
        have k4 : Blk ((W.setCell ⟨w.heap.size + 2, 0, none⟩ (.slice (some ⟨P, 0, none⟩) na na)).setCell ⟨w.heap.size + 3, 0, none⟩ (.int .i64 0)) (w.heap.size + 2) 25 #[.slice (some ⟨P, 0, none⟩) na na] := by
          have := (K4g.out.set_ 0 (.slice (some ⟨P, 0, none⟩) na na)).far (p := ⟨w.heap.size + 3, 0, none⟩) (by show w.heap.size + 2 ≠ w.heap.size + 3; omega) (.int .i64 0)
          simpa using this
        have k5 : Blk ((W.setCell ⟨w.heap.size + 2, 0, none⟩ (.slice (some ⟨P, 0, none⟩) na na)).setCell ⟨w.heap.size + 3, 0, none⟩ (.int .i64 0)) (w.heap.size + 3) 29 #[.int .i64 0] := by
          have := (K5g.out.far (p := ⟨w.heap.size + 2, 0, none⟩) (by show w.heap.size + 3 ≠ w.heap.size + 2; omega) (.slice (some ⟨P, 0, none⟩) na na)).set_ 0 (.int .i64 0)
          simpa using this
        have hk2 : Keep (fun j => j ≠ w.heap.size + 2 ∧ j ≠ w.heap.size + 3) W ((W.setCell ⟨w.heap.size + 2, 0, none⟩ (.slice (some ⟨P, 0, none⟩) na na)).setCell ⟨w.heap.size + 3, 0, none⟩ (.int .i64 0)) := ((Keep.refl _ W).set (.inr fun e => e.1 rfl) _ _).set (.inr fun e => e.2 rfl) _ _
        have hmk : MarksAt w.heap.size (fun _ => False) [D] ((W.setCell ⟨w.heap.size + 2, 0, none⟩ (.slice (some ⟨P, 0, none⟩) na na)).setCell ⟨w.heap.size + 3, 0, none⟩ (.int .i64 0)) := ⟨by simp, fun E hE => by rw [List.mem_singleton] at hE; subst hE; exact ⟨by have := HDL.out; omega, id, hk2.obj HDF.out (by have := HDL.out; omega)⟩⟩
        refine leaves_marks [D] _ hmk fun w' hk3 => ?_
        have r4 := (hk3.blk k4 (by have := HDL.out; simp; omega)).cell 0
        have r5 := (hk3.blk k5 (by have := HDL.out; simp; omega)).cell 0
        have hp := hk3.blk (hk2.blk HROW.out (by have := HDL.out; omega)) (by have := HDL.out; simp; omega)
        refine ⟨.tuple #[.slice (some ⟨P, 0, none⟩) na na, .int .i64 0], by simp [results, Try.results20, go_sem, r4, r5], some ⟨P, 0, none⟩, na, na, numsN a b, by rw [HE.out], own_blkI hp (by rw [nums_len, HLA.out]) (by have := HDL.out; omega) (by omega), fun _ => rfl, fun h => absurd HE.out h, ?_⟩
        exact ((BG.out.setCell (p := ⟨w.heap.size + 2, 0, none⟩) (by show _ ≤ w.heap.size + 2; omega) _).setCell (p := ⟨w.heap.size + 3, 0, none⟩) (by show _ ≤ w.heap.size + 3; omega) _).trans (hk3.below (by have := BG.out.size; simp; omega) fun j hj => by have := HDL.out; simp; omega)
      case stop =>
        rintro D W hD hX hdef
        have HX := Lib.hid hX
        have HDF := Lib.hid hdef
        have HDL : Hid (w.heap.size + 4 ≤ D) := by have := HSP.out; have := HST.out; show _ ≤ _; omega
        clear hD hX hdef
        unfold jumpC mkMark
        gi_wp2_with fail
        have hmk : MarksAt w.heap.size (fun _ => False) [D] W := ⟨by simp, fun E hE => by rw [List.mem_singleton] at hE; subst hE; exact ⟨by have := HDL.out; omega, id, HDF.out⟩⟩
        refine leaves_marks [D] _ hmk fun w' hk3 => ?_
        have r4 := (hk3.blk HX.out.b4 (by have := HDL.out; simp; omega)).cell 0
        have r5 := (hk3.blk HX.out.b5 (by have := HDL.out; simp; omega)).cell 0
        obtain ⟨s, hs, hn⟩ := HX.out.no
        exact ⟨.tuple #[.slice none 0 0, .int .i64 4], by simp [results, Try.results20, go_sem, r4, r5], MoveIs.err (move_none HGA.out HGB.out hs hn) (by decide) (HX.out.below.trans (hk3.below HX.out.below.size fun j hj => by have := HDL.out; simp; omega))⟩
end Go.Proofs.Ythamkpmbfefpfaa
