/- Layer names: what the table may be, and the numbers of its names (opened): contract. -/
import Derived.Test.YthamkpmbfefpfaaNd
namespace Go.Proofs.Ythamkpmbfefpfaa
open Go.RowKit Go.Shelf Go.Maps
attribute [local go_sem] Oper.semAt_some

theorem run_store_funcN {P : Program} {w : World} {a : Addr} {m : Mode} (fn : Fn) (first captured : Array Value) : (store a (.func fn first captured) m).run P w = stored P w a (.func fn first captured) m := run_store P w a _ m rfl
attribute [local go_sem] run_store_funcN

theorem nbox (w : World) (a : Array Value) (ta : TypeId) : Blk (w.alloc (.cells a ta)) w.heap.size ta a ∧ Below w.heap.size w (w.alloc (.cells a ta)) ∧ (w.alloc (.cells a ta)).heap.size = w.heap.size + 1 :=
  ⟨Blk.new _ _ _, (Below.refl _ _).alloc (Nat.le_refl _) _, by simp⟩
theorem ntwo (w : World) (a b : Array Value) (ta tb : TypeId) : Blk ((w.alloc (.cells a ta)).alloc (.cells b tb)) w.heap.size ta a ∧ Blk ((w.alloc (.cells a ta)).alloc (.cells b tb)) (w.heap.size + 1) tb b ∧ Below w.heap.size w ((w.alloc (.cells a ta)).alloc (.cells b tb)) ∧ ((w.alloc (.cells a ta)).alloc (.cells b tb)).heap.size = w.heap.size + 2 := by
  obtain ⟨k, b0, hs⟩ := nbox w a ta
  obtain ⟨k1, b1, hs1⟩ := nbox (w.alloc (.cells a ta)) b tb
  rw [hs] at k1
  exact ⟨k.alloc _, k1, b0.trans (b1.mono b0.size), by rw [hs1, hs]⟩

/-- What opened gives. -/
def OpenIs (ns : List ByteArray) (w : World) (e : Ending) (w' : World) : Prop :=
  ∃ Bn M : Nat, e = .returned (.tuple #[.func (.func 39) #[] #[.pointer (some ⟨Bn, 0, none⟩)], .int .i64 (fineE nameB ns)]) ∧ (goodB nameB ns = true → NumAt Bn M ns w') ∧ w.heap.size ≤ Bn ∧ w.heap.size ≤ M ∧ Below w.heap.size w w'

/-- What is so while a table is gone through. -/
structure OpI (ns : List ByteArray) (Bn M B4 B5 : Nat) (w : World) (cs : List (Nat × ByteArray)) (C : Nat → Prop) (X : World) : Prop where
  cM : C = fun k => k = M
  num : NumAt Bn M (ns.take cs.length) X
  good : GoodTo nameB ns cs.length
  b4 : Blk X B4 57 #[.func (.func 39) #[] #[.pointer (some ⟨Bn, 0, none⟩)]]
  b5 : Blk X B5 29 #[.int .i64 0]
  below : Below w.heap.size w X
structure OpX (ns : List ByteArray) (Bn B4 B5 : Nat) (w : World) (X : World) : Prop where
  bad : goodB nameB ns = false
  b4 : Blk X B4 57 #[.func (.func 39) #[] #[.pointer (some ⟨Bn, 0, none⟩)]]
  b5 : Blk X B5 29 #[.int .i64 201]
  below : Below w.heap.size w X

set_option maxRecDepth 100000 in
set_option maxHeartbeats 8000000 in
theorem opened_any (A : Option Addr) (n c : Nat) (ns : List ByteArray) (hn : n ≤ 1000) (hss : ∀ s ∈ ns, s.size ≤ 9223372036854775807) (w : World) (hR : Reads w w.heap.size 1 A n (strs ns)) :
    Calls Try.prog 27 #[.agg #[.slice A n c]] w (OpenIs ns w) := by
  have HL := Lib.hid (strs_len hR)
  have BX := Lib.hid (Blk.new w 24 #[.slice A n c])
  have B0 : Hid (Below w.heap.size w (w.alloc (.cells #[.slice A n c] 24))) := (Below.refl _ _).alloc (Nat.le_refl _) _
  have HR := Lib.hid hR
  have HSS := Lib.hid hss
  clear hR hss
  refine (callsIn_wide (n := 6)).1 (callsIn_of_wp_marks Try.func27 rfl trivial ?_ rfl)
  simp only [Try.ntmps27, List.size_toArray, List.length_cons, List.length_nil, Nat.reduceAdd, Nat.reduceSub, Array.replicate_succ, Array.replicate_zero, List.push_toArray, List.append_toArray, List.nil_append, List.cons_append]
  gi_wp2_with fail
  obtain ⟨Ba, hBa⟩ : ∃ Ba, Ba = w.heap.size := ⟨_, rfl⟩
  have HSZ : Hid ((w.alloc (.cells #[.slice A n c] 24)).heap.size = w.heap.size + 1) := by show _ = _; simp
  generalize w.alloc (.cells #[.slice A n c] 24) = W0 at *
  refine wpIn_wide.2 (wp_scope_straight ((wpIn_wide (n := 6)).1 ?_))
  gi_wp2_with fail
  refine ⟨trivial, (callsIn_wide.2 (numbering_any W0)).mono ?_⟩
  rintro e w1 ⟨Bn, M, rfl, hnum, hbn, hm, b⟩
  have N1 := Lib.hid hnum
  have BB1 := Lib.hid b
  have HBM := Lib.hid (And.intro hbn hm)
  clear hnum b hbn hm
  gi_wp2_with fail
  refine wpIn_label ?_
  obtain ⟨k4, k5, b2, hs2⟩ := ntwo w1 #[.func (.func 39) #[] #[.pointer (some ⟨Bn, 0, none⟩)]] #[.int .i64 0] 57 29
  have B1 : Hid (Below w.heap.size w w1) := B0.out.trans (BB1.out.mono B0.out.size)
  have z0 := ((BX.out.below BB1.out BX.out.lt).below b2 (Nat.lt_of_lt_of_le BX.out.lt BB1.out.size)).cell 0
  have K4 := Lib.hid k4
  have K5 := Lib.hid k5
  have N2 := Lib.hid (N1.out.on b2)
  have B2 : Hid (Below w.heap.size w ((w1.alloc (.cells #[.func (.func 39) #[] #[.pointer (some ⟨Bn, 0, none⟩)]] 57)).alloc (.cells #[.int .i64 0] 29))) := B1.out.trans (b2.mono B1.out.size)
  have HS2 : Hid (w.heap.size < w1.heap.size ∧ ((w1.alloc (.cells #[.func (.func 39) #[] #[.pointer (some ⟨Bn, 0, none⟩)]] 57)).alloc (.cells #[.int .i64 0] 29)).heap.size = w1.heap.size + 2 ∧ M < w1.heap.size ∧ w.heap.size ≤ Bn ∧ w.heap.size ≤ M) := by
    have h1 := BB1.out.size
    have h2 := HSZ.out
    have h3 := N1.out.lt
    have h4 := HBM.out
    refine ⟨?_, hs2, ?_, ?_, ?_⟩ <;> omega
  clear k4 k5 b2 hs2 BX B0 HSZ N1 BB1 HBM B1
  generalize (w1.alloc (.cells #[.func (.func 39) #[] #[.pointer (some ⟨Bn, 0, none⟩)]] 57)).alloc (.cells #[.int .i64 0] 29) = W1 at *
  clear hBa
  obtain ⟨B4, hB4⟩ : ∃ B4, B4 = w1.heap.size := ⟨_, rfl⟩
  rw [← hB4] at K4 K5 HS2 ⊢
  clear hB4 w1
  gi_wp2_with fail
  refine ⟨trivial, (callsIn_wide.2 (numbered_any A n c W1)).mono ?_⟩
  rintro e w2 ⟨rfl, rfl⟩
  obtain ⟨kt, bt, hst⟩ := nbox W1 #[.slice A n c] 24
  have KT := Lib.hid kt
  have K4 := Lib.hid (K4.out.alloc (.cells #[.slice A n c] 24))
  have K5 := Lib.hid (K5.out.alloc (.cells #[.slice A n c] 24))
  have N2 := Lib.hid (N2.out.on bt)
  have B2 := Lib.hid (B2.out.trans (bt.mono B2.out.size))
  have HST := Lib.hid hst
  clear z0 kt bt hst
  generalize W1.alloc (.cells #[.slice A n c] 24) = W2 at *
  gi_wp2_with fail
  obtain ⟨Bt, hBt⟩ : ∃ Bt, Bt = W1.heap.size := ⟨_, rfl⟩
  rw [← hBt] at KT HST HS2 ⊢
  clear hBt
  have HSEQ := Lib.hid (numbered_seq 5 (fun k => k < w.heap.size ∨ k = Bt) w.heap.size Bt A n c ns (by omega) W2 (HR.out.below B2.out) B2.out.size KT.out (fun k h => .inl h) (.inr rfl) (fun k h => by have := B2.out.size; have := HST.out; omega))
  refine range_pair (some 0) (by omega) (gf := 38) (lb := #[.pointer (some ⟨Bt, 0, none⟩)]) rfl eg_numbered (ex := toldI) (ey := toldS) (Ok := ToldOk ns) (End := fun cs => cs = told ns n) (S := fun k => k < w.heap.size ∨ k = Bt) (w1 := W2) HSEQ.out (Keep.refl _ _) (fun k h => by have := B2.out.size; have := HST.out; omega) 11 12 6 7 rfl ToldOk.below ToldOk.loop
    (OpI ns Bn M B4 (B4 + 1) w) (OpX ns Bn B4 (B4 + 1) w) (fun k => k = M) (fun k hk => by have := HS2.out; have := HST.out; omega) ⟨rfl, N2.out, GoodTo.zero, K4.out, K5.out, B2.out⟩ ?hI ?hIx ?assign ?body ?done ?stop
  case hI =>
    rintro cs C X Y h hk
    have hsz := HST.out
    have hs2 := HS2.out
    have hsb := B2.out.size
    exact ⟨h.cM, h.num.keep hk (.inl (by have := N2.out.lt; omega)) (.inl (by omega)), h.good, hk.blk h.b4 (.inl (by omega)), hk.blk h.b5 (.inl (by omega)), h.below.trans (hk.below h.below.size fun j hj => .inl (by omega))⟩
  case hIx =>
    rintro X Y h hk
    have hsz := HST.out
    have hs2 := HS2.out
    have hsb := B2.out.size
    exact ⟨h.bad, hk.blk h.b4 ⟨by omega, by omega⟩, hk.blk h.b5 ⟨by omega, by omega⟩, h.below.trans (hk.below h.below.size fun j hj => ⟨by omega, by omega⟩)⟩
  case assign =>
    intro l c W K hK
    simp only [List.setIfInBounds_toArray, List.set_cons_zero, List.set_cons_succ] at hK ⊢
    gi_wp2_with fail
    exact hK
  case body =>
    intro l cs c2 C X hI hok hCk hsz hlk
    obtain ⟨k, s, hs, rfl, rfl⟩ := hok.inv
    have HI := Lib.hid hI
    have hlen := told_len ns k
    have HLN := Lib.hid hlen
    have HS := Lib.hid hs
    have HSZ := Lib.hid hsz
    have HSS1 := HSS.out s (List.mem_of_getElem? hs)
    have HCM := Lib.hid hI.cM
    simp only [toldI, toldS]
    simp only [List.setIfInBounds_toArray, List.set_cons_zero, List.set_cons_succ]
    have hk1000 : k < 1000 := by have := (List.getElem?_eq_some_iff.1 hs).1; have := HL.out; omega
    have f5 := hI.b5.frozen 0
    have c5 := hI.b5.cell 0
    clear hI hok hCk hsz hlk hs hlen
    have HXK : Hid (∀ X', Keep (fun j => j ≠ M) X X' → goodB nameB ns = false → OnePost (some 0) W2.heap.size C (OpI ns Bn M B4 (B4 + 1) w) (OpX ns Bn B4 (B4 + 1) w) (told ns k ++ [(k, s)]) X (.exit 0) ⟨#[], []⟩ (X'.setCell ⟨B4 + 1, 0, none⟩ (.int .i64 201))) := by
      intro X' hk hg
      have hst := HST.out
      have hs2 := HS2.out
      have hb := HI.out.below.size
      have h5 := HI.out.b5.lt
      refine .inr ⟨rfl, ?_, hg, ?_, ?_, ?_⟩
      · exact (hk.mono fun j _ hj => by rw [HCM.out] at hj; exact hj.2).set (.inr fun h => by omega) _ _
      · exact (hk.blk HI.out.b4 (by omega)).far (p := ⟨B4 + 1, 0, none⟩) (by show B4 ≠ B4 + 1; omega) _
      · have := (hk.blk HI.out.b5 (by omega)).set_ 0 (.int .i64 201)
        simpa using this
      · exact (HI.out.below.trans (hk.below hb fun j hj => by omega)).setCell (p := ⟨B4 + 1, 0, none⟩) (by show _ ≤ B4 + 1; omega) _
    by_cases h300 : k = 300
    · subst h300
      have HX := Lib.hid (HXK.out X (Keep.refl _ _) (not_good_long HS.out))
      clear HXK
      gi_wp2_with fail
      exact HX.out
    · have hb3 : ((k : Int) == 300) = false := by simp; omega
      have HK3 := Lib.hid h300
      have HCH := Lib.hid (check_any s HSS1 X)
      clear h300
      cases hnm : nameB s
      · rw [chk_no hnm] at HCH
        have HG := Lib.hid (not_good_name HS.out hnm)
        clear hnm
        gi_wp2_with fail
        refine ⟨trivial, ((callsIn_wide.2 HCH.out).inRound l).mono ?_⟩
        rintro e X2 ⟨rfl, b2⟩
        have f52 := ((HI.out.b5.below b2 HI.out.b5.lt)).frozen 0
        have c52 := ((HI.out.b5.below b2 HI.out.b5.lt)).cell 0
        have HX := Lib.hid (HXK.out X2 (Keep.of_all _ b2) HG.out)
        clear HXK b2 f5 c5
        gi_wp2_with fail
        exact HX.out
      · rw [chk_ok hnm] at HCH
        have HNM := Lib.hid hnm
        clear hnm
        gi_wp2_with fail
        refine ⟨trivial, ((callsIn_wide.2 HCH.out).inRound l).mono ?_⟩
        rintro e X2 ⟨rfl, b2⟩
        have c42 := ((HI.out.b4.below b2 HI.out.b4.lt)).cell 0
        have HB2 := Lib.hid b2
        have hnum := HI.out.num.on b2
        rw [HLN.out] at hnum
        have hlt : (ns.take k).length = k := by rw [List.length_take]; have := (List.getElem?_eq_some_iff.1 HS.out).1; omega
        have HNU := Lib.hid (number_any Bn M (ns.take k) s HSS1 (by omega) X2 hnum)
        clear f5 c5 b2 hnum
        by_cases hm : s ∈ ns.take k
        · have hi := idx_lt hm
          have hne : ((idxN (ns.take k) s : Int) != (k : Int)) = true := by simp; omega
          have HG := Lib.hid (not_good_twice (p := nameB) HS.out hm)
          clear hm
          gi_wp2_with fail
          refine ⟨trivial, ((callsIn_wide.2 HNU.out).inRound l).mono ?_⟩
          rintro e X3 ⟨rfl, _, hk⟩
          have hs2 := HS2.out
          have hst := HST.out
          have h5 := hk.blk (HI.out.b5.below HB2.out HI.out.b5.lt) (by omega)
          have f53 := h5.frozen 0
          have c53 := h5.cell 0
          have HX := Lib.hid (HXK.out X3 ((Keep.of_all _ HB2.out).trans hk) HG.out)
          clear HXK hk h5 hs2 hst c42
          gi_wp2_with fail
          exact HX.out
        · have hi := idx_out hm
          rw [hlt] at hi
          have hne : ((idxN (ns.take k) s : Int) != (k : Int)) = false := by simp; omega
          have HA := Lib.hid (add_out hm)
          have HGT := Lib.hid ((by have := HI.out.good; rw [HLN.out] at this; exact this : GoodTo nameB ns k).step HS.out HK3.out HNM.out hm)
          clear hm hi HXK
          gi_wp2_with fail
          refine ⟨trivial, ((callsIn_wide.2 HNU.out).inRound l).mono ?_⟩
          rintro e X3 ⟨rfl, hn3, hk⟩
          rw [HA.out, ← take_snoc HS.out] at hn3
          have hs2 := HS2.out
          have hst := HST.out
          have HX : Hid (OnePost (some 0) W2.heap.size C (OpI ns Bn M B4 (B4 + 1) w) (OpX ns Bn B4 (B4 + 1) w) (told ns k ++ [(k, s)]) X .normal ⟨#[], []⟩ X3) := by
            have hkk : Keep (fun j => j ≠ M) X X3 := (Keep.of_all _ HB2.out).trans hk
            have hl : (told ns k ++ [(k, s)]).length = k + 1 := by rw [List.length_append, HLN.out]; rfl
            refine .inl ⟨C, fun j hj => ?_, hkk.mono fun j _ hj => by rw [HCM.out] at hj; exact hj, rfl, HCM.out, by rw [hl]; exact hn3, by rw [hl]; exact HGT.out, hkk.blk HI.out.b4 (by omega), hkk.blk HI.out.b5 (by omega), HI.out.below.trans (hkk.below HI.out.below.size fun j hj => by omega)⟩
            have hC2 : j = M := by rw [HCM.out] at hj; exact hj
            have := hn3.lt
            exact ⟨by omega, .inl hj⟩
          clear hk hs2 hst hn3 c42
          gi_wp2_with fail
          exact HX.out
  case done =>
    rintro cs C D W hD rfl hI hdef
    have q4 := hI.b4.cell 0
    have q5 := hI.b5.cell 0
    have hg := hI.good
    have hnm := hI.num
    rw [told_len] at hg hnm
    rw [← HL.out] at hg hnm
    rw [List.take_length] at hnm
    have HG := Lib.hid hg.all
    have HNM := Lib.hid hnm
    have HB := Lib.hid hI.below
    have HDF := Lib.hid hdef
    have HDL : Hid (M < D ∧ Bn < D ∧ w.heap.size ≤ D) := by have := HS2.out; have := N2.out.lt; have := B2.out.size; show _ ∧ _; omega
    clear hD hI hdef hg hnm
    unfold mkMark
    gi_wp2
    gi_region
    all_goals gi_wp2
    all_goals rw [Exit.noGoto_ret]
    have hmk : MarksAt w.heap.size (fun _ => False) [D] W.drew := ⟨by simp, fun E hE => by rw [List.mem_singleton] at hE; subst hE; exact ⟨HDL.out.2.2, id, HDF.out⟩⟩
    refine leaves_marks [D] _ hmk fun w' hk => ?_
    refine ⟨.tuple #[.func (.func 39) #[] #[.pointer (some ⟨Bn, 0, none⟩)], .int .i64 0], by simp [results, Try.results27, go_sem], Bn, M, by rw [fine_ok HG.out], fun _ => ?_, HS2.out.2.2.2.1, HS2.out.2.2.2.2, ?_⟩
    · exact NumAt.keep (W := W.drew) (NumAt.on HNM.out ((Below.refl _ _).drew)) hk (by have := HDL.out; simp; omega) (by have := HDL.out; simp; omega)
    · exact HB.out.drew.trans (hk.below HB.out.size fun j hj => by have := HDL.out; simp; omega)
  case stop =>
    rintro D W hD hX hdef
    have q4 := hX.b4.cell 0
    have q5 := hX.b5.cell 0
    have HX := Lib.hid hX
    have HDF := Lib.hid hdef
    have HDL : Hid (w.heap.size ≤ D) := by have := B2.out.size; show _ ≤ _; omega
    clear hD hX hdef
    show Code.wpIn _ _ _ (Code.exit 0) _ _ _
    unfold mkMark
    gi_wp2
    gi_region
    all_goals gi_wp2
    all_goals rw [Exit.noGoto_ret]
    have hmk : MarksAt w.heap.size (fun _ => False) [D] W.drew := ⟨by simp, fun E hE => by rw [List.mem_singleton] at hE; subst hE; exact ⟨HDL.out, id, HDF.out⟩⟩
    refine leaves_marks [D] _ hmk fun w' hk => ?_
    refine ⟨.tuple #[.func (.func 39) #[] #[.pointer (some ⟨Bn, 0, none⟩)], .int .i64 201], by simp [results, Try.results27, go_sem], Bn, M, by rw [fine_no HX.out.bad], fun hg => ?_, HS2.out.2.2.2.1, HS2.out.2.2.2.2, ?_⟩
    · rw [HX.out.bad] at hg
      cases hg
    · exact HX.out.below.drew.trans (hk.below HX.out.below.size fun j hj => by have := HDL.out; simp; omega)
end Go.Proofs.Ythamkpmbfefpfaa
