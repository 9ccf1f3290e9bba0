/- Layer names: put: contract. -/
import Derived.Test.YthamkpmbfefpfaaNg
import Derived.Deep.RegionHeld3
namespace Go.Proofs.Ythamkpmbfefpfaa
open Go.RowKit Go.Shelf Go.Maps
attribute [local go_sem] Oper.semAt_some

/-- What put gives. -/
def putsE (ns l : List ByteArray) : Int := if goodB nameB ns = true then allE nameB ns l else 201
def PutIs (ns l : List ByteArray) (w : World) (e : Ending) (w' : World) : Prop :=
  ∃ (A : Option Addr) (n c : Nat) (R : Option Addr) (m d : Nat) (ns' : List ByteArray) (zs : List Int), e = .returned (.tuple #[.agg #[.slice A n c], .slice R m d, .int .i64 (putsE ns l)]) ∧ w'.ownsRow w.heap.size 9 1 (.slice A n c) n (strs ns') ∧ w'.ownsRow w.heap.size 3 1 (.slice R m d) m (ints zs) ∧
    (putsE ns l = 0 → ns' = addsN ns l ∧ zs = allN ns l) ∧ (putsE ns l ≠ 0 → ns' = [] ∧ zs = []) ∧ Below w.heap.size w w'
theorem PutIs.err {ns l : List ByteArray} {w w' : World} {k : Int} (h : putsE ns l = k) (hk : k ≠ 0) (hb : Below w.heap.size w w') : PutIs ns l w (.returned (.tuple #[.agg #[.slice none 0 0], .slice none 0 0, .int .i64 k])) w' :=
  ⟨none, 0, 0, none, 0, 0, [], [], by rw [h], World.ownsRow_nil _ _ _ _, World.ownsRow_nil _ _ _ _, fun e => absurd (h.symm.trans e) hk, fun _ => ⟨rfl, rfl⟩, hb⟩
theorem row_next (us l : List ByteArray) (s : ByteArray) (i m : Nat) (hs : l[i]? = some s) (hl : l.length = m) :
    (allN us (l.take i) ++ List.replicate (m - i) 0).set i (idxN (addsN us (l.take i)) s : Int) = allN us (l.take (i + 1)) ++ List.replicate (m - (i + 1)) 0 := by
  have hi := (List.getElem?_eq_some_iff.1 hs).1
  have h1 : (allN us (l.take i)).length = i := by rw [allN_len, List.length_take]; omega
  rw [take_snoc hs, allN_snoc, List.set_append_right _ _ (by omega), h1, Nat.sub_self, show m - i = (m - (i + 1)) + 1 by omega, List.replicate_succ, List.set_cons_zero, List.append_assoc]
  rfl
theorem row_at (us l : List ByteArray) (s : ByteArray) (i m : Nat) (hs : l[i]? = some s) : (allN us (l.take (i + 1)) ++ List.replicate (m - (i + 1)) 0)[i]? = some (idxN (addsN us (l.take i)) s : Int) := by
  have hi := (List.getElem?_eq_some_iff.1 hs).1
  have h1 : (allN us (l.take i)).length = i := by rw [allN_len, List.length_take]; omega
  rw [take_snoc hs, allN_snoc, List.append_assoc, List.getElem?_append_right (by omega), h1, Nat.sub_self]
  rfl

/-- While the table is copied. -/
def PutR (ns : List ByteArray) (N Bm : Nat) (W2 : World) (cs : List (Nat × ByteArray)) (C : Nat → Prop) (X : World) : Prop :=
  ∃ (A : Option Addr) (m c : Nat), C = (fun j => j = Bm ∨ (Value.slice A m c).ownBlock = some j) ∧ MoreAt N Bm A m c (ns.take cs.length) X ∧ Keep (fun j => j < Bm) W2 X

set_option maxRecDepth 100000 in
set_option maxHeartbeats 16000000 in
theorem put_any (A : Option Addr) (n c : Nat) (ns : List ByteArray) (hn : n ≤ 1000) (hss : ∀ s ∈ ns, s.size ≤ 9223372036854775807) (L : Option Addr) (nl cl : Nat) (ls : List ByteArray) (hnl : nl ≤ 1000) (hsl : ∀ s ∈ ls, s.size ≤ 9223372036854775807)
    (w : World) (hR : Reads w w.heap.size 1 A n (strs ns)) (hRL : Reads w w.heap.size 1 L nl (strs ls)) :
    Calls Try.prog 33 #[.agg #[.slice A n c], .slice L nl cl] w (PutIs ns ls w) := by
  obtain ⟨i0, hi, hz0, hz1, hz2⟩ := info_parts str_info
  obtain ⟨ka, kr, b0, hs0⟩ := ntwo w #[.slice A n c] #[.slice none 0 0] 24 24
  have HO := Lib.hid (opened_any A n c ns hn hss _ (hR.on_ b0))
  have HL := Lib.hid (strs_len hR)
  have HLL := Lib.hid (strs_len hRL)
  have HR := Lib.hid hR
  have HRL := Lib.hid hRL
  have HSL := Lib.hid hsl
  have KA := Lib.hid ka
  have KR := Lib.hid kr
  have B0 := Lib.hid b0
  have HS0 := Lib.hid hs0
  have z0 := ka.cell 0
  have y0 := kr.cell 0
  have f0 := kr.frozen 0
  clear hR hRL hss hsl ka kr b0 hs0
  refine (callsIn_wide (n := 6)).1 (callsIn_of_wp_marks Try.func33 rfl trivial ?_ rfl)
  simp only [Try.ntmps33, List.size_toArray, List.length_cons, List.length_nil, Nat.reduceAdd, Nat.reduceSub, Array.replicate_succ, Array.replicate_zero, List.push_toArray, List.append_toArray, List.nil_append, List.cons_append]
  gi_upto_region 1 with fail
  generalize (w.alloc (.cells #[.slice A n c] 24)).alloc (.cells #[.slice none 0 0] 24) = W0 at *
  gi_wp2_with fail
  refine ⟨trivial, (callsIn_wide.2 HO.out).mono ?_⟩
  rintro e w1 ⟨Bn, M, rfl, hnum, hB, hM, b1⟩
  have KA1 := Lib.hid (KA.out.below b1 KA.out.lt)
  have KR1 := Lib.hid (KR.out.below b1 KR.out.lt)
  have B1 : Hid (Below w.heap.size w w1) := B0.out.trans (b1.mono B0.out.size)
  have HNUM := Lib.hid hnum
  have HBM : Hid (w.heap.size + 2 ≤ Bn ∧ w.heap.size + 2 ≤ M ∧ w.heap.size + 2 ≤ w1.heap.size) := by have := HS0.out; have := b1.size; show _ ∧ _; omega
  clear z0 y0 f0 hnum hB hM b1 HO KA KR B0 HS0
  have z1 := KA1.out.cell 0
  have y1 := KR1.out.cell 0
  have f1 := KR1.out.frozen 0
  cases hg : goodB nameB ns
  · have HE : Hid (putsE ns ls = 201) := by show putsE ns ls = _; unfold putsE; rw [hg]; rfl
    rw [fine_no hg]
    clear hg
    gi_wp2_with fail
    have kf : Blk (w1.setCell ⟨w.heap.size + 1, 0, none⟩ (.slice none 0 0)) (w.heap.size + 1) 24 #[.slice none 0 0] := by
      have := KR1.out.set_ 0 (.slice none 0 0)
      simpa using this
    have r1 := kf.cell 0
    exact ⟨.tuple #[.agg #[.slice none 0 0], .slice none 0 0, .int .i64 201], by simp [results, Try.results33, go_sem, r1], PutIs.err HE.out (by decide) (B1.out.setCell (p := ⟨w.heap.size + 1, 0, none⟩) (Nat.le_succ _) _)⟩
  · rw [fine_ok hg]
    have HG := Lib.hid hg
    have N1 := Lib.hid (HNUM.out hg)
    have HE : Hid (putsE ns ls = allE nameB ns ls) := by show putsE ns ls = _; unfold putsE; rw [if_pos hg]
    clear hg HNUM y1 f1
    obtain ⟨km, kt, b2, hs2⟩ := ntwo w1 #[.slice none 0 0] #[.slice A n c] 24 24
    have zz := (KA1.out.alloc (.cells #[.slice none 0 0] 24)).cell 0
    have KM := Lib.hid km
    have KT := Lib.hid kt
    have B2 : Hid (Below w.heap.size w ((w1.alloc (.cells #[.slice none 0 0] 24)).alloc (.cells #[.slice A n c] 24))) := B1.out.trans (b2.mono B1.out.size)
    have N2 := Lib.hid (N1.out.on b2)
    have KR2 := Lib.hid (KR1.out.below b2 KR1.out.lt)
    have HS2 : Hid (w.heap.size + 2 ≤ w1.heap.size ∧ M < w1.heap.size ∧ Bn < w1.heap.size ∧ w.heap.size + 2 ≤ M) := by have := N1.out.lt; have := HBM.out; show _ ∧ _; omega
    have HST := Lib.hid hs2
    clear km kt b2 hs2 N1 KR1 KA1 B1 HBM
    gi_wp2_with fail
    refine ⟨trivial, (callsIn_wide.2 (numbered_any A n c _)).mono ?_⟩
    rintro e w2 ⟨rfl, rfl⟩
    clear z1 zz
    have hsz : (w1.alloc (.cells #[.slice none 0 0] 24)).heap.size = w1.heap.size + 1 := by simp
    rw [hsz]
    clear hsz
    generalize (w1.alloc (.cells #[.slice none 0 0] 24)).alloc (.cells #[.slice A n c] 24) = W2 at *
    obtain ⟨Bm, hBm⟩ : ∃ Bm, Bm = w1.heap.size := ⟨_, rfl⟩
    rw [← hBm] at KM KT HST HS2 ⊢
    clear hBm
    gi_wp2_with fail
    have HSEQ := Lib.hid (numbered_seq 5 (fun k => k < w.heap.size ∨ k = Bm + 1) w.heap.size (Bm + 1) A n c ns (by omega) W2 (HR.out.below B2.out) B2.out.size KT.out (fun k h => .inl h) (.inr rfl) (fun k h => by have := B2.out.size; have := HST.out; omega))
    refine range_pair none (by omega) (gf := 38) (lb := #[.pointer (some ⟨Bm + 1, 0, none⟩)]) rfl eg_numbered (ex := toldI) (ey := toldS) (Ok := ToldOk ns) (End := fun cs => cs = told ns n) (S := fun k => k < w.heap.size ∨ k = Bm + 1) (w1 := W2) HSEQ.out (Keep.refl _ _) (fun k h => by have := B2.out.size; have := HST.out; omega) 27 28 11 11 rfl ToldOk.below ToldOk.loop
      (PutR ns W2.heap.size Bm W2) (fun _ => False) (fun j => j = Bm ∨ (Value.slice none 0 0).ownBlock = some j) (fun k hk => by
        have := HS2.out
        have := HST.out
        rcases hk with rfl | hk
        · omega
        · cases hk) ⟨none, 0, 0, rfl, ⟨KM.out, World.ownsRow_nil _ _ _ _⟩, Keep.refl _ _⟩ ?hI (fun _ _ h _ => h) ?assign ?body ?done (fun _ _ _ h _ => h.elim)
    case hI =>
      rintro cs C X Y ⟨A1, m1, c1, rfl, h1, h2⟩ hk
      exact ⟨A1, m1, c1, rfl, h1.keep hk (.inr (.inl rfl)) fun g hg => .inr (.inr hg), h2.trans (hk.mono fun j _ hj => .inl (by have := HST.out; omega))⟩
    case assign =>
      intro l c W K hK
      simp only [List.setIfInBounds_toArray, List.set_cons_zero, List.set_cons_succ] at hK ⊢
      gi_wp2_with fail
      exact hK
    case body =>
      rintro l cs c2 C X ⟨A1, m1, c1, rfl, hm1, hk1⟩ hok hCk hsz hlk
      obtain ⟨k, s, hs, rfl, rfl⟩ := hok.inv
      rw [told_len] at hm1
      have M1 := Lib.hid hm1
      have HK1 := Lib.hid hk1
      have HS := Lib.hid hs
      have HSZ : Hid (W2.heap.size ≤ X.heap.size) := hsz
      have hmk : m1 ≤ 1000 := by have h1 := hm1.len; have h2 := HL.out; rw [List.length_take] at h1; omega
      have HSC := Lib.hid fun W => sclone_any s (by have := name_size ((good_iff.1 HG.out).2.2 s (List.mem_of_getElem? hs)); omega) W
      simp only [toldI, toldS]
      simp only [List.setIfInBounds_toArray, List.set_cons_zero, List.set_cons_succ]
      clear hok hCk hsz hlk hs hm1 hk1
      gi_upto_region 7 with fail
      refine region_round (S := fun _ => True) (by kernel_rfl) (by kernel_rfl) trivial (fun hHeld => ?_)
      have MR0 := Lib.hid (M1.out.on ((Below.refl _ X).drew))
      have KK0 := Lib.hid ((Keep.refl (fun j => j ≠ Bm ∧ (Value.slice A1 m1 c1).ownBlock ≠ some j) X).drew)
      generalize X.drew = wd at *
      refine wpAnyH_take (i := 0) (oi := { dst := some 29, op := Op.fieldAddr 24 (Operand.tmp 9) 0, type := 0, pos := "table.go:56", after := #[], guard := none }) (v := .pointer (some ⟨Bm, 0, none⟩)) rfl (by kernel_rfl) (by kernel_rfl) (by kernel_rfl) (fun _ _ _ h => h) (Or.inl ⟨by kernel_rfl, fun w' hSw => by (try dsimp only at hSw); go_simp⟩) (by assumption) ?_
      try simp only [Act.put, List.setIfInBounds_toArray, List.set_cons_zero, List.set_cons_succ]
      refine wpAnyH_take (i := 2) (oi := { dst := some 31, op := Op.move (Operand.tmp 11), type := 9, pos := "table.go:56", after := #[], guard := none }) (v := .string s) rfl (by kernel_rfl) (by kernel_rfl) (by kernel_rfl) (fun _ _ _ h => h) (Or.inl ⟨by kernel_rfl, fun w' hSw => by (try dsimp only at hSw); go_simp⟩) (by assumption) ?_
      try simp only [Act.put, List.setIfInBounds_toArray, List.set_cons_zero, List.set_cons_succ]
      refine wpAnyH_ready (rs := [1, 3]) (by kernel_rfl) (by simp) ?_
      refine AllReadyH.cons (o := { dst := some 30, op := Op.load 22 (Operand.tmp 29), type := 22, pos := "table.go:56", after := #[{ on := 0, ground := Ground.data }], guard := none }) rfl (fun K hK => ?_) ?_
      · skip
        have m0 := MR0.out.blk.cell 0
        go_simp
        clear hHeld m0
        refine hK.out _ _ trivial (fun hHeld => ?_)
        clear hK K
        try simp only [Act.put, List.setIfInBounds_toArray, List.set_cons_zero, List.set_cons_succ]
        refine wpAnyH_ready (rs := [3]) (by kernel_rfl) (by simp) ?_
        refine AllReadyH.cons (o := { dst := some 32, op := Op.call { callee := Callee.value (Operand.func 32), args := #[Operand.tmp 31], argTypes := #[9] }, type := 9, pos := "table.go:56", after := #[{ on := 2, ground := Ground.data }], guard := none }) rfl (fun K hK => ?_) ?_
        · skip
          go_simp
          refine (HSC.out _).mono ?_
          rintro e u1 ⟨rfl, bb⟩
          have MR1 := Lib.hid (MR0.out.on bb)
          have KK1 := Lib.hid (KK0.out.trans (Keep.of_all _ bb))
          clear bb hHeld MR0 KK0
          refine hK.out _ _ trivial (fun hHeld => ?_)
          clear hK K
          try simp only [Act.put, List.setIfInBounds_toArray, List.set_cons_zero, List.set_cons_succ]
          refine wpAnyH_ready (rs := [4]) (by kernel_rfl) (by simp) ?_
          refine AllReadyH.cons (o := { dst := some 33, op := Op.buildSlice 22 1 #[(0, Operand.tmp 32)], type := 22, pos := "table.go:56", after := #[{ on := 3, ground := Ground.data }], guard := none }) rfl (fun K hK => ?_) ?_
          · skip
            go_simp
            have bb : Below u1.heap.size u1 (u1.alloc (.cells #[.string s] 9)) := (Below.refl _ _).alloc (Nat.le_refl _) _
            have MR2 := Lib.hid (MR1.out.on bb)
            have KK2 := Lib.hid (KK1.out.trans (Keep.of_all _ bb))
            have SL : Hid (Reads (u1.alloc (.cells #[.string s] 9)) (u1.alloc (.cells #[.string s] 9)).heap.size 1 (some ⟨u1.heap.size, 0, none⟩) 1 (strs [s])) := str_lit u1 [s] _ _ rfl
            clear bb hHeld MR1 KK1
            refine hK.out _ _ trivial (fun hHeld => ?_)
            clear hK K
            try simp only [Act.put, List.setIfInBounds_toArray, List.set_cons_zero, List.set_cons_succ]
            generalize u1.alloc (.cells #[.string s] 9) = u2 at *
            generalize u1.heap.size = XS at *
            refine wpAnyH_ready (rs := [5]) (by kernel_rfl) (by simp) ?_
            refine AllReadyH.cons (o := { dst := some 34, op := Op.call { callee := Callee.builtin Builtin.append, args := #[Operand.tmp 30, Operand.tmp 33], argTypes := #[22, 22] }, type := 22, pos := "table.go:56", after := #[{ on := 1, ground := Ground.data }, { on := 4, ground := Ground.data }, { on := 3, ground := Ground.chain }], guard := none }) rfl (fun K hK => ?_) ?_
            · skip
              refine step_append_any _ rfl (.tmp 30) (.tmp 33) 22 rfl W2.heap.size 9 i0 _ 1 16 Try.underlying22 hi hz0 hz1 hz2 rfl (by decide) (.slice A1 m1 c1) m1 _ rfl MR2.out.own _ (some ⟨XS, 0, none⟩) 1 _ (strs [s]) rfl SL.out (strs_one _) (by unfold maxLen; omega) (by omega) (Nat.le_trans HSZ.out KK2.out.size) ?_
              intro v5 u3 hown5 hgrow5 hat5
              obtain ⟨A5, c5, rfl, -, -⟩ := own_form2 hown5
              obtain ⟨hb5, hm5, hk5, hg5⟩ := MR2.out.grow KK2.out hown5 hgrow5 hat5
              have HB5 := Lib.hid hb5
              have HM5 := Lib.hid hm5
              have HK5 := Lib.hid hk5
              have HG5 := Lib.hid hg5
              clear hown5 hgrow5 hat5 hb5 hm5 hk5 hg5 hHeld MR2 KK2 SL
              refine hK.out _ _ trivial (fun hHeld => ?_)
              clear hK K
              try simp only [Act.put, List.setIfInBounds_toArray, List.set_cons_zero, List.set_cons_succ]
              refine wpAnyH_take (i := 6) (oi := { dst := some 35, op := Op.fieldAddr 24 (Operand.tmp 9) 0, type := 0, pos := "table.go:56", after := #[{ on := 0, ground := Ground.phase }, { on := 1, ground := Ground.phase }, { on := 2, ground := Ground.phase }, { on := 3, ground := Ground.phase }, { on := 4, ground := Ground.phase }, { on := 5, ground := Ground.phase }], guard := none }) (v := .pointer (some ⟨Bm, 0, none⟩)) rfl (by kernel_rfl) (by kernel_rfl) (by kernel_rfl) (fun _ _ _ h => h) (Or.inl ⟨by kernel_rfl, fun w' hSw => by (try dsimp only at hSw); go_simp⟩) (by assumption) ?_
              try simp only [Act.put, List.setIfInBounds_toArray, List.set_cons_zero, List.set_cons_succ]
              refine wpAnyH_ready (rs := [7]) (by kernel_rfl) (by simp) ?_
              refine AllReadyH.cons (o := { dst := none, op := Op.store 22 (Operand.tmp 35) (Operand.tmp 34), type := 0, pos := "table.go:56", after := #[{ on := 6, ground := Ground.data }, { on := 5, ground := Ground.data }, { on := 5, ground := Ground.chain }, { on := 0, ground := Ground.phase }, { on := 1, ground := Ground.phase }, { on := 2, ground := Ground.phase }, { on := 3, ground := Ground.phase }, { on := 4, ground := Ground.phase }, { on := 5, ground := Ground.phase }], guard := none }) rfl (fun K hK => ?_) ?_
              · skip
                have y0 := HB5.out.cell 0
                have f0 := HB5.out.frozen 0
                go_simp
                clear hHeld y0 f0
                refine hK.out _ _ trivial (fun hHeld => ?_)
                clear hK K
                try simp only [Act.put, List.setIfInBounds_toArray, List.set_cons_zero, List.set_cons_succ]
                generalize u3.setCell ⟨Bm, 0, none⟩ (.slice A5 (m1 + 1) c5) = uF at *
                refine wpAnyH_done (by kernel_rfl) ?_ _
                refine OnlyN.normal ?_
                have HT := Lib.hid (take_snoc HS.out)
                have HF : Hid (OnePost none W2.heap.size (fun j => j = Bm ∨ (Value.slice A1 m1 c1).ownBlock = some j) (PutR ns W2.heap.size Bm W2) (fun _ => False) (told ns k ++ [(k, s)]) X .normal ⟨#[], []⟩ uF) := by
                  refine .inl ⟨fun j => j = Bm ∨ (Value.slice A5 (m1 + 1) c5).ownBlock = some j, fun j hj => ?_, HK5.out.mono fun j _ hj => ⟨fun e => hj (.inl e), fun e => hj (.inr e)⟩, rfl, A5, m1 + 1, c5, rfl, ?_, HK1.out.trans (HK5.out.mono fun j _ hj => ⟨by omega, fun e => by have := (M1.out.own_lt e).1; have := HST.out; omega⟩)⟩
                  · have h1 := HM5.out.blk.lt
                    rcases hj with rfl | hj
                    · exact ⟨h1, .inl (.inl rfl)⟩
                    · exact ⟨(HM5.out.own_lt hj).2, (HG5.out j hj).elim (fun h => .inl (.inr h)) .inr⟩
                  · rw [List.length_append, told_len]
                    show MoreAt _ _ _ _ _ (ns.take (k + 1)) _
                    rw [HT.out]
                    exact HM5.out
                clear hHeld HM5 HK5 HG5 HB5
                gi_wp2_with fail
                exact HF.out
              exact AllReadyH.nil
            exact AllReadyH.nil
          exact AllReadyH.nil
        exact AllReadyH.nil
      refine AllReadyH.cons (o := { dst := some 32, op := Op.call { callee := Callee.value (Operand.func 32), args := #[Operand.tmp 31], argTypes := #[9] }, type := 9, pos := "table.go:56", after := #[{ on := 2, ground := Ground.data }], guard := none }) rfl (fun K hK => ?_) ?_
      · skip
        go_simp
        refine (HSC.out _).mono ?_
        rintro e u1 ⟨rfl, bb⟩
        have MR1 := Lib.hid (MR0.out.on bb)
        have KK1 := Lib.hid (KK0.out.trans (Keep.of_all _ bb))
        clear bb hHeld MR0 KK0
        refine hK.out _ _ trivial (fun hHeld => ?_)
        clear hK K
        try simp only [Act.put, List.setIfInBounds_toArray, List.set_cons_zero, List.set_cons_succ]
        refine wpAnyH_ready (rs := [1, 4]) (by kernel_rfl) (by simp) ?_
        refine AllReadyH.cons (o := { dst := some 30, op := Op.load 22 (Operand.tmp 29), type := 22, pos := "table.go:56", after := #[{ on := 0, ground := Ground.data }], guard := none }) rfl (fun K hK => ?_) ?_
        · skip
          have m0 := MR1.out.blk.cell 0
          go_simp
          clear hHeld m0
          refine hK.out _ _ trivial (fun hHeld => ?_)
          clear hK K
          try simp only [Act.put, List.setIfInBounds_toArray, List.set_cons_zero, List.set_cons_succ]
          refine wpAnyH_ready (rs := [4]) (by kernel_rfl) (by simp) ?_
          refine AllReadyH.cons (o := { dst := some 33, op := Op.buildSlice 22 1 #[(0, Operand.tmp 32)], type := 22, pos := "table.go:56", after := #[{ on := 3, ground := Ground.data }], guard := none }) rfl (fun K hK => ?_) ?_
          · skip
            go_simp
            have bb : Below u1.heap.size u1 (u1.alloc (.cells #[.string s] 9)) := (Below.refl _ _).alloc (Nat.le_refl _) _
            have MR2 := Lib.hid (MR1.out.on bb)
            have KK2 := Lib.hid (KK1.out.trans (Keep.of_all _ bb))
            have SL : Hid (Reads (u1.alloc (.cells #[.string s] 9)) (u1.alloc (.cells #[.string s] 9)).heap.size 1 (some ⟨u1.heap.size, 0, none⟩) 1 (strs [s])) := str_lit u1 [s] _ _ rfl
            clear bb hHeld MR1 KK1
            refine hK.out _ _ trivial (fun hHeld => ?_)
            clear hK K
            try simp only [Act.put, List.setIfInBounds_toArray, List.set_cons_zero, List.set_cons_succ]
            generalize u1.alloc (.cells #[.string s] 9) = u2 at *
            generalize u1.heap.size = XS at *
            refine wpAnyH_ready (rs := [5]) (by kernel_rfl) (by simp) ?_
            refine AllReadyH.cons (o := { dst := some 34, op := Op.call { callee := Callee.builtin Builtin.append, args := #[Operand.tmp 30, Operand.tmp 33], argTypes := #[22, 22] }, type := 22, pos := "table.go:56", after := #[{ on := 1, ground := Ground.data }, { on := 4, ground := Ground.data }, { on := 3, ground := Ground.chain }], guard := none }) rfl (fun K hK => ?_) ?_
            · skip
              refine step_append_any _ rfl (.tmp 30) (.tmp 33) 22 rfl W2.heap.size 9 i0 _ 1 16 Try.underlying22 hi hz0 hz1 hz2 rfl (by decide) (.slice A1 m1 c1) m1 _ rfl MR2.out.own _ (some ⟨XS, 0, none⟩) 1 _ (strs [s]) rfl SL.out (strs_one _) (by unfold maxLen; omega) (by omega) (Nat.le_trans HSZ.out KK2.out.size) ?_
              intro v5 u3 hown5 hgrow5 hat5
              obtain ⟨A5, c5, rfl, -, -⟩ := own_form2 hown5
              obtain ⟨hb5, hm5, hk5, hg5⟩ := MR2.out.grow KK2.out hown5 hgrow5 hat5
              have HB5 := Lib.hid hb5
              have HM5 := Lib.hid hm5
              have HK5 := Lib.hid hk5
              have HG5 := Lib.hid hg5
              clear hown5 hgrow5 hat5 hb5 hm5 hk5 hg5 hHeld MR2 KK2 SL
              refine hK.out _ _ trivial (fun hHeld => ?_)
              clear hK K
              try simp only [Act.put, List.setIfInBounds_toArray, List.set_cons_zero, List.set_cons_succ]
              refine wpAnyH_take (i := 6) (oi := { dst := some 35, op := Op.fieldAddr 24 (Operand.tmp 9) 0, type := 0, pos := "table.go:56", after := #[{ on := 0, ground := Ground.phase }, { on := 1, ground := Ground.phase }, { on := 2, ground := Ground.phase }, { on := 3, ground := Ground.phase }, { on := 4, ground := Ground.phase }, { on := 5, ground := Ground.phase }], guard := none }) (v := .pointer (some ⟨Bm, 0, none⟩)) rfl (by kernel_rfl) (by kernel_rfl) (by kernel_rfl) (fun _ _ _ h => h) (Or.inl ⟨by kernel_rfl, fun w' hSw => by (try dsimp only at hSw); go_simp⟩) (by assumption) ?_
              try simp only [Act.put, List.setIfInBounds_toArray, List.set_cons_zero, List.set_cons_succ]
              refine wpAnyH_ready (rs := [7]) (by kernel_rfl) (by simp) ?_
              refine AllReadyH.cons (o := { dst := none, op := Op.store 22 (Operand.tmp 35) (Operand.tmp 34), type := 0, pos := "table.go:56", after := #[{ on := 6, ground := Ground.data }, { on := 5, ground := Ground.data }, { on := 5, ground := Ground.chain }, { on := 0, ground := Ground.phase }, { on := 1, ground := Ground.phase }, { on := 2, ground := Ground.phase }, { on := 3, ground := Ground.phase }, { on := 4, ground := Ground.phase }, { on := 5, ground := Ground.phase }], guard := none }) rfl (fun K hK => ?_) ?_
              · skip
                have y0 := HB5.out.cell 0
                have f0 := HB5.out.frozen 0
                go_simp
                clear hHeld y0 f0
                refine hK.out _ _ trivial (fun hHeld => ?_)
                clear hK K
                try simp only [Act.put, List.setIfInBounds_toArray, List.set_cons_zero, List.set_cons_succ]
                generalize u3.setCell ⟨Bm, 0, none⟩ (.slice A5 (m1 + 1) c5) = uF at *
                refine wpAnyH_done (by kernel_rfl) ?_ _
                refine OnlyN.normal ?_
                have HT := Lib.hid (take_snoc HS.out)
                have HF : Hid (OnePost none W2.heap.size (fun j => j = Bm ∨ (Value.slice A1 m1 c1).ownBlock = some j) (PutR ns W2.heap.size Bm W2) (fun _ => False) (told ns k ++ [(k, s)]) X .normal ⟨#[], []⟩ uF) := by
                  refine .inl ⟨fun j => j = Bm ∨ (Value.slice A5 (m1 + 1) c5).ownBlock = some j, fun j hj => ?_, HK5.out.mono fun j _ hj => ⟨fun e => hj (.inl e), fun e => hj (.inr e)⟩, rfl, A5, m1 + 1, c5, rfl, ?_, HK1.out.trans (HK5.out.mono fun j _ hj => ⟨by omega, fun e => by have := (M1.out.own_lt e).1; have := HST.out; omega⟩)⟩
                  · have h1 := HM5.out.blk.lt
                    rcases hj with rfl | hj
                    · exact ⟨h1, .inl (.inl rfl)⟩
                    · exact ⟨(HM5.out.own_lt hj).2, (HG5.out j hj).elim (fun h => .inl (.inr h)) .inr⟩
                  · rw [List.length_append, told_len]
                    show MoreAt _ _ _ _ _ (ns.take (k + 1)) _
                    rw [HT.out]
                    exact HM5.out
                clear hHeld HM5 HK5 HG5 HB5
                gi_wp2_with fail
                exact HF.out
              exact AllReadyH.nil
            exact AllReadyH.nil
          exact AllReadyH.nil
        refine AllReadyH.cons (o := { dst := some 33, op := Op.buildSlice 22 1 #[(0, Operand.tmp 32)], type := 22, pos := "table.go:56", after := #[{ on := 3, ground := Ground.data }], guard := none }) rfl (fun K hK => ?_) ?_
        · skip
          go_simp
          have bb : Below u1.heap.size u1 (u1.alloc (.cells #[.string s] 9)) := (Below.refl _ _).alloc (Nat.le_refl _) _
          have MR2 := Lib.hid (MR1.out.on bb)
          have KK2 := Lib.hid (KK1.out.trans (Keep.of_all _ bb))
          have SL : Hid (Reads (u1.alloc (.cells #[.string s] 9)) (u1.alloc (.cells #[.string s] 9)).heap.size 1 (some ⟨u1.heap.size, 0, none⟩) 1 (strs [s])) := str_lit u1 [s] _ _ rfl
          clear bb hHeld MR1 KK1
          refine hK.out _ _ trivial (fun hHeld => ?_)
          clear hK K
          try simp only [Act.put, List.setIfInBounds_toArray, List.set_cons_zero, List.set_cons_succ]
          generalize u1.alloc (.cells #[.string s] 9) = u2 at *
          generalize u1.heap.size = XS at *
          refine wpAnyH_ready (rs := [1]) (by kernel_rfl) (by simp) ?_
          refine AllReadyH.cons (o := { dst := some 30, op := Op.load 22 (Operand.tmp 29), type := 22, pos := "table.go:56", after := #[{ on := 0, ground := Ground.data }], guard := none }) rfl (fun K hK => ?_) ?_
          · skip
            have m0 := MR2.out.blk.cell 0
            go_simp
            clear hHeld m0
            refine hK.out _ _ trivial (fun hHeld => ?_)
            clear hK K
            try simp only [Act.put, List.setIfInBounds_toArray, List.set_cons_zero, List.set_cons_succ]
            refine wpAnyH_ready (rs := [5]) (by kernel_rfl) (by simp) ?_
            refine AllReadyH.cons (o := { dst := some 34, op := Op.call { callee := Callee.builtin Builtin.append, args := #[Operand.tmp 30, Operand.tmp 33], argTypes := #[22, 22] }, type := 22, pos := "table.go:56", after := #[{ on := 1, ground := Ground.data }, { on := 4, ground := Ground.data }, { on := 3, ground := Ground.chain }], guard := none }) rfl (fun K hK => ?_) ?_
            · skip
              refine step_append_any _ rfl (.tmp 30) (.tmp 33) 22 rfl W2.heap.size 9 i0 _ 1 16 Try.underlying22 hi hz0 hz1 hz2 rfl (by decide) (.slice A1 m1 c1) m1 _ rfl MR2.out.own _ (some ⟨XS, 0, none⟩) 1 _ (strs [s]) rfl SL.out (strs_one _) (by unfold maxLen; omega) (by omega) (Nat.le_trans HSZ.out KK2.out.size) ?_
              intro v5 u3 hown5 hgrow5 hat5
              obtain ⟨A5, c5, rfl, -, -⟩ := own_form2 hown5
              obtain ⟨hb5, hm5, hk5, hg5⟩ := MR2.out.grow KK2.out hown5 hgrow5 hat5
              have HB5 := Lib.hid hb5
              have HM5 := Lib.hid hm5
              have HK5 := Lib.hid hk5
              have HG5 := Lib.hid hg5
              clear hown5 hgrow5 hat5 hb5 hm5 hk5 hg5 hHeld MR2 KK2 SL
              refine hK.out _ _ trivial (fun hHeld => ?_)
              clear hK K
              try simp only [Act.put, List.setIfInBounds_toArray, List.set_cons_zero, List.set_cons_succ]
              refine wpAnyH_take (i := 6) (oi := { dst := some 35, op := Op.fieldAddr 24 (Operand.tmp 9) 0, type := 0, pos := "table.go:56", after := #[{ on := 0, ground := Ground.phase }, { on := 1, ground := Ground.phase }, { on := 2, ground := Ground.phase }, { on := 3, ground := Ground.phase }, { on := 4, ground := Ground.phase }, { on := 5, ground := Ground.phase }], guard := none }) (v := .pointer (some ⟨Bm, 0, none⟩)) rfl (by kernel_rfl) (by kernel_rfl) (by kernel_rfl) (fun _ _ _ h => h) (Or.inl ⟨by kernel_rfl, fun w' hSw => by (try dsimp only at hSw); go_simp⟩) (by assumption) ?_
              try simp only [Act.put, List.setIfInBounds_toArray, List.set_cons_zero, List.set_cons_succ]
              refine wpAnyH_ready (rs := [7]) (by kernel_rfl) (by simp) ?_
              refine AllReadyH.cons (o := { dst := none, op := Op.store 22 (Operand.tmp 35) (Operand.tmp 34), type := 0, pos := "table.go:56", after := #[{ on := 6, ground := Ground.data }, { on := 5, ground := Ground.data }, { on := 5, ground := Ground.chain }, { on := 0, ground := Ground.phase }, { on := 1, ground := Ground.phase }, { on := 2, ground := Ground.phase }, { on := 3, ground := Ground.phase }, { on := 4, ground := Ground.phase }, { on := 5, ground := Ground.phase }], guard := none }) rfl (fun K hK => ?_) ?_
              · skip
                have y0 := HB5.out.cell 0
                have f0 := HB5.out.frozen 0
                go_simp
                clear hHeld y0 f0
                refine hK.out _ _ trivial (fun hHeld => ?_)
                clear hK K
                try simp only [Act.put, List.setIfInBounds_toArray, List.set_cons_zero, List.set_cons_succ]
                generalize u3.setCell ⟨Bm, 0, none⟩ (.slice A5 (m1 + 1) c5) = uF at *
                refine wpAnyH_done (by kernel_rfl) ?_ _
                refine OnlyN.normal ?_
                have HT := Lib.hid (take_snoc HS.out)
                have HF : Hid (OnePost none W2.heap.size (fun j => j = Bm ∨ (Value.slice A1 m1 c1).ownBlock = some j) (PutR ns W2.heap.size Bm W2) (fun _ => False) (told ns k ++ [(k, s)]) X .normal ⟨#[], []⟩ uF) := by
                  refine .inl ⟨fun j => j = Bm ∨ (Value.slice A5 (m1 + 1) c5).ownBlock = some j, fun j hj => ?_, HK5.out.mono fun j _ hj => ⟨fun e => hj (.inl e), fun e => hj (.inr e)⟩, rfl, A5, m1 + 1, c5, rfl, ?_, HK1.out.trans (HK5.out.mono fun j _ hj => ⟨by omega, fun e => by have := (M1.out.own_lt e).1; have := HST.out; omega⟩)⟩
                  · have h1 := HM5.out.blk.lt
                    rcases hj with rfl | hj
                    · exact ⟨h1, .inl (.inl rfl)⟩
                    · exact ⟨(HM5.out.own_lt hj).2, (HG5.out j hj).elim (fun h => .inl (.inr h)) .inr⟩
                  · rw [List.length_append, told_len]
                    show MoreAt _ _ _ _ _ (ns.take (k + 1)) _
                    rw [HT.out]
                    exact HM5.out
                clear hHeld HM5 HK5 HG5 HB5
                gi_wp2_with fail
                exact HF.out
              exact AllReadyH.nil
            exact AllReadyH.nil
          exact AllReadyH.nil
        exact AllReadyH.nil
      exact AllReadyH.nil
    case done =>
      rintro cs C D W5 hD rfl ⟨A1, m1, c1, rfl, hm1, hk1⟩ hdef
      rw [told_len, ← HL.out, List.take_length] at hm1
      have N5 := Lib.hid (N2.out.keep hk1 (by have := HS2.out; omega) (by have := HS2.out; omega))
      have KR5 := Lib.hid (hk1.blk KR2.out (by have := HS2.out; omega))
      have B5 : Hid (Below w.heap.size w W5) := B2.out.trans (hk1.below B2.out.size fun j hj => by have := HS2.out; omega)
      have HD5 := Lib.hid hD
      have hdlt := (Array.getElem?_eq_some_iff.1 hdef).1
      obtain ⟨kp, bp, hsp⟩ := nbox W5 (ints (List.replicate nl 0)).toArray 3
      have PL : Hid (PutL W2.heap.size Bm Bn M W5.heap.size D A1 m1 c1 (addsN ns (ls.take 0)) (addsN ns (ls.take 0)) (allN ns (ls.take 0) ++ List.replicate (nl - 0) 0) (W5.alloc (.cells (ints (List.replicate nl 0)).toArray 3)) (W5.alloc (.cells (ints (List.replicate nl 0)).toArray 3))) :=
        ⟨N5.out.on bp, hm1.on bp, kp, (Keep.of_all (fun _ => True) bp).obj hdef trivial, Keep.refl _ _, by have := HS2.out; have := HST.out; have := hk1.size; omega⟩
      have KR6 := Lib.hid (KR5.out.below bp KR5.out.lt)
      have B6 := Lib.hid (B5.out.trans (bp.mono B5.out.size))
      have F0 : Hid (FineTo nameB ns ls 0) := FineTo.zero HG.out
      have HP6 : Hid (w.heap.size ≤ W5.heap.size ∧ w.heap.size + 2 ≤ Bm ∧ M < Bm ∧ w.heap.size + 2 ≤ M ∧ D < W5.heap.size ∧ W2.heap.size ≤ D ∧ Bm ≤ W2.heap.size) := by
        have h1 := HS2.out
        have h2 := B5.out.size
        have h3 := HST.out
        show _ ∧ _
        omega
      have hmk := int_makeN nl (by omega) W5
      clear kp bp hsp N2 KR2 B2 N5 KR5 B5 hm1 hk1 hdef hD hdlt HSEQ KT KM
      unfold mkMark
      gi_wp2_with fail
      generalize W5.alloc (.cells (ints (List.replicate nl 0)).toArray 3) = W6 at *
      clear hmk
      generalize W5.heap.size = P at *
      gi_loopg [41] nl (fun gg s41 wr => ∃ (i : Nat) (A1 : Option Addr) (m1 c1 : Nat), s41 = .int .i64 i ∧ i + gg = nl ∧ Hid (FineTo nameB ns ls i) ∧ Hid (PutL W2.heap.size Bm Bn M P D A1 m1 c1 (addsN ns (ls.take i)) (addsN ns (ls.take i)) (allN ns (ls.take i) ++ List.replicate (nl - i) 0) W6 wr))
      case atStart => exact ⟨0, A1, m1, c1, rfl, by omega, F0, PL⟩
      case round =>
        clear F0 PL
        obtain ⟨i, A1, m1, c1, rfl, hig, HF, PL⟩ := hrel
        have HIG := Lib.hid hig
        have BW : Hid (Below w.heap.size w wr) := B6.out.trans (PL.out.keep.below B6.out.size fun j hj => by have := HP6.out; omega)
        have KRW := Lib.hid (PL.out.keep.blk KR6.out (by have := HP6.out; omega))
        cases gk with
        | zero =>
          have hge : ¬ (i : Int) < (nl : Int) := by omega
          obtain rfl : i = nl := by omega
          have m0 := PL.out.more.blk.cell 0
          have y0 := KRW.out.cell 0
          have f0 := KRW.out.frozen 0
          have hE : putsE ns ls = 0 := by have h1 := HF.out; rw [← HLL.out] at h1; rw [HE.out, h1.end_]
          have HE0 := Lib.hid hE
          clear hig hE
          gi_wp2_with fail
          have kf : Blk (wr.setCell ⟨w.heap.size + 1, 0, none⟩ (.slice A1 m1 c1)) (w.heap.size + 1) 24 #[.slice A1 m1 c1] := by
            have := KRW.out.set_ 0 (.slice A1 m1 c1)
            simpa using this
          have hk : Keep (fun j => j ≠ w.heap.size + 1) wr (wr.setCell ⟨w.heap.size + 1, 0, none⟩ (.slice A1 m1 c1)) := (Keep.refl _ wr).set (.inr fun e => e rfl) 0 _
          have hmk : MarksAt w.heap.size (fun _ => False) [D] (wr.setCell ⟨w.heap.size + 1, 0, none⟩ (.slice A1 m1 c1)) := ⟨by simp, fun E hE => by rw [List.mem_singleton] at hE; subst hE; exact ⟨by have := HP6.out; omega, id, hk.obj PL.out.mark (by have := HP6.out; omega)⟩⟩
          refine leaves_marks [D] _ hmk fun w' hk2 => ?_
          have hk3 : Keep (fun j => j ≠ w.heap.size + 1 ∧ j ≠ D) wr w' := (hk.mono fun j _ hj => hj.1).trans (hk2.mono fun j _ hj => by simpa using hj.2)
          have r1 := (hk2.blk kf (by have := HP6.out; simp; omega)).cell 0
          have ho1 := PL.out.more.own
          have hlt := PL.out.lo
          rw [List.take_of_length_le (by rw [HLL.out]; exact Nat.le_refl _)] at ho1
          have ho2 := hk3.own ho1 fun g hg => ⟨by have := (PL.out.more.own_lt hg).1; have := HP6.out; omega, fun e => by
            obtain ⟨_, _, cur, hb⟩ := own_in PL.out.more.own hg
            exact PL.out.mark_ne hb e.symm⟩
          have hp2 := hk3.blk PL.out.row ⟨by have := HP6.out; omega, fun e => PL.out.mark_ne PL.out.row e.symm⟩
          rw [List.take_of_length_le (by rw [HLL.out]; exact Nat.le_refl _), Nat.sub_self, List.replicate_zero, List.append_nil] at hp2
          refine ⟨.tuple #[.agg #[.slice A1 m1 c1], .slice (some ⟨P, 0, none⟩) i i, .int .i64 0], by simp [results, Try.results33, go_sem, r1], A1, m1, c1, some ⟨P, 0, none⟩, i, i, addsN ns ls, allN ns ls, by rw [HE0.out], own_mono ho2 (by have := HP6.out; omega), own_blkI hp2 (by rw [allN_len, HLL.out]) (HP6.out.1) (by omega), fun _ => ⟨rfl, rfl⟩, fun h => absurd HE0.out h, ?_⟩
          exact BW.out.trans (hk3.below BW.out.size fun j hj => by have := HP6.out; omega)
        | succ g2 =>
          have hlt : (i : Int) < (nl : Int) := by omega
          have hiln : i < nl := by omega
          obtain ⟨s, hs⟩ : ∃ s, ls[i]? = some s := ⟨ls[i]'(by rw [HLL.out]; exact hiln), List.getElem?_eq_getElem _⟩
          obtain ⟨b, o, rfl, _, g0⟩ := str_at (HRL.out.below BW.out) hs
          have HS := Lib.hid hs
          have HSS := Lib.hid (HSL.out s (List.mem_of_getElem? hs))
          have HCH := Lib.hid (check_any s HSS.out wr)
          have y0 := KRW.out.cell 0
          have f0 := KRW.out.frozen 0
          obtain ⟨us, hus⟩ : ∃ us, addsN ns (ls.take i) = us := ⟨_, rfl⟩
          rw [hus] at PL
          have HUS := Lib.hid hus
          have hF := HF.out
          unfold FineTo at hF
          rw [hus] at hF
          have HGU := Lib.hid hF.2
          have HFE : Hid (∀ k, putE nameB us s = k → k ≠ 0 → putsE ns ls = k) := fun k h1 h2 => by rw [HE.out, HF.out.err HS.out (by rw [HUS.out, h1]; exact h2), HUS.out, h1]
          have HFS : Hid (putE nameB us s = 0 → FineTo nameB ns ls (i + 1)) := fun h => HF.out.step HS.out (by rw [HUS.out]; exact h)
          have hlen := PL.out.more.len
          have HLEN := Lib.hid hlen
          have h300 := (good_iff.1 hF.2).1
          have HERR : Hid (∀ (X : World) (k : Int), putE nameB us s = k → k ≠ 0 → Keep (fun j => j < w.heap.size) wr X → Blk X (w.heap.size + 1) 24 #[.slice none 0 0] → X.heap[D]? = some (.deferred (some [])) →
              LeavesInM Fence.wide 6 Try.prog Try.f33 (#[] : Array Value) (fun _ _ => True) [] .returning X → True) := fun _ _ _ _ _ _ _ _ => trivial
          clear hs hus hF hig HERR
          cases hnm : nameB s
          · rw [chk_no hnm] at HCH
            have HE1 := Lib.hid (HFE.out 200 (putE_name hnm) (by decide))
            clear hnm hlen h300
            gi_wp2_with fail
            refine ⟨trivial, (callsIn_wide.2 HCH.out).mono ?_⟩
            rintro e X2 ⟨rfl, b2⟩
            have KR2 := Lib.hid (KRW.out.below b2 KRW.out.lt)
            have PL2 := Lib.hid (PL.out.on b2)
            have BW2 := Lib.hid (BW.out.trans (b2.mono BW.out.size))
            clear b2 y0 f0 g0 PL BW KRW
            have y0 := KR2.out.cell 0
            have f0 := KR2.out.frozen 0
            gi_wp2_with fail
            have kf : Blk (X2.setCell ⟨w.heap.size + 1, 0, none⟩ (.slice none 0 0)) (w.heap.size + 1) 24 #[.slice none 0 0] := by
              have := KR2.out.set_ 0 (.slice none 0 0)
              simpa using this
            have hk : Keep (fun j => j ≠ w.heap.size + 1) X2 (X2.setCell ⟨w.heap.size + 1, 0, none⟩ (.slice none 0 0)) := (Keep.refl _ X2).set (.inr fun e => e rfl) 0 _
            have hmk : MarksAt w.heap.size (fun _ => False) [D] (X2.setCell ⟨w.heap.size + 1, 0, none⟩ (.slice none 0 0)) := ⟨by simp, fun E hE => by rw [List.mem_singleton] at hE; subst hE; exact ⟨by have := HP6.out; omega, id, hk.obj PL2.out.mark (by have := HP6.out; omega)⟩⟩
            refine leaves_marks [D] _ hmk fun w' hk2 => ?_
            have r1 := (hk2.blk kf (by have := HP6.out; simp; omega)).cell 0
            exact ⟨.tuple #[.agg #[.slice none 0 0], .slice none 0 0, .int .i64 200], by simp [results, Try.results33, go_sem, r1], PutIs.err HE1.out (by decide) ((BW2.out.trans (hk.below BW2.out.size fun j hj => by omega)).trans (hk2.below (by have := BW2.out.size; simp; omega) fun j hj => by have := HP6.out; simp; omega))⟩
          · rw [chk_ok hnm] at HCH
            have HNM := Lib.hid hnm
            clear hnm
            gi_wp2_with fail
            refine ⟨trivial, (callsIn_wide.2 HCH.out).mono ?_⟩
            rintro e X2 ⟨rfl, b2⟩
            have KR2 := Lib.hid (KRW.out.below b2 KRW.out.lt)
            have PL2 := Lib.hid (PL.out.on b2)
            have BW2 := Lib.hid (BW.out.trans (b2.mono BW.out.size))
            have HNU := Lib.hid (number_any Bn M us s HSS.out (by omega) X2 PL2.out.num)
            clear b2 y0 f0 g0 PL BW KRW HCH
            gi_wp2_with fail
            refine ⟨trivial, (callsIn_wide.2 HNU.out).mono ?_⟩
            rintro e X3 ⟨rfl, hn3, hk3⟩
            have PL3 := Lib.hid (PL2.out.numbered hn3 hk3)
            have KR3 := Lib.hid (hk3.blk KR2.out (by have := HP6.out; omega))
            have BW3 : Hid (Below w.heap.size w X3) := BW2.out.trans (hk3.below BW2.out.size fun j hj => by have := HP6.out; omega)
            clear hn3 hk3 PL2 KR2 BW2 HNU
            have hwl : (allN ns (ls.take i) ++ List.replicate (nl - i) 0).length = nl := by rw [List.length_append, allN_len, List.length_take, List.length_replicate]; have := HLL.out; omega
            have hpc : X3.cell? ⟨P, i, none⟩ = some (.int .i64 ((allN ns (ls.take i) ++ List.replicate (nl - i) 0).getD i 0)) := by
              rw [PL3.out.row.cell, List.getElem?_toArray]
              unfold ints
              rw [List.getElem?_map, List.getD_eq_getElem?_getD, List.getElem?_eq_getElem (by rw [hwl]; exact hiln)]
              rfl
            have hpf := PL3.out.row.frozen i
            have PL4 := Lib.hid (PL3.out.set i (idxN us s : Int))
            have hk4 : Keep (fun k => k ≠ P) X3 (X3.setCell ⟨P, i, none⟩ (.int .i64 (idxN us s : Int))) := (Keep.refl _ X3).set (.inr fun e => e rfl) _ _
            have KR4 := Lib.hid (hk4.blk KR3.out (by have := HP6.out; have := PL3.out.lo; omega))
            have BW4 : Hid (Below w.heap.size w (X3.setCell ⟨P, i, none⟩ (.int .i64 (idxN us s : Int)))) := BW3.out.trans (hk4.below BW3.out.size fun j hj => by have := HP6.out; omega)
            have hrn := row_next ns ls s i nl HS.out HLL.out
            rw [HUS.out] at hrn
            rw [hrn] at PL4
            have hra := row_at ns ls s i nl HS.out
            rw [HUS.out] at hra
            clear hwl hrn hk4
            gi_upto_region 16 with fail
            clear hpc hpf PL3 KR3 BW3
            generalize X3.setCell ⟨P, i, none⟩ (.int .i64 (idxN us s : Int)) = X4 at *
            have hpc : X4.cell? ⟨P, i, none⟩ = some (.int .i64 (idxN us s : Int)) := by
              rw [PL4.out.row.cell, List.getElem?_toArray]
              unfold ints
              rw [List.getElem?_map, hra]
              rfl
            clear hra
            have hM0 := PL4.out.more.blk.cell 0
            have y0 := KR4.out.cell 0
            have f0 := KR4.out.frozen 0
            have HTN : Hid (addsN ns (ls.take (i + 1)) = addN us s) := by show _ = _; rw [take_snoc HS.out, adds_snoc, HUS.out]
            by_cases hm : s ∈ us
            · have hix := idx_lt hm
              have e3 : ((idxN us s : Int) == 300) = false := by simp; omega
              have em : ((idxN us s : Int) == (m1 : Int)) = false := by simp; omega
              have HF2 := Lib.hid (HFS.out (putE_in HNM.out hm))
              have PL5 : Hid (PutL W2.heap.size Bm Bn M P D A1 m1 c1 (addsN ns (ls.take (i + 1))) (addsN ns (ls.take (i + 1))) (allN ns (ls.take (i + 1)) ++ List.replicate (nl - (i + 1)) 0) W6 X4) := by
                have := PL4.out
                rw [HTN.out, add_in hm]
                rwa [add_in hm] at this
              clear hm hix PL4 h300 hlen
              gi_wp2_with fail
              gi_roundg g2
              case measure => omega
              case rel => exact ⟨i + 1, A1, m1, c1, by go_num, by have := HIG.out; omega, HF2, PL5⟩
            · have hix := idx_out hm
              by_cases hl3 : us.length = 300
              · have e3 : ((idxN us s : Int) == 300) = true := by simp; omega
                have HE1 := Lib.hid (HFE.out 6 (putE_full HNM.out hm hl3) (by decide))
                clear hm hix hl3 h300 hlen
                gi_wp2_with fail
                have kf : Blk (X4.setCell ⟨w.heap.size + 1, 0, none⟩ (.slice none 0 0)) (w.heap.size + 1) 24 #[.slice none 0 0] := by
                  have := KR4.out.set_ 0 (.slice none 0 0)
                  simpa using this
                have hk : Keep (fun j => j ≠ w.heap.size + 1) X4 (X4.setCell ⟨w.heap.size + 1, 0, none⟩ (.slice none 0 0)) := (Keep.refl _ X4).set (.inr fun e => e rfl) 0 _
                have hmk : MarksAt w.heap.size (fun _ => False) [D] (X4.setCell ⟨w.heap.size + 1, 0, none⟩ (.slice none 0 0)) := ⟨by simp, fun E hE => by rw [List.mem_singleton] at hE; subst hE; exact ⟨by have := HP6.out; omega, id, hk.obj PL4.out.mark (by have := HP6.out; omega)⟩⟩
                refine leaves_marks [D] _ hmk fun w' hk2 => ?_
                have r1 := (hk2.blk kf (by have := HP6.out; simp; omega)).cell 0
                exact ⟨.tuple #[.agg #[.slice none 0 0], .slice none 0 0, .int .i64 6], by simp [results, Try.results33, go_sem, r1], PutIs.err HE1.out (by decide) ((BW4.out.trans (hk.below BW4.out.size fun j hj => by omega)).trans (hk2.below (by have := BW4.out.size; simp; omega) fun j hj => by have := HP6.out; simp; omega))⟩
              · have e3 : ((idxN us s : Int) == 300) = false := by simp; omega
                have em : ((idxN us s : Int) == (m1 : Int)) = true := by simp; omega
                have HF2 := Lib.hid (HFS.out (putE_new HNM.out hm hl3))
                have HA := Lib.hid (add_out hm)
                have HSC := Lib.hid fun W => sclone_any s (by have := name_size HNM.out; omega) W
                have M4 := Lib.hid PL4.out.more
                have HN4 : Hid (W2.heap.size ≤ X4.heap.size) := by have := PL4.out.lo; have := PL4.out.row.lt; show _ ≤ _; omega
                clear hm hix hl3
                gi_upto_region 20 with fail
                refine wpIn_wide.2 ?_
                refine wp_region_noPanic ?_
                refine wp_region_held_drew (S := fun _ => True) (by kernel_rfl) trivial (fun hHeld => ?_)
                have MR0 := Lib.hid (M4.out.on ((Below.refl _ X4).drew))
                have KK0 := Lib.hid ((Keep.refl (fun j => j ≠ Bm ∧ (Value.slice A1 m1 c1).ownBlock ≠ some j) X4).drew)
                generalize X4.drew = wd at *
                refine wpAnyH_take (i := 0) (oi := { dst := some 70, op := Op.fieldAddr 24 (Operand.tmp 9) 0, type := 0, pos := "table.go:68", after := #[], guard := none }) (v := .pointer (some ⟨Bm, 0, none⟩)) rfl (by kernel_rfl) (by kernel_rfl) (by kernel_rfl) (fun _ _ _ h => h) (Or.inl ⟨by kernel_rfl, fun w' hSw => by (try dsimp only at hSw); go_simp⟩) (by assumption) ?_
                try simp only [Act.put, List.setIfInBounds_toArray, List.set_cons_zero, List.set_cons_succ]
                refine wpAnyH_take (i := 2) (oi := { dst := some 72, op := Op.move (Operand.tmp 14), type := 9, pos := "table.go:68", after := #[], guard := none }) (v := .string s) rfl (by kernel_rfl) (by kernel_rfl) (by kernel_rfl) (fun _ _ _ h => h) (Or.inl ⟨by kernel_rfl, fun w' hSw => by (try dsimp only at hSw); go_simp⟩) (by assumption) ?_
                try simp only [Act.put, List.setIfInBounds_toArray, List.set_cons_zero, List.set_cons_succ]
                refine wpAnyH_ready (rs := [1, 3]) (by kernel_rfl) (by simp) ?_
                refine AllReadyH.cons (o := { dst := some 71, op := Op.load 22 (Operand.tmp 70), type := 22, pos := "table.go:68", after := #[{ on := 0, ground := Ground.data }], guard := none }) rfl (fun K hK => ?_) ?_
                · skip
                  have m0 := MR0.out.blk.cell 0
                  go_simp
                  clear hHeld m0
                  refine hK.out _ _ trivial (fun hHeld => ?_)
                  clear hK K
                  try simp only [Act.put, List.setIfInBounds_toArray, List.set_cons_zero, List.set_cons_succ]
                  refine wpAnyH_ready (rs := [3]) (by kernel_rfl) (by simp) ?_
                  refine AllReadyH.cons (o := { dst := some 73, op := Op.call { callee := Callee.value (Operand.func 32), args := #[Operand.tmp 72], argTypes := #[9] }, type := 9, pos := "table.go:68", after := #[{ on := 2, ground := Ground.data }], guard := none }) rfl (fun K hK => ?_) ?_
                  · skip
                    go_simp
                    refine (HSC.out _).mono ?_
                    rintro e u1 ⟨rfl, bb⟩
                    have MR1 := Lib.hid (MR0.out.on bb)
                    have KK1 := Lib.hid (KK0.out.trans (Keep.of_all _ bb))
                    clear bb hHeld MR0 KK0
                    refine hK.out _ _ trivial (fun hHeld => ?_)
                    clear hK K
                    try simp only [Act.put, List.setIfInBounds_toArray, List.set_cons_zero, List.set_cons_succ]
                    refine wpAnyH_ready (rs := [4]) (by kernel_rfl) (by simp) ?_
                    refine AllReadyH.cons (o := { dst := some 74, op := Op.buildSlice 22 1 #[(0, Operand.tmp 73)], type := 22, pos := "table.go:68", after := #[{ on := 3, ground := Ground.data }], guard := none }) rfl (fun K hK => ?_) ?_
                    · skip
                      go_simp
                      have bb : Below u1.heap.size u1 (u1.alloc (.cells #[.string s] 9)) := (Below.refl _ _).alloc (Nat.le_refl _) _
                      have MR2 := Lib.hid (MR1.out.on bb)
                      have KK2 := Lib.hid (KK1.out.trans (Keep.of_all _ bb))
                      have SL : Hid (Reads (u1.alloc (.cells #[.string s] 9)) (u1.alloc (.cells #[.string s] 9)).heap.size 1 (some ⟨u1.heap.size, 0, none⟩) 1 (strs [s])) := str_lit u1 [s] _ _ rfl
                      clear bb hHeld MR1 KK1
                      refine hK.out _ _ trivial (fun hHeld => ?_)
                      clear hK K
                      try simp only [Act.put, List.setIfInBounds_toArray, List.set_cons_zero, List.set_cons_succ]
                      generalize u1.alloc (.cells #[.string s] 9) = u2 at *
                      generalize u1.heap.size = XS at *
                      refine wpAnyH_ready (rs := [5]) (by kernel_rfl) (by simp) ?_
                      refine AllReadyH.cons (o := { dst := some 75, op := Op.call { callee := Callee.builtin Builtin.append, args := #[Operand.tmp 71, Operand.tmp 74], argTypes := #[22, 22] }, type := 22, pos := "table.go:68", after := #[{ on := 1, ground := Ground.data }, { on := 4, ground := Ground.data }, { on := 3, ground := Ground.chain }], guard := none }) rfl (fun K hK => ?_) ?_
                      · skip
                        refine step_append_any _ rfl (.tmp 71) (.tmp 74) 22 rfl W2.heap.size 9 i0 _ 1 16 Try.underlying22 hi hz0 hz1 hz2 rfl (by decide) (.slice A1 m1 c1) m1 _ rfl MR2.out.own _ (some ⟨XS, 0, none⟩) 1 _ (strs [s]) rfl SL.out (strs_one _) (by unfold maxLen; omega) (by omega) (Nat.le_trans HN4.out KK2.out.size) ?_
                        intro v5 u3 hown5 hgrow5 hat5
                        obtain ⟨A5, c5, rfl, -, -⟩ := own_form2 hown5
                        obtain ⟨hb5, hm5, hk5, hg5⟩ := MR2.out.grow KK2.out hown5 hgrow5 hat5
                        have HB5 := Lib.hid hb5
                        have HM5 := Lib.hid hm5
                        have HK5 := Lib.hid hk5
                        have HG5 := Lib.hid hg5
                        clear hown5 hgrow5 hat5 hb5 hm5 hk5 hg5 hHeld MR2 KK2 SL
                        refine hK.out _ _ trivial (fun hHeld => ?_)
                        clear hK K
                        try simp only [Act.put, List.setIfInBounds_toArray, List.set_cons_zero, List.set_cons_succ]
                        refine wpAnyH_take (i := 6) (oi := { dst := some 76, op := Op.fieldAddr 24 (Operand.tmp 9) 0, type := 0, pos := "table.go:68", after := #[{ on := 0, ground := Ground.phase }, { on := 1, ground := Ground.phase }, { on := 2, ground := Ground.phase }, { on := 3, ground := Ground.phase }, { on := 4, ground := Ground.phase }, { on := 5, ground := Ground.phase }], guard := none }) (v := .pointer (some ⟨Bm, 0, none⟩)) rfl (by kernel_rfl) (by kernel_rfl) (by kernel_rfl) (fun _ _ _ h => h) (Or.inl ⟨by kernel_rfl, fun w' hSw => by (try dsimp only at hSw); go_simp⟩) (by assumption) ?_
                        try simp only [Act.put, List.setIfInBounds_toArray, List.set_cons_zero, List.set_cons_succ]
                        refine wpAnyH_ready (rs := [7]) (by kernel_rfl) (by simp) ?_
                        refine AllReadyH.cons (o := { dst := none, op := Op.store 22 (Operand.tmp 76) (Operand.tmp 75), type := 0, pos := "table.go:68", after := #[{ on := 6, ground := Ground.data }, { on := 5, ground := Ground.data }, { on := 5, ground := Ground.chain }, { on := 0, ground := Ground.phase }, { on := 1, ground := Ground.phase }, { on := 2, ground := Ground.phase }, { on := 3, ground := Ground.phase }, { on := 4, ground := Ground.phase }, { on := 5, ground := Ground.phase }], guard := none }) rfl (fun K hK => ?_) ?_
                        · skip
                          have y0 := HB5.out.cell 0
                          have f0 := HB5.out.frozen 0
                          go_simp
                          clear hHeld y0 f0
                          refine hK.out _ _ trivial (fun hHeld => ?_)
                          clear hK K
                          try simp only [Act.put, List.setIfInBounds_toArray, List.set_cons_zero, List.set_cons_succ]
                          generalize u3.setCell ⟨Bm, 0, none⟩ (.slice A5 (m1 + 1) c5) = uF at *
                          refine wpAnyH_done (by kernel_rfl) ?_ _
                          refine NoPanic.normal ?_
                          clear hHeld
                          have PL5 : Hid (PutL W2.heap.size Bm Bn M P D A5 (m1 + 1) c5 (addsN ns (ls.take (i + 1))) (addsN ns (ls.take (i + 1))) (allN ns (ls.take (i + 1)) ++ List.replicate (nl - (i + 1)) 0) W6 uF) := by
                            have h1 := PL4.out.grown HM5.out HK5.out
                            rw [HA.out] at h1
                            rw [HTN.out, HA.out]
                            exact h1
                          clear HM5 HK5 HG5 HB5 PL4 M4
                          gi_wp2_with fail
                          gi_roundg g2
                          case measure => omega
                          case rel => exact ⟨i + 1, A5, m1 + 1, c5, by go_num, by have := HIG.out; omega, HF2, PL5⟩
                        exact AllReadyH.nil
                      exact AllReadyH.nil
                    exact AllReadyH.nil
                  exact AllReadyH.nil
                refine AllReadyH.cons (o := { dst := some 73, op := Op.call { callee := Callee.value (Operand.func 32), args := #[Operand.tmp 72], argTypes := #[9] }, type := 9, pos := "table.go:68", after := #[{ on := 2, ground := Ground.data }], guard := none }) rfl (fun K hK => ?_) ?_
                · skip
                  go_simp
                  refine (HSC.out _).mono ?_
                  rintro e u1 ⟨rfl, bb⟩
                  have MR1 := Lib.hid (MR0.out.on bb)
                  have KK1 := Lib.hid (KK0.out.trans (Keep.of_all _ bb))
                  clear bb hHeld MR0 KK0
                  refine hK.out _ _ trivial (fun hHeld => ?_)
                  clear hK K
                  try simp only [Act.put, List.setIfInBounds_toArray, List.set_cons_zero, List.set_cons_succ]
                  refine wpAnyH_ready (rs := [1, 4]) (by kernel_rfl) (by simp) ?_
                  refine AllReadyH.cons (o := { dst := some 71, op := Op.load 22 (Operand.tmp 70), type := 22, pos := "table.go:68", after := #[{ on := 0, ground := Ground.data }], guard := none }) rfl (fun K hK => ?_) ?_
                  · skip
                    have m0 := MR1.out.blk.cell 0
                    go_simp
                    clear hHeld m0
                    refine hK.out _ _ trivial (fun hHeld => ?_)
                    clear hK K
                    try simp only [Act.put, List.setIfInBounds_toArray, List.set_cons_zero, List.set_cons_succ]
                    refine wpAnyH_ready (rs := [4]) (by kernel_rfl) (by simp) ?_
                    refine AllReadyH.cons (o := { dst := some 74, op := Op.buildSlice 22 1 #[(0, Operand.tmp 73)], type := 22, pos := "table.go:68", after := #[{ on := 3, ground := Ground.data }], guard := none }) rfl (fun K hK => ?_) ?_
                    · skip
                      go_simp
                      have bb : Below u1.heap.size u1 (u1.alloc (.cells #[.string s] 9)) := (Below.refl _ _).alloc (Nat.le_refl _) _
                      have MR2 := Lib.hid (MR1.out.on bb)
                      have KK2 := Lib.hid (KK1.out.trans (Keep.of_all _ bb))
                      have SL : Hid (Reads (u1.alloc (.cells #[.string s] 9)) (u1.alloc (.cells #[.string s] 9)).heap.size 1 (some ⟨u1.heap.size, 0, none⟩) 1 (strs [s])) := str_lit u1 [s] _ _ rfl
                      clear bb hHeld MR1 KK1
                      refine hK.out _ _ trivial (fun hHeld => ?_)
                      clear hK K
                      try simp only [Act.put, List.setIfInBounds_toArray, List.set_cons_zero, List.set_cons_succ]
                      generalize u1.alloc (.cells #[.string s] 9) = u2 at *
                      generalize u1.heap.size = XS at *
                      refine wpAnyH_ready (rs := [5]) (by kernel_rfl) (by simp) ?_
                      refine AllReadyH.cons (o := { dst := some 75, op := Op.call { callee := Callee.builtin Builtin.append, args := #[Operand.tmp 71, Operand.tmp 74], argTypes := #[22, 22] }, type := 22, pos := "table.go:68", after := #[{ on := 1, ground := Ground.data }, { on := 4, ground := Ground.data }, { on := 3, ground := Ground.chain }], guard := none }) rfl (fun K hK => ?_) ?_
                      · skip
                        refine step_append_any _ rfl (.tmp 71) (.tmp 74) 22 rfl W2.heap.size 9 i0 _ 1 16 Try.underlying22 hi hz0 hz1 hz2 rfl (by decide) (.slice A1 m1 c1) m1 _ rfl MR2.out.own _ (some ⟨XS, 0, none⟩) 1 _ (strs [s]) rfl SL.out (strs_one _) (by unfold maxLen; omega) (by omega) (Nat.le_trans HN4.out KK2.out.size) ?_
                        intro v5 u3 hown5 hgrow5 hat5
                        obtain ⟨A5, c5, rfl, -, -⟩ := own_form2 hown5
                        obtain ⟨hb5, hm5, hk5, hg5⟩ := MR2.out.grow KK2.out hown5 hgrow5 hat5
                        have HB5 := Lib.hid hb5
                        have HM5 := Lib.hid hm5
                        have HK5 := Lib.hid hk5
                        have HG5 := Lib.hid hg5
                        clear hown5 hgrow5 hat5 hb5 hm5 hk5 hg5 hHeld MR2 KK2 SL
                        refine hK.out _ _ trivial (fun hHeld => ?_)
                        clear hK K
                        try simp only [Act.put, List.setIfInBounds_toArray, List.set_cons_zero, List.set_cons_succ]
                        refine wpAnyH_take (i := 6) (oi := { dst := some 76, op := Op.fieldAddr 24 (Operand.tmp 9) 0, type := 0, pos := "table.go:68", after := #[{ on := 0, ground := Ground.phase }, { on := 1, ground := Ground.phase }, { on := 2, ground := Ground.phase }, { on := 3, ground := Ground.phase }, { on := 4, ground := Ground.phase }, { on := 5, ground := Ground.phase }], guard := none }) (v := .pointer (some ⟨Bm, 0, none⟩)) rfl (by kernel_rfl) (by kernel_rfl) (by kernel_rfl) (fun _ _ _ h => h) (Or.inl ⟨by kernel_rfl, fun w' hSw => by (try dsimp only at hSw); go_simp⟩) (by assumption) ?_
                        try simp only [Act.put, List.setIfInBounds_toArray, List.set_cons_zero, List.set_cons_succ]
                        refine wpAnyH_ready (rs := [7]) (by kernel_rfl) (by simp) ?_
                        refine AllReadyH.cons (o := { dst := none, op := Op.store 22 (Operand.tmp 76) (Operand.tmp 75), type := 0, pos := "table.go:68", after := #[{ on := 6, ground := Ground.data }, { on := 5, ground := Ground.data }, { on := 5, ground := Ground.chain }, { on := 0, ground := Ground.phase }, { on := 1, ground := Ground.phase }, { on := 2, ground := Ground.phase }, { on := 3, ground := Ground.phase }, { on := 4, ground := Ground.phase }, { on := 5, ground := Ground.phase }], guard := none }) rfl (fun K hK => ?_) ?_
                        · skip
                          have y0 := HB5.out.cell 0
                          have f0 := HB5.out.frozen 0
                          go_simp
                          clear hHeld y0 f0
                          refine hK.out _ _ trivial (fun hHeld => ?_)
                          clear hK K
                          try simp only [Act.put, List.setIfInBounds_toArray, List.set_cons_zero, List.set_cons_succ]
                          generalize u3.setCell ⟨Bm, 0, none⟩ (.slice A5 (m1 + 1) c5) = uF at *
                          refine wpAnyH_done (by kernel_rfl) ?_ _
                          refine NoPanic.normal ?_
                          clear hHeld
                          have PL5 : Hid (PutL W2.heap.size Bm Bn M P D A5 (m1 + 1) c5 (addsN ns (ls.take (i + 1))) (addsN ns (ls.take (i + 1))) (allN ns (ls.take (i + 1)) ++ List.replicate (nl - (i + 1)) 0) W6 uF) := by
                            have h1 := PL4.out.grown HM5.out HK5.out
                            rw [HA.out] at h1
                            rw [HTN.out, HA.out]
                            exact h1
                          clear HM5 HK5 HG5 HB5 PL4 M4
                          gi_wp2_with fail
                          gi_roundg g2
                          case measure => omega
                          case rel => exact ⟨i + 1, A5, m1 + 1, c5, by go_num, by have := HIG.out; omega, HF2, PL5⟩
                        exact AllReadyH.nil
                      exact AllReadyH.nil
                    exact AllReadyH.nil
                  refine AllReadyH.cons (o := { dst := some 74, op := Op.buildSlice 22 1 #[(0, Operand.tmp 73)], type := 22, pos := "table.go:68", after := #[{ on := 3, ground := Ground.data }], guard := none }) rfl (fun K hK => ?_) ?_
                  · skip
                    go_simp
                    have bb : Below u1.heap.size u1 (u1.alloc (.cells #[.string s] 9)) := (Below.refl _ _).alloc (Nat.le_refl _) _
                    have MR2 := Lib.hid (MR1.out.on bb)
                    have KK2 := Lib.hid (KK1.out.trans (Keep.of_all _ bb))
                    have SL : Hid (Reads (u1.alloc (.cells #[.string s] 9)) (u1.alloc (.cells #[.string s] 9)).heap.size 1 (some ⟨u1.heap.size, 0, none⟩) 1 (strs [s])) := str_lit u1 [s] _ _ rfl
                    clear bb hHeld MR1 KK1
                    refine hK.out _ _ trivial (fun hHeld => ?_)
                    clear hK K
                    try simp only [Act.put, List.setIfInBounds_toArray, List.set_cons_zero, List.set_cons_succ]
                    generalize u1.alloc (.cells #[.string s] 9) = u2 at *
                    generalize u1.heap.size = XS at *
                    refine wpAnyH_ready (rs := [1]) (by kernel_rfl) (by simp) ?_
                    refine AllReadyH.cons (o := { dst := some 71, op := Op.load 22 (Operand.tmp 70), type := 22, pos := "table.go:68", after := #[{ on := 0, ground := Ground.data }], guard := none }) rfl (fun K hK => ?_) ?_
                    · skip
                      have m0 := MR2.out.blk.cell 0
                      go_simp
                      clear hHeld m0
                      refine hK.out _ _ trivial (fun hHeld => ?_)
                      clear hK K
                      try simp only [Act.put, List.setIfInBounds_toArray, List.set_cons_zero, List.set_cons_succ]
                      refine wpAnyH_ready (rs := [5]) (by kernel_rfl) (by simp) ?_
                      refine AllReadyH.cons (o := { dst := some 75, op := Op.call { callee := Callee.builtin Builtin.append, args := #[Operand.tmp 71, Operand.tmp 74], argTypes := #[22, 22] }, type := 22, pos := "table.go:68", after := #[{ on := 1, ground := Ground.data }, { on := 4, ground := Ground.data }, { on := 3, ground := Ground.chain }], guard := none }) rfl (fun K hK => ?_) ?_
                      · skip
                        refine step_append_any _ rfl (.tmp 71) (.tmp 74) 22 rfl W2.heap.size 9 i0 _ 1 16 Try.underlying22 hi hz0 hz1 hz2 rfl (by decide) (.slice A1 m1 c1) m1 _ rfl MR2.out.own _ (some ⟨XS, 0, none⟩) 1 _ (strs [s]) rfl SL.out (strs_one _) (by unfold maxLen; omega) (by omega) (Nat.le_trans HN4.out KK2.out.size) ?_
                        intro v5 u3 hown5 hgrow5 hat5
                        obtain ⟨A5, c5, rfl, -, -⟩ := own_form2 hown5
                        obtain ⟨hb5, hm5, hk5, hg5⟩ := MR2.out.grow KK2.out hown5 hgrow5 hat5
                        have HB5 := Lib.hid hb5
                        have HM5 := Lib.hid hm5
                        have HK5 := Lib.hid hk5
                        have HG5 := Lib.hid hg5
                        clear hown5 hgrow5 hat5 hb5 hm5 hk5 hg5 hHeld MR2 KK2 SL
                        refine hK.out _ _ trivial (fun hHeld => ?_)
                        clear hK K
                        try simp only [Act.put, List.setIfInBounds_toArray, List.set_cons_zero, List.set_cons_succ]
                        refine wpAnyH_take (i := 6) (oi := { dst := some 76, op := Op.fieldAddr 24 (Operand.tmp 9) 0, type := 0, pos := "table.go:68", after := #[{ on := 0, ground := Ground.phase }, { on := 1, ground := Ground.phase }, { on := 2, ground := Ground.phase }, { on := 3, ground := Ground.phase }, { on := 4, ground := Ground.phase }, { on := 5, ground := Ground.phase }], guard := none }) (v := .pointer (some ⟨Bm, 0, none⟩)) rfl (by kernel_rfl) (by kernel_rfl) (by kernel_rfl) (fun _ _ _ h => h) (Or.inl ⟨by kernel_rfl, fun w' hSw => by (try dsimp only at hSw); go_simp⟩) (by assumption) ?_
                        try simp only [Act.put, List.setIfInBounds_toArray, List.set_cons_zero, List.set_cons_succ]
                        refine wpAnyH_ready (rs := [7]) (by kernel_rfl) (by simp) ?_
                        refine AllReadyH.cons (o := { dst := none, op := Op.store 22 (Operand.tmp 76) (Operand.tmp 75), type := 0, pos := "table.go:68", after := #[{ on := 6, ground := Ground.data }, { on := 5, ground := Ground.data }, { on := 5, ground := Ground.chain }, { on := 0, ground := Ground.phase }, { on := 1, ground := Ground.phase }, { on := 2, ground := Ground.phase }, { on := 3, ground := Ground.phase }, { on := 4, ground := Ground.phase }, { on := 5, ground := Ground.phase }], guard := none }) rfl (fun K hK => ?_) ?_
                        · skip
                          have y0 := HB5.out.cell 0
                          have f0 := HB5.out.frozen 0
                          go_simp
                          clear hHeld y0 f0
                          refine hK.out _ _ trivial (fun hHeld => ?_)
                          clear hK K
                          try simp only [Act.put, List.setIfInBounds_toArray, List.set_cons_zero, List.set_cons_succ]
                          generalize u3.setCell ⟨Bm, 0, none⟩ (.slice A5 (m1 + 1) c5) = uF at *
                          refine wpAnyH_done (by kernel_rfl) ?_ _
                          refine NoPanic.normal ?_
                          clear hHeld
                          have PL5 : Hid (PutL W2.heap.size Bm Bn M P D A5 (m1 + 1) c5 (addsN ns (ls.take (i + 1))) (addsN ns (ls.take (i + 1))) (allN ns (ls.take (i + 1)) ++ List.replicate (nl - (i + 1)) 0) W6 uF) := by
                            have h1 := PL4.out.grown HM5.out HK5.out
                            rw [HA.out] at h1
                            rw [HTN.out, HA.out]
                            exact h1
                          clear HM5 HK5 HG5 HB5 PL4 M4
                          gi_wp2_with fail
                          gi_roundg g2
                          case measure => omega
                          case rel => exact ⟨i + 1, A5, m1 + 1, c5, by go_num, by have := HIG.out; omega, HF2, PL5⟩
                        exact AllReadyH.nil
                      exact AllReadyH.nil
                    exact AllReadyH.nil
                  exact AllReadyH.nil
                exact AllReadyH.nil
end Go.Proofs.Ythamkpmbfefpfaa
