/- SccParts: what components of a graph are, one by one: plain facts. -/
import Derived.Test.YtpjbgbgahjggiaaGreatMS13
import Derived.Test.YtpjbgbgahjggiaaGreatMS20
import Derived.Test.YtpjbgbgahjggiaaGreatMS11
-- holds: YtpjbgbgahjggiaaGreatCzi YtpjbgbgahjggiaaGreatCpa
namespace Go.Proofs.YtpjbgbgahjggiaaGreat
open Go.RowKit Go.Shelf
attribute [local go_sem] Oper.semAt_some

theorem few_of {l : List Int} {m : Nat} (h1 : l.Nodup) (h2 : ∀ x ∈ l, 0 ≤ x ∧ x < (m : Int)) : l.length ≤ m := by
  have hp : l.Perm (((List.range m).filter fun (w : Nat) => decide ((w : Int) ∈ l)).map fun (w : Nat) => (w : Int)) := by
    refine (List.perm_ext_iff_of_nodup h1 ?_).2 fun x => ?_
    · rw [List.nodup_iff_pairwise_ne, List.pairwise_map]
      exact ((List.pairwise_lt_range).filter _).imp fun h => by omega
    · rw [List.mem_map]
      constructor
      · intro hx
        have h3 := h2 x hx
        exact ⟨x.toNat, List.mem_filter.2 ⟨List.mem_range.2 (by omega), by rw [show ((x.toNat : Nat) : Int) = x by omega]; simpa using hx⟩, by omega⟩
      · rintro ⟨w, hw, rfl⟩
        simpa using (List.mem_filter.1 hw).2
  rw [hp.length_eq, List.length_map]
  exact Nat.le_trans (List.length_filter_le _ _) (by simp)
theorem PartsIn.rounds_few {zs : List Ed} {m : Nat} {cs : List (List Int)} (h : PartsIn zs m cs) : (roundL cs).length ≤ m := by
  refine few_of ?_ fun x hx => h.rounds_ends hx
  unfold roundL
  rw [List.nodup_iff_pairwise_ne, List.pairwise_flatten]
  refine ⟨fun c hc => List.nodup_iff_pairwise_ne.1 (h.once c (List.mem_filter.1 hc).1), (h.apart.filter _).imp fun h x hx y hy e => ?_⟩
  subst e
  exact h x hx hy
theorem ints_one6 (l : List Int) : ∀ u ∈ ints l, u.oneCell' = true := by
  intro u hu
  unfold ints at hu
  obtain ⟨x, _, rfl⟩ := List.mem_map.1 hu
  rfl
def RoundC (z : Int) (zs : List Ed) (w : World) (e : Ending) (w' : World) : Prop :=
  ∃ (ws : List Nat) (k : Int), Bit.SetErr ws k w e w' ∧ (rightG z zs = true → k = 0 ∧ ∃ l : List Int, ws = Bit.setW (Bit.ofF l) ∧ (∀ x ∈ l, 0 ≤ x ∧ x < z) ∧ ∀ v : Nat, (v : Int) ∈ l ↔ Leads zs (v : Int) (v : Int)) ∧ (rightG z zs = false → k = 150 ∧ ws = [])

structure RndI (w : World) (N : Nat) (cs : List (List Int)) (C : Nat → Prop) (W : World) : Prop where
  ex : ∃ (A : Option Addr) (c : Nat), C = (fun k => k = N ∨ (Value.slice A (roundL cs).length c).ownBlock = some k) ∧ Blk W N 27 #[.slice A (roundL cs).length c] ∧ W.ownsRow (N + 1) 3 1 (.slice A (roundL cs).length c) (roundL cs).length (ints (roundL cs))
  b1 : Blk W (w.heap.size + 1) 38 #[.slice none 0 0]
  below : Below w.heap.size w W

set_option maxRecDepth 100000 in
set_option maxHeartbeats 3000000 in
theorem round6_any : AtG 9 RoundC := by
  rintro ⟨z, A, n, c, zs⟩ w hn ⟨hR, hnc, -, -⟩
  simp only at hn hR hnc ⊢
  obtain ⟨k0, k1, b0⟩ := two_new w #[.int .i64 z, .slice A n c] #[.slice none 0 0] 24 38
  have B0 := Lib.hid b0
  have K1 := Lib.hid k1
  have z0 := k0.cell 0
  have z1 := k0.cell 1
  cases hg : rightG z zs
  · have HC := Lib.hid (components_no z A n c zs hg (by omega) _ ((hR.below b0).more b0.size))
    have HG := Lib.hid hg
    clear hR k0 k1 b0 hg hnc
    go_enter Tryz.func9, Tryz.ntmps9
    go_upto_region 1 with fail
    generalize (w.alloc (.cells #[.int .i64 z, .slice A n c] 24)).alloc (.cells #[.slice none 0 0] 38) = W0 at *
    go_wp2_with fail
    refine HC.out.mono ?_
    rintro e w1 ⟨rfl, h4⟩
    have B1 : Hid (Below w.heap.size w w1) := B0.out.trans (h4.mono B0.out.size)
    have H1 := Lib.hid (K1.out.below h4 K1.out.lt)
    have q1 := H1.out.cell 0
    have q3 := H1.out.frozen 0
    have e1 : Blk (w1.setCell ⟨w.heap.size + 1, 0, none⟩ (.slice none 0 0)) (w.heap.size + 1) 38 #[.slice none 0 0] := by
      have := H1.out.set_ 0 (.slice none 0 0)
      simpa using this
    have y1 := e1.cell 0
    have HE : Hid (RoundC z zs w (.returned (.tuple #[.agg #[.slice none 0 0], .int .i64 150])) (w1.setCell ⟨w.heap.size + 1, 0, none⟩ (.slice none 0 0))) :=
      ⟨[], 150, ⟨none, 0, 0, rfl, ⟨rfl, fun h => absurd h (Nat.lt_irrefl 0)⟩, B1.out.setCell (p := ⟨w.heap.size + 1, 0, none⟩) (Nat.le_succ _) _⟩, (fun e => (by rw [HG.out] at e; cases e)), fun _ => ⟨rfl, rfl⟩⟩
    clear h4 z0 z1 HC B0 K1 e1
    go_wp2_with fail
    exact bodyPost_ret (v := .tuple #[.agg #[.slice none 0 0], .int .i64 150]) (by simp [results, Tryz.results9, go_sem, y1]) rfl HE.out
  · have hgg := rightG_iff.1 hg
    have hz := hgg.nodes
    obtain ⟨m, rfl⟩ : ∃ m : Nat, z = (m : Int) := ⟨z.toNat, by omega⟩
    have hm3 : m ≤ 300 := by omega
    have HC := Lib.hid (components_ok (m : Int) A n c zs hgg (by omega) hnc _ ((hR.below b0).more b0.size))
    rw [Int.toNat_natCast] at HC
    have HGG := Lib.hid hgg
    have HM3 := Lib.hid hm3
    clear hR k0 k1 b0 hnc hz hgg hg
    refine (callsIn_wide (n := 6)).1 (callsIn_of_wp_marks Tryz.func9 rfl trivial ?_ rfl)
    simp only [Tryz.ntmps9, List.size_toArray, List.length_cons, List.length_nil, Nat.reduceAdd, Nat.reduceSub, Array.replicate_succ, Array.replicate_zero, List.push_toArray, List.append_toArray, List.nil_append, List.cons_append]
    gi_upto_region 1 with fail
    generalize (w.alloc (.cells #[.int .i64 (m : Int), .slice A n c] 24)).alloc (.cells #[.slice none 0 0] 38) = W0 at *
    gi_wp2_with fail
    refine ⟨trivial, (callsIn_wide.2 HC.out).mono ?_⟩
    rintro e w1 ⟨lb, rfl, hseq, h4⟩
    have B1 : Hid (Below w.heap.size w w1) := B0.out.trans (h4.mono B0.out.size)
    have H1 := Lib.hid (K1.out.below h4 K1.out.lt)
    have HSEQ := Lib.hid hseq
    clear hseq h4 z0 z1 HC B0 K1
    gi_wp2_with fail
    have HI0 : Hid (RndI w w1.heap.size [] (fun k => k = w1.heap.size ∨ (Value.slice none 0 0).ownBlock = some k) (w1.alloc (.cells #[.slice none 0 0] 27))) :=
      ⟨⟨none, 0, rfl, Blk.new _ _ _, World.ownsRow_nil _ _ _ _⟩, H1.out.alloc _, B1.out.alloc B1.out.size _⟩
    refine range_parts (by omega) (gf := 42) (lb := lb) rfl eg_comps (zs := zs) (m := m) (w1 := w1) (HSEQ.out 5) ((Below.refl _ _).alloc (Nat.le_refl _) _) rfl (RndI w w1.heap.size)
      (fun _ => False) (fun k => k = w1.heap.size ∨ (Value.slice none 0 0).ownBlock = some k)
      ?hC0 HI0.out ?hI (fun _ _ h _ => h) (fun v => { tmps := #[Value.agg #[.int .i64 (m : Int), .slice A n c], .pointer (some ⟨w.heap.size, 0, none⟩), .pointer (some ⟨w.heap.size + 1, 0, none⟩), .int .i64 0, Value.func (.func 42) #[] lb, .int .i64 0, .pointer (some ⟨w1.heap.size, 0, none⟩), v, Value.tuple #[.func (.func 42) #[] lb, .int .i64 0], Value.agg #[.int .i64 (m : Int), .slice A n c], Value.tuple #[.func (.func 42) #[] lb, .int .i64 0], Value.func (.func 42) #[] lb, .int .i64 0, .int .i64 0, .bool false, undef, undef, Value.func (.func 42) #[] lb, v, undef, undef, undef, undef, undef, undef, undef, undef, undef], defers := [] }) ?assign ?body ?done ?stop
    case hC0 =>
      rintro k (rfl | hk)
      · exact ⟨Nat.le_refl _, by simp⟩
      · cases hk
    case hI =>
      intro cs C X Y h hk
      obtain ⟨A', c', rfl, hb, ho⟩ := h.ex
      have h1 := H1.out.lt
      exact ⟨⟨A', c', rfl, hk.blk hb (.inr (.inl rfl)), hk.own ho fun g hg => .inr (.inr hg)⟩, hk.blk h.b1 (.inl (by simp; omega)), h.below.trans (hk.below h.below.size fun j hj => .inl (by have := B1.out.size; simp; omega))⟩
    case assign =>
      intro l v W K hK
      gi_wp2
      exact hK
    case body =>
      intro l cs c2 C X b o hI hpi hR hCb hCk hsz
      obtain ⟨A', c', rfl, hb, ho⟩ := hI.ex
      have HI := Lib.hid hI
      have HO := Lib.hid ho
      have HB := Lib.hid hb
      have HPI := Lib.hid hpi
      have HR := Lib.hid hR
      have HRA := Lib.hid (round_any (some ⟨b, o, none⟩) c2.length c2.length X)
      have hfew : Hid ((roundL cs).length ≤ 300 ∧ c2.length ≤ 300) := by
        have h1 : PartsIn zs m cs := ⟨fun d hd => hpi.some d (by simp [hd]), fun d hd => hpi.once d (by simp [hd]), fun d hd => hpi.ends d (by simp [hd]), fun d hd => hpi.both d (by simp [hd]), (List.pairwise_append.1 hpi.apart).1⟩
        have h2 := h1.rounds_few
        have h3 := hpi.few (c := c2) (by simp)
        have h4 := HM3.out
        show _ ∧ _
        omega
      have HSZ : Hid (w1.heap.size + 1 ≤ X.heap.size) := by show _ ≤ _; simpa using hsz
      clear hI hpi hR hCb hCk hb ho
      gi_wp2_with fail
      refine ⟨trivial, ((callsIn_wide.2 HRA.out).inRound l).mono ?_⟩
      rintro e X2 ⟨rfl, rfl⟩
      by_cases h1 : 1 < c2.length
      · have hd : decide (1 < c2.length) = true := by simp [h1]
        rw [hd]
        have q0 := HB.out.cell 0
        have hsn := roundL_snoc cs c2
        rw [if_pos h1] at hsn
        have HSN := Lib.hid hsn
        obtain ⟨ad, hA2, _, hcl⟩ := HR.out.2 (by omega)
        injection hA2 with hA2
        subst hA2
        have HCL := Lib.hid hcl
        clear hd h1 hsn hcl
        obtain ⟨i0, hi, hz0, hz1, hz2⟩ := info_parts int_info
        gi_wp2_with (gi_at_builtin; refine wpListIn_append_own_at _ rfl _ _ 27 rfl (w1.heap.size + 1) 3 i0 _ 1 8 Tryz.underlying27 hi hz0 hz1 hz2 rfl (by decide) (.slice A' (roundL cs).length c') (roundL cs).length _ rfl HO.out ⟨b, o, none⟩ c2.length c2.length (ints c2) rfl (by rw [ints_length]; omega) HCL.out (ints_one6 _) (by have := hfew.out; unfold maxLen; omega) (by have := hfew.out; omega) HSZ.out ?_; intro v5 w5 hown5 hgrow5 _ hat5; obtain ⟨A5, c5, rfl, _, _⟩ := own_form2 hown5; have h5 : Hid (Blk w5 w1.heap.size 27 #[.slice A' (roundL cs).length c']) := HB.out.grown hgrow5 (fun e => by have := (own_in HO.out (by first | exact e | exact e.symm)).1; omega); have q5 := h5.out.cell 0; have q6 := h5.out.frozen 0)
        have hl : (roundL (cs ++ [c2])).length = (roundL cs).length + c2.length := by rw [HSN.out, List.length_append]
        have e5 : Blk (w5.setCell ⟨w1.heap.size, 0, none⟩ (.slice A5 ((roundL cs).length + c2.length) c5)) w1.heap.size 27 #[.slice A5 ((roundL cs).length + c2.length) c5] := by
          have := h5.out.set_ 0 (.slice A5 ((roundL cs).length + c2.length) c5)
          simpa using this
        have hk6 : Keep (fun k => ¬ (k = w1.heap.size ∨ (Value.slice A' (roundL cs).length c').ownBlock = some k)) X2 (w5.setCell ⟨w1.heap.size, 0, none⟩ (.slice A5 ((roundL cs).length + c2.length) c5)) :=
          ((Keep.refl _ X2).grown hgrow5 (fun g hg => .inr fun h => h (.inr hg))).set (.inr fun h => h (.inl rfl)) _ _
        have hno : ∀ k, k < w1.heap.size → ¬ (k = w1.heap.size ∨ (Value.slice A' (roundL cs).length c').ownBlock = some k) := by
          rintro k hk (h | h)
          · omega
          · have := (own_in HO.out h).1
            omega
        have ho6 := ((Keep.refl (fun k => k ≠ w1.heap.size) w5).set (g := w1.heap.size) (.inr fun h => h rfl) 0 (.slice A5 ((roundL cs).length + c2.length) c5)).own hown5 (fun g hg => by have := (own_in hown5 hg).1; omega)
        refine .inl ⟨fun k => k = w1.heap.size ∨ (Value.slice A5 (roundL (cs ++ [c2])).length c5).ownBlock = some k, ?_, hk6, rfl, ⟨⟨A5, c5, rfl, ?_, ?_⟩, ?_, ?_⟩⟩
        · rintro k (rfl | hk)
          · exact ⟨e5.lt, .inl (.inl rfl)⟩
          · rw [hl] at hk
            refine ⟨(own_in ho6 hk).2.1, ?_⟩
            rcases hat5 with e | e
            · exact .inl (.inr (e.symm.trans hk))
            · rw [e] at hk
              injection hk with hk
              exact .inr (by omega)
        · rw [hl]
          exact e5
        · rw [hl, HSN.out, show ints (roundL cs ++ c2) = ints (roundL cs) ++ ints c2 by simp [ints]]
          exact ho6
        · exact hk6.blk HI.out.b1 (hno _ H1.out.lt)
        · exact HI.out.below.trans (hk6.below HI.out.below.size fun j hj => hno j (by have := B1.out.size; omega))
      · have hd : decide (1 < c2.length) = false := by simp; omega
        rw [hd]
        have hsn := roundL_snoc cs c2
        rw [if_neg h1] at hsn
        have HSN := Lib.hid hsn
        clear hd h1 hsn
        gi_wp2_with fail
        refine .inl ⟨fun k => k = w1.heap.size ∨ (Value.slice A' (roundL cs).length c').ownBlock = some k, ?_, Keep.refl _ _, rfl, ⟨⟨A', c', ?_, ?_, ?_⟩, HI.out.b1, HI.out.below⟩⟩
        · rintro k (rfl | hk)
          · exact ⟨HB.out.lt, .inl (.inl rfl)⟩
          · exact ⟨(own_in HO.out hk).2.1, .inl (.inr hk)⟩
        · rw [HSN.out]
        · rw [HSN.out]
          exact HB.out
        · rw [HSN.out]
          exact HO.out
    case done =>
      intro cs C D W hD hall hI hdef
      obtain ⟨A', c', rfl, hb, ho⟩ := hI.ex
      have q0 := hb.cell 0
      have hmay : Bit.mayL (roundL cs) := fun x hx => by
        have := hall.toPartsIn.rounds_ends hx
        have := HM3.out
        unfold Bit.mayB
        simp
        omega
      have HOF := Lib.hid (Bit.of_yes A' (roundL cs).length c' (roundL cs) hmay (by have := hall.toPartsIn.rounds_few; have := HM3.out; omega) W (Reads.of_own ho))
      have HDL : Hid (D ≠ w.heap.size + 1 ∧ w.heap.size < D ∧ D < W.heap.size) := by
        have h1 := H1.out.lt
        have h2 := (Array.getElem?_eq_some_iff.1 hdef).1
        simp at hD
        show _ ∧ _ ∧ _
        omega
      have HI := Lib.hid hI
      have HALL := Lib.hid hall
      have HDF0 := Lib.hid hdef
      clear hD hall hI hdef hb ho hmay
      gi_wp2_with fail
      refine ⟨trivial, (callsIn_wide.2 HOF.out).mono ?_⟩
      rintro e W2 ⟨Ab, nb, cb, rfl, hob, bb⟩
      have h2 := Lib.hid (HI.out.b1.below bb HI.out.b1.lt)
      have q1 := h2.out.cell 0
      have q3 := h2.out.frozen 0
      have HDF : Hid ((W2.setCell ⟨w.heap.size + 1, 0, none⟩ (.slice Ab nb cb)).heap[D]? = some (.deferred (some []))) :=
        ((Below.heap_setCell W2 ⟨w.heap.size + 1, 0, none⟩ _ D HDL.out.1).trans (bb.block D HDL.out.2.2)).trans HDF0.out
      have HOB := Lib.hid hob
      have B2 : Hid (Below w.heap.size w W2) := HI.out.below.trans (bb.mono HI.out.below.size)
      have HSW : Hid (w.heap.size + 1 < W.heap.size) := HI.out.b1.lt
      clear hob bb HOF q0 HDF0
      gi_wp2_with fail
      refine ⟨by simp, .inl ⟨_, _, rfl, run_takeDeferred HDF.out, ?_⟩⟩
      have hk2 : ∀ o, Keep (fun k => k ≠ D) (W2.setCell ⟨w.heap.size + 1, 0, none⟩ (.slice Ab nb cb)) ((W2.setCell ⟨w.heap.size + 1, 0, none⟩ (.slice Ab nb cb)).putObj D o) := fun o => (Keep.refl _ _).put (.inr fun h => h rfl) o
      have e1 : Blk (W2.setCell ⟨w.heap.size + 1, 0, none⟩ (.slice Ab nb cb)) (w.heap.size + 1) 38 #[.slice Ab nb cb] := by
        have := h2.out.set_ 0 (.slice Ab nb cb)
        simpa using this
      have e3 : Below w.heap.size w (W2.setCell ⟨w.heap.size + 1, 0, none⟩ (.slice Ab nb cb)) := B2.out.setCell (p := ⟨w.heap.size + 1, 0, none⟩) (Nat.le_succ _) _
      have y1 := fun o => ((hk2 o).blk e1 (Ne.symm HDL.out.1)).cell 0
      have hb6 := fun o => e3.trans ((hk2 o).below e3.size fun j hj => by have := HDL.out.2.1; omega)
      have how := fun o => (show Bit.OW w.heap.size ((W2.setCell ⟨w.heap.size + 1, 0, none⟩ (.slice Ab nb cb)).putObj D o) Ab nb (Bit.setW (Bit.ofF (roundL cs))) from
        ⟨HOB.out.1, fun hn => by
          obtain ⟨g, ds, hA, hg, hk, hc⟩ := HOB.out.2 hn
          have h1 := HSW.out
          have h3 := HDL.out.2.2
          exact ⟨g, ds, hA, by omega, (hk2 o).blk (hk.far (p := ⟨w.heap.size + 1, 0, none⟩) (by show g ≠ w.heap.size + 1; omega) _) (by omega), hc⟩⟩)
      exact ⟨.tuple #[.agg #[.slice Ab nb cb], .int .i64 0], by simp [results, Tryz.results9, go_sem, y1], _, 0, ⟨Ab, nb, cb, rfl, how _, hb6 _⟩, fun _ => ⟨rfl, roundL cs, rfl, fun x hx => HALL.out.toPartsIn.rounds_ends hx, fun v => HALL.out.rounds HGG.out.all v⟩, fun e => by rw [rightG_iff.2 HGG.out] at e; cases e⟩
    case stop =>
      intro D W hD h
      exact h.elim
end Go.Proofs.YtpjbgbgahjggiaaGreat
namespace Go.Proofs.YtpjbgbgahjggiaaGreat
open Go.RowKit

/-- A component at its place. -/
theorem Comps.at_ {zs : List Ed} {m : Nat} {ls : List (List Int)} {os : List Int} (h : Comps zs m ls os) {i : Nat} {l : List Int} (hl : ls[i]? = some l) :
    l ≠ [] ∧ l.Pairwise (· < ·) ∧ 0 ≤ l.headD 0 ∧ ∀ x ∈ l, 0 ≤ x ∧ x < (m : Int) ∧ os[x.toNat]? = some (i : Int) := by
  obtain ⟨ms, hA, rfl, rfl⟩ := h
  rw [setsE_eq, List.getElem?_map] at hl
  obtain ⟨u, hu, rfl⟩ := Option.map_eq_some_iff.1 hl
  have hul := List.mem_of_getElem? hu
  have hum := (mem_leasts.1 hul).1
  have hr := hA.eqv.refl u hum
  refine ⟨?_, setE_up _ _ _, by rw [setE_head hr hul]; omega, fun x hx => ?_⟩
  · intro e
    have := setE_nat.2 ⟨hum, hr⟩
    rw [e] at this
    simp at this
  · obtain ⟨v, rfl, hv, ht⟩ := mem_setE_iff.1 hx
    exact ⟨by omega, by omega, by rw [Int.toNat_natCast]; exact hA.eqv.ofT_get hv hu ht⟩
/-- Their first nodes rise. -/
theorem Comps.heads {zs : List Ed} {m : Nat} {ls : List (List Int)} {os : List Int} (h : Comps zs m ls os) {i : Nat} {l l' : List Int} (hl : ls[i]? = some l) (hl' : ls[i + 1]? = some l') : l.headD 0 < l'.headD 0 := by
  obtain ⟨ms, hA, rfl, rfl⟩ := h
  rw [setsE_eq, List.getElem?_map] at hl hl'
  obtain ⟨u, hu, rfl⟩ := Option.map_eq_some_iff.1 hl
  obtain ⟨v, hv, rfl⟩ := Option.map_eq_some_iff.1 hl'
  have hul := List.mem_of_getElem? hu
  have hvl := List.mem_of_getElem? hv
  rw [setE_head (hA.eqv.refl u (mem_leasts.1 hul).1) hul, setE_head (hA.eqv.refl v (mem_leasts.1 hvl).1) hvl]
  obtain ⟨h1, e1⟩ := List.getElem?_eq_some_iff.1 hu
  obtain ⟨h2, e2⟩ := List.getElem?_eq_some_iff.1 hv
  have := List.pairwise_iff_getElem.1 (leasts_up (togM ms) m) i (i + 1) h1 h2 (by omega)
  omega
theorem Comps.parts {zs : List Ed} {m : Nat} {ls : List (List Int)} {os : List Int} (h : Comps zs m ls os) : PartsAll zs m ls := by
  obtain ⟨ms, hA, rfl, rfl⟩ := h
  have hof : ∀ c ∈ setsE (togM ms) m m, ∃ u, u ∈ leasts (togM ms) m ∧ c = setE (togM ms) m u := fun c hc => by
    rw [setsE_eq] at hc
    obtain ⟨u, hu, rfl⟩ := List.mem_map.1 hc
    exact ⟨u, hu, rfl⟩
  refine ⟨⟨fun c hc => ?_, fun c hc => ?_, fun c hc x hx => ?_, fun c hc x hx y hy0 hy1 => ?_, ?_⟩, fun v hv => ?_⟩
  · obtain ⟨u, hu, rfl⟩ := hof c hc
    have hum := (mem_leasts.1 hu).1
    intro e
    have := setE_nat.2 ⟨hum, hA.eqv.refl u hum⟩
    rw [e] at this
    simp at this
  · obtain ⟨u, hu, rfl⟩ := hof c hc
    exact List.nodup_iff_pairwise_ne.2 ((setE_up _ _ _).imp fun h => by omega)
  · obtain ⟨u, hu, rfl⟩ := hof c hc
    obtain ⟨v, rfl, hv, _⟩ := mem_setE_iff.1 hx
    omega
  · obtain ⟨u, hu, rfl⟩ := hof c hc
    obtain ⟨v, rfl, hv, ht⟩ := mem_setE_iff.1 hx
    obtain ⟨w, rfl⟩ : ∃ w : Nat, y = (w : Int) := ⟨y.toNat, by omega⟩
    have hw : w < m := by omega
    have hum := (mem_leasts.1 hu).1
    rw [setE_nat, both_tog, ← hA.tog hv hw]
    exact ⟨fun hh => hA.eqv.trans _ _ _ hv hum hw (hA.eqv.symm _ _ hum hv ht) hh.2, fun hh => ⟨hw, hA.eqv.trans _ _ _ hum hv hw ht hh⟩⟩
  · rw [setsE_eq, List.pairwise_map]
    refine List.Pairwise.imp_of_mem (fun {u v} hu hv hlt x hx hx2 => ?_) (leasts_up (togM ms) m)
    obtain ⟨a, rfl, ha, h1⟩ := mem_setE_iff.1 hx
    have h2 := (setE_nat.1 hx2).2
    have hum := (mem_leasts.1 hu).1
    have hvm := (mem_leasts.1 hv).1
    have := hA.eqv.least_one hu hv (hA.eqv.trans _ _ _ hum ha hvm h1 (hA.eqv.symm _ _ hvm ha h2))
    omega
  · obtain ⟨u, hu, ht⟩ := hA.eqv.least hv
    exact ⟨setE (togM ms) m u, by rw [setsE_eq]; exact List.mem_map.2 ⟨u, hu, rfl⟩, setE_nat.2 ⟨hv, ht⟩⟩
theorem PartsAll.many {zs : List Ed} {m : Nat} {cs : List (List Int)} (h : PartsAll zs m cs) : cs.flatten.length = m := by
  have hp : cs.flatten.Perm ((List.range m).map fun (w : Nat) => (w : Int)) := by
    refine (List.perm_ext_iff_of_nodup ?_ ?_).2 fun x => ?_
    · rw [List.nodup_iff_pairwise_ne, List.pairwise_flatten]
      refine ⟨fun c hc => List.nodup_iff_pairwise_ne.1 (h.once c hc), h.apart.imp fun h x hx y hy e => ?_⟩
      subst e
      exact h x hx hy
    · rw [List.nodup_iff_pairwise_ne, List.pairwise_map]
      exact (List.pairwise_lt_range).imp fun h => by omega
    · rw [List.mem_flatten, List.mem_map]
      constructor
      · rintro ⟨c, hc, hx⟩
        obtain ⟨w, rfl, hw⟩ := h.toPartsIn.nat hc hx
        exact ⟨w, List.mem_range.2 hw, rfl⟩
      · rintro ⟨w, hw, rfl⟩
        exact h.all w (List.mem_range.1 hw)
  rw [hp.length_eq]
  simp
/-- A node of a component goes round just if it is not alone. -/
theorem Comps.round {zs : List Ed} {m : Nat} {ls : List (List Int)} {os : List Int} (h : Comps zs m ls os) (hz : ∀ p ∈ zs, rightE (m : Int) p = true) {l : List Int} (hl : l ∈ ls) {v : Nat} (hv : (v : Int) ∈ l) : 1 < l.length ↔ Leads zs (v : Int) (v : Int) :=
  h.parts.toPartsIn.round hz hl hv
/-- How many are in the first ones of them, and so on. -/
theorem flatten_next {ls : List (List Int)} {i : Nat} {l : List Int} (h : ls[i]? = some l) : (ls.take (i + 1)).flatten.length = (ls.take i).flatten.length + l.length := by
  rw [List.take_add_one, h]
  simp
end Go.Proofs.YtpjbgbgahjggiaaGreat
