/- Layer topo: Collect of numbers, Order: contracts. -/
import Derived.Maps.OwnIn
import Derived.Maps.AppendAt
import Derived.Test.YtaigpdpcliecpaaM13
import Derived.Test.YtaigpdpcliecpaaM7
import Derived.Test.YtaigpdpcliecpaaM6
-- holds: YtaigpdpcliecpaaTl YtaigpdpcliecpaaTm
namespace Go.Proofs.Ytaigpdpcliecpaa
open Go.RowKit Go.Shelf
theorem run_store_nil7 {P : Program} {w : World} {a : Addr} {m : Mode} : (store a .nilFunc m).run P w = stored P w a .nilFunc m := run_store P w a _ m rfl
attribute [local go_sem] Oper.semAt_some run_store_func7 run_store_nil7

theorem eg_taken : ∀ args w, (callFunc 52 args).run Try.prog w = .ok (.enter 52 args) w := enters_of Try.func52 (by kernel_rfl) rfl
/-- The nodes that are taken, one by one. -/
def TakenIs (zs : List Ed) (m : Nat) (w : World) (e : Ending) (w' : World) : Prop :=
  ∃ lb : Array Value, e = .returned (.tuple #[.func (.func 52) #[] lb, .int .i64 0]) ∧ (∀ d, 1 ≤ d → OneSeq d Try.prog 52 lb (Value.int .i64) (fun vs => Kahn zs m vs) (fun vs => KahnAll zs m vs) (fun k => k < w'.heap.size) w') ∧ Below w.heap.size w w'

set_option maxRecDepth 100000 in
set_option maxHeartbeats 4000000 in
theorem taken_ok (m : Nat) (A : Option Addr) (n c : Nat) (zs : List Ed) (hg : IsG (m : Int) zs) (hn : n ≤ 1000) (hnc : n ≤ c) (w : World) (hR : Reads w w.heap.size 3 A n (cellsE zs)) :
    Calls Try.prog 31 #[.agg #[.int .i64 (m : Int), .slice A n c]] w (TakenIs zs m w) := by
  obtain ⟨bx, b0⟩ := box_new w #[.int .i64 (m : Int), .slice A n c] 24
  have HS := Lib.hid (leaving7_ok m A n c zs hg hn hnc _ ((hR.below b0).more b0.size))
  have BX := Lib.hid bx
  have B0 := Lib.hid b0
  have z0 := bx.cell 0
  have z1 := bx.cell 1
  have HG := Lib.hid hg
  clear hR bx b0 hg
  go_enter Try.func31, Try.ntmps31
  go_upto_region 1 with fail
  generalize w.alloc (.cells #[.int .i64 (m : Int), .slice A n c] 24) = W0 at *
  go_wp2_with fail
  refine HS.out.mono ?_
  rintro e w1 ⟨Lg, Ls, A2, n2, c2, Sa, sc, rfl, hL, hn2, h4⟩
  have BX1 := BX.out.below h4 BX.out.lt
  have hb2 : Below w1.heap.size w1 (w1.alloc (.cells #[.func (.func 56) #[] #[.pointer (some ⟨Lg, 0, none⟩), .pointer (some ⟨Ls, 0, none⟩)]] 63)) := (Below.refl _ _).alloc (Nat.le_refl _) _
  have ko := Blk.new w1 63 #[.func (.func 56) #[] #[.pointer (some ⟨Lg, 0, none⟩), .pointer (some ⟨Ls, 0, none⟩)]]
  have HE : Hid (TakenIs zs m w (.returned (.tuple #[.func (.func 52) #[] #[.pointer (some ⟨w.heap.size, 0, none⟩), .pointer (some ⟨w1.heap.size, 0, none⟩)], .int .i64 0])) (w1.alloc (.cells #[.func (.func 56) #[] #[.pointer (some ⟨Lg, 0, none⟩), .pointer (some ⟨Ls, 0, none⟩)]] 63))) :=
    ⟨_, rfl, fun d hd => taken_seq d hd w.heap.size w1.heap.size Lg Ls A n c A2 n2 c2 Sa sc m zs _ HG.out hn2 ((hL.on hb2).more hb2.size) (BX1.alloc _) ko, B0.out.trans ((h4.trans (hb2.mono h4.size)).mono B0.out.size)⟩
  have n0 : (w1.alloc (.cells #[Value.nilFunc] 63)).cell? ⟨w1.heap.size, 0, none⟩ = some Value.nilFunc := (Blk.new w1 _ #[Value.nilFunc]).cell 0
  have n1 : (w1.alloc (.cells #[Value.nilFunc] 63)).frozen? ⟨w1.heap.size, 0, none⟩ = false := (Blk.new w1 _ #[Value.nilFunc]).frozen 0
  clear hL h4 z0 z1 HS BX1 hb2 ko
  go_wp2_with fail
  go_ret2
  exact HE.out

set_option maxRecDepth 100000 in
set_option maxHeartbeats 4000000 in
theorem taken_no (nodes : Int) (A : Option Addr) (n c : Nat) (zs : List Ed) (hg : rightG nodes zs = false) (hn : n ≤ 1000) (w : World) (hR : Reads w w.heap.size 3 A n (cellsE zs)) :
    Calls Try.prog 31 #[.agg #[.int .i64 nodes, .slice A n c]] w fun e w' => e = .returned (.tuple #[.nilFunc, .int .i64 150]) ∧ Below w.heap.size w w' := by
  obtain ⟨bx, b0⟩ := box_new w #[.int .i64 nodes, .slice A n c] 24
  have HS := Lib.hid (leaving7_no nodes A n c zs hg hn _ ((hR.below b0).more b0.size))
  have B0 := Lib.hid b0
  have z0 := bx.cell 0
  have z1 := bx.cell 1
  clear hR bx b0 hg
  go_enter Try.func31, Try.ntmps31
  go_upto_region 1 with fail
  generalize w.alloc (.cells #[.int .i64 nodes, .slice A n c] 24) = W0 at *
  go_wp2_with fail
  refine HS.out.mono ?_
  rintro e w1 ⟨rfl, h4⟩
  have n0 : (w1.alloc (.cells #[Value.nilFunc] 63)).cell? ⟨w1.heap.size, 0, none⟩ = some Value.nilFunc := (Blk.new w1 _ #[Value.nilFunc]).cell 0
  have n1 : (w1.alloc (.cells #[Value.nilFunc] 63)).frozen? ⟨w1.heap.size, 0, none⟩ = false := (Blk.new w1 _ #[Value.nilFunc]).frozen 0
  have B2 : Hid (Below w.heap.size w (w1.alloc (.cells #[Value.nilFunc] 63))) := B0.out.trans ((h4.alloc h4.size _).mono B0.out.size)
  clear h4 z0 z1 HS B0
  go_wp2_with fail
  go_ret2
  exact ⟨rfl, B2.out⟩
end Go.Proofs.Ytaigpdpcliecpaa
namespace Go.Proofs.Ytaigpdpcliecpaa
open Go.RowKit Go.Shelf
attribute [local go_sem] Oper.semAt_some

/-- Numbers, in memory of the call's own, that end a row. -/
def GotIs (End : List Int → Prop) (w : World) (e : Ending) (w' : World) : Prop :=
  ∃ (vs : List Int) (A : Option Addr) (c : Nat), End vs ∧ e = .returned (.slice A vs.length c) ∧ w'.ownsRow w.heap.size 3 1 (.slice A vs.length c) vs.length (ints vs) ∧ vs.length ≤ c ∧ c ≤ 9223372036854775807 ∧ Below w.heap.size w w'
structure GatI (w : World) (N : Nat) (vs : List Int) (C : Nat → Prop) (W : World) : Prop where
  ex : ∃ (A : Option Addr) (c : Nat), C = (fun k => k = N ∨ (Value.slice A vs.length c).ownBlock = some k) ∧ Blk W N 27 #[.slice A vs.length c] ∧ W.ownsRow (N + 1) 3 1 (.slice A vs.length c) vs.length (ints vs)
  below : Below w.heap.size w W

set_option maxRecDepth 100000 in
set_option maxHeartbeats 4000000 in
theorem append_seq7 (d : Nat) (hd : 2 ≤ d) (gf : Nat) (lb : Array Value) (Ok End : List Int → Prop) (hfew : ∀ vs, Ok vs → vs.length ≤ 1000) (w1 : World) (eg : ∀ args w, (callFunc gf args).run Try.prog w = .ok (.enter gf args) w)
    (hseq : OneSeq (d - 1) Try.prog gf lb (Value.int .i64) Ok End (fun k => k < w1.heap.size) w1) (w : World) (hb : Below w1.heap.size w1 w) :
    CallsIn Fence.wide d Try.prog 54 #[.slice none 0 0, .func (.func gf) #[] lb] w (GotIs End w) := by
  have h1 : 1 ≤ d := by omega
  obtain ⟨i0, hi, hz0, hz1, hz2⟩ := info_parts int_info
  have HSEQ := Lib.hid hseq
  have HB := Lib.hid hb
  have HFEW := Lib.hid hfew
  clear hseq hb hfew
  refine callsIn_of_wp_marks Try.func54 rfl trivial ?_ rfl
  simp only [Try.ntmps54, List.size_toArray, List.length_cons, List.length_nil, Nat.reduceAdd, Nat.reduceSub, Array.replicate_succ, Array.replicate_zero, List.push_toArray, List.append_toArray, List.nil_append, List.cons_append]
  gi_wp2_with fail
  have K0 := Lib.hid (Blk.new w 27 #[.slice none 0 0])
  have hB0 : Below w.heap.size w (w.alloc (.cells #[.slice none 0 0] 27)) := (Below.refl _ w).alloc (Nat.le_refl _) _
  have HB0 := Lib.hid hB0
  have hsz : (w.alloc (.cells #[.slice none 0 0] 27)).heap.size = w.heap.size + 1 := by simp
  have HSZ0 := Lib.hid hsz
  clear hB0 hsz
  generalize w.alloc (.cells #[.slice none 0 0] 27) = W0 at *
  have hk : Keep (fun k => k < w1.heap.size) w1 W0 := Keep.of_below (HB.out.trans (HB0.out.mono HB.out.size))
  refine range_val none h1 (gf := gf) (lb := lb) rfl eg HSEQ.out hk (fun k h => by have h1 := HB.out.size; have h2 := HSZ0.out; omega) 7 5 rfl
    (GatI w w.heap.size) (fun _ => False) (fun k => k = w.heap.size ∨ (Value.slice none 0 0).ownBlock = some k) ?hC0 ⟨⟨none, 0, rfl, K0.out, World.ownsRow_nil _ _ _ _⟩, HB0.out⟩ ?hI (fun _ _ h _ => h) ?assign ?body ?done ?stop
  case hC0 =>
    have h1 := HB.out.size
    have h2 := HSZ0.out
    rintro k (rfl | hk)
    · omega
    · cases hk
  case hI =>
    intro vs C X Y h hk
    obtain ⟨A', c', rfl, hb, ho⟩ := h.ex
    exact ⟨⟨A', c', rfl, hk.blk hb (.inr (.inl rfl)), hk.own ho fun g hg => .inr (.inr hg)⟩, h.below.trans (hk.below h.below.size fun j hj => .inl (by have := HSZ0.out; omega))⟩
  case assign =>
    intro l c W K hK
    simp only [List.setIfInBounds_toArray, List.set_cons_zero, List.set_cons_succ] at hK ⊢
    gi_wp2_with fail
    exact hK
  case body =>
    intro l vs v C X hI hok hCk hsz
    obtain ⟨A', c', rfl, hb, ho⟩ := hI.ex
    have HI := Lib.hid hI
    have HO := Lib.hid ho
    have HBK := Lib.hid hb
    have hfew : vs.length ≤ 1000 := by have := HFEW.out _ hok; simp at this; omega
    have HSZ : Hid (w.heap.size + 1 ≤ X.heap.size) := by have := HSZ0.out; show _ ≤ _; omega
    have q0 := hb.cell 0
    clear hI hok hCk hb ho hsz
    simp only [List.setIfInBounds_toArray, List.set_cons_zero, List.set_cons_succ]
    gi_wp2_with (gi_at_builtin; refine wpListIn_append_own_at _ rfl _ _ 27 rfl (w.heap.size + 1) 3 i0 _ 1 8 Try.underlying27 hi hz0 hz1 hz2 rfl (by decide) (.slice A' vs.length c') vs.length _ rfl (HO.out.alloc _) ⟨X.heap.size, 0, none⟩ 1 1 [.int .i64 v] rfl rfl (cell_one_new _ _ _) (by intro q hq; simp at hq; subst hq; rfl) (by unfold maxLen; omega) (by omega) (by have := HSZ.out; simp; omega) ?_; intro v5 w5 hown5 hgrow5 _ hat5; obtain ⟨A5, c5, rfl, _, _⟩ := own_form2 hown5; have h5 : Hid (Blk w5 w.heap.size 27 #[.slice A' vs.length c']) := (HBK.out.alloc _).grown hgrow5 (fun e => by have := (own_in HO.out (by first | exact e | exact e.symm)).1; omega); have q5 := h5.out.cell 0; have q6 := h5.out.frozen 0)
    have hs5 : (X.alloc (.cells #[.int .i64 v] 3)).heap.size = X.heap.size + 1 := by simp
    rw [hs5] at hat5
    have hl : (vs ++ [v]).length = vs.length + 1 := by simp
    have e5 : Blk (w5.setCell ⟨w.heap.size, 0, none⟩ (.slice A5 (vs.length + 1) c5)) w.heap.size 27 #[.slice A5 (vs.length + 1) c5] := by
      have := h5.out.set_ 0 (.slice A5 (vs.length + 1) c5)
      simpa using this
    have hk6 : Keep (fun k => ¬ (k = w.heap.size ∨ (Value.slice A' vs.length c').ownBlock = some k)) X (w5.setCell ⟨w.heap.size, 0, none⟩ (.slice A5 (vs.length + 1) c5)) :=
      (((Keep.refl _ X).alloc _).grown hgrow5 (fun g hg => .inr fun h => h (.inr hg))).set (.inr fun h => h (.inl rfl)) _ _
    have hno : ∀ k, k < w.heap.size → ¬ (k = w.heap.size ∨ (Value.slice A' vs.length c').ownBlock = some k) := by
      rintro k hk (h | h)
      · omega
      · have := (own_in HO.out h).1
        omega
    have ho6 := ((Keep.refl (fun k => k ≠ w.heap.size) w5).set (g := w.heap.size) (.inr fun h => h rfl) 0 (.slice A5 (vs.length + 1) c5)).own hown5 (fun g hg => by have := (own_in hown5 hg).1; omega)
    refine .inl ⟨fun k => k = w.heap.size ∨ (Value.slice A5 (vs ++ [v]).length c5).ownBlock = some k, ?_, hk6, rfl, ⟨⟨A5, c5, rfl, ?_, ?_⟩, ?_⟩⟩
    · rintro k (rfl | hk)
      · exact ⟨e5.lt, .inl (.inl rfl)⟩
      · rw [hl] at hk
        refine ⟨(own_in ho6 hk).2.1, ?_⟩
        rcases hat5 with e | e
        · exact .inl (.inr (e.symm.trans hk))
        · rw [e] at hk
          injection hk with hk
          exact .inr (by omega)
    · rw [hl]
      exact e5
    · rw [hl, show ints (vs ++ [v]) = ints vs ++ [.int .i64 v] by simp [ints]]
      exact ho6
    · exact HI.out.below.trans (hk6.below HI.out.below.size fun j hj => hno j (by omega))
  case done =>
    intro vs C D W hD hend hI hdef
    obtain ⟨A', c', rfl, hb, ho⟩ := hI.ex
    have hDne : D ≠ w.heap.size := by have := HSZ0.out; omega
    have hkp : Keep (fun k => k ≠ D) W (W.putObj D (.deferred none)) := (Keep.refl _ W).put (.inr fun h => h rfl) _
    have e0 := hb.cell 0
    have HE : Hid (GotIs End w (.returned (.slice A' vs.length c')) (W.putObj D (.deferred none))) := by
      have h1 := own_form2 ho
      refine ⟨vs, A', c', hend, rfl, ?_, ?_, ?_, hI.below.trans (hkp.below hI.below.size fun j hj => by have := HSZ0.out; omega)⟩
      · refine own_base ?_ (Nat.le_succ _)
        refine hkp.own ho fun g hg e => ?_
        obtain ⟨_, _, cur, hc⟩ := own_in ho hg
        unfold Blk at hc
        rw [e, hdef] at hc
        cases hc
      · obtain ⟨A2, c2, e, h2, h3⟩ := h1
        injection e with _ _ e
        omega
      · obtain ⟨A2, c2, e, h2, h3⟩ := h1
        injection e with _ _ e
        omega
    have HD := Lib.hid hdef
    clear hb ho hI hend hdef
    gi_wp2_with fail
    refine ⟨by simp, .inl ⟨_, _, rfl, run_takeDeferred HD.out, ?_⟩⟩
    exact ⟨.slice A' vs.length c', by simp [results, Try.results54, go_sem], HE.out⟩
  case stop =>
    intro D W hD h
    exact h.elim

set_option maxHeartbeats 1000000 in
theorem collect7 (gf : Nat) (lb : Array Value) (Ok End : List Int → Prop) (hfew : ∀ vs, Ok vs → vs.length ≤ 1000) (w1 : World) (eg : ∀ args w, (callFunc gf args).run Try.prog w = .ok (.enter gf args) w)
    (hseq : OneSeq 9 Try.prog gf lb (Value.int .i64) Ok End (fun k => k < w1.heap.size) w1) (w : World) (hb : Below w1.heap.size w1 w) :
    Calls Try.prog 32 #[.func (.func gf) #[] lb] w (GotIs End w) := by
  have HA := Lib.hid (callsIn_wide.1 (append_seq7 10 (by omega) gf lb Ok End hfew w1 eg hseq w hb))
  clear hseq
  go_enter Try.func32, Try.ntmps32
  go_wp2_with fail
  refine HA.out.mono ?_
  rintro e w1 ⟨vs, A, c, h1, rfl, h2⟩
  have HF := Lib.hid (And.intro h1 h2)
  clear h1 h2 HA
  go_wp2_with fail
  go_ret
  exact ⟨vs, A, c, HF.out.1, rfl, HF.out.2⟩

/-- What Order gives. -/
def OrderIs (zs : List Ed) (m : Nat) (w : World) (e : Ending) (w' : World) : Prop :=
  ∃ (l : List Int), KahnAll zs m l ∧ Below w.heap.size w w' ∧ ((l.length < m ∧ e = .returned (.tuple #[.slice none 0 0, .bool false, .int .i64 0])) ∨
    (l.length = m ∧ ∃ (A : Option Addr) (c : Nat), e = .returned (.tuple #[.slice A l.length c, .bool true, .int .i64 0]) ∧ w'.ownsRow w.heap.size 3 1 (.slice A l.length c) l.length (ints l) ∧ l.length ≤ c ∧ c ≤ 9223372036854775807))

set_option maxRecDepth 100000 in
set_option maxHeartbeats 4000000 in
theorem order7_ok (m : Nat) (A : Option Addr) (n c : Nat) (zs : List Ed) (hg : IsG (m : Int) zs) (hn : n ≤ 1000) (hnc : n ≤ c) (w : World) (hR : Reads w w.heap.size 3 A n (cellsE zs)) :
    Calls Try.prog 10 #[.agg #[.int .i64 (m : Int), .slice A n c]] w (OrderIs zs m w) := by
  obtain ⟨bx, b0⟩ := box_new w #[.int .i64 (m : Int), .slice A n c] 24
  have HS := Lib.hid (taken_ok m A n c zs hg hn hnc _ ((hR.below b0).more b0.size))
  have hm := hg.nodes
  have HM : Hid (m ≤ 300) := by show _ ≤ _; omega
  have BX := Lib.hid bx
  have B0 := Lib.hid b0
  have z0 := bx.cell 0
  have z1 := bx.cell 1
  clear hR bx b0 hg hm
  go_enter Try.func10, Try.ntmps10
  go_upto_region 1 with fail
  generalize w.alloc (.cells #[.int .i64 (m : Int), .slice A n c] 24) = W0 at *
  go_wp2_with fail
  refine HS.out.mono ?_
  rintro e w1 ⟨lb, rfl, hseq, h4⟩
  have HC := Lib.hid (collect7 52 lb (fun vs => Kahn zs m vs) (fun vs => KahnAll zs m vs) (fun vs h => by have := h.few; have := HM.out; omega) w1 eg_taken (hseq 9 (by omega)) w1 (Below.refl _ _))
  have BX1 := Lib.hid (BX.out.below h4 BX.out.lt)
  have B1 : Hid (Below w.heap.size w w1) := B0.out.trans (h4.mono B0.out.size)
  clear hseq h4 z0 z1 HS BX B0
  go_wp2_with fail
  refine HC.out.mono ?_
  rintro e w2 ⟨l, A2, c2, hall, rfl, ho, hlc, hcm, hb⟩
  have z0 := (BX1.out.below hb BX1.out.lt).cell 0
  have B2 : Hid (Below w.heap.size w w2) := B1.out.trans (hb.mono B1.out.size)
  have HO := Lib.hid (own_base ho B1.out.size)
  have HAL := Lib.hid hall
  have HLC := Lib.hid (And.intro hlc hcm)
  have hfew := hall.way.few
  clear ho hb hall hlc hcm HC
  by_cases hl : l.length < m
  · have hlt : (l.length : Int) < (m : Int) := by omega
    have HL := Lib.hid hl
    clear hl
    go_wp2_with fail
    refine bodyPost_ret (v := .tuple #[.slice none 0 0, .bool false, .int .i64 0]) (by simp [results, Try.results10, go_sem]) rfl ?_
    exact ⟨l, HAL.out, B2.out, .inl ⟨HL.out, rfl⟩⟩
  · have hge : ¬ (l.length : Int) < (m : Int) := by omega
    have HL : Hid (l.length = m) := by show _ = _; omega
    clear hl
    go_wp2_with fail
    refine bodyPost_ret (v := .tuple #[.slice A2 l.length c2, .bool true, .int .i64 0]) (by simp [results, Try.results10, go_sem]) rfl ?_
    exact ⟨l, HAL.out, B2.out, .inr ⟨HL.out, A2, c2, rfl, HO.out, HLC.out⟩⟩

set_option maxRecDepth 100000 in
set_option maxHeartbeats 4000000 in
theorem order7_no (nodes : Int) (A : Option Addr) (n c : Nat) (zs : List Ed) (hg : rightG nodes zs = false) (hn : n ≤ 1000) (w : World) (hR : Reads w w.heap.size 3 A n (cellsE zs)) :
    Calls Try.prog 10 #[.agg #[.int .i64 nodes, .slice A n c]] w fun e w' => e = .returned (.tuple #[.slice none 0 0, .bool false, .int .i64 150]) ∧ Below w.heap.size w w' := by
  obtain ⟨bx, b0⟩ := box_new w #[.int .i64 nodes, .slice A n c] 24
  have HS := Lib.hid (taken_no nodes A n c zs hg hn _ ((hR.below b0).more b0.size))
  have B0 := Lib.hid b0
  have z0 := bx.cell 0
  have z1 := bx.cell 1
  clear hR bx b0 hg
  go_enter Try.func10, Try.ntmps10
  go_upto_region 1 with fail
  generalize w.alloc (.cells #[.int .i64 nodes, .slice A n c] 24) = W0 at *
  go_wp2_with fail
  refine HS.out.mono ?_
  rintro e w1 ⟨rfl, h4⟩
  have B2 : Hid (Below w.heap.size w w1) := B0.out.trans (h4.mono B0.out.size)
  clear h4 z0 z1 HS B0
  go_wp2_with fail
  refine bodyPost_ret (v := .tuple #[.slice none 0 0, .bool false, .int .i64 150]) (by simp [results, Try.results10, go_sem]) rfl ?_
  exact ⟨rfl, B2.out⟩
end Go.Proofs.Ytaigpdpcliecpaa
