/- GraphTurns: AppendSeq, Collect and Filter, where the question writes down what it is asked. -/
import Derived.Test.YticbgikbpafeoaaHn
namespace Go.Proofs.Yticbgikbpafeoaa
open Go.RowKit Go.Shelf
attribute [local go_sem] Oper.semAt_some

/-- Of what was there only that variable has turned. -/
abbrev Chg (B : Nat) (w w' : World) : Prop := Mv B (.slice none 0 0) w w'
theorem Chg.at_ {B k : Nat} {w w' : World} (h : Chg B w w') (hk : k < w.heap.size) (hB : k ≠ B) : w'.heap[k]? = w.heap[k]? := h.block k hk hB (by simp [Value.ownBlock])
theorem Chg.blk {B C : Nat} {w w' : World} {t : TypeId} {cs : Array Value} (h : Chg B w w') (hk : Blk w C t cs) (hB : C ≠ B) : Blk w' C t cs := (h.at_ hk.lt hB).trans hk
theorem Chg.trans {B : Nat} {a b c : World} (h : Chg B a b) (k : Chg B b c) : Chg B a c :=
  ⟨k.os.trans h.os, k.tape.trans h.tape, k.output.trans h.output, Nat.le_trans h.size k.size, fun _ hi hB _ => (k.at_ (Nat.lt_of_lt_of_le hi h.size) hB).trans (h.at_ hi hB)⟩
theorem Chg.of_below {B : Nat} {a b : World} (h : Below a.heap.size a b) : Chg B a b := ⟨h.os, h.tape, h.output, h.size, fun i hi _ _ => h.block i hi⟩
theorem Chg.below {B : Nat} {a b : World} (h : Chg B a b) (hB : B ≤ a.heap.size) : Below B a b := ⟨h.os, h.tape, h.output, h.size, fun i hi => h.at_ (by omega) (by omega)⟩
/-- A step that turns another variable, and its row, both made since. -/
theorem Chg.mv {B C : Nat} {v : Value} {w W W' : World} (h : Chg B w W) (m : Mv C v W W') (hC : w.heap.size ≤ C) (hv : ∀ g, v.ownBlock = some g → w.heap.size ≤ g) : Chg B w W' :=
  ⟨m.os.trans h.os, m.tape.trans h.tape, m.output.trans h.output, Nat.le_trans h.size m.size, fun i hi hB _ => (m.block i (Nat.lt_of_lt_of_le hi h.size) (by omega) (fun e => by have := hv i e; omega)).trans (h.at_ hi hB)⟩
/-- A step that turns the variable itself, and its row. -/
theorem Chg.self {B : Nat} {v : Value} {w W W' : World} (h : Chg B w W) (m : Mv B v W W') (hv : ∀ g, v.ownBlock = some g → w.heap.size ≤ g) : Chg B w W' :=
  ⟨m.os.trans h.os, m.tape.trans h.tape, m.output.trans h.output, Nat.le_trans h.size m.size, fun i hi hB _ => (m.block i (Nat.lt_of_lt_of_le hi h.size) hB (fun e => by have := hv i e; omega)).trans (h.at_ hi hB)⟩
theorem Chg.putObj {B l : Nat} {w W : World} (h : Chg B w W) (o' : Obj) (hl : w.heap.size ≤ l) : Chg B w (W.putObj l o') :=
  ⟨h.os, h.tape, h.output, Nat.le_trans h.size (by simp), fun i hi hB _ => (World.putObj_heap_other (by omega)).trans (h.at_ hi hB)⟩
theorem reads_chg {w W : World} {B Ba n : Nat} {A : Option Addr} {zs : List Ed} {v : Value} {t : TypeId} (h : Reads w w.heap.size 3 A n (cellsE zs)) (hA : Blk w Ba t #[v]) (m : Chg Ba w W) (hB : w.heap.size ≤ B) : Reads W B 3 A n (cellsE zs) := by
  refine ⟨h.1, fun hn => ?_⟩
  obtain ⟨ad, rfl, hb, hc⟩ := h.2 hn
  refine ⟨ad, rfl, Nat.lt_of_lt_of_le hb hB, fun j u hu => ?_⟩
  have hl := h.1
  have h0 := hc 0 _ (List.getElem?_eq_getElem (show 0 < (cellsE zs).length by omega))
  have h1 := hc 1 _ (List.getElem?_eq_getElem (show 1 < (cellsE zs).length by omega))
  have h3 := hc j u hu
  obtain ⟨bl, o, spot⟩ := ad
  have hspot : spot = none := by simpa [Addr.add] using World.cell?_spot h0
  subst hspot
  rw [Go.WideShapes.add_plain] at h1 h3 ⊢
  by_cases e : bl = Ba
  · exfalso
    subst e
    rw [hA.cell] at h1
    have : (#[v] : Array Value)[o + 1]? = none := Array.getElem?_eq_none (by simp)
    rw [this] at h1
    cases h1
  · rw [← h3]
    exact World.cell?_of_block (w := w) (m.at_ hb e)

theorem blk_putObj {W : World} {c l : Nat} {t : TypeId} {cs : Array Value} {o : Obj} (h : Blk W c t cs) (o' : Obj) (hl : W.heap[l]? = some o) (ho : o.isCells = false) : Blk (W.putObj l o') c t cs := by
  refine (World.putObj_heap_other fun e => ?_).trans h
  subst e
  unfold Blk at h
  rw [hl] at h
  injection h with h
  rw [h] at ho
  cases ho
/-- What a row of edges that the question was asked of has become. -/
def TurnsIs (rs zs : List Ed) (Ba : Nat) (w : World) (e : Ending) (w' : World) : Prop :=
  ∃ (A' : Option Addr) (c' : Nat) (Aa : Option Addr) (ca : Nat), e = .returned (.slice A' rs.length c') ∧ w'.ownsRow w.heap.size 35 3 (.slice A' rs.length c') rs.length (cellsE rs) ∧ rs.length ≤ c' ∧ c' ≤ 9223372036854775807 ∧
    BRow w' Ba w.heap.size (.slice Aa zs.length ca) zs.length zs ∧ Chg Ba w w'
/-- What holds between the rounds. -/
def TI (w : World) (Ba : Nat) (es pre : List Ed) (W : World) : Prop :=
  ∃ (Ar : Option Addr) (cr : Nat) (Aa : Option Addr) (ca : Nat), BRow W w.heap.size w.heap.size (.slice Ar pre.length cr) pre.length pre ∧ BRow W Ba w.heap.size (.slice Aa es.length ca) es.length es ∧ Apart (.slice Ar pre.length cr) (.slice Aa es.length ca) ∧ Chg Ba w W
theorem TI.alloc {w W : World} {Ba : Nat} {es pre : List Ed} (h : TI w Ba es pre W) (o : Obj) : TI w Ba es pre (W.alloc o) := by
  obtain ⟨Ar, cr, Aa, ca, h1, h2, h3, h4⟩ := h
  exact ⟨Ar, cr, Aa, ca, h1.alloc o, h2.alloc o, h3, h4.alloc o⟩
theorem TI.size {w W : World} {Ba : Nat} {es pre : List Ed} (h : TI w Ba es pre W) : w.heap.size ≤ W.heap.size := by
  obtain ⟨_, _, _, _, _, _, _, h4⟩ := h
  exact h4.size
theorem TI.putObj {w W : World} {Ba l : Nat} {es pre : List Ed} {o : Obj} (h : TI w Ba es pre W) (o' : Obj) (hl : W.heap[l]? = some o) (ho : o.isCells = false) (hlw : w.heap.size ≤ l) : TI w Ba es pre (W.putObj l o') := by
  obtain ⟨Ar, cr, Aa, ca, h1, h2, h3, h4⟩ := h
  exact ⟨Ar, cr, Aa, ca, h1.putObj o' hl ho, h2.putObj o' hl ho, h3, h4.putObj o' hlw⟩
/-- The question is asked. -/
theorem TI.ask {w W W' : World} {Ba k : Nat} {es pre : List Ed} {p : Ed} {Ar Aa A' : Option Addr} {cr ca c' N : Nat} (h1 : BRow W w.heap.size w.heap.size (.slice Ar pre.length cr) pre.length pre) (h2 : BRow W Ba w.heap.size (.slice Aa es.length ca) es.length es) (h3 : Apart (.slice Ar pre.length cr) (.slice Aa es.length ca)) (h4 : Chg Ba w W)
    (hb : Ba < w.heap.size) (hk : k = es.length + 1) (r1 : BRow W' Ba w.heap.size (.slice A' k c') k (es ++ [p])) (r2 : Mv Ba (.slice Aa es.length ca) W W') (r3 : (Value.slice A' k c').ownBlock = (Value.slice Aa es.length ca).ownBlock ∨ (Value.slice A' k c').ownBlock = some N) (r4 : W.heap.size ≤ N) : TI w Ba (es ++ [p]) pre W' := by
  subst hk
  refine ⟨Ar, cr, A', c', h1.other h2 r2 (by omega) h3, by simpa using r1, ?_, h4.self r2 fun g hg => (h2.2.lt g hg).1⟩
  have := h3.new h1 r3 r4
  simpa using this
/-- An edge is told, and laid behind the others. -/
theorem TI.tell {w W W' : World} {Ba k : Nat} {es pre : List Ed} {p : Ed} {Ar Aa A' : Option Addr} {cr ca c' N : Nat} (h1 : BRow W w.heap.size w.heap.size (.slice Ar pre.length cr) pre.length pre) (h2 : BRow W Ba w.heap.size (.slice Aa es.length ca) es.length es) (h3 : Apart (.slice Ar pre.length cr) (.slice Aa es.length ca)) (h4 : Chg Ba w W)
    (hb : Ba < w.heap.size) (hk : k = pre.length + 1) (r1 : BRow W' w.heap.size w.heap.size (.slice A' k c') k (pre ++ [p])) (r2 : Mv w.heap.size (.slice Ar pre.length cr) W W') (r3 : (Value.slice A' k c').ownBlock = (Value.slice Ar pre.length cr).ownBlock ∨ (Value.slice A' k c').ownBlock = some N) (r4 : W.heap.size ≤ N) : KeepsOthers W W' ∧ TI w Ba es (pre ++ [p]) W' := by
  subst hk
  refine ⟨h1.keeps r2, A', c', Aa, ca, by simpa using r1, h2.other h1 r2 (by omega) h3.symm, ?_, h4.mv r2 (Nat.le_refl _) fun g hg => (h1.2.lt g hg).1⟩
  have := (h3.symm.new h2 r3 r4).symm
  simpa using this

set_option maxRecDepth 100000 in
set_option maxHeartbeats 4000000 in
theorem turns_append_in (m : Nat) (hm : 6 ≤ m) (Bs Bf Ba Bk n c : Nat) (A : Option Addr) (zs : List Ed) (kd : Int) (hn : n ≤ 1000) (w : World)
    (hs : Blk w Bs 22 #[.slice A n c]) (hf : Blk w Bf 54 #[.func (.func 31) #[] #[.pointer (some ⟨Ba, 0, none⟩), .pointer (some ⟨Bk, 0, none⟩)]]) (hR : Reads w w.heap.size 3 A n (cellsE zs))
    (hA : Blk w Ba 22 #[.slice none 0 0]) (hK : Blk w Bk 3 #[.int .i64 kd]) (hsa : Bs ≠ Ba) :
    CallsIn Fence.wide m Try.prog 66 #[.slice none 0 0, .func (.func 67) #[] #[.pointer (some ⟨Bs, 0, none⟩), .pointer (some ⟨Bf, 0, none⟩)]] w (TurnsIs (zs.filter fun p => decide (p.2.2 ≤ kd)) zs Ba w) := by
  obtain ⟨rs, hrs⟩ : ∃ rs, (zs.filter fun p => decide (p.2.2 ≤ kd)) = rs := ⟨_, rfl⟩
  rw [hrs]
  have h1 : 1 ≤ m := by omega
  have hl := reads_len hR
  obtain ⟨i0, hi, hz0, hz1, hz2⟩ := info_parts pair_info
  have hbl := hA.lt
  have hfa : Bf ≠ Ba := fun e => by subst e; exact Blk.ne_ hf hA (by decide) rfl
  have hka : Bk ≠ Ba := fun e => by subst e; exact Blk.ne_ hK hA (by decide) rfl
  refine callsIn_of_wp_marks Try.func66 rfl trivial ?_ rfl
  simp only [Try.ntmps66, List.size_toArray, List.length_cons, List.length_nil, Nat.reduceAdd, Nat.reduceSub, Array.replicate_succ, Array.replicate_zero, List.push_toArray, List.append_toArray, List.nil_append, List.cons_append]
  gi_wp2_with fail
  have T0 : TI w Ba [] [] (w.alloc (.cells #[.slice none 0 0] 22)) :=
    ⟨none, 0, none, 0, ⟨Blk.new w _ _, World.ownsRow_nil _ _ _ _⟩, ⟨hA.alloc _, World.ownsRow_nil _ _ _ _⟩, fun g hg => by simp [Value.ownBlock] at hg, (Mv.refl _ _ _).alloc _⟩
  have hsz : (w.alloc (.cells #[.slice none 0 0] 22)).heap.size = w.heap.size + 1 := by simp
  obtain ⟨W0, hW0⟩ : ∃ W0, w.alloc (.cells #[.slice none 0 0] 22) = W0 := ⟨_, rfl⟩
  rw [hW0] at T0 hsz ⊢
  clear hW0
  refine range_own rfl h1 (gf := 67) (lb := #[.pointer (some ⟨Bs, 0, none⟩), .pointer (some ⟨Bf, 0, none⟩)]) rfl trivial eg_those 1000 encE (fun _ => rfl) ([] : List Ed) (fun es ys => es = zs ∧ ys = rs) (fun es pre W => TI w Ba es pre W)
    (fun x a' W => ∃ Bx : Nat, Blk W Bx 35 #[.int .i64 x.1, .int .i64 x.2.1, .int .i64 x.2.2] ∧ a' = { tmps := #[.slice none 0 0, .func (.func 67) #[] #[.pointer (some ⟨Bs, 0, none⟩), .pointer (some ⟨Bf, 0, none⟩)], .pointer (some ⟨w.heap.size, 0, none⟩), undef, .slice none 0 0, .pointer (some ⟨Bx, 0, none⟩), .func (.func 67) #[] #[.pointer (some ⟨Bs, 0, none⟩), .pointer (some ⟨Bf, 0, none⟩)], .agg #[.int .i64 x.1, .int .i64 x.2.1, .int .i64 x.2.2], undef, undef, undef, undef, undef], defers := [] })
    (fun o _ => (T0.alloc _).alloc o) ?_ ?_ ?hseq ?assign ?body ?done
  · intro s pre W l o o' h hlw hl ho
    exact h.putObj o' hl ho (by omega)
  · rintro x a' W l o o' ⟨Bx, hb, e⟩ hl ho
    exact ⟨Bx, blk_putObj hb o' hl ho, e⟩
  case hseq =>
    intro o W1 ho hL hD hT hY
    refine (those_in_turns1 (m - 1) (by omega) (W0.heap.size + 1) Bs Bf Ba Bk w.heap.size A n c zs (fun p => decide (p.2.2 ≤ kd)) hn
      (fun i W => TI w Ba (zs.take i) (fil (fun p => decide (p.2.2 ≤ kd)) zs i) W ∧ W.heap[W0.heap.size + 1]? = some o ∧ W.heap[W0.heap.size]? = some (.deferred (some [])))
      (fun i W => TI w Ba (zs.take (i + 1)) (fil (fun p => decide (p.2.2 ≤ kd)) zs i) W ∧ W.heap[W0.heap.size + 1]? = some o ∧ W.heap[W0.heap.size]? = some (.deferred (some [])))
      (fun _ _ => False) (fun i W h => ?_) (fun i p W hp h => ?_) (fun i p W hp hq h => ?_) (fun i p W hp hq h => ?_) W1 ⟨by simpa [fil] using hT, hL, hD⟩).mono ?_
    · obtain ⟨⟨_, _, _, _, _, _, _, h4⟩, _⟩ := h
      exact ⟨h4.blk hs hsa, h4.blk hf hfa, reads_chg hR hA h4 (Nat.le_refl _)⟩
    · obtain ⟨⟨Ar, cr, Aa, ca, g1, g2, g3, g4⟩, hl1, hd1⟩ := h
      have hlen : (zs.take i).length ≤ 1000 := by rw [List.length_take]; omega
      have hk := Blk.new W 35 #[.int .i64 p.1, .int .i64 p.2.1, .int .i64 p.2.2]
      have hns : W.heap.size ≠ Ba := Ne.symm (Nat.ne_of_lt g2.1.lt)
      have hno : (Value.slice Aa (zs.take i).length ca).ownBlock ≠ some W.heap.size := fun e => by have := (g2.2.lt _ e).2; omega
      have hl2 := (Below.heap_alloc W (.cells #[.int .i64 p.1, .int .i64 p.2.1, .int .i64 p.2.2] 35) _ (Array.getElem?_eq_some_iff.1 hl1).1).trans hl1
      have hd2 := (Below.heap_alloc W (.cells #[.int .i64 p.1, .int .i64 p.2.1, .int .i64 p.2.2] 35) _ (Array.getElem?_eq_some_iff.1 hd1).1).trans hd1
      refine (turns1_any p kd Ba Bk w.heap.size Aa (zs.take i).length ca (zs.take i) _ (g2.alloc _) (Chg.blk (g4.alloc _) hK hka) hlen (g4.alloc _).size).mono ?_
      rintro e W' ⟨rfl, A', c', N, r1, r2, r3, r4⟩
      refine ⟨rfl, ⟨?_, (g2.alloc _).obj r2 hl2 ho, (g2.alloc _).obj r2 hd2 rfl⟩, (r2.block _ hk.lt hns hno).trans hk⟩
      have := TI.ask (g1.alloc _) (g2.alloc _) g3 (g4.alloc _) hbl rfl r1 r2 r3 r4
      rwa [show zs.take i ++ [p] = zs.take (i + 1) from by rw [List.take_add_one, hp]; rfl] at this
    · rw [fil_skip hp hq]
      exact h
    · have hlen : (fil (fun p : Ed => decide (p.2.2 ≤ kd)) zs i).length < 1000 := by
        have h1 := List.length_filter_le (fun p : Ed => decide (p.2.2 ≤ kd)) (zs.take i)
        rw [List.length_take] at h1
        have := (List.getElem?_eq_some_iff.1 hp).1
        unfold fil
        omega
      refine (hY _ _ p W h.1 hlen h.2.1 h.2.2).mono ?_
      rintro e W' ⟨rfl, g1, g2, g3⟩
      exact .inl ⟨rfl, by rw [fil_keep hp hq]; exact g1, g2, g3⟩
    · rintro e W' ⟨hv, (⟨g1, g2, g3⟩ | ⟨_, h⟩)⟩
      · refine ⟨hv, zs, rs, ⟨rfl, rfl⟩, ?_, g2, g3⟩
        rw [fil_all (by omega), List.take_of_length_le (by omega), hrs] at g1
        exact g1
      · exact h.elim
  case assign =>
    intro l s pre x W K hT hKK
    unfold encE
    gi_wp2
    exact hKK _ _ (KeepsOthers.alloc _ _) (hT.alloc _) ⟨W.heap.size, Blk.new W _ _, rfl⟩
  case body =>
    rintro l s pre x a' W ⟨Ar, cr, Aa, ca, g1, g2, g3, g4⟩ ⟨Bx, kx, rfl⟩ hlt
    have q0 := kx.cell 0
    have q1 := kx.cell 1
    have q2 := kx.cell 2
    have hc3 := g1.1.cell 0
    gi_wp2_with (gi_at_builtin; refine wpListIn_append_own_at _ rfl _ _ 22 rfl w.heap.size 35 i0 _ 3 24 Try.underlying22 hi hz0 hz1 hz2 rfl (by decide) (.slice Ar pre.length cr) pre.length _ rfl (g1.2.alloc _) ⟨W.heap.size, 0, none⟩ 1 1 (edCells x) rfl rfl (ed_new _ _ _) (edCells_one _) (by unfold maxLen; omega) (by omega) (by have := g4.size; simp; omega) ?_; intro v5 w5 hown5 hgrow5 _ hat5; obtain ⟨A5, c5, rfl, _, _⟩ := own_form2 hown5; rw [← cellsE_snoc] at hown5; have hB5 := (g1.1.alloc (.cells #[.int .i64 x.1, .int .i64 x.2.1, .int .i64 x.2.2] 35)).grown hgrow5 (fun e => own_blk_ne g1.2 g1.1 (by decide) e.symm); have a0 := hB5.cell 0; have f0 := hB5.frozen 0; have HE := Lib.hid (TI.tell g1 g2 g3 g4 hbl rfl ⟨by simpa using hB5.set_ 0 (.slice A5 (pre.length + 1) c5), own_store hown5 hB5 (by decide) (.slice A5 (pre.length + 1) c5)⟩ ((((Mv.refl w.heap.size (.slice Ar pre.length cr) W).alloc _).grown hgrow5).set 0 _) hat5 (by simp)); clear hown5 hgrow5 hat5 hB5)
    exact HE.out
  case done =>
    rintro s xs W ⟨hs1, hx1⟩ hT hD
    subst hs1; subst hx1
    have HLE : Hid (w.heap.size ≤ W0.heap.size) := by show _ ≤ _; omega
    clear hsz T0
    obtain ⟨Ar, cr, Aa, ca, g1, g2, g3, g4⟩ := hT
    have e0 := g1.1.cell 0
    have HD := Lib.hid hD
    obtain ⟨_, _, hv, h51, h52⟩ := own_form2 g1.2
    injection hv with hv0 hv1 hv
    subst hv
    clear hv0 hv1
    have G := Lib.hid (And.intro g1 (And.intro g2 (And.intro g4 (And.intro h51 h52))))
    clear g1 g2 g3 g4 h51 h52 hD
    gi_wp2
    refine ⟨by simp, .inl ⟨_, _, rfl, run_takeDeferred HD.out, ?_⟩⟩
    obtain ⟨g1, g2, g4, h51, h52⟩ := G.out
    exact ⟨.slice Ar xs.length cr, by simp [results, Try.results66, go_sem], Ar, cr, Aa, ca, rfl, (g1.putObj _ HD.out rfl).2, h51, h52, g2.putObj _ HD.out rfl, g4.putObj _ HLE.out⟩

/-- The store of what was kept. -/
theorem turns_end {w W3 w4 : World} {Ba X q c3 ca : Nat} {A3 Aa : Option Addr} {rs zs : List Ed} {a b : Value} (hb : Ba < w.heap.size) (hX : w.heap.size < X) (B3 : Below w.heap.size w W3) (h1 : w4.ownsRow W3.heap.size 35 3 (.slice A3 rs.length c3) rs.length (cellsE rs)) (h4 : BRow w4 Ba W3.heap.size (.slice Aa q ca) q zs) (h5 : Chg Ba W3 w4) (hx : Blk w4 X 24 #[a, b]) (nodes : Int) :
    ((w4.setCell ⟨X, 0, none⟩ (.int .i64 nodes)).setCell ⟨X, 1, none⟩ (.slice A3 rs.length c3)).ownsRow w.heap.size 35 3 (.slice A3 rs.length c3) rs.length (cellsE rs) ∧
    BRow ((w4.setCell ⟨X, 0, none⟩ (.int .i64 nodes)).setCell ⟨X, 1, none⟩ (.slice A3 rs.length c3)) Ba w.heap.size (.slice Aa q ca) q zs ∧ Chg Ba w ((w4.setCell ⟨X, 0, none⟩ (.int .i64 nodes)).setCell ⟨X, 1, none⟩ (.slice A3 rs.length c3)) := by
  refine ⟨own_store2 (own_base h1 B3.size) hx (by decide) _ _, ⟨(h4.1.far (p := ⟨X, 0, none⟩) (by show Ba ≠ X; omega) _).far (p := ⟨X, 1, none⟩) (by show Ba ≠ X; omega) _, own_store2 (own_base h4.2 B3.size) hx (by decide) _ _⟩, ?_⟩
  have h6 : Chg Ba w w4 := (Chg.of_below B3).trans h5
  exact ⟨h6.os, h6.tape, h6.output, Nat.le_trans h6.size (by rw [World.size_setCell, World.size_setCell]; exact Nat.le_refl _), fun i hi hB _ => (Below.heap_setCell _ ⟨X, 1, none⟩ _ i (by show i ≠ X; omega)).trans ((Below.heap_setCell _ ⟨X, 0, none⟩ _ i (by show i ≠ X; omega)).trans (h6.at_ hi hB))⟩

set_option maxHeartbeats 1000000 in
theorem turns_collect (Bs Bf Ba Bk n c : Nat) (A : Option Addr) (zs : List Ed) (kd : Int) (hn : n ≤ 1000) (w : World)
    (hs : Blk w Bs 22 #[.slice A n c]) (hf : Blk w Bf 54 #[.func (.func 31) #[] #[.pointer (some ⟨Ba, 0, none⟩), .pointer (some ⟨Bk, 0, none⟩)]]) (hR : Reads w w.heap.size 3 A n (cellsE zs))
    (hA : Blk w Ba 22 #[.slice none 0 0]) (hK : Blk w Bk 3 #[.int .i64 kd]) (hsa : Bs ≠ Ba) :
    Calls Try.prog 50 #[.func (.func 67) #[] #[.pointer (some ⟨Bs, 0, none⟩), .pointer (some ⟨Bf, 0, none⟩)]] w (TurnsIs (zs.filter fun p => decide (p.2.2 ≤ kd)) zs Ba w) := by
  have HA := Lib.hid (callsIn_wide.1 (turns_append_in 10 (by omega) Bs Bf Ba Bk n c A zs kd hn w hs hf hR hA hK hsa))
  clear hs hf hR hA hK hsa
  generalize (zs.filter fun p => decide (p.2.2 ≤ kd)) = rs at *
  go_enter Try.func50, Try.ntmps50
  go_wp2_with fail
  refine HA.out.mono ?_
  rintro e w1 ⟨A2, c2, Aa, ca, rfl, hx⟩
  have HF := Lib.hid hx
  clear hx HA
  go_wp2_with fail
  go_ret
  exact ⟨A2, c2, Aa, ca, rfl, HF.out⟩

set_option maxRecDepth 100000 in
set_option maxHeartbeats 4000000 in
theorem filter_turns (nodes : Int) (A : Option Addr) (n c : Nat) (Ba Bk : Nat) (kd : Int) (zs : List Ed) (hg : IsG nodes zs) (hn : n ≤ 1000) (w : World) (hR : Reads w w.heap.size 3 A n (cellsE zs))
    (hA : Blk w Ba 22 #[.slice none 0 0]) (hK : Blk w Bk 3 #[.int .i64 kd]) :
    Calls Try.prog 30 #[.agg #[.int .i64 nodes, .slice A n c], .func (.func 31) #[] #[.pointer (some ⟨Ba, 0, none⟩), .pointer (some ⟨Bk, 0, none⟩)]] w fun e w' =>
      ∃ (A' : Option Addr) (c' : Nat) (Aa : Option Addr) (ca : Nat), e = .returned (.tuple #[.agg #[.int .i64 nodes, .slice A' (zs.filter fun p => decide (p.2.2 ≤ kd)).length c'], .int .i64 0]) ∧ w'.ownsRow w.heap.size 35 3 (.slice A' (zs.filter fun p => decide (p.2.2 ≤ kd)).length c') (zs.filter fun p => decide (p.2.2 ≤ kd)).length (cellsE (zs.filter fun p => decide (p.2.2 ≤ kd))) ∧ (zs.filter fun p => decide (p.2.2 ≤ kd)).length ≤ c' ∧ c' ≤ 9223372036854775807 ∧
      BRow w' Ba w.heap.size (.slice Aa zs.length ca) zs.length zs ∧ Chg Ba w w' := by
  obtain ⟨k0, k1, b0⟩ := two_new w #[.int .i64 nodes, .slice A n c] #[.int .i64 0, .slice none 0 0] 24 24
  obtain ⟨W0, hW0⟩ : ∃ W0, (w.alloc (.cells #[.int .i64 nodes, .slice A n c] 24)).alloc (.cells #[.int .i64 0, .slice none 0 0] 24) = W0 := ⟨_, rfl⟩
  rw [hW0] at k0 k1 b0
  have hl := reads_len hR
  have HC := Lib.hid (check_any nodes A n c zs hn W0 ((hR.below b0).more b0.size))
  rw [check_yes (rightG_iff.2 hg)] at HC
  have HCP := Lib.hid fun W (h : Below w.heap.size w W) => copied_any A n c zs (by omega) W ((hR.below h).more h.size)
  have HK0 := Lib.hid fun W (h : Below W0.heap.size W0 W) => k0.below h k0.lt
  have HK1 := Lib.hid fun W (h : Below W0.heap.size W0 W) => k1.below h k1.lt
  have HA := Lib.hid fun W (h : Below w.heap.size w W) => hA.below h hA.lt
  have HKK := Lib.hid fun W (h : Below w.heap.size w W) => hK.below h hK.lt
  have HLN : Hid (zs.length ≤ 1000) := by show _ ≤ _; omega
  have B0 := Lib.hid b0
  have HBA : Hid (Ba < w.heap.size) := hA.lt
  have HTC := Lib.hid fun Bs Bf n c A (h : n ≤ 1000) W => turns_collect Bs Bf Ba Bk n c A zs kd h W
  have z0 := k0.cell 0
  have z1 := k0.cell 1
  clear hR k0 k1 b0 hg hl hA hK
  generalize (zs.filter fun p => decide (p.2.2 ≤ kd)) = rs at *
  go_enter Try.func30, Try.ntmps30
  go_wp2_with fail
  clear hW0
  refine HC.out.mono ?_
  rintro e w1 ⟨rfl, b⟩
  have B1 : Hid (Below W0.heap.size W0 w1) := Lib.hid b
  have BW1 : Hid (Below w.heap.size w w1) := B0.out.trans (b.mono B0.out.size)
  clear b z0 z1 HC
  have z0 := (HK0.out _ B1.out).cell 0
  have z1 := (HK0.out _ B1.out).cell 1
  go_wp2_with fail
  refine (HCP.out _ BW1.out).mono ?_
  rintro e w2 hx
  obtain ⟨A2, c2, rfl, h1, h2, h3, h4⟩ := rows_row hx
  have B2 : Hid (Below W0.heap.size W0 w2) := B1.out.trans (h4.mono B1.out.size)
  have R2 := Lib.hid (reads_own h1)
  clear h1 h2 h3 h4 hx HCP z0 z1
  obtain ⟨q, hq⟩ : ∃ q, zs.length = q := ⟨_, rfl⟩
  have HQ := Lib.hid hq
  rw [hq] at R2 HLN ⊢
  clear hq
  go_wp2_with fail
  refine (those_any A2 q c2 31 #[.pointer (some ⟨Ba, 0, none⟩), .pointer (some ⟨Bk, 0, none⟩)] w2).mono ?_
  rintro e w3 ⟨rfl, rfl⟩
  obtain ⟨W3, hW3, t0, t1, t2, t3⟩ := those_laid A2 q c2 31 #[.pointer (some ⟨Ba, 0, none⟩), .pointer (some ⟨Bk, 0, none⟩)] zs w2 R2.out
  rw [← hW3]
  clear hW3
  have B3 : Hid (Below W0.heap.size W0 W3) := B2.out.trans (t3.mono B2.out.size)
  have BW3 : Hid (Below w.heap.size w W3) := B0.out.trans (B3.out.mono B0.out.size)
  have HCO := Lib.hid (HTC.out w2.heap.size (w2.heap.size + 1) q c2 A2 HLN.out W3 t0 t1 t2 (HA.out _ BW3.out) (HKK.out _ BW3.out) (by have := HBA.out; have := B0.out.size; have := B2.out.size; omega))
  clear t0 t1 t2 t3 HTC HA HKK
  go_wp2_with fail
  refine HCO.out.mono ?_
  rintro e w4 ⟨A3, c3, Aa, ca, rfl, h1, h2, h3, h4, h5⟩
  rw [HQ.out] at h4
  have K0 := Lib.hid (h5.blk (HK0.out _ B3.out) (by have := HBA.out; omega))
  have K1 := Lib.hid (h5.blk (HK1.out _ B3.out) (by have := HBA.out; omega))
  have z0 := K0.out.cell 0
  have z1 := K0.out.cell 1
  have q0 := K1.out.cell 0
  have q1 := K1.out.cell 1
  have q2 := K1.out.frozen 0
  have q3 := K1.out.frozen 1
  have y0 := (store2 K1.out (.int .i64 nodes) (.slice A3 rs.length c3)).cell 0
  have y1 := (store2 K1.out (.int .i64 nodes) (.slice A3 rs.length c3)).cell 1
  have HE := Lib.hid (turns_end (w := w) (X := w.heap.size + 1) HBA.out (Nat.lt_succ_self _) BW3.out h1 h4 h5 K1.out nodes)
  have HM := Lib.hid (And.intro h2 h3)
  clear h1 h2 h3 h4 h5 HCO
  go_wp2_with fail
  exact bodyPost_ret (v := .tuple #[.agg #[.int .i64 nodes, .slice A3 rs.length c3], .int .i64 0]) (by simp [results, Try.results30, go_sem, y0, y1]) rfl ⟨A3, c3, Aa, ca, rfl, HE.out.1, HM.out.1, HM.out.2, by rw [HQ.out]; exact HE.out.2⟩
end Go.Proofs.Yticbgikbpafeoaa
