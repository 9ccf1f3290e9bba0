/- Layer graph: gathered, at edges that lead back and at kinds: contracts. -/
import Derived.Test.YticbgikbpafeoaaGw
namespace Go.Proofs.Yticbgikbpafeoaa
open Go.RowKit Go.Shelf
attribute [local go_sem] Oper.semAt_some

/-- append within a region that draws its order, inside a fence. -/
theorem stepIn_append_own {F : Fence} {n : Nat} {P : Program} (w : World) {ops : Array Oper} {o : Oper} {a : Act} {K : Act → World → Prop} {Q : Exit → Act → World → Prop} {E : Prop}
    (hg : o.guard = none) (s x : Operand) (t : TypeId) (hop : o.op = Op.call { callee := Callee.builtin Builtin.append, args := #[s, x], argTypes := #[t, t] })
    (base : Nat) (e : TypeId) (i : TypeInfo) (z : Value) (size bytes : Nat) (h1 : P.underlying t = some (.slice e)) (h2 : P.info? e = some i) (h3 : i.zero = some z) (h4 : i.size = size) (h5 : i.bytes = bytes) (h6 : z.cells.size = size) (h7 : 0 < size)
    (v : Value) (k : Nat) (xs : List Value) (hs : a.eval s = v) (hown : w.ownsRow base e size v k xs) (ad : Addr) (m c : Nat) (news : List Value) (hx : a.eval x = .slice (some ad) m c) (hn : news.length = m * size)
    (hc : ∀ j u, news[j]? = some u → w.cell? (ad.add j) = some u) (h1c : ∀ u ∈ news, u.oneCell' = true) (b1 : k + m ≤ maxLen) (b2 : (k + m) * bytes ≤ 140737488355328) (b3 : base ≤ w.heap.size)
    (hK : ∀ v' w', w'.ownsRow base e size v' (k + m) (xs ++ news) → w.grownBy w' v.ownBlock → K (a.put o.dst v') w') :
    if Region.wanted o (yielded ops a.tmps) = true then Oper.wpIn F n P o a w K Q else E := by
  have hw : Region.wanted o (yielded ops a.tmps) = true := by simp [Region.wanted, hg]
  rw [if_pos hw]
  obtain ⟨v', w', hrun, r1, r2, _⟩ := run_append_own (P := P) w base t o.type e i z size bytes h1 h2 h3 h4 h5 h6 h7 v k xs hown ad m c news hn hc h1c b1 b2 b3
  unfold Oper.wpIn
  refine ⟨?_, ?_⟩
  · simp [Oper.about, hop, resolve, Target.leads, Sem.run_pure]
  · rw [Oper.semAt_plain F _ _ (by rw [hop]; intro c hc'; cases hc')]
    simp [execOp, hop, resolve, invoke, builtin, hs, hx, hrun, Result.andThen]
    exact hK _ _ r1 r2
theorem boxed_below {W W' : World} {B : Nat} {t : TypeId} {v : Value} (h : Boxed W B t v) (b : Below W.heap.size W W') : Boxed W' B t v := (b.block B h.lt).trans h
theorem int_new (w : World) (z : Int) (t : TypeId) : ∀ j u, ([.int .i64 z] : List Value)[j]? = some u → (w.alloc (.cells #[.int .i64 z] t)).cell? ((⟨w.heap.size, 0, none⟩ : Addr).add j) = some u := by
  intro j u hu
  have hb := Blk.new w t #[.int .i64 z]
  rw [Go.WideShapes.add_plain, Nat.zero_add, hb.cell, ← hu, ← List.getElem?_toArray]

set_option maxRecDepth 100000 in
set_option maxHeartbeats 8000000 in
theorem gatherE_in (m : Nat) (hm : 6 ≤ m) (gf : Nat) (lb : Array Value) (rs : List Ed) (N : Nat) (hN : N ≤ 1000) (Sp : List Ed → Prop) (w0 : World) (eg : ∀ args w, (callFunc gf args).run Try.prog w = .ok (.enter gf args) w)
    (hseq : SeqStopsK Fence.wide (m - 1) Try.prog gf lb encE (fun X Y => Below w0.heap.size X Y) (fun ys => ys = rs) Sp N w0) (w : World) (hb : Below w0.heap.size w0 w) :
    CallsIn Fence.wide m Try.prog 56 #[.func (.func gf) #[] lb, .func (.func 58) #[] #[]] w (RowIs (rs.map flipE) w) := by
  have h1 : 1 ≤ m := by omega
  obtain ⟨i0, hi, hz0, hz1, hz2⟩ := info_parts pair_info
  refine callsIn_of_wp_marks Try.func56 rfl trivial ?_ rfl
  simp only [Try.ntmps56, List.size_toArray, List.length_cons, List.length_nil, Nat.reduceAdd, Nat.reduceSub, Array.replicate_succ, Array.replicate_zero, List.push_toArray, List.append_toArray, List.nil_append, List.cons_append]
  gi_wp2_with fail
  have ct := (Boxed.new w 74 (.func (.func 58) #[] #[])).alloc (.cells #[.slice none 0 0] 22)
  have c0 := Boxed.new (w.alloc (.cells #[.func (.func 58) #[] #[]] 74)) 22 (.slice none 0 0)
  have hB0 : Below w.heap.size w ((w.alloc (.cells #[.func (.func 58) #[] #[]] 74)).alloc (.cells #[.slice none 0 0] 22)) := ((Below.refl _ w).alloc (Nat.le_refl _) _).alloc (by simp) _
  have hsz : ((w.alloc (.cells #[.func (.func 58) #[] #[]] 74)).alloc (.cells #[.slice none 0 0] 22)).heap.size = w.heap.size + 2 := by simp
  rw [World.size_alloc] at c0
  obtain ⟨W0, hW0⟩ : ∃ W0, (w.alloc (.cells #[.func (.func 58) #[] #[]] 74)).alloc (.cells #[.slice none 0 0] 22) = W0 := ⟨_, rfl⟩
  rw [hW0] at c0 ct hB0 hsz ⊢
  clear hW0
  have hb2 : Below w0.heap.size w0 W0 := hb.trans (hB0.mono hb.size)
  refine wpIn_rangeFunc_ownH rfl h1 (gf := gf) (lb := lb) rfl trivial eg
    hseq (fun h k => belowK_t h k) (fun W l o o' hl h1 h2 h3 => belowK_b hb2.size W l o o' hl h1 h2 h3) hb2 (fun _ => rfl)
    (fun pre W => ((∃ v, Boxed W (w.heap.size + 1) 22 v ∧ W.ownsRow w.heap.size 35 3 v pre.length (cellsE (pre.map flipE)) ∧ True) ∧ Boxed W w.heap.size 74 (.func (.func 58) #[] #[])) ∧ Below w.heap.size w W)
    (fun _ _ _ => False)
    (OwnFrom.and (OwnFrom.and (_root_.Go.Own.from (holdsRow_own w.heap.size (w.heap.size + 1) 22 35 3 (fun pre : List Ed => pre.length) (fun pre : List Ed => cellsE (pre.map flipE)) (fun _ _ => True)) _) (_root_.Go.Own.from (boxed_own _ _ (fun _ => .func (.func 58) #[] #[])) _)) (ownFrom_below (Nat.le_refl _) (by omega)))
    (fun c => fun _ _ _ _ h _ _ => h)
    ⟨⟨⟨_, c0, World.ownsRow_nil _ _ _ _, trivial⟩, ct⟩, hB0⟩
    (fun x a' W => ∃ Bx : Nat, w.heap.size + 1 < Bx ∧ Blk W Bx 35 #[.int .i64 x.1, .int .i64 x.2.1, .int .i64 x.2.2] ∧ a' = { tmps := #[.func (.func gf) #[] lb, .func (.func 58) #[] #[], undef, .pointer (some ⟨w.heap.size, 0, none⟩), .slice none 0 0, .pointer (some ⟨w.heap.size + 1, 0, none⟩), .pointer (some ⟨Bx, 0, none⟩), .func (.func gf) #[] lb, .agg #[.int .i64 x.1, .int .i64 x.2.1, .int .i64 x.2.2], undef, undef, undef, undef, undef, undef, undef], defers := [] })
    (fun x a' _ X Y row hs hg hr => by
      obtain ⟨Bx, e1, e3, e5⟩ := hs
      exact ⟨Bx, e1, blk_own _ _ (fun (_ : Unit) => _) () X Y row e3 hg (fun r e => (hr r e).2), e5⟩)
    ?assign ?body ?done ?stop
  case assign =>
    rintro l pre x W K ⟨⟨⟨v, c3, hrow, _⟩, kt⟩, hB1⟩ hK
    have hs1 := c3.lt
    unfold encE
    gi_wp2
    exact hK _ _ ((KeepsOthers.alloc _ _).from _) ((Below.refl _ _).alloc (Nat.le_trans hb.size hB1.size) _)
      ⟨⟨⟨v, c3.alloc _, hrow.alloc _, trivial⟩, kt.alloc _⟩, hB1.alloc hB1.size _⟩
      ⟨W.heap.size, by omega, Blk.new W _ _, rfl⟩
  case body =>
    rintro l pre x a' W hl ⟨r, hr⟩ ⟨⟨⟨v, c3, hrow, _⟩, kt⟩, hB1⟩ ⟨Bx, hBx, kx, rfl⟩ hlt
    have q0 := kx.cell 0
    have q1 := kx.cell 1
    have q2 := kx.cell 2
    have hc3 := c3.cell
    have hct := kt.cell
    have hlen : pre.length < 1000 := by omega
    have HT := Lib.hid fun W => rev1_any x W
    have hB1d : Below w.heap.size W W.drew := (Below.refl _ _).drew
    have HAF : Hid (∀ w1, Below W.drew.heap.size W.drew w1 → Boxed w1 (w.heap.size + 1) 22 v ∧ w1.ownsRow w.heap.size 35 3 v pre.length (cellsE (pre.map flipE)) ∧ Boxed w1 w.heap.size 74 (.func (.func 58) #[] #[]) ∧ Below w.heap.size w w1 ∧ KeepsOthers W.drew w1 ∧ Below w.heap.size W.drew w1) :=
      fun w1 b => ⟨boxed_below (W := W.drew) c3 b, own_below2 (w := W.drew) hrow b (Nat.le_refl _), boxed_below (W := W.drew) kt b, (hB1.trans hB1d).trans (b.mono hB1.size), KeepsOthers.of_grownBy (grown_of_below b) (fun j o e => by cases e), b.mono hB1.size⟩
    clear c3 hrow kt kx
    gi_wp2
    refine wpIn_region_any (by kernel_rfl) ?_
    change wpAnyIn _ _ _ _ _ _ _ _ _ W.drew
    refine wpAnyIn_ready (rs := [0, 1, 2]) (by kernel_rfl) (by simp) ?_
    refine AllReadyIn.cons rfl (fun K hK => ?_) ?_
    · go_simp
      refine hK _ _ ?_
      clear hK K
      try simp only [Act.put, List.setIfInBounds_toArray, List.set_cons_zero, List.set_cons_succ]
      refine wpAnyIn_ready (rs := [1, 2]) (by kernel_rfl) (by simp) ?_
      refine AllReadyIn.cons rfl (fun K hK => ?_) ?_
      · go_simp
        refine hK _ _ ?_
        clear hK K
        try simp only [Act.put, List.setIfInBounds_toArray, List.set_cons_zero, List.set_cons_succ]
        refine wpAnyIn_ready (rs := [2]) (by kernel_rfl) (by simp) ?_
        refine AllReadyIn.cons rfl (fun K hK => ?_) ?_
        · go_simp
          refine hK _ _ ?_
          clear hK K
          try simp only [Act.put, List.setIfInBounds_toArray, List.set_cons_zero, List.set_cons_succ]
          refine wpAnyIn_ready (rs := [3]) (by kernel_rfl) (by simp) ?_
          refine AllReadyIn.cons rfl (fun K hK => ?_) ?_
          · go_simp
            refine ⟨trivial, (fun h => by cases h), ((callsIn_wide.2 (HT.out _)).inRound l).mono ?_⟩
            rintro e9 w1 ⟨rfl, b9⟩
            obtain ⟨c51, hrow1, kt1, hB2, hko, hb9⟩ := HAF.out w1 b9
            go_simp
            refine hK _ _ ?_
            clear hK K
            try simp only [Act.put, List.setIfInBounds_toArray, List.set_cons_zero, List.set_cons_succ]
            refine wpAnyIn_ready (rs := [4]) (by kernel_rfl) (by simp) ?_
            refine AllReadyIn.cons rfl (fun K hK => ?_) ?_
            · go_simp
              refine hK _ _ ?_
              clear hK K
              try simp only [Act.put, List.setIfInBounds_toArray, List.set_cons_zero, List.set_cons_succ]
              refine wpAnyIn_ready (rs := [5]) (by kernel_rfl) (by simp) ?_
              refine AllReadyIn.cons rfl (fun K hK => ?_) ?_
              · refine stepIn_append_own _ rfl (.tmp 9) (.tmp 13) 22 rfl w.heap.size 35 i0 _ 3 24 Try.underlying22 hi hz0 hz1 hz2 rfl (by decide) _ _ _ rfl (hrow1.alloc _) ⟨w1.heap.size, 0, none⟩ 1 1 (edCells (flipE x)) rfl rfl (ed_new _ (flipE x) _) (edCells_one _) (by unfold maxLen; omega) (by omega) (by have := hB2.size; simp; omega) ?_
                intro v9 w2 hown9 hgrow9
                obtain ⟨g', cap', rfl⟩ := ownsRow_succ hown9
                obtain ⟨hv1, hv2, hr2, hk2, hb3⟩ := c51.appended (by decide) hrow1 hB2.size (by omega) hown9 hgrow9
                have hc7 := hv1.cell
                have hf7 := hv1.frozen
                refine hK _ _ ?_
                clear hK K
                try simp only [Act.put, List.setIfInBounds_toArray]
                refine wpAnyIn_ready (rs := [6]) (by kernel_rfl) (by simp) ?_
                refine AllReadyIn.cons rfl (fun K hK => ?_) ?_
                · go_simp
                  refine hK _ _ ?_
                  clear hK K
                  try simp only [Act.put, List.setIfInBounds_toArray]
                  refine wpAnyIn_done (by kernel_rfl) ?_ _
                  refine ⟨(((KeepsOthers.drew W).trans hko).trans hk2).from _, ((hB1d.trans hb9).trans hb3).mono hb.size, ⟨⟨⟨_, hv2, ?_, trivial⟩, ?_⟩, hB2.trans hb3⟩⟩
                  · rw [List.map_append, List.map_cons, List.map_nil, cellsE_snoc, List.length_append]
                    exact hr2
                  · exact ((kt1.alloc _).kept hgrow9 (kt1.not_row (by decide) hrow1)).other (B' := w.heap.size + 1) (by omega) _
                exact AllReadyIn.nil
              exact AllReadyIn.nil
            exact AllReadyIn.nil
          exact AllReadyIn.nil
        exact AllReadyIn.nil
      refine AllReadyIn.cons rfl (fun K hK => ?_) ?_
      · go_simp
        refine hK _ _ ?_
        clear hK K
        try simp only [Act.put, List.setIfInBounds_toArray, List.set_cons_zero, List.set_cons_succ]
        refine wpAnyIn_ready (rs := [1]) (by kernel_rfl) (by simp) ?_
        refine AllReadyIn.cons rfl (fun K hK => ?_) ?_
        · go_simp
          refine hK _ _ ?_
          clear hK K
          try simp only [Act.put, List.setIfInBounds_toArray, List.set_cons_zero, List.set_cons_succ]
          refine wpAnyIn_ready (rs := [3]) (by kernel_rfl) (by simp) ?_
          refine AllReadyIn.cons rfl (fun K hK => ?_) ?_
          · go_simp
            refine ⟨trivial, (fun h => by cases h), ((callsIn_wide.2 (HT.out _)).inRound l).mono ?_⟩
            rintro e9 w1 ⟨rfl, b9⟩
            obtain ⟨c51, hrow1, kt1, hB2, hko, hb9⟩ := HAF.out w1 b9
            go_simp
            refine hK _ _ ?_
            clear hK K
            try simp only [Act.put, List.setIfInBounds_toArray, List.set_cons_zero, List.set_cons_succ]
            refine wpAnyIn_ready (rs := [4]) (by kernel_rfl) (by simp) ?_
            refine AllReadyIn.cons rfl (fun K hK => ?_) ?_
            · go_simp
              refine hK _ _ ?_
              clear hK K
              try simp only [Act.put, List.setIfInBounds_toArray, List.set_cons_zero, List.set_cons_succ]
              refine wpAnyIn_ready (rs := [5]) (by kernel_rfl) (by simp) ?_
              refine AllReadyIn.cons rfl (fun K hK => ?_) ?_
              · refine stepIn_append_own _ rfl (.tmp 9) (.tmp 13) 22 rfl w.heap.size 35 i0 _ 3 24 Try.underlying22 hi hz0 hz1 hz2 rfl (by decide) _ _ _ rfl (hrow1.alloc _) ⟨w1.heap.size, 0, none⟩ 1 1 (edCells (flipE x)) rfl rfl (ed_new _ (flipE x) _) (edCells_one _) (by unfold maxLen; omega) (by omega) (by have := hB2.size; simp; omega) ?_
                intro v9 w2 hown9 hgrow9
                obtain ⟨g', cap', rfl⟩ := ownsRow_succ hown9
                obtain ⟨hv1, hv2, hr2, hk2, hb3⟩ := c51.appended (by decide) hrow1 hB2.size (by omega) hown9 hgrow9
                have hc7 := hv1.cell
                have hf7 := hv1.frozen
                refine hK _ _ ?_
                clear hK K
                try simp only [Act.put, List.setIfInBounds_toArray]
                refine wpAnyIn_ready (rs := [6]) (by kernel_rfl) (by simp) ?_
                refine AllReadyIn.cons rfl (fun K hK => ?_) ?_
                · go_simp
                  refine hK _ _ ?_
                  clear hK K
                  try simp only [Act.put, List.setIfInBounds_toArray]
                  refine wpAnyIn_done (by kernel_rfl) ?_ _
                  refine ⟨(((KeepsOthers.drew W).trans hko).trans hk2).from _, ((hB1d.trans hb9).trans hb3).mono hb.size, ⟨⟨⟨_, hv2, ?_, trivial⟩, ?_⟩, hB2.trans hb3⟩⟩
                  · rw [List.map_append, List.map_cons, List.map_nil, cellsE_snoc, List.length_append]
                    exact hr2
                  · exact ((kt1.alloc _).kept hgrow9 (kt1.not_row (by decide) hrow1)).other (B' := w.heap.size + 1) (by omega) _
                exact AllReadyIn.nil
              exact AllReadyIn.nil
            exact AllReadyIn.nil
          exact AllReadyIn.nil
        exact AllReadyIn.nil
      exact AllReadyIn.nil
    refine AllReadyIn.cons rfl (fun K hK => ?_) ?_
    · go_simp
      refine hK _ _ ?_
      clear hK K
      try simp only [Act.put, List.setIfInBounds_toArray, List.set_cons_zero, List.set_cons_succ]
      refine wpAnyIn_ready (rs := [0, 2]) (by kernel_rfl) (by simp) ?_
      refine AllReadyIn.cons rfl (fun K hK => ?_) ?_
      · go_simp
        refine hK _ _ ?_
        clear hK K
        try simp only [Act.put, List.setIfInBounds_toArray, List.set_cons_zero, List.set_cons_succ]
        refine wpAnyIn_ready (rs := [2]) (by kernel_rfl) (by simp) ?_
        refine AllReadyIn.cons rfl (fun K hK => ?_) ?_
        · go_simp
          refine hK _ _ ?_
          clear hK K
          try simp only [Act.put, List.setIfInBounds_toArray, List.set_cons_zero, List.set_cons_succ]
          refine wpAnyIn_ready (rs := [3]) (by kernel_rfl) (by simp) ?_
          refine AllReadyIn.cons rfl (fun K hK => ?_) ?_
          · go_simp
            refine ⟨trivial, (fun h => by cases h), ((callsIn_wide.2 (HT.out _)).inRound l).mono ?_⟩
            rintro e9 w1 ⟨rfl, b9⟩
            obtain ⟨c51, hrow1, kt1, hB2, hko, hb9⟩ := HAF.out w1 b9
            go_simp
            refine hK _ _ ?_
            clear hK K
            try simp only [Act.put, List.setIfInBounds_toArray, List.set_cons_zero, List.set_cons_succ]
            refine wpAnyIn_ready (rs := [4]) (by kernel_rfl) (by simp) ?_
            refine AllReadyIn.cons rfl (fun K hK => ?_) ?_
            · go_simp
              refine hK _ _ ?_
              clear hK K
              try simp only [Act.put, List.setIfInBounds_toArray, List.set_cons_zero, List.set_cons_succ]
              refine wpAnyIn_ready (rs := [5]) (by kernel_rfl) (by simp) ?_
              refine AllReadyIn.cons rfl (fun K hK => ?_) ?_
              · refine stepIn_append_own _ rfl (.tmp 9) (.tmp 13) 22 rfl w.heap.size 35 i0 _ 3 24 Try.underlying22 hi hz0 hz1 hz2 rfl (by decide) _ _ _ rfl (hrow1.alloc _) ⟨w1.heap.size, 0, none⟩ 1 1 (edCells (flipE x)) rfl rfl (ed_new _ (flipE x) _) (edCells_one _) (by unfold maxLen; omega) (by omega) (by have := hB2.size; simp; omega) ?_
                intro v9 w2 hown9 hgrow9
                obtain ⟨g', cap', rfl⟩ := ownsRow_succ hown9
                obtain ⟨hv1, hv2, hr2, hk2, hb3⟩ := c51.appended (by decide) hrow1 hB2.size (by omega) hown9 hgrow9
                have hc7 := hv1.cell
                have hf7 := hv1.frozen
                refine hK _ _ ?_
                clear hK K
                try simp only [Act.put, List.setIfInBounds_toArray]
                refine wpAnyIn_ready (rs := [6]) (by kernel_rfl) (by simp) ?_
                refine AllReadyIn.cons rfl (fun K hK => ?_) ?_
                · go_simp
                  refine hK _ _ ?_
                  clear hK K
                  try simp only [Act.put, List.setIfInBounds_toArray]
                  refine wpAnyIn_done (by kernel_rfl) ?_ _
                  refine ⟨(((KeepsOthers.drew W).trans hko).trans hk2).from _, ((hB1d.trans hb9).trans hb3).mono hb.size, ⟨⟨⟨_, hv2, ?_, trivial⟩, ?_⟩, hB2.trans hb3⟩⟩
                  · rw [List.map_append, List.map_cons, List.map_nil, cellsE_snoc, List.length_append]
                    exact hr2
                  · exact ((kt1.alloc _).kept hgrow9 (kt1.not_row (by decide) hrow1)).other (B' := w.heap.size + 1) (by omega) _
                exact AllReadyIn.nil
              exact AllReadyIn.nil
            exact AllReadyIn.nil
          exact AllReadyIn.nil
        exact AllReadyIn.nil
      refine AllReadyIn.cons rfl (fun K hK => ?_) ?_
      · go_simp
        refine hK _ _ ?_
        clear hK K
        try simp only [Act.put, List.setIfInBounds_toArray, List.set_cons_zero, List.set_cons_succ]
        refine wpAnyIn_ready (rs := [0, 3]) (by kernel_rfl) (by simp) ?_
        refine AllReadyIn.cons rfl (fun K hK => ?_) ?_
        · go_simp
          refine hK _ _ ?_
          clear hK K
          try simp only [Act.put, List.setIfInBounds_toArray, List.set_cons_zero, List.set_cons_succ]
          refine wpAnyIn_ready (rs := [3]) (by kernel_rfl) (by simp) ?_
          refine AllReadyIn.cons rfl (fun K hK => ?_) ?_
          · go_simp
            refine ⟨trivial, (fun h => by cases h), ((callsIn_wide.2 (HT.out _)).inRound l).mono ?_⟩
            rintro e9 w1 ⟨rfl, b9⟩
            obtain ⟨c51, hrow1, kt1, hB2, hko, hb9⟩ := HAF.out w1 b9
            go_simp
            refine hK _ _ ?_
            clear hK K
            try simp only [Act.put, List.setIfInBounds_toArray, List.set_cons_zero, List.set_cons_succ]
            refine wpAnyIn_ready (rs := [4]) (by kernel_rfl) (by simp) ?_
            refine AllReadyIn.cons rfl (fun K hK => ?_) ?_
            · go_simp
              refine hK _ _ ?_
              clear hK K
              try simp only [Act.put, List.setIfInBounds_toArray, List.set_cons_zero, List.set_cons_succ]
              refine wpAnyIn_ready (rs := [5]) (by kernel_rfl) (by simp) ?_
              refine AllReadyIn.cons rfl (fun K hK => ?_) ?_
              · refine stepIn_append_own _ rfl (.tmp 9) (.tmp 13) 22 rfl w.heap.size 35 i0 _ 3 24 Try.underlying22 hi hz0 hz1 hz2 rfl (by decide) _ _ _ rfl (hrow1.alloc _) ⟨w1.heap.size, 0, none⟩ 1 1 (edCells (flipE x)) rfl rfl (ed_new _ (flipE x) _) (edCells_one _) (by unfold maxLen; omega) (by omega) (by have := hB2.size; simp; omega) ?_
                intro v9 w2 hown9 hgrow9
                obtain ⟨g', cap', rfl⟩ := ownsRow_succ hown9
                obtain ⟨hv1, hv2, hr2, hk2, hb3⟩ := c51.appended (by decide) hrow1 hB2.size (by omega) hown9 hgrow9
                have hc7 := hv1.cell
                have hf7 := hv1.frozen
                refine hK _ _ ?_
                clear hK K
                try simp only [Act.put, List.setIfInBounds_toArray]
                refine wpAnyIn_ready (rs := [6]) (by kernel_rfl) (by simp) ?_
                refine AllReadyIn.cons rfl (fun K hK => ?_) ?_
                · go_simp
                  refine hK _ _ ?_
                  clear hK K
                  try simp only [Act.put, List.setIfInBounds_toArray]
                  refine wpAnyIn_done (by kernel_rfl) ?_ _
                  refine ⟨(((KeepsOthers.drew W).trans hko).trans hk2).from _, ((hB1d.trans hb9).trans hb3).mono hb.size, ⟨⟨⟨_, hv2, ?_, trivial⟩, ?_⟩, hB2.trans hb3⟩⟩
                  · rw [List.map_append, List.map_cons, List.map_nil, cellsE_snoc, List.length_append]
                    exact hr2
                  · exact ((kt1.alloc _).kept hgrow9 (kt1.not_row (by decide) hrow1)).other (B' := w.heap.size + 1) (by omega) _
                exact AllReadyIn.nil
              exact AllReadyIn.nil
            exact AllReadyIn.nil
          exact AllReadyIn.nil
        refine AllReadyIn.cons rfl (fun K hK => ?_) ?_
        · go_simp
          refine ⟨trivial, (fun h => by cases h), ((callsIn_wide.2 (HT.out _)).inRound l).mono ?_⟩
          rintro e9 w1 ⟨rfl, b9⟩
          obtain ⟨c51, hrow1, kt1, hB2, hko, hb9⟩ := HAF.out w1 b9
          have hc5 := c51.cell
          have hc6 := (c51.alloc (.cells #[.int .i64 x.2.1, .int .i64 x.1, .int .i64 x.2.2] 35)).cell
          go_simp
          refine hK _ _ ?_
          clear hK K
          try simp only [Act.put, List.setIfInBounds_toArray, List.set_cons_zero, List.set_cons_succ]
          refine wpAnyIn_ready (rs := [0, 4]) (by kernel_rfl) (by simp) ?_
          refine AllReadyIn.cons rfl (fun K hK => ?_) ?_
          · go_simp
            refine hK _ _ ?_
            clear hK K
            try simp only [Act.put, List.setIfInBounds_toArray, List.set_cons_zero, List.set_cons_succ]
            refine wpAnyIn_ready (rs := [4]) (by kernel_rfl) (by simp) ?_
            refine AllReadyIn.cons rfl (fun K hK => ?_) ?_
            · go_simp
              refine hK _ _ ?_
              clear hK K
              try simp only [Act.put, List.setIfInBounds_toArray, List.set_cons_zero, List.set_cons_succ]
              refine wpAnyIn_ready (rs := [5]) (by kernel_rfl) (by simp) ?_
              refine AllReadyIn.cons rfl (fun K hK => ?_) ?_
              · refine stepIn_append_own _ rfl (.tmp 9) (.tmp 13) 22 rfl w.heap.size 35 i0 _ 3 24 Try.underlying22 hi hz0 hz1 hz2 rfl (by decide) _ _ _ rfl (hrow1.alloc _) ⟨w1.heap.size, 0, none⟩ 1 1 (edCells (flipE x)) rfl rfl (ed_new _ (flipE x) _) (edCells_one _) (by unfold maxLen; omega) (by omega) (by have := hB2.size; simp; omega) ?_
                intro v9 w2 hown9 hgrow9
                obtain ⟨g', cap', rfl⟩ := ownsRow_succ hown9
                obtain ⟨hv1, hv2, hr2, hk2, hb3⟩ := c51.appended (by decide) hrow1 hB2.size (by omega) hown9 hgrow9
                have hc7 := hv1.cell
                have hf7 := hv1.frozen
                refine hK _ _ ?_
                clear hK K
                try simp only [Act.put, List.setIfInBounds_toArray]
                refine wpAnyIn_ready (rs := [6]) (by kernel_rfl) (by simp) ?_
                refine AllReadyIn.cons rfl (fun K hK => ?_) ?_
                · go_simp
                  refine hK _ _ ?_
                  clear hK K
                  try simp only [Act.put, List.setIfInBounds_toArray]
                  refine wpAnyIn_done (by kernel_rfl) ?_ _
                  refine ⟨(((KeepsOthers.drew W).trans hko).trans hk2).from _, ((hB1d.trans hb9).trans hb3).mono hb.size, ⟨⟨⟨_, hv2, ?_, trivial⟩, ?_⟩, hB2.trans hb3⟩⟩
                  · rw [List.map_append, List.map_cons, List.map_nil, cellsE_snoc, List.length_append]
                    exact hr2
                  · exact ((kt1.alloc _).kept hgrow9 (kt1.not_row (by decide) hrow1)).other (B' := w.heap.size + 1) (by omega) _
                exact AllReadyIn.nil
              exact AllReadyIn.nil
            exact AllReadyIn.nil
          refine AllReadyIn.cons rfl (fun K hK => ?_) ?_
          · go_simp
            refine hK _ _ ?_
            clear hK K
            try simp only [Act.put, List.setIfInBounds_toArray, List.set_cons_zero, List.set_cons_succ]
            refine wpAnyIn_ready (rs := [0]) (by kernel_rfl) (by simp) ?_
            refine AllReadyIn.cons rfl (fun K hK => ?_) ?_
            · go_simp
              refine hK _ _ ?_
              clear hK K
              try simp only [Act.put, List.setIfInBounds_toArray, List.set_cons_zero, List.set_cons_succ]
              refine wpAnyIn_ready (rs := [5]) (by kernel_rfl) (by simp) ?_
              refine AllReadyIn.cons rfl (fun K hK => ?_) ?_
              · refine stepIn_append_own _ rfl (.tmp 9) (.tmp 13) 22 rfl w.heap.size 35 i0 _ 3 24 Try.underlying22 hi hz0 hz1 hz2 rfl (by decide) _ _ _ rfl (hrow1.alloc _) ⟨w1.heap.size, 0, none⟩ 1 1 (edCells (flipE x)) rfl rfl (ed_new _ (flipE x) _) (edCells_one _) (by unfold maxLen; omega) (by omega) (by have := hB2.size; simp; omega) ?_
                intro v9 w2 hown9 hgrow9
                obtain ⟨g', cap', rfl⟩ := ownsRow_succ hown9
                obtain ⟨hv1, hv2, hr2, hk2, hb3⟩ := c51.appended (by decide) hrow1 hB2.size (by omega) hown9 hgrow9
                have hc7 := hv1.cell
                have hf7 := hv1.frozen
                refine hK _ _ ?_
                clear hK K
                try simp only [Act.put, List.setIfInBounds_toArray]
                refine wpAnyIn_ready (rs := [6]) (by kernel_rfl) (by simp) ?_
                refine AllReadyIn.cons rfl (fun K hK => ?_) ?_
                · go_simp
                  refine hK _ _ ?_
                  clear hK K
                  try simp only [Act.put, List.setIfInBounds_toArray]
                  refine wpAnyIn_done (by kernel_rfl) ?_ _
                  refine ⟨(((KeepsOthers.drew W).trans hko).trans hk2).from _, ((hB1d.trans hb9).trans hb3).mono hb.size, ⟨⟨⟨_, hv2, ?_, trivial⟩, ?_⟩, hB2.trans hb3⟩⟩
                  · rw [List.map_append, List.map_cons, List.map_nil, cellsE_snoc, List.length_append]
                    exact hr2
                  · exact ((kt1.alloc _).kept hgrow9 (kt1.not_row (by decide) hrow1)).other (B' := w.heap.size + 1) (by omega) _
                exact AllReadyIn.nil
              exact AllReadyIn.nil
            exact AllReadyIn.nil
          exact AllReadyIn.nil
        exact AllReadyIn.nil
      exact AllReadyIn.nil
    refine AllReadyIn.cons rfl (fun K hK => ?_) ?_
    · go_simp
      refine hK _ _ ?_
      clear hK K
      try simp only [Act.put, List.setIfInBounds_toArray, List.set_cons_zero, List.set_cons_succ]
      refine wpAnyIn_ready (rs := [0, 1]) (by kernel_rfl) (by simp) ?_
      refine AllReadyIn.cons rfl (fun K hK => ?_) ?_
      · go_simp
        refine hK _ _ ?_
        clear hK K
        try simp only [Act.put, List.setIfInBounds_toArray, List.set_cons_zero, List.set_cons_succ]
        refine wpAnyIn_ready (rs := [1]) (by kernel_rfl) (by simp) ?_
        refine AllReadyIn.cons rfl (fun K hK => ?_) ?_
        · go_simp
          refine hK _ _ ?_
          clear hK K
          try simp only [Act.put, List.setIfInBounds_toArray, List.set_cons_zero, List.set_cons_succ]
          refine wpAnyIn_ready (rs := [3]) (by kernel_rfl) (by simp) ?_
          refine AllReadyIn.cons rfl (fun K hK => ?_) ?_
          · go_simp
            refine ⟨trivial, (fun h => by cases h), ((callsIn_wide.2 (HT.out _)).inRound l).mono ?_⟩
            rintro e9 w1 ⟨rfl, b9⟩
            obtain ⟨c51, hrow1, kt1, hB2, hko, hb9⟩ := HAF.out w1 b9
            go_simp
            refine hK _ _ ?_
            clear hK K
            try simp only [Act.put, List.setIfInBounds_toArray, List.set_cons_zero, List.set_cons_succ]
            refine wpAnyIn_ready (rs := [4]) (by kernel_rfl) (by simp) ?_
            refine AllReadyIn.cons rfl (fun K hK => ?_) ?_
            · go_simp
              refine hK _ _ ?_
              clear hK K
              try simp only [Act.put, List.setIfInBounds_toArray, List.set_cons_zero, List.set_cons_succ]
              refine wpAnyIn_ready (rs := [5]) (by kernel_rfl) (by simp) ?_
              refine AllReadyIn.cons rfl (fun K hK => ?_) ?_
              · refine stepIn_append_own _ rfl (.tmp 9) (.tmp 13) 22 rfl w.heap.size 35 i0 _ 3 24 Try.underlying22 hi hz0 hz1 hz2 rfl (by decide) _ _ _ rfl (hrow1.alloc _) ⟨w1.heap.size, 0, none⟩ 1 1 (edCells (flipE x)) rfl rfl (ed_new _ (flipE x) _) (edCells_one _) (by unfold maxLen; omega) (by omega) (by have := hB2.size; simp; omega) ?_
                intro v9 w2 hown9 hgrow9
                obtain ⟨g', cap', rfl⟩ := ownsRow_succ hown9
                obtain ⟨hv1, hv2, hr2, hk2, hb3⟩ := c51.appended (by decide) hrow1 hB2.size (by omega) hown9 hgrow9
                have hc7 := hv1.cell
                have hf7 := hv1.frozen
                refine hK _ _ ?_
                clear hK K
                try simp only [Act.put, List.setIfInBounds_toArray]
                refine wpAnyIn_ready (rs := [6]) (by kernel_rfl) (by simp) ?_
                refine AllReadyIn.cons rfl (fun K hK => ?_) ?_
                · go_simp
                  refine hK _ _ ?_
                  clear hK K
                  try simp only [Act.put, List.setIfInBounds_toArray]
                  refine wpAnyIn_done (by kernel_rfl) ?_ _
                  refine ⟨(((KeepsOthers.drew W).trans hko).trans hk2).from _, ((hB1d.trans hb9).trans hb3).mono hb.size, ⟨⟨⟨_, hv2, ?_, trivial⟩, ?_⟩, hB2.trans hb3⟩⟩
                  · rw [List.map_append, List.map_cons, List.map_nil, cellsE_snoc, List.length_append]
                    exact hr2
                  · exact ((kt1.alloc _).kept hgrow9 (kt1.not_row (by decide) hrow1)).other (B' := w.heap.size + 1) (by omega) _
                exact AllReadyIn.nil
              exact AllReadyIn.nil
            exact AllReadyIn.nil
          exact AllReadyIn.nil
        exact AllReadyIn.nil
      refine AllReadyIn.cons rfl (fun K hK => ?_) ?_
      · go_simp
        refine hK _ _ ?_
        clear hK K
        try simp only [Act.put, List.setIfInBounds_toArray, List.set_cons_zero, List.set_cons_succ]
        refine wpAnyIn_ready (rs := [0, 3]) (by kernel_rfl) (by simp) ?_
        refine AllReadyIn.cons rfl (fun K hK => ?_) ?_
        · go_simp
          refine hK _ _ ?_
          clear hK K
          try simp only [Act.put, List.setIfInBounds_toArray, List.set_cons_zero, List.set_cons_succ]
          refine wpAnyIn_ready (rs := [3]) (by kernel_rfl) (by simp) ?_
          refine AllReadyIn.cons rfl (fun K hK => ?_) ?_
          · go_simp
            refine ⟨trivial, (fun h => by cases h), ((callsIn_wide.2 (HT.out _)).inRound l).mono ?_⟩
            rintro e9 w1 ⟨rfl, b9⟩
            obtain ⟨c51, hrow1, kt1, hB2, hko, hb9⟩ := HAF.out w1 b9
            go_simp
            refine hK _ _ ?_
            clear hK K
            try simp only [Act.put, List.setIfInBounds_toArray, List.set_cons_zero, List.set_cons_succ]
            refine wpAnyIn_ready (rs := [4]) (by kernel_rfl) (by simp) ?_
            refine AllReadyIn.cons rfl (fun K hK => ?_) ?_
            · go_simp
              refine hK _ _ ?_
              clear hK K
              try simp only [Act.put, List.setIfInBounds_toArray, List.set_cons_zero, List.set_cons_succ]
              refine wpAnyIn_ready (rs := [5]) (by kernel_rfl) (by simp) ?_
              refine AllReadyIn.cons rfl (fun K hK => ?_) ?_
              · refine stepIn_append_own _ rfl (.tmp 9) (.tmp 13) 22 rfl w.heap.size 35 i0 _ 3 24 Try.underlying22 hi hz0 hz1 hz2 rfl (by decide) _ _ _ rfl (hrow1.alloc _) ⟨w1.heap.size, 0, none⟩ 1 1 (edCells (flipE x)) rfl rfl (ed_new _ (flipE x) _) (edCells_one _) (by unfold maxLen; omega) (by omega) (by have := hB2.size; simp; omega) ?_
                intro v9 w2 hown9 hgrow9
                obtain ⟨g', cap', rfl⟩ := ownsRow_succ hown9
                obtain ⟨hv1, hv2, hr2, hk2, hb3⟩ := c51.appended (by decide) hrow1 hB2.size (by omega) hown9 hgrow9
                have hc7 := hv1.cell
                have hf7 := hv1.frozen
                refine hK _ _ ?_
                clear hK K
                try simp only [Act.put, List.setIfInBounds_toArray]
                refine wpAnyIn_ready (rs := [6]) (by kernel_rfl) (by simp) ?_
                refine AllReadyIn.cons rfl (fun K hK => ?_) ?_
                · go_simp
                  refine hK _ _ ?_
                  clear hK K
                  try simp only [Act.put, List.setIfInBounds_toArray]
                  refine wpAnyIn_done (by kernel_rfl) ?_ _
                  refine ⟨(((KeepsOthers.drew W).trans hko).trans hk2).from _, ((hB1d.trans hb9).trans hb3).mono hb.size, ⟨⟨⟨_, hv2, ?_, trivial⟩, ?_⟩, hB2.trans hb3⟩⟩
                  · rw [List.map_append, List.map_cons, List.map_nil, cellsE_snoc, List.length_append]
                    exact hr2
                  · exact ((kt1.alloc _).kept hgrow9 (kt1.not_row (by decide) hrow1)).other (B' := w.heap.size + 1) (by omega) _
                exact AllReadyIn.nil
              exact AllReadyIn.nil
            exact AllReadyIn.nil
          exact AllReadyIn.nil
        refine AllReadyIn.cons rfl (fun K hK => ?_) ?_
        · go_simp
          refine ⟨trivial, (fun h => by cases h), ((callsIn_wide.2 (HT.out _)).inRound l).mono ?_⟩
          rintro e9 w1 ⟨rfl, b9⟩
          obtain ⟨c51, hrow1, kt1, hB2, hko, hb9⟩ := HAF.out w1 b9
          have hc5 := c51.cell
          have hc6 := (c51.alloc (.cells #[.int .i64 x.2.1, .int .i64 x.1, .int .i64 x.2.2] 35)).cell
          go_simp
          refine hK _ _ ?_
          clear hK K
          try simp only [Act.put, List.setIfInBounds_toArray, List.set_cons_zero, List.set_cons_succ]
          refine wpAnyIn_ready (rs := [0, 4]) (by kernel_rfl) (by simp) ?_
          refine AllReadyIn.cons rfl (fun K hK => ?_) ?_
          · go_simp
            refine hK _ _ ?_
            clear hK K
            try simp only [Act.put, List.setIfInBounds_toArray, List.set_cons_zero, List.set_cons_succ]
            refine wpAnyIn_ready (rs := [4]) (by kernel_rfl) (by simp) ?_
            refine AllReadyIn.cons rfl (fun K hK => ?_) ?_
            · go_simp
              refine hK _ _ ?_
              clear hK K
              try simp only [Act.put, List.setIfInBounds_toArray, List.set_cons_zero, List.set_cons_succ]
              refine wpAnyIn_ready (rs := [5]) (by kernel_rfl) (by simp) ?_
              refine AllReadyIn.cons rfl (fun K hK => ?_) ?_
              · refine stepIn_append_own _ rfl (.tmp 9) (.tmp 13) 22 rfl w.heap.size 35 i0 _ 3 24 Try.underlying22 hi hz0 hz1 hz2 rfl (by decide) _ _ _ rfl (hrow1.alloc _) ⟨w1.heap.size, 0, none⟩ 1 1 (edCells (flipE x)) rfl rfl (ed_new _ (flipE x) _) (edCells_one _) (by unfold maxLen; omega) (by omega) (by have := hB2.size; simp; omega) ?_
                intro v9 w2 hown9 hgrow9
                obtain ⟨g', cap', rfl⟩ := ownsRow_succ hown9
                obtain ⟨hv1, hv2, hr2, hk2, hb3⟩ := c51.appended (by decide) hrow1 hB2.size (by omega) hown9 hgrow9
                have hc7 := hv1.cell
                have hf7 := hv1.frozen
                refine hK _ _ ?_
                clear hK K
                try simp only [Act.put, List.setIfInBounds_toArray]
                refine wpAnyIn_ready (rs := [6]) (by kernel_rfl) (by simp) ?_
                refine AllReadyIn.cons rfl (fun K hK => ?_) ?_
                · go_simp
                  refine hK _ _ ?_
                  clear hK K
                  try simp only [Act.put, List.setIfInBounds_toArray]
                  refine wpAnyIn_done (by kernel_rfl) ?_ _
                  refine ⟨(((KeepsOthers.drew W).trans hko).trans hk2).from _, ((hB1d.trans hb9).trans hb3).mono hb.size, ⟨⟨⟨_, hv2, ?_, trivial⟩, ?_⟩, hB2.trans hb3⟩⟩
                  · rw [List.map_append, List.map_cons, List.map_nil, cellsE_snoc, List.length_append]
                    exact hr2
                  · exact ((kt1.alloc _).kept hgrow9 (kt1.not_row (by decide) hrow1)).other (B' := w.heap.size + 1) (by omega) _
                exact AllReadyIn.nil
              exact AllReadyIn.nil
            exact AllReadyIn.nil
          refine AllReadyIn.cons rfl (fun K hK => ?_) ?_
          · go_simp
            refine hK _ _ ?_
            clear hK K
            try simp only [Act.put, List.setIfInBounds_toArray, List.set_cons_zero, List.set_cons_succ]
            refine wpAnyIn_ready (rs := [0]) (by kernel_rfl) (by simp) ?_
            refine AllReadyIn.cons rfl (fun K hK => ?_) ?_
            · go_simp
              refine hK _ _ ?_
              clear hK K
              try simp only [Act.put, List.setIfInBounds_toArray, List.set_cons_zero, List.set_cons_succ]
              refine wpAnyIn_ready (rs := [5]) (by kernel_rfl) (by simp) ?_
              refine AllReadyIn.cons rfl (fun K hK => ?_) ?_
              · refine stepIn_append_own _ rfl (.tmp 9) (.tmp 13) 22 rfl w.heap.size 35 i0 _ 3 24 Try.underlying22 hi hz0 hz1 hz2 rfl (by decide) _ _ _ rfl (hrow1.alloc _) ⟨w1.heap.size, 0, none⟩ 1 1 (edCells (flipE x)) rfl rfl (ed_new _ (flipE x) _) (edCells_one _) (by unfold maxLen; omega) (by omega) (by have := hB2.size; simp; omega) ?_
                intro v9 w2 hown9 hgrow9
                obtain ⟨g', cap', rfl⟩ := ownsRow_succ hown9
                obtain ⟨hv1, hv2, hr2, hk2, hb3⟩ := c51.appended (by decide) hrow1 hB2.size (by omega) hown9 hgrow9
                have hc7 := hv1.cell
                have hf7 := hv1.frozen
                refine hK _ _ ?_
                clear hK K
                try simp only [Act.put, List.setIfInBounds_toArray]
                refine wpAnyIn_ready (rs := [6]) (by kernel_rfl) (by simp) ?_
                refine AllReadyIn.cons rfl (fun K hK => ?_) ?_
                · go_simp
                  refine hK _ _ ?_
                  clear hK K
                  try simp only [Act.put, List.setIfInBounds_toArray]
                  refine wpAnyIn_done (by kernel_rfl) ?_ _
                  refine ⟨(((KeepsOthers.drew W).trans hko).trans hk2).from _, ((hB1d.trans hb9).trans hb3).mono hb.size, ⟨⟨⟨_, hv2, ?_, trivial⟩, ?_⟩, hB2.trans hb3⟩⟩
                  · rw [List.map_append, List.map_cons, List.map_nil, cellsE_snoc, List.length_append]
                    exact hr2
                  · exact ((kt1.alloc _).kept hgrow9 (kt1.not_row (by decide) hrow1)).other (B' := w.heap.size + 1) (by omega) _
                exact AllReadyIn.nil
              exact AllReadyIn.nil
            exact AllReadyIn.nil
          exact AllReadyIn.nil
        exact AllReadyIn.nil
      exact AllReadyIn.nil
    exact AllReadyIn.nil
  case done =>
    rintro D xs W hD rfl ⟨⟨⟨v, c3, hrow, _⟩, kt⟩, hB1⟩ hK
    obtain ⟨A', c', rfl, h51, h52⟩ := own_form2 hrow
    have e0 := c3.cell
    have HK := Lib.hid hK
    gi_wp2
    refine ⟨by simp, .inl ⟨_, _, rfl, run_takeDeferred HK.out, ?_⟩⟩
    have ho := ownsRow_putObj hrow (.deferred none) HK.out rfl
    rw [← List.length_map (f := flipE)] at ho h51
    refine ⟨.slice A' xs.length c', by simp [results, Try.results56, go_sem], A', c', by rw [List.length_map], ho, h51, h52, hB1.trans (belowK_b (w := w) (Nat.le_refl _) W D _ _ (by omega) HK.out rfl rfl)⟩
  case stop =>
    rintro D c pre W hD _ h
    exact h.elim

set_option maxRecDepth 100000 in
set_option maxHeartbeats 8000000 in
theorem gatherI_in (m : Nat) (hm : 6 ≤ m) (gf : Nat) (lb : Array Value) (rs : List Ed) (N : Nat) (hN : N ≤ 1000) (Sp : List Ed → Prop) (w0 : World) (eg : ∀ args w, (callFunc gf args).run Try.prog w = .ok (.enter gf args) w)
    (hseq : SeqStopsK Fence.wide (m - 1) Try.prog gf lb encE (fun X Y => Below w0.heap.size X Y) (fun ys => ys = rs) Sp N w0) (w : World) (hb : Below w0.heap.size w0 w) :
    CallsIn Fence.wide m Try.prog 54 #[.func (.func gf) #[] lb, .func (.func 55) #[] #[]] w (IntsIs (rs.map fun p => p.2.2) w) := by
  have h1 : 1 ≤ m := by omega
  obtain ⟨i0, hi, hz0, hz1, hz2⟩ := info_parts int_info
  refine callsIn_of_wp_marks Try.func54 rfl trivial ?_ rfl
  simp only [Try.ntmps54, List.size_toArray, List.length_cons, List.length_nil, Nat.reduceAdd, Nat.reduceSub, Array.replicate_succ, Array.replicate_zero, List.push_toArray, List.append_toArray, List.nil_append, List.cons_append]
  gi_wp2_with fail
  have ct := (Boxed.new w 61 (.func (.func 55) #[] #[])).alloc (.cells #[.slice none 0 0] 41)
  have c0 := Boxed.new (w.alloc (.cells #[.func (.func 55) #[] #[]] 61)) 41 (.slice none 0 0)
  have hB0 : Below w.heap.size w ((w.alloc (.cells #[.func (.func 55) #[] #[]] 61)).alloc (.cells #[.slice none 0 0] 41)) := ((Below.refl _ w).alloc (Nat.le_refl _) _).alloc (by simp) _
  have hsz : ((w.alloc (.cells #[.func (.func 55) #[] #[]] 61)).alloc (.cells #[.slice none 0 0] 41)).heap.size = w.heap.size + 2 := by simp
  rw [World.size_alloc] at c0
  obtain ⟨W0, hW0⟩ : ∃ W0, (w.alloc (.cells #[.func (.func 55) #[] #[]] 61)).alloc (.cells #[.slice none 0 0] 41) = W0 := ⟨_, rfl⟩
  rw [hW0] at c0 ct hB0 hsz ⊢
  clear hW0
  have hb2 : Below w0.heap.size w0 W0 := hb.trans (hB0.mono hb.size)
  refine wpIn_rangeFunc_ownH rfl h1 (gf := gf) (lb := lb) rfl trivial eg
    hseq (fun h k => belowK_t h k) (fun W l o o' hl h1 h2 h3 => belowK_b hb2.size W l o o' hl h1 h2 h3) hb2 (fun _ => rfl)
    (fun pre W => ((∃ v, Boxed W (w.heap.size + 1) 41 v ∧ W.ownsRow w.heap.size 3 1 v pre.length (ints (pre.map fun p => p.2.2)) ∧ True) ∧ Boxed W w.heap.size 61 (.func (.func 55) #[] #[])) ∧ Below w.heap.size w W)
    (fun _ _ _ => False)
    (OwnFrom.and (OwnFrom.and (_root_.Go.Own.from (holdsRow_own w.heap.size (w.heap.size + 1) 41 3 1 (fun pre : List Ed => pre.length) (fun pre : List Ed => ints (pre.map fun p => p.2.2)) (fun _ _ => True)) _) (_root_.Go.Own.from (boxed_own _ _ (fun _ => .func (.func 55) #[] #[])) _)) (ownFrom_below (Nat.le_refl _) (by omega)))
    (fun c => fun _ _ _ _ h _ _ => h)
    ⟨⟨⟨_, c0, World.ownsRow_nil _ _ _ _, trivial⟩, ct⟩, hB0⟩
    (fun x a' W => ∃ Bx : Nat, w.heap.size + 1 < Bx ∧ Blk W Bx 35 #[.int .i64 x.1, .int .i64 x.2.1, .int .i64 x.2.2] ∧ a' = { tmps := #[.func (.func gf) #[] lb, .func (.func 55) #[] #[], undef, .pointer (some ⟨w.heap.size, 0, none⟩), .slice none 0 0, .pointer (some ⟨w.heap.size + 1, 0, none⟩), .pointer (some ⟨Bx, 0, none⟩), .func (.func gf) #[] lb, .agg #[.int .i64 x.1, .int .i64 x.2.1, .int .i64 x.2.2], undef, undef, undef, undef, undef, undef, undef], defers := [] })
    (fun x a' _ X Y row hs hg hr => by
      obtain ⟨Bx, e1, e3, e5⟩ := hs
      exact ⟨Bx, e1, blk_own _ _ (fun (_ : Unit) => _) () X Y row e3 hg (fun r e => (hr r e).2), e5⟩)
    ?assign ?body ?done ?stop
  case assign =>
    rintro l pre x W K ⟨⟨⟨v, c3, hrow, _⟩, kt⟩, hB1⟩ hK
    have hs1 := c3.lt
    unfold encE
    gi_wp2
    exact hK _ _ ((KeepsOthers.alloc _ _).from _) ((Below.refl _ _).alloc (Nat.le_trans hb.size hB1.size) _)
      ⟨⟨⟨v, c3.alloc _, hrow.alloc _, trivial⟩, kt.alloc _⟩, hB1.alloc hB1.size _⟩
      ⟨W.heap.size, by omega, Blk.new W _ _, rfl⟩
  case body =>
    rintro l pre x a' W hl ⟨r, hr⟩ ⟨⟨⟨v, c3, hrow, _⟩, kt⟩, hB1⟩ ⟨Bx, hBx, kx, rfl⟩ hlt
    have q0 := kx.cell 0
    have q1 := kx.cell 1
    have q2 := kx.cell 2
    have hc3 := c3.cell
    have hct := kt.cell
    have hlen : pre.length < 1000 := by omega
    have HT := Lib.hid fun W => kinds2_any x W
    have hB1d : Below w.heap.size W W.drew := (Below.refl _ _).drew
    have HAF : Hid (∀ w1, Below W.drew.heap.size W.drew w1 → Boxed w1 (w.heap.size + 1) 41 v ∧ w1.ownsRow w.heap.size 3 1 v pre.length (ints (pre.map fun p => p.2.2)) ∧ Boxed w1 w.heap.size 61 (.func (.func 55) #[] #[]) ∧ Below w.heap.size w w1 ∧ KeepsOthers W.drew w1 ∧ Below w.heap.size W.drew w1) :=
      fun w1 b => ⟨boxed_below (W := W.drew) c3 b, own_below2 (w := W.drew) hrow b (Nat.le_refl _), boxed_below (W := W.drew) kt b, (hB1.trans hB1d).trans (b.mono hB1.size), KeepsOthers.of_grownBy (grown_of_below b) (fun j o e => by cases e), b.mono hB1.size⟩
    clear c3 hrow kt kx
    gi_wp2
    refine wpIn_region_any (by kernel_rfl) ?_
    change wpAnyIn _ _ _ _ _ _ _ _ _ W.drew
    refine wpAnyIn_ready (rs := [0, 1, 2]) (by kernel_rfl) (by simp) ?_
    refine AllReadyIn.cons rfl (fun K hK => ?_) ?_
    · go_simp
      refine hK _ _ ?_
      clear hK K
      try simp only [Act.put, List.setIfInBounds_toArray, List.set_cons_zero, List.set_cons_succ]
      refine wpAnyIn_ready (rs := [1, 2]) (by kernel_rfl) (by simp) ?_
      refine AllReadyIn.cons rfl (fun K hK => ?_) ?_
      · go_simp
        refine hK _ _ ?_
        clear hK K
        try simp only [Act.put, List.setIfInBounds_toArray, List.set_cons_zero, List.set_cons_succ]
        refine wpAnyIn_ready (rs := [2]) (by kernel_rfl) (by simp) ?_
        refine AllReadyIn.cons rfl (fun K hK => ?_) ?_
        · go_simp
          refine hK _ _ ?_
          clear hK K
          try simp only [Act.put, List.setIfInBounds_toArray, List.set_cons_zero, List.set_cons_succ]
          refine wpAnyIn_ready (rs := [3]) (by kernel_rfl) (by simp) ?_
          refine AllReadyIn.cons rfl (fun K hK => ?_) ?_
          · go_simp
            refine ⟨trivial, (fun h => by cases h), ((callsIn_wide.2 (HT.out _)).inRound l).mono ?_⟩
            rintro e9 w1 ⟨rfl, b9⟩
            obtain ⟨c51, hrow1, kt1, hB2, hko, hb9⟩ := HAF.out w1 b9
            go_simp
            refine hK _ _ ?_
            clear hK K
            try simp only [Act.put, List.setIfInBounds_toArray, List.set_cons_zero, List.set_cons_succ]
            refine wpAnyIn_ready (rs := [4]) (by kernel_rfl) (by simp) ?_
            refine AllReadyIn.cons rfl (fun K hK => ?_) ?_
            · go_simp
              refine hK _ _ ?_
              clear hK K
              try simp only [Act.put, List.setIfInBounds_toArray, List.set_cons_zero, List.set_cons_succ]
              refine wpAnyIn_ready (rs := [5]) (by kernel_rfl) (by simp) ?_
              refine AllReadyIn.cons rfl (fun K hK => ?_) ?_
              · refine stepIn_append_own _ rfl (.tmp 9) (.tmp 13) 41 rfl w.heap.size 3 i0 _ 1 8 Try.underlying41 hi hz0 hz1 hz2 rfl (by decide) _ _ _ rfl (hrow1.alloc _) ⟨w1.heap.size, 0, none⟩ 1 1 [.int .i64 x.2.2] rfl rfl (int_new _ x.2.2 _) (ints_one [x.2.2]) (by unfold maxLen; omega) (by omega) (by have := hB2.size; simp; omega) ?_
                intro v9 w2 hown9 hgrow9
                obtain ⟨g', cap', rfl⟩ := ownsRow_succ hown9
                obtain ⟨hv1, hv2, hr2, hk2, hb3⟩ := c51.appended (by decide) hrow1 hB2.size (by omega) hown9 hgrow9
                have hc7 := hv1.cell
                have hf7 := hv1.frozen
                refine hK _ _ ?_
                clear hK K
                try simp only [Act.put, List.setIfInBounds_toArray]
                refine wpAnyIn_ready (rs := [6]) (by kernel_rfl) (by simp) ?_
                refine AllReadyIn.cons rfl (fun K hK => ?_) ?_
                · go_simp
                  refine hK _ _ ?_
                  clear hK K
                  try simp only [Act.put, List.setIfInBounds_toArray]
                  refine wpAnyIn_done (by kernel_rfl) ?_ _
                  refine ⟨(((KeepsOthers.drew W).trans hko).trans hk2).from _, ((hB1d.trans hb9).trans hb3).mono hb.size, ⟨⟨⟨_, hv2, ?_, trivial⟩, ?_⟩, hB2.trans hb3⟩⟩
                  · rw [List.map_append, List.map_cons, List.map_nil, ints_append, List.length_append]
                    exact hr2
                  · exact ((kt1.alloc _).kept hgrow9 (kt1.not_row (by decide) hrow1)).other (B' := w.heap.size + 1) (by omega) _
                exact AllReadyIn.nil
              exact AllReadyIn.nil
            exact AllReadyIn.nil
          exact AllReadyIn.nil
        exact AllReadyIn.nil
      refine AllReadyIn.cons rfl (fun K hK => ?_) ?_
      · go_simp
        refine hK _ _ ?_
        clear hK K
        try simp only [Act.put, List.setIfInBounds_toArray, List.set_cons_zero, List.set_cons_succ]
        refine wpAnyIn_ready (rs := [1]) (by kernel_rfl) (by simp) ?_
        refine AllReadyIn.cons rfl (fun K hK => ?_) ?_
        · go_simp
          refine hK _ _ ?_
          clear hK K
          try simp only [Act.put, List.setIfInBounds_toArray, List.set_cons_zero, List.set_cons_succ]
          refine wpAnyIn_ready (rs := [3]) (by kernel_rfl) (by simp) ?_
          refine AllReadyIn.cons rfl (fun K hK => ?_) ?_
          · go_simp
            refine ⟨trivial, (fun h => by cases h), ((callsIn_wide.2 (HT.out _)).inRound l).mono ?_⟩
            rintro e9 w1 ⟨rfl, b9⟩
            obtain ⟨c51, hrow1, kt1, hB2, hko, hb9⟩ := HAF.out w1 b9
            go_simp
            refine hK _ _ ?_
            clear hK K
            try simp only [Act.put, List.setIfInBounds_toArray, List.set_cons_zero, List.set_cons_succ]
            refine wpAnyIn_ready (rs := [4]) (by kernel_rfl) (by simp) ?_
            refine AllReadyIn.cons rfl (fun K hK => ?_) ?_
            · go_simp
              refine hK _ _ ?_
              clear hK K
              try simp only [Act.put, List.setIfInBounds_toArray, List.set_cons_zero, List.set_cons_succ]
              refine wpAnyIn_ready (rs := [5]) (by kernel_rfl) (by simp) ?_
              refine AllReadyIn.cons rfl (fun K hK => ?_) ?_
              · refine stepIn_append_own _ rfl (.tmp 9) (.tmp 13) 41 rfl w.heap.size 3 i0 _ 1 8 Try.underlying41 hi hz0 hz1 hz2 rfl (by decide) _ _ _ rfl (hrow1.alloc _) ⟨w1.heap.size, 0, none⟩ 1 1 [.int .i64 x.2.2] rfl rfl (int_new _ x.2.2 _) (ints_one [x.2.2]) (by unfold maxLen; omega) (by omega) (by have := hB2.size; simp; omega) ?_
                intro v9 w2 hown9 hgrow9
                obtain ⟨g', cap', rfl⟩ := ownsRow_succ hown9
                obtain ⟨hv1, hv2, hr2, hk2, hb3⟩ := c51.appended (by decide) hrow1 hB2.size (by omega) hown9 hgrow9
                have hc7 := hv1.cell
                have hf7 := hv1.frozen
                refine hK _ _ ?_
                clear hK K
                try simp only [Act.put, List.setIfInBounds_toArray]
                refine wpAnyIn_ready (rs := [6]) (by kernel_rfl) (by simp) ?_
                refine AllReadyIn.cons rfl (fun K hK => ?_) ?_
                · go_simp
                  refine hK _ _ ?_
                  clear hK K
                  try simp only [Act.put, List.setIfInBounds_toArray]
                  refine wpAnyIn_done (by kernel_rfl) ?_ _
                  refine ⟨(((KeepsOthers.drew W).trans hko).trans hk2).from _, ((hB1d.trans hb9).trans hb3).mono hb.size, ⟨⟨⟨_, hv2, ?_, trivial⟩, ?_⟩, hB2.trans hb3⟩⟩
                  · rw [List.map_append, List.map_cons, List.map_nil, ints_append, List.length_append]
                    exact hr2
                  · exact ((kt1.alloc _).kept hgrow9 (kt1.not_row (by decide) hrow1)).other (B' := w.heap.size + 1) (by omega) _
                exact AllReadyIn.nil
              exact AllReadyIn.nil
            exact AllReadyIn.nil
          exact AllReadyIn.nil
        exact AllReadyIn.nil
      exact AllReadyIn.nil
    refine AllReadyIn.cons rfl (fun K hK => ?_) ?_
    · go_simp
      refine hK _ _ ?_
      clear hK K
      try simp only [Act.put, List.setIfInBounds_toArray, List.set_cons_zero, List.set_cons_succ]
      refine wpAnyIn_ready (rs := [0, 2]) (by kernel_rfl) (by simp) ?_
      refine AllReadyIn.cons rfl (fun K hK => ?_) ?_
      · go_simp
        refine hK _ _ ?_
        clear hK K
        try simp only [Act.put, List.setIfInBounds_toArray, List.set_cons_zero, List.set_cons_succ]
        refine wpAnyIn_ready (rs := [2]) (by kernel_rfl) (by simp) ?_
        refine AllReadyIn.cons rfl (fun K hK => ?_) ?_
        · go_simp
          refine hK _ _ ?_
          clear hK K
          try simp only [Act.put, List.setIfInBounds_toArray, List.set_cons_zero, List.set_cons_succ]
          refine wpAnyIn_ready (rs := [3]) (by kernel_rfl) (by simp) ?_
          refine AllReadyIn.cons rfl (fun K hK => ?_) ?_
          · go_simp
            refine ⟨trivial, (fun h => by cases h), ((callsIn_wide.2 (HT.out _)).inRound l).mono ?_⟩
            rintro e9 w1 ⟨rfl, b9⟩
            obtain ⟨c51, hrow1, kt1, hB2, hko, hb9⟩ := HAF.out w1 b9
            go_simp
            refine hK _ _ ?_
            clear hK K
            try simp only [Act.put, List.setIfInBounds_toArray, List.set_cons_zero, List.set_cons_succ]
            refine wpAnyIn_ready (rs := [4]) (by kernel_rfl) (by simp) ?_
            refine AllReadyIn.cons rfl (fun K hK => ?_) ?_
            · go_simp
              refine hK _ _ ?_
              clear hK K
              try simp only [Act.put, List.setIfInBounds_toArray, List.set_cons_zero, List.set_cons_succ]
              refine wpAnyIn_ready (rs := [5]) (by kernel_rfl) (by simp) ?_
              refine AllReadyIn.cons rfl (fun K hK => ?_) ?_
              · refine stepIn_append_own _ rfl (.tmp 9) (.tmp 13) 41 rfl w.heap.size 3 i0 _ 1 8 Try.underlying41 hi hz0 hz1 hz2 rfl (by decide) _ _ _ rfl (hrow1.alloc _) ⟨w1.heap.size, 0, none⟩ 1 1 [.int .i64 x.2.2] rfl rfl (int_new _ x.2.2 _) (ints_one [x.2.2]) (by unfold maxLen; omega) (by omega) (by have := hB2.size; simp; omega) ?_
                intro v9 w2 hown9 hgrow9
                obtain ⟨g', cap', rfl⟩ := ownsRow_succ hown9
                obtain ⟨hv1, hv2, hr2, hk2, hb3⟩ := c51.appended (by decide) hrow1 hB2.size (by omega) hown9 hgrow9
                have hc7 := hv1.cell
                have hf7 := hv1.frozen
                refine hK _ _ ?_
                clear hK K
                try simp only [Act.put, List.setIfInBounds_toArray]
                refine wpAnyIn_ready (rs := [6]) (by kernel_rfl) (by simp) ?_
                refine AllReadyIn.cons rfl (fun K hK => ?_) ?_
                · go_simp
                  refine hK _ _ ?_
                  clear hK K
                  try simp only [Act.put, List.setIfInBounds_toArray]
                  refine wpAnyIn_done (by kernel_rfl) ?_ _
                  refine ⟨(((KeepsOthers.drew W).trans hko).trans hk2).from _, ((hB1d.trans hb9).trans hb3).mono hb.size, ⟨⟨⟨_, hv2, ?_, trivial⟩, ?_⟩, hB2.trans hb3⟩⟩
                  · rw [List.map_append, List.map_cons, List.map_nil, ints_append, List.length_append]
                    exact hr2
                  · exact ((kt1.alloc _).kept hgrow9 (kt1.not_row (by decide) hrow1)).other (B' := w.heap.size + 1) (by omega) _
                exact AllReadyIn.nil
              exact AllReadyIn.nil
            exact AllReadyIn.nil
          exact AllReadyIn.nil
        exact AllReadyIn.nil
      refine AllReadyIn.cons rfl (fun K hK => ?_) ?_
      · go_simp
        refine hK _ _ ?_
        clear hK K
        try simp only [Act.put, List.setIfInBounds_toArray, List.set_cons_zero, List.set_cons_succ]
        refine wpAnyIn_ready (rs := [0, 3]) (by kernel_rfl) (by simp) ?_
        refine AllReadyIn.cons rfl (fun K hK => ?_) ?_
        · go_simp
          refine hK _ _ ?_
          clear hK K
          try simp only [Act.put, List.setIfInBounds_toArray, List.set_cons_zero, List.set_cons_succ]
          refine wpAnyIn_ready (rs := [3]) (by kernel_rfl) (by simp) ?_
          refine AllReadyIn.cons rfl (fun K hK => ?_) ?_
          · go_simp
            refine ⟨trivial, (fun h => by cases h), ((callsIn_wide.2 (HT.out _)).inRound l).mono ?_⟩
            rintro e9 w1 ⟨rfl, b9⟩
            obtain ⟨c51, hrow1, kt1, hB2, hko, hb9⟩ := HAF.out w1 b9
            go_simp
            refine hK _ _ ?_
            clear hK K
            try simp only [Act.put, List.setIfInBounds_toArray, List.set_cons_zero, List.set_cons_succ]
            refine wpAnyIn_ready (rs := [4]) (by kernel_rfl) (by simp) ?_
            refine AllReadyIn.cons rfl (fun K hK => ?_) ?_
            · go_simp
              refine hK _ _ ?_
              clear hK K
              try simp only [Act.put, List.setIfInBounds_toArray, List.set_cons_zero, List.set_cons_succ]
              refine wpAnyIn_ready (rs := [5]) (by kernel_rfl) (by simp) ?_
              refine AllReadyIn.cons rfl (fun K hK => ?_) ?_
              · refine stepIn_append_own _ rfl (.tmp 9) (.tmp 13) 41 rfl w.heap.size 3 i0 _ 1 8 Try.underlying41 hi hz0 hz1 hz2 rfl (by decide) _ _ _ rfl (hrow1.alloc _) ⟨w1.heap.size, 0, none⟩ 1 1 [.int .i64 x.2.2] rfl rfl (int_new _ x.2.2 _) (ints_one [x.2.2]) (by unfold maxLen; omega) (by omega) (by have := hB2.size; simp; omega) ?_
                intro v9 w2 hown9 hgrow9
                obtain ⟨g', cap', rfl⟩ := ownsRow_succ hown9
                obtain ⟨hv1, hv2, hr2, hk2, hb3⟩ := c51.appended (by decide) hrow1 hB2.size (by omega) hown9 hgrow9
                have hc7 := hv1.cell
                have hf7 := hv1.frozen
                refine hK _ _ ?_
                clear hK K
                try simp only [Act.put, List.setIfInBounds_toArray]
                refine wpAnyIn_ready (rs := [6]) (by kernel_rfl) (by simp) ?_
                refine AllReadyIn.cons rfl (fun K hK => ?_) ?_
                · go_simp
                  refine hK _ _ ?_
                  clear hK K
                  try simp only [Act.put, List.setIfInBounds_toArray]
                  refine wpAnyIn_done (by kernel_rfl) ?_ _
                  refine ⟨(((KeepsOthers.drew W).trans hko).trans hk2).from _, ((hB1d.trans hb9).trans hb3).mono hb.size, ⟨⟨⟨_, hv2, ?_, trivial⟩, ?_⟩, hB2.trans hb3⟩⟩
                  · rw [List.map_append, List.map_cons, List.map_nil, ints_append, List.length_append]
                    exact hr2
                  · exact ((kt1.alloc _).kept hgrow9 (kt1.not_row (by decide) hrow1)).other (B' := w.heap.size + 1) (by omega) _
                exact AllReadyIn.nil
              exact AllReadyIn.nil
            exact AllReadyIn.nil
          exact AllReadyIn.nil
        refine AllReadyIn.cons rfl (fun K hK => ?_) ?_
        · go_simp
          refine ⟨trivial, (fun h => by cases h), ((callsIn_wide.2 (HT.out _)).inRound l).mono ?_⟩
          rintro e9 w1 ⟨rfl, b9⟩
          obtain ⟨c51, hrow1, kt1, hB2, hko, hb9⟩ := HAF.out w1 b9
          have hc5 := c51.cell
          have hc6 := (c51.alloc (.cells #[.int .i64 x.2.2] 3)).cell
          go_simp
          refine hK _ _ ?_
          clear hK K
          try simp only [Act.put, List.setIfInBounds_toArray, List.set_cons_zero, List.set_cons_succ]
          refine wpAnyIn_ready (rs := [0, 4]) (by kernel_rfl) (by simp) ?_
          refine AllReadyIn.cons rfl (fun K hK => ?_) ?_
          · go_simp
            refine hK _ _ ?_
            clear hK K
            try simp only [Act.put, List.setIfInBounds_toArray, List.set_cons_zero, List.set_cons_succ]
            refine wpAnyIn_ready (rs := [4]) (by kernel_rfl) (by simp) ?_
            refine AllReadyIn.cons rfl (fun K hK => ?_) ?_
            · go_simp
              refine hK _ _ ?_
              clear hK K
              try simp only [Act.put, List.setIfInBounds_toArray, List.set_cons_zero, List.set_cons_succ]
              refine wpAnyIn_ready (rs := [5]) (by kernel_rfl) (by simp) ?_
              refine AllReadyIn.cons rfl (fun K hK => ?_) ?_
              · refine stepIn_append_own _ rfl (.tmp 9) (.tmp 13) 41 rfl w.heap.size 3 i0 _ 1 8 Try.underlying41 hi hz0 hz1 hz2 rfl (by decide) _ _ _ rfl (hrow1.alloc _) ⟨w1.heap.size, 0, none⟩ 1 1 [.int .i64 x.2.2] rfl rfl (int_new _ x.2.2 _) (ints_one [x.2.2]) (by unfold maxLen; omega) (by omega) (by have := hB2.size; simp; omega) ?_
                intro v9 w2 hown9 hgrow9
                obtain ⟨g', cap', rfl⟩ := ownsRow_succ hown9
                obtain ⟨hv1, hv2, hr2, hk2, hb3⟩ := c51.appended (by decide) hrow1 hB2.size (by omega) hown9 hgrow9
                have hc7 := hv1.cell
                have hf7 := hv1.frozen
                refine hK _ _ ?_
                clear hK K
                try simp only [Act.put, List.setIfInBounds_toArray]
                refine wpAnyIn_ready (rs := [6]) (by kernel_rfl) (by simp) ?_
                refine AllReadyIn.cons rfl (fun K hK => ?_) ?_
                · go_simp
                  refine hK _ _ ?_
                  clear hK K
                  try simp only [Act.put, List.setIfInBounds_toArray]
                  refine wpAnyIn_done (by kernel_rfl) ?_ _
                  refine ⟨(((KeepsOthers.drew W).trans hko).trans hk2).from _, ((hB1d.trans hb9).trans hb3).mono hb.size, ⟨⟨⟨_, hv2, ?_, trivial⟩, ?_⟩, hB2.trans hb3⟩⟩
                  · rw [List.map_append, List.map_cons, List.map_nil, ints_append, List.length_append]
                    exact hr2
                  · exact ((kt1.alloc _).kept hgrow9 (kt1.not_row (by decide) hrow1)).other (B' := w.heap.size + 1) (by omega) _
                exact AllReadyIn.nil
              exact AllReadyIn.nil
            exact AllReadyIn.nil
          refine AllReadyIn.cons rfl (fun K hK => ?_) ?_
          · go_simp
            refine hK _ _ ?_
            clear hK K
            try simp only [Act.put, List.setIfInBounds_toArray, List.set_cons_zero, List.set_cons_succ]
            refine wpAnyIn_ready (rs := [0]) (by kernel_rfl) (by simp) ?_
            refine AllReadyIn.cons rfl (fun K hK => ?_) ?_
            · go_simp
              refine hK _ _ ?_
              clear hK K
              try simp only [Act.put, List.setIfInBounds_toArray, List.set_cons_zero, List.set_cons_succ]
              refine wpAnyIn_ready (rs := [5]) (by kernel_rfl) (by simp) ?_
              refine AllReadyIn.cons rfl (fun K hK => ?_) ?_
              · refine stepIn_append_own _ rfl (.tmp 9) (.tmp 13) 41 rfl w.heap.size 3 i0 _ 1 8 Try.underlying41 hi hz0 hz1 hz2 rfl (by decide) _ _ _ rfl (hrow1.alloc _) ⟨w1.heap.size, 0, none⟩ 1 1 [.int .i64 x.2.2] rfl rfl (int_new _ x.2.2 _) (ints_one [x.2.2]) (by unfold maxLen; omega) (by omega) (by have := hB2.size; simp; omega) ?_
                intro v9 w2 hown9 hgrow9
                obtain ⟨g', cap', rfl⟩ := ownsRow_succ hown9
                obtain ⟨hv1, hv2, hr2, hk2, hb3⟩ := c51.appended (by decide) hrow1 hB2.size (by omega) hown9 hgrow9
                have hc7 := hv1.cell
                have hf7 := hv1.frozen
                refine hK _ _ ?_
                clear hK K
                try simp only [Act.put, List.setIfInBounds_toArray]
                refine wpAnyIn_ready (rs := [6]) (by kernel_rfl) (by simp) ?_
                refine AllReadyIn.cons rfl (fun K hK => ?_) ?_
                · go_simp
                  refine hK _ _ ?_
                  clear hK K
                  try simp only [Act.put, List.setIfInBounds_toArray]
                  refine wpAnyIn_done (by kernel_rfl) ?_ _
                  refine ⟨(((KeepsOthers.drew W).trans hko).trans hk2).from _, ((hB1d.trans hb9).trans hb3).mono hb.size, ⟨⟨⟨_, hv2, ?_, trivial⟩, ?_⟩, hB2.trans hb3⟩⟩
                  · rw [List.map_append, List.map_cons, List.map_nil, ints_append, List.length_append]
                    exact hr2
                  · exact ((kt1.alloc _).kept hgrow9 (kt1.not_row (by decide) hrow1)).other (B' := w.heap.size + 1) (by omega) _
                exact AllReadyIn.nil
              exact AllReadyIn.nil
            exact AllReadyIn.nil
          exact AllReadyIn.nil
        exact AllReadyIn.nil
      exact AllReadyIn.nil
    refine AllReadyIn.cons rfl (fun K hK => ?_) ?_
    · go_simp
      refine hK _ _ ?_
      clear hK K
      try simp only [Act.put, List.setIfInBounds_toArray, List.set_cons_zero, List.set_cons_succ]
      refine wpAnyIn_ready (rs := [0, 1]) (by kernel_rfl) (by simp) ?_
      refine AllReadyIn.cons rfl (fun K hK => ?_) ?_
      · go_simp
        refine hK _ _ ?_
        clear hK K
        try simp only [Act.put, List.setIfInBounds_toArray, List.set_cons_zero, List.set_cons_succ]
        refine wpAnyIn_ready (rs := [1]) (by kernel_rfl) (by simp) ?_
        refine AllReadyIn.cons rfl (fun K hK => ?_) ?_
        · go_simp
          refine hK _ _ ?_
          clear hK K
          try simp only [Act.put, List.setIfInBounds_toArray, List.set_cons_zero, List.set_cons_succ]
          refine wpAnyIn_ready (rs := [3]) (by kernel_rfl) (by simp) ?_
          refine AllReadyIn.cons rfl (fun K hK => ?_) ?_
          · go_simp
            refine ⟨trivial, (fun h => by cases h), ((callsIn_wide.2 (HT.out _)).inRound l).mono ?_⟩
            rintro e9 w1 ⟨rfl, b9⟩
            obtain ⟨c51, hrow1, kt1, hB2, hko, hb9⟩ := HAF.out w1 b9
            go_simp
            refine hK _ _ ?_
            clear hK K
            try simp only [Act.put, List.setIfInBounds_toArray, List.set_cons_zero, List.set_cons_succ]
            refine wpAnyIn_ready (rs := [4]) (by kernel_rfl) (by simp) ?_
            refine AllReadyIn.cons rfl (fun K hK => ?_) ?_
            · go_simp
              refine hK _ _ ?_
              clear hK K
              try simp only [Act.put, List.setIfInBounds_toArray, List.set_cons_zero, List.set_cons_succ]
              refine wpAnyIn_ready (rs := [5]) (by kernel_rfl) (by simp) ?_
              refine AllReadyIn.cons rfl (fun K hK => ?_) ?_
              · refine stepIn_append_own _ rfl (.tmp 9) (.tmp 13) 41 rfl w.heap.size 3 i0 _ 1 8 Try.underlying41 hi hz0 hz1 hz2 rfl (by decide) _ _ _ rfl (hrow1.alloc _) ⟨w1.heap.size, 0, none⟩ 1 1 [.int .i64 x.2.2] rfl rfl (int_new _ x.2.2 _) (ints_one [x.2.2]) (by unfold maxLen; omega) (by omega) (by have := hB2.size; simp; omega) ?_
                intro v9 w2 hown9 hgrow9
                obtain ⟨g', cap', rfl⟩ := ownsRow_succ hown9
                obtain ⟨hv1, hv2, hr2, hk2, hb3⟩ := c51.appended (by decide) hrow1 hB2.size (by omega) hown9 hgrow9
                have hc7 := hv1.cell
                have hf7 := hv1.frozen
                refine hK _ _ ?_
                clear hK K
                try simp only [Act.put, List.setIfInBounds_toArray]
                refine wpAnyIn_ready (rs := [6]) (by kernel_rfl) (by simp) ?_
                refine AllReadyIn.cons rfl (fun K hK => ?_) ?_
                · go_simp
                  refine hK _ _ ?_
                  clear hK K
                  try simp only [Act.put, List.setIfInBounds_toArray]
                  refine wpAnyIn_done (by kernel_rfl) ?_ _
                  refine ⟨(((KeepsOthers.drew W).trans hko).trans hk2).from _, ((hB1d.trans hb9).trans hb3).mono hb.size, ⟨⟨⟨_, hv2, ?_, trivial⟩, ?_⟩, hB2.trans hb3⟩⟩
                  · rw [List.map_append, List.map_cons, List.map_nil, ints_append, List.length_append]
                    exact hr2
                  · exact ((kt1.alloc _).kept hgrow9 (kt1.not_row (by decide) hrow1)).other (B' := w.heap.size + 1) (by omega) _
                exact AllReadyIn.nil
              exact AllReadyIn.nil
            exact AllReadyIn.nil
          exact AllReadyIn.nil
        exact AllReadyIn.nil
      refine AllReadyIn.cons rfl (fun K hK => ?_) ?_
      · go_simp
        refine hK _ _ ?_
        clear hK K
        try simp only [Act.put, List.setIfInBounds_toArray, List.set_cons_zero, List.set_cons_succ]
        refine wpAnyIn_ready (rs := [0, 3]) (by kernel_rfl) (by simp) ?_
        refine AllReadyIn.cons rfl (fun K hK => ?_) ?_
        · go_simp
          refine hK _ _ ?_
          clear hK K
          try simp only [Act.put, List.setIfInBounds_toArray, List.set_cons_zero, List.set_cons_succ]
          refine wpAnyIn_ready (rs := [3]) (by kernel_rfl) (by simp) ?_
          refine AllReadyIn.cons rfl (fun K hK => ?_) ?_
          · go_simp
            refine ⟨trivial, (fun h => by cases h), ((callsIn_wide.2 (HT.out _)).inRound l).mono ?_⟩
            rintro e9 w1 ⟨rfl, b9⟩
            obtain ⟨c51, hrow1, kt1, hB2, hko, hb9⟩ := HAF.out w1 b9
            go_simp
            refine hK _ _ ?_
            clear hK K
            try simp only [Act.put, List.setIfInBounds_toArray, List.set_cons_zero, List.set_cons_succ]
            refine wpAnyIn_ready (rs := [4]) (by kernel_rfl) (by simp) ?_
            refine AllReadyIn.cons rfl (fun K hK => ?_) ?_
            · go_simp
              refine hK _ _ ?_
              clear hK K
              try simp only [Act.put, List.setIfInBounds_toArray, List.set_cons_zero, List.set_cons_succ]
              refine wpAnyIn_ready (rs := [5]) (by kernel_rfl) (by simp) ?_
              refine AllReadyIn.cons rfl (fun K hK => ?_) ?_
              · refine stepIn_append_own _ rfl (.tmp 9) (.tmp 13) 41 rfl w.heap.size 3 i0 _ 1 8 Try.underlying41 hi hz0 hz1 hz2 rfl (by decide) _ _ _ rfl (hrow1.alloc _) ⟨w1.heap.size, 0, none⟩ 1 1 [.int .i64 x.2.2] rfl rfl (int_new _ x.2.2 _) (ints_one [x.2.2]) (by unfold maxLen; omega) (by omega) (by have := hB2.size; simp; omega) ?_
                intro v9 w2 hown9 hgrow9
                obtain ⟨g', cap', rfl⟩ := ownsRow_succ hown9
                obtain ⟨hv1, hv2, hr2, hk2, hb3⟩ := c51.appended (by decide) hrow1 hB2.size (by omega) hown9 hgrow9
                have hc7 := hv1.cell
                have hf7 := hv1.frozen
                refine hK _ _ ?_
                clear hK K
                try simp only [Act.put, List.setIfInBounds_toArray]
                refine wpAnyIn_ready (rs := [6]) (by kernel_rfl) (by simp) ?_
                refine AllReadyIn.cons rfl (fun K hK => ?_) ?_
                · go_simp
                  refine hK _ _ ?_
                  clear hK K
                  try simp only [Act.put, List.setIfInBounds_toArray]
                  refine wpAnyIn_done (by kernel_rfl) ?_ _
                  refine ⟨(((KeepsOthers.drew W).trans hko).trans hk2).from _, ((hB1d.trans hb9).trans hb3).mono hb.size, ⟨⟨⟨_, hv2, ?_, trivial⟩, ?_⟩, hB2.trans hb3⟩⟩
                  · rw [List.map_append, List.map_cons, List.map_nil, ints_append, List.length_append]
                    exact hr2
                  · exact ((kt1.alloc _).kept hgrow9 (kt1.not_row (by decide) hrow1)).other (B' := w.heap.size + 1) (by omega) _
                exact AllReadyIn.nil
              exact AllReadyIn.nil
            exact AllReadyIn.nil
          exact AllReadyIn.nil
        refine AllReadyIn.cons rfl (fun K hK => ?_) ?_
        · go_simp
          refine ⟨trivial, (fun h => by cases h), ((callsIn_wide.2 (HT.out _)).inRound l).mono ?_⟩
          rintro e9 w1 ⟨rfl, b9⟩
          obtain ⟨c51, hrow1, kt1, hB2, hko, hb9⟩ := HAF.out w1 b9
          have hc5 := c51.cell
          have hc6 := (c51.alloc (.cells #[.int .i64 x.2.2] 3)).cell
          go_simp
          refine hK _ _ ?_
          clear hK K
          try simp only [Act.put, List.setIfInBounds_toArray, List.set_cons_zero, List.set_cons_succ]
          refine wpAnyIn_ready (rs := [0, 4]) (by kernel_rfl) (by simp) ?_
          refine AllReadyIn.cons rfl (fun K hK => ?_) ?_
          · go_simp
            refine hK _ _ ?_
            clear hK K
            try simp only [Act.put, List.setIfInBounds_toArray, List.set_cons_zero, List.set_cons_succ]
            refine wpAnyIn_ready (rs := [4]) (by kernel_rfl) (by simp) ?_
            refine AllReadyIn.cons rfl (fun K hK => ?_) ?_
            · go_simp
              refine hK _ _ ?_
              clear hK K
              try simp only [Act.put, List.setIfInBounds_toArray, List.set_cons_zero, List.set_cons_succ]
              refine wpAnyIn_ready (rs := [5]) (by kernel_rfl) (by simp) ?_
              refine AllReadyIn.cons rfl (fun K hK => ?_) ?_
              · refine stepIn_append_own _ rfl (.tmp 9) (.tmp 13) 41 rfl w.heap.size 3 i0 _ 1 8 Try.underlying41 hi hz0 hz1 hz2 rfl (by decide) _ _ _ rfl (hrow1.alloc _) ⟨w1.heap.size, 0, none⟩ 1 1 [.int .i64 x.2.2] rfl rfl (int_new _ x.2.2 _) (ints_one [x.2.2]) (by unfold maxLen; omega) (by omega) (by have := hB2.size; simp; omega) ?_
                intro v9 w2 hown9 hgrow9
                obtain ⟨g', cap', rfl⟩ := ownsRow_succ hown9
                obtain ⟨hv1, hv2, hr2, hk2, hb3⟩ := c51.appended (by decide) hrow1 hB2.size (by omega) hown9 hgrow9
                have hc7 := hv1.cell
                have hf7 := hv1.frozen
                refine hK _ _ ?_
                clear hK K
                try simp only [Act.put, List.setIfInBounds_toArray]
                refine wpAnyIn_ready (rs := [6]) (by kernel_rfl) (by simp) ?_
                refine AllReadyIn.cons rfl (fun K hK => ?_) ?_
                · go_simp
                  refine hK _ _ ?_
                  clear hK K
                  try simp only [Act.put, List.setIfInBounds_toArray]
                  refine wpAnyIn_done (by kernel_rfl) ?_ _
                  refine ⟨(((KeepsOthers.drew W).trans hko).trans hk2).from _, ((hB1d.trans hb9).trans hb3).mono hb.size, ⟨⟨⟨_, hv2, ?_, trivial⟩, ?_⟩, hB2.trans hb3⟩⟩
                  · rw [List.map_append, List.map_cons, List.map_nil, ints_append, List.length_append]
                    exact hr2
                  · exact ((kt1.alloc _).kept hgrow9 (kt1.not_row (by decide) hrow1)).other (B' := w.heap.size + 1) (by omega) _
                exact AllReadyIn.nil
              exact AllReadyIn.nil
            exact AllReadyIn.nil
          refine AllReadyIn.cons rfl (fun K hK => ?_) ?_
          · go_simp
            refine hK _ _ ?_
            clear hK K
            try simp only [Act.put, List.setIfInBounds_toArray, List.set_cons_zero, List.set_cons_succ]
            refine wpAnyIn_ready (rs := [0]) (by kernel_rfl) (by simp) ?_
            refine AllReadyIn.cons rfl (fun K hK => ?_) ?_
            · go_simp
              refine hK _ _ ?_
              clear hK K
              try simp only [Act.put, List.setIfInBounds_toArray, List.set_cons_zero, List.set_cons_succ]
              refine wpAnyIn_ready (rs := [5]) (by kernel_rfl) (by simp) ?_
              refine AllReadyIn.cons rfl (fun K hK => ?_) ?_
              · refine stepIn_append_own _ rfl (.tmp 9) (.tmp 13) 41 rfl w.heap.size 3 i0 _ 1 8 Try.underlying41 hi hz0 hz1 hz2 rfl (by decide) _ _ _ rfl (hrow1.alloc _) ⟨w1.heap.size, 0, none⟩ 1 1 [.int .i64 x.2.2] rfl rfl (int_new _ x.2.2 _) (ints_one [x.2.2]) (by unfold maxLen; omega) (by omega) (by have := hB2.size; simp; omega) ?_
                intro v9 w2 hown9 hgrow9
                obtain ⟨g', cap', rfl⟩ := ownsRow_succ hown9
                obtain ⟨hv1, hv2, hr2, hk2, hb3⟩ := c51.appended (by decide) hrow1 hB2.size (by omega) hown9 hgrow9
                have hc7 := hv1.cell
                have hf7 := hv1.frozen
                refine hK _ _ ?_
                clear hK K
                try simp only [Act.put, List.setIfInBounds_toArray]
                refine wpAnyIn_ready (rs := [6]) (by kernel_rfl) (by simp) ?_
                refine AllReadyIn.cons rfl (fun K hK => ?_) ?_
                · go_simp
                  refine hK _ _ ?_
                  clear hK K
                  try simp only [Act.put, List.setIfInBounds_toArray]
                  refine wpAnyIn_done (by kernel_rfl) ?_ _
                  refine ⟨(((KeepsOthers.drew W).trans hko).trans hk2).from _, ((hB1d.trans hb9).trans hb3).mono hb.size, ⟨⟨⟨_, hv2, ?_, trivial⟩, ?_⟩, hB2.trans hb3⟩⟩
                  · rw [List.map_append, List.map_cons, List.map_nil, ints_append, List.length_append]
                    exact hr2
                  · exact ((kt1.alloc _).kept hgrow9 (kt1.not_row (by decide) hrow1)).other (B' := w.heap.size + 1) (by omega) _
                exact AllReadyIn.nil
              exact AllReadyIn.nil
            exact AllReadyIn.nil
          exact AllReadyIn.nil
        exact AllReadyIn.nil
      exact AllReadyIn.nil
    exact AllReadyIn.nil
  case done =>
    rintro D xs W hD rfl ⟨⟨⟨v, c3, hrow, _⟩, kt⟩, hB1⟩ hK
    obtain ⟨A', c', rfl, h51, h52⟩ := own_form2 hrow
    have e0 := c3.cell
    have HK := Lib.hid hK
    gi_wp2
    refine ⟨by simp, .inl ⟨_, _, rfl, run_takeDeferred HK.out, ?_⟩⟩
    have ho := ownsRow_putObj hrow (.deferred none) HK.out rfl
    rw [← List.length_map (f := fun p : Ed => p.2.2)] at ho h51
    refine ⟨.slice A' xs.length c', by simp [results, Try.results54, go_sem], A', c', by rw [List.length_map], Reads.of_own ho, h51, h52, hB1.trans (belowK_b (w := w) (Nat.le_refl _) W D _ _ (by omega) HK.out rfl rfl)⟩
  case stop =>
    rintro D c pre W hD _ h
    exact h.elim

end Go.Proofs.Yticbgikbpafeoaa
