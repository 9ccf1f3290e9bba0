/- The rows' common frame of layer level: what the listed tables give, a row's last step, and the arguments. -/
import Derived.Test.YtndekdkljimjaaaDoorCards
import Derived.Test.YtndekdkljimjaaaDoorTie
import Derived.Test.YtndekdkljimjaaaDoorVa
import Derived.Test.YtndekdkljimjaaaDoorVe
import Derived.ProofKit
import Derived.OpenShut
import Derived.Deep.DeepHandedRow
import Derived.LaidMore
import Derived.Lib.LaidTab
import Derived.Lib.SmallJoins
import Derived.Lay
import Derived.SliceStrings
import Derived.Deep.Slices
namespace Go.Proofs.YtndekdkljimjaaaDoor
open Go.ChangeShapes Go.WideShapes Go.ChangeAt Go.RowKit Go.Joins Go.Deep

theorem own : ownKnob Tryd.prog.godebug = none := by kernel_rfl
theorem laidOut : laidOutB Tryd.prog = true := by kernel_rfl
theorem gTexts : Tryd.prog.globalNamed "yardarm/level.texts" = some 0 := by kernel_rfl
theorem gTextsType : (Tryd.prog.globals[0]?).map (·.type) = some 50 := by kernel_rfl
theorem gWords : Tryd.prog.globalNamed "yardarm/level.words" = some 1 := by kernel_rfl
theorem gWordsType : (Tryd.prog.globals[1]?).map (·.type) = some 50 := by kernel_rfl
theorem cellsFour : Tryd.prog.cellsOf 50 = 4 := by kernel_rfl
theorem cellsText : Tryd.prog.cellsOf 9 = 1 := by kernel_rfl

/-- A table of texts, as a row lists it. -/
def tabStr {H : Type} (ss : List ByteArray) : DataW H := .agg (ss.map fun s => .lit (.string s.data.toList))
theorem lit_str {H : Type} {s t : ByteArray} (h : (DataW.lit (.string s.data.toList) : DataW H) = .lit (.string t.data.toList)) : s = t := by
  injection h with h
  injection h with h
  exact ByteArray.ext (Array.ext' h)
/-- Four texts that lie in an array, told as a table of four. -/
theorem four_strs {H : Type} {enc : TypeId × Value → H} {w : World} {held : Bool} {fuel : Nat} {cs : List Value} {a b c d : ByteArray} {p : List MemPlace} (hc : cs.length = 4)
    (h : DataW.trod enc Tryd.prog w 0 (fun _ => true) held fuel 50 cs = some (tabStr [a, b, c, d], p)) : cs = [.string a, .string b, .string c, .string d] := by
  obtain ⟨xs, k, _, hx, _, hxl, hat⟩ := DataW.trod_array Tryd.underlying50 h
  match xs, hxl, cs, hc with
  | [y0, y1, y2, y3], _, [v0, v1, v2, v3], _ =>
    have g0 := hat 0 (by omega)
    have g1 := hat 1 (by omega)
    have g2 := hat 2 (by omega)
    have g3 := hat 3 (by omega)
    rw [cellsText] at g0 g1 g2 g3
    obtain ⟨s0, e0, rfl, _⟩ := DataW.trod_string (x := y0) Tryd.underlying9 (by simpa using g0)
    obtain ⟨s1, e1, rfl, _⟩ := DataW.trod_string (x := y1) Tryd.underlying9 (by simpa using g1)
    obtain ⟨s2, e2, rfl, _⟩ := DataW.trod_string (x := y2) Tryd.underlying9 (by simpa using g2)
    obtain ⟨s3, e3, rfl, _⟩ := DataW.trod_string (x := y3) Tryd.underlying9 (by simpa using g3)
    injection e0 with e0
    injection e1 with e1
    injection e2 with e2
    injection e3 with e3
    have hd := congrArg Prod.fst hx
    unfold tabStr at hd
    injection hd with hd
    injection hd with d0 hd
    injection hd with d1 hd
    injection hd with d2 hd
    injection hd with d3 hd
    rw [e0, e1, e2, e3, lit_str d0, lit_str d1, lit_str d2, lit_str d3]

/-- What the rows list. -/
def laids : List (String × DataW Unit) := [("yardarm/level.texts", Rows.laid_yardarm_level_texts), ("yardarm/level.words", Rows.laid_yardarm_level_words)]
theorem laids_eq : laids = [("yardarm/level.texts", tabStr [⟨#[49]⟩, ⟨#[50]⟩, ⟨#[50, 46, 57, 57]⟩, ⟨#[51]⟩]), ("yardarm/level.words", tabStr guW)] := by
  unfold laids
  rw [show (Rows.laid_yardarm_level_texts : DataW Unit) = tabStr [⟨#[49]⟩, ⟨#[50]⟩, ⟨#[50, 46, 57, 57]⟩, ⟨#[51]⟩] by kernel_rfl, show (Rows.laid_yardarm_level_words : DataW Unit) = tabStr guW by kernel_rfl]
theorem cell_lt {W : World} {a : Addr} {v : Value} (h : W.cell? a = some v) : a.block < W.heap.size := by
  rcases Nat.lt_or_ge a.block W.heap.size with hlt | hge
  · exact hlt
  · unfold World.cell? at h
    rw [Array.getElem?_eq_none hge] at h
    cases h
theorem tab_of {W : World} (h : laidMetH Tryd.prog laids W) : Tabs W := by
  rw [MakeChecks.laidMetH_plain _ _ _ (by kernel_rfl), laids_eq] at h
  obtain ⟨ps, ⟨g0, t0, cs0, f0, p0, q0, hg0, ht0, hv0, hd0, ⟨g1, t1, cs1, f1, p1, q1, hg1, ht1, hv1, hd1, _⟩, _⟩, _⟩ := h
  obtain rfl := Option.some.inj (gTexts.symm.trans hg0)
  obtain rfl := Option.some.inj (gTextsType.symm.trans ht0)
  obtain rfl := Option.some.inj (gWords.symm.trans hg1)
  obtain rfl := Option.some.inj (gWordsType.symm.trans ht1)
  obtain ⟨_, _, _, _, hl0, _⟩ := DataW.trod_array Tryd.underlying50 hd0
  obtain ⟨_, _, _, _, hl1, _⟩ := DataW.trod_array Tryd.underlying50 hd1
  have e0 := four_strs (hl0.trans cellsFour) hd0
  have e1 := four_strs (hl1.trans cellsFour) hd1
  have c0 : ∀ i, W.cell? ⟨0, i, none⟩ = _ := fun i => (World.var?_cell gTexts hv0 i).trans (Array.getElem?_toList.symm.trans (congrArg (·[i]?) e0))
  have c1 : ∀ i, W.cell? ⟨1, i, none⟩ = _ := fun i => (World.var?_cell gWords hv1 i).trans (Array.getElem?_toList.symm.trans (congrArg (·[i]?) e1))
  have u : ∀ k, k < 4 → W.cell? ⟨1, k, none⟩ = some (.string (guAt k)) := fun k hk => by
    rw [c1 k]
    have : k = 0 ∨ k = 1 ∨ k = 2 ∨ k = 3 := by omega
    rcases this with rfl | rfl | rfl | rfl <;> rfl
  exact ⟨c0 0, c0 1, c0 2, c0 3, u, cell_lt (c0 0), cell_lt (u 0 (by decide))⟩

/-- Arguments that are read before a call which leaves all that was there are read as the same behind it. -/
theorem trodAll_kept {H : Type} {enc : TypeId × Value → H} {P : Program} (hl : laidOutB P = true) {W W' : World} (hb : Below W.heap.size W W') (ts : List TypeId) : ∀ {vs : List Value} {ds : List (DataW H)} {ps : List MemPlace},
    (ts.all fun t => P.readableRec t && decide (t < P.types.size)) = true → DataW.TrodAll enc P W 0 (fun _ => true) true ts vs ds ps → (∀ x ∈ ps, x.block < W.heap.size) →
    DataW.TrodAll enc P W' 0 (fun b => decide (b < W.heap.size)) true ts vs ds ps := by
  induction ts with
  | nil =>
    intro vs ds ps _ h _
    obtain ⟨rfl, rfl, rfl⟩ := trodAll_nil h
    exact trodAll_mk0
  | cons t ts ih =>
    intro vs ds ps hr h hlt
    obtain ⟨v, vs, d, ds, p, q, rfl, rfl, rfl, h0, h1⟩ := trodAll_cons h
    rw [List.all_cons, Bool.and_eq_true, Bool.and_eq_true, decide_eq_true_eq] at hr
    exact trodAll_cons_mk (Below.trod hl hr.1.1 hr.1.2 h0 hb fun x hx => hlt x (List.mem_append_left _ hx)) (ih hr.2 h1 fun x hx => hlt x (List.mem_append_right _ hx))

/-- The row's last step: a law that answers true, makes memory of its own and leaves all else. -/
theorem post_law {H : Type} {enc : TypeId × Value → H} {f : Func} {s : ChangeSpec} {W W' : World} {args : Array Value} {ds : List (DataW H)} {p : List MemPlace}
    (hW : DataW.Whole enc Tryd.prog f.params.toList s.vars false W args.toList ds [] p) (hA : DataW.TrodAll enc Tryd.prog W 0 (fun _ => true) true f.params.toList args.toList ds p) (hb : Below W.heap.size W W')
    (hread : (f.params.toList.all fun t => Tryd.prog.readableRec t && decide (t < Tryd.prog.types.size)) = true) (hvars : s.vars = []) (hr : f.resultTypes = #[4])
    (h1 : (s.fn H (ds ++ [])).results = [.lit (.bool true)]) (h2 : (s.fn H (ds ++ [])).args = ds) (h3 : (s.fn H (ds ++ [])).vars = []) :
    s.post enc Tryd.prog f false true false false W args (.bool true) W' := by
  have hlt : ∀ x ∈ p, x.block < W.heap.size := fun x hx => hW.lt x hx
  refine ⟨ds, [], p, [], p, [], hW, ?_, ?_, ?_, World.keptBut_mono (fun x hx => ⟨hx, Or.inr (Or.inl hx)⟩) (hb.frame (· ∈ p)), fun h => by cases h⟩
  · rw [h1, hr]
    exact trodAll_cons_mk (shut_bool Tryd.underlying4 _) trodAll_mk0
  · rw [h2]
    exact trodAll_kept laidOut hb _ hread hA hlt
  · rw [h3, hvars]
    rfl
theorem cells64 : Tryd.prog.cellsOf 3 = 1 := by kernel_rfl
theorem cellsStr : Tryd.prog.cellsOf 9 = 1 := by kernel_rfl
theorem open_ns {H : Type} {enc : TypeId × Value → H} {W : World} {base : Nat} {v : Value} {d : DataW H} {p : List MemPlace}
    (hv : Value.okWide Tryd.prog W .any base 22 v) (h : DataW.Trod enc Tryd.prog W 0 (fun _ => true) true 22 v d p) :
    ∃ (A : Option Addr) (n c : Nat) (zs : List Int), v = .slice A n c ∧ all64 zs ∧ Reads W W.heap.size 1 A n (ints zs) ∧ n ≤ c ∧ c ≤ 9223372036854775807 := by
  obtain ⟨a0, len, cap, rfl⟩ := okWide_slice Tryd.underlying22 hv
  obtain ⟨fuel, hf⟩ := h
  rcases open_ints Tryd.underlying22 Tryd.underlying3 cells64 hf with ⟨hcs, hx⟩ | ⟨a, len', cap', zs, hcs, _, hl, hm, hz, hx, hcell, hwz⟩
  · injection hcs with hcs
    injection hcs with h1 h2 h3
    subst h1; subst h2; subst h3
    exact ⟨none, 0, 0, [], rfl, fun z hz => by simp at hz, Reads.none_, Nat.le_refl _, by decide⟩
  · injection hcs with hcs
    injection hcs with h1 h2 h3
    subst h1; subst h2; subst h3
    have hz' : zs.length = cap := by rw [hz]; rfl
    refine ⟨some a, len, cap, zs.take len, rfl, fun z hz => bounds_i64 (hwz z (List.mem_of_mem_take hz)), ⟨by rw [ints_length, List.length_take]; omega, fun h0 => ⟨a, rfl, ?_, fun j u hu => ?_⟩⟩, hl, hm⟩
    · have := cell_lt (hcell 0 (by omega))
      rwa [block_of_add] at this
    · have hj : j < len := by
        have := (List.getElem?_eq_some_iff.1 hu).1
        rw [ints_length, List.length_take] at this
        omega
      rw [hcell j (by omega), ← hu]
      simp [ints, hj, List.getElem?_eq_getElem (show j < zs.length by omega)]
theorem open_strs {H : Type} {enc : TypeId × Value → H} {W : World} {base : Nat} {v : Value} {d : DataW H} {p : List MemPlace}
    (hv : Value.okWide Tryd.prog W .any base 23 v) (h : DataW.Trod enc Tryd.prog W 0 (fun _ => true) true 23 v d p) :
    ∃ (A : Option Addr) (n c : Nat) (ss : List ByteArray), v = .slice A n c ∧ (∀ s ∈ ss, s.size ≤ 9223372036854775807) ∧ Reads W W.heap.size 1 A n (strs ss) ∧ n ≤ c ∧ c ≤ 9223372036854775807 := by
  obtain ⟨a0, len, cap, rfl⟩ := okWide_slice Tryd.underlying23 hv
  obtain ⟨fuel, hf⟩ := h
  rcases open_strings Tryd.underlying23 Tryd.underlying9 cellsStr hf with ⟨hcs, hx⟩ | ⟨a, len', cap', ss, hcs, _, hl, hm, hz, hx, hcell, hws⟩
  · injection hcs with hcs
    injection hcs with h1 h2 h3
    subst h1; subst h2; subst h3
    exact ⟨none, 0, 0, [], rfl, fun z hz => by simp at hz, Reads.none_, Nat.le_refl _, by decide⟩
  · injection hcs with hcs
    injection hcs with h1 h2 h3
    subst h1; subst h2; subst h3
    have hz' : ss.length = cap := by rw [hz]; rfl
    refine ⟨some a, len, cap, ss.take len, rfl, fun s hs => hws s (List.mem_of_mem_take hs), ⟨by rw [strs_length, List.length_take]; omega, fun h0 => ⟨a, rfl, ?_, fun j u hu => ?_⟩⟩, hl, hm⟩
    · have := cell_lt (hcell 0 (by omega))
      rwa [block_of_add] at this
    · have hj : j < len := by
        have := (List.getElem?_eq_some_iff.1 hu).1
        rw [strs_length, List.length_take] at this
        omega
      rw [hcell j (by omega), ← hu]
      simp [strs, hj, List.getElem?_eq_getElem (show j < ss.length by omega)]
set_option maxRecDepth 100000 in
theorem cellsTwo8 : Tryd.prog.cellsOf 35 = 2 := by kernel_rfl
theorem cellsInt8 : Tryd.prog.cellsOf 3 = 1 := by kernel_rfl
set_option maxRecDepth 100000 in
theorem two_cells8 {H : Type} {enc : TypeId × Value → H} {W : World} {fuel : Nat} {cs : List Value} {y : DataW H × List MemPlace} (hc : cs.length = 2)
    (hf : DataW.trod enc Tryd.prog W 0 (fun _ => true) true fuel 35 cs = some y) : ∃ a b : Int, cs = [.int .i64 a, .int .i64 b] := by
  obtain ⟨xs, k, _, _, _, hxl, hx⟩ := DataW.trod_array Tryd.underlying35 hf
  match xs, hxl, cs, hc with
  | [y0, y1], _, [v0, v1], _ =>
    have g0 := hx 0 (by omega)
    have g1 := hx 1 (by omega)
    rw [cellsInt8] at g0 g1
    obtain ⟨z0, e0, _, _⟩ := DataW.trod_int (x := y0) Tryd.underlying3 (by simpa using g0)
    obtain ⟨z1, e1, _, _⟩ := DataW.trod_int (x := y1) Tryd.underlying3 (by simpa using g1)
    injection e0 with e0
    injection e1 with e1
    subst e0; subst e1
    exact ⟨z0, z1, rfl⟩
set_option maxRecDepth 100000 in
theorem open_two8 {H : Type} {enc : TypeId × Value → H} {W : World} {base : Nat} {v : Value} {d : DataW H} {p : List MemPlace}
    (hv : Value.okWide Tryd.prog W .any base 35 v) (h : DataW.Trod enc Tryd.prog W 0 (fun _ => true) true 35 v d p) : ∃ a b : Int, v = .agg #[.int .i64 a, .int .i64 b] ∧ True := by
  have ht := Tryd.underlying35
  obtain ⟨cs, rfl, hsz⟩ : ∃ cs, v = .agg cs ∧ cs.size = Tryd.prog.cellsOf 35 := by
    simp only [Value.okWide, ht] at hv
    obtain ⟨cs, h1, h2, _⟩ := hv
    exact ⟨cs, h1, h2⟩
  obtain ⟨l⟩ := cs
  obtain ⟨fuel, hf⟩ := h
  have hl : l.length = 2 := hsz.trans cellsTwo8
  obtain ⟨a, b, rfl⟩ := two_cells8 (cs := l) hl (by simpa [Value.cells] using hf)
  exact ⟨a, b, rfl, trivial⟩
end Go.Proofs.YtndekdkljimjaaaDoor
