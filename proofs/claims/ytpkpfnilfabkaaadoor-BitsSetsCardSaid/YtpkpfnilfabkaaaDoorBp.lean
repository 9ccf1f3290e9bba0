/- Layer bits: what List gives, by slices.Collect over the iterator: contracts. -/
import Derived.RangeFuncBox
import Derived.RangeFuncFrom
import Derived.Maps.AppendAt
import Derived.Test.YtpkpfnilfabkaaaDoorBo
import Derived.Test.YtpkpfnilfabkaaaDoorBi
namespace Go.Proofs.YtpkpfnilfabkaaaDoor
open Go.RowKit Go.Shelf
attribute [local go_sem] Oper.semAt_some

/-- Numbers from nought on, as numbers. -/
def intsN (l : List Nat) : List Int := l.map fun x : Nat => (x : Int)
theorem intsN_snoc (l : List Nat) (x : Nat) : ints (intsN (l ++ [x])) = ints (intsN l) ++ [.int .i64 (x : Int)] := by unfold ints intsN; simp
theorem intsN_length (l : List Nat) : (ints (intsN l)).length = l.length := by unfold ints intsN; simp
/-- A list of numbers, handed back: it lies in memory of the call's own. -/
def ListOk (l : List Nat) (w : World) (e : Ending) (w' : World) : Prop :=
  ∃ v, e = .returned v ∧ w'.ownsRow w.heap.size 3 1 v l.length (ints (intsN l)) ∧ Below w.heap.size w w'

set_option maxRecDepth 100000 in
set_option maxHeartbeats 4000000 in
theorem appendSeq_in (n : Nat) (hn : 2 ≤ n) (lb : Array Value) (l : List Nat) (Sp : List Nat → Prop) (hl : l.length ≤ 1000000) (w : World)
    (hseq : SeqStopsK Fence.wide (n - 1) Tryd.prog 60 lb encN (Below w.heap.size) (fun ys => ys = l) Sp l.length w) :
    CallsIn Fence.wide n Tryd.prog 59 #[.slice none 0 0, .func (.func 60) #[] lb] w (ListOk l w) := by
  have h1 : 1 ≤ n := by omega
  obtain ⟨i0, hi, hz0, hz1, hz2⟩ := info_parts i64_info
  refine callsIn_of_wp_marks Tryd.func59 rfl trivial ?_ rfl
  simp only [Tryd.ntmps59, List.size_toArray, List.length_cons, List.length_nil, Nat.reduceAdd, Nat.reduceSub, Array.replicate_succ, Array.replicate_zero, List.push_toArray, List.append_toArray, List.nil_append, List.cons_append]
  gi_wp2_with fail
  have b0 := Boxed.new w 28 (.slice none 0 0)
  have hB0 : Below w.heap.size w (w.alloc (.cells #[.slice none 0 0] 28)) := (Below.refl _ w).alloc (Nat.le_refl _) _
  have hsz : (w.alloc (.cells #[.slice none 0 0] 28)).heap.size = w.heap.size + 1 := by simp
  generalize w.alloc (.cells #[.slice none 0 0] 28) = W0 at *
  refine wpIn_rangeFunc_ownF rfl h1 (gf := 60) (lb := lb) rfl trivial (enters_of Tryd.func60 (by kernel_rfl) rfl)
    hseq belowK_t (belowK_b (by omega)) hB0 (fun _ => rfl)
    (fun pre W => (∃ v, Boxed W w.heap.size 28 v ∧ W.ownsRow w.heap.size 3 1 v pre.length (ints (intsN pre)) ∧ True) ∧ Below w.heap.size w W)
    (fun _ _ _ => False)
    (OwnFrom.and (Own.from (holdsRow_own w.heap.size w.heap.size 28 3 1 (fun pre : List Nat => pre.length) (fun pre => ints (intsN pre)) (fun _ _ => True)) _) (ownFrom_below (Nat.le_refl _) (by omega)))
    (fun _ _ _ _ _ hs _ _ => hs)
    ⟨⟨_, b0, World.ownsRow_nil _ _ _ _, trivial⟩, hB0⟩
    (fun x => { tmps := #[.slice none 0 0, .func (.func 60) #[] lb, .pointer (some ⟨w.heap.size, 0, none⟩), undef, .slice none 0 0, .int .i64 (x : Int), .func (.func 60) #[] lb, .int .i64 (x : Int), undef, undef, undef, undef, undef], defers := [] })
    ?assign ?body ?done ?stop
  case assign =>
    intro l x W K hK
    unfold encN
    gi_wp2
    exact hK
  case body =>
    rintro l' pre x W ⟨⟨v, c3, hrow, _⟩, hB1⟩ hlt
    have hc3 := c3.cell
    gi_wp2_with (gi_at_builtin; refine wpListIn_append_own _ rfl _ _ 28 rfl w.heap.size 3 i0 _ 1 8 Tryd.underlying28 hi hz0 hz1 hz2 rfl (by decide) _ _ _ rfl (hrow.alloc _) ⟨W.heap.size, 0, none⟩ 1 1 [.int .i64 (x : Int)] rfl rfl (cell_one_new _ _ _) (by simp [Value.oneCell']) (by unfold maxLen; omega) (by omega) (by have := hB1.size; simp; omega) ?_; intro v' w1 hown' hgrow _; obtain ⟨g', cap', rfl⟩ := ownsRow_succ hown'; obtain ⟨hv1, hv2, hr2, hk2, hb2⟩ := c3.appended (by decide) hrow hB1.size (Nat.le_refl _) hown' hgrow; have hc5 := hv1.cell; have hf5 := hv1.frozen)
    refine ⟨hk2, hb2, ⟨⟨_, hv2, ?_, trivial⟩, hB1.trans hb2⟩⟩
    rw [intsN_snoc, List.length_append]
    exact hr2
  case done =>
    rintro D xs W hD rfl ⟨⟨v, c3, hrow, _⟩, hB1⟩ hK
    obtain ⟨A, nn, cc, rfl⟩ : ∃ A nn cc, v = .slice A nn cc := by
      rcases hrow.2 with ⟨rfl, _⟩ | ⟨g, cap, cur, rfl, _⟩
      · exact ⟨_, _, _, rfl⟩
      · exact ⟨_, _, _, rfl⟩
    have e3 := c3.cell
    gi_wp2
    refine ⟨by simp, .inl ⟨_, _, rfl, run_takeDeferred hK, ?_⟩⟩
    exact ⟨_, results_tmp rfl _ _ _, _, rfl, ownsRow_putObj hrow _ hK rfl, hB1.trans (belowK_b (w := w) (Nat.le_refl _) W D _ _ (by omega) hK rfl rfl)⟩
  case stop =>
    rintro D c pre W hD _ h _
    exact h.elim

set_option maxHeartbeats 2000000 in
theorem collect_in (n : Nat) (hn : 3 ≤ n) (lb : Array Value) (l : List Nat) (Sp : List Nat → Prop) (hl : l.length ≤ 1000000) (w : World)
    (hseq : SeqStopsK Fence.wide (n - 1 - 1) Tryd.prog 60 lb encN (Below w.heap.size) (fun ys => ys = l) Sp l.length w) :
    CallsIn Fence.wide n Tryd.prog 42 #[.func (.func 60) #[] lb] w (ListOk l w) := by
  have h1 : 1 ≤ n := by omega
  refine callsIn_of_wp Tryd.func42 rfl trivial ?_ rfl
  simp only [Tryd.ntmps42, List.size_toArray, List.length_cons, List.length_nil, Nat.reduceAdd, Nat.reduceSub, Array.replicate_succ, Array.replicate_zero, List.push_toArray, List.append_toArray, List.nil_append, List.cons_append]
  gi_wp2_with fail
  refine ⟨trivial, (appendSeq_in (n - 1) (by omega) lb l Sp hl w hseq).mono ?_⟩
  rintro e w' ⟨v, rfl, hrow, hb⟩
  gi_wp2_with fail
  go_ret
  exact ⟨v, rfl, hrow, hb⟩
theorem collect_any (lb : Array Value) (l : List Nat) (Sp : List Nat → Prop) (hl : l.length ≤ 1000000) (w : World)
    (hseq : SeqStopsK Fence.wide 1 Tryd.prog 60 lb encN (Below w.heap.size) (fun ys => ys = l) Sp l.length w) :
    Calls Tryd.prog 42 #[.func (.func 60) #[] lb] w (ListOk l w) :=
  callsIn_wide.1 (collect_in 3 (Nat.le_refl _) lb l Sp hl w hseq)
end Go.Proofs.YtpkpfnilfabkaaaDoor
