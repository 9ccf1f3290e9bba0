/- Layer bits: what BitsMay, BitsOnes, BitsSets hold between their calls: boxes of arguments, boxed sets, sets and lists at hand. -/
import Derived.Test.YtpkpfnilfabkaaaDoorBz
import Derived.Test.YtpkpfnilfabkaaaDoorBRc
import Derived.Test.YtpkpfnilfabkaaaDoorBRe
import Derived.Test.YtpkpfnilfabkaaaDoorBRf
namespace Go.Proofs.YtpkpfnilfabkaaaDoor
open Go.RowKit

abbrev LV := Option Addr × Nat × List Int
structure Hold (w : World) (X : List (Nat × Value)) (L : List (Nat × SV)) (M : List SV) (Z : List LV) (W : World) : Prop where
  env : Env w L W
  box : ∀ p ∈ X, Blk W p.1 24 #[p.2]
  got : ∀ s ∈ M, s.ok W W.heap.size
  lst : ∀ z ∈ Z, RI W W.heap.size z.1 z.2.1 z.2.2
section
variable {w W W' : World} {X : List (Nat × Value)} {L : List (Nat × SV)} {M : List SV} {Z : List LV}
theorem RI.on {A : Option Addr} {n : Nat} {l : List Int} (h : RI W W.heap.size A n l) (hb : Below W.heap.size W W') : RI W' W'.heap.size A n l := (h.below hb).more hb.size
theorem Hold.on (h : Hold w X L M Z W) (hb : Below W.heap.size W W') : Hold w X L M Z W' :=
  ⟨h.env.on hb, fun p hp => (h.box p hp).below hb (h.box p hp).lt, fun s hs => (h.got s hs).on hb, fun z hz => (h.lst z hz).on hb⟩
theorem Hold.drew (h : Hold w X L M Z W) : Hold w X L M Z W.drew :=
  ⟨h.env.drew, fun p hp => (h.box p hp).drew, fun s hs => ⟨RW.drew (h.got s hs).1, (h.got s hs).2.1, (h.got s hs).2.2⟩, fun z hz => Reads.drew (h.lst z hz)⟩
theorem Hold.more (h : Hold w X L M Z W) (hb : Below W.heap.size W W') {s : SV} (hs : s.ok W' W'.heap.size) : Hold w X L (s :: M) Z W' :=
  ⟨(h.on hb).env, (h.on hb).box, fun t ht => by
    rcases List.mem_cons.1 ht with rfl | ht
    · exact hs
    · exact (h.on hb).got t ht, (h.on hb).lst⟩
theorem Hold.list (h : Hold w X L M Z W) (hb : Below W.heap.size W W') {A : Option Addr} {n : Nat} {l : List Int} (hz : RI W' W'.heap.size A n l) : Hold w X L M ((A, n, l) :: Z) W' :=
  ⟨(h.on hb).env, (h.on hb).box, (h.on hb).got, fun t ht => by
    rcases List.mem_cons.1 ht with rfl | ht
    · exact hz
    · exact (h.on hb).lst t ht⟩
/-- A set is put into a box of its own. -/
theorem Hold.add (h : Hold w X L M Z W) {s : SV} (hs : s.ok W W.heap.size) : Hold w X ((W.heap.size, s) :: L) M Z (W.alloc (.cells #[.slice s.A s.n s.c] 24)) :=
  have h' := h.on (one_more W (.cells #[.slice s.A s.n s.c] 24))
  ⟨h.env.add hs, h'.box, h'.got, h'.lst⟩
theorem Hold.sub {L' : List (Nat × SV)} {M' : List SV} {Z' : List LV} (h : Hold w X L M Z W) (hL : ∀ p ∈ L', p ∈ L) (hM : ∀ s ∈ M', s ∈ M) (hZ : ∀ z ∈ Z', z ∈ Z) : Hold w X L' M' Z' W :=
  ⟨⟨h.env.below, h.env.tab, fun p hp => h.env.all p (hL p hp)⟩, h.box, fun s hs => h.got s (hM s hs), fun z hz => h.lst z (hZ z hz)⟩
theorem Hold.cell (h : Hold w X L M Z W) {b : Nat} {s : SV} (hm : (b, s) ∈ L) : W.cell? ⟨b, 0, none⟩ = some (.slice s.A s.n s.c) := h.env.cell hm
theorem Hold.xcell (h : Hold w X L M Z W) {b : Nat} {v : Value} (hm : (b, v) ∈ X) : W.cell? ⟨b, 0, none⟩ = some v := (h.box _ hm).cell 0
theorem Hold.ok (h : Hold w X L M Z W) {b : Nat} {s : SV} (hm : (b, s) ∈ L) : s.ok W W.heap.size := h.env.ok hm
theorem Hold.ints (h : Hold w X L M Z W) {A : Option Addr} {n : Nat} {l : List Int} (hm : (A, n, l) ∈ Z) : RI W W.heap.size A n l := h.lst _ hm
theorem RI.boxed {A : Option Addr} {n g : Nat} {l : List Int} {A0 : Option Addr} {n0 c0 : Nat} {v : Value} (h : RI W W.heap.size A n l) (hb : Blk W g 24 #[.slice A0 n0 c0]) : RI (W.setCell ⟨g, 0, none⟩ v) (W.setCell ⟨g, 0, none⟩ v).heap.size A n l := by
  have hsz : (W.setCell ⟨g, 0, none⟩ v).heap.size = W.heap.size := by simp [World.setCell]
  rw [hsz]
  refine ⟨h.1, fun hn => ?_⟩
  obtain ⟨ad, hA, hlt, hc⟩ := h.2 hn
  refine ⟨ad, hA, hlt, fun j u hu => ?_⟩
  have hold := hc j u hu
  rw [World.cell?_setCell_other _ _ _ _ (fun e => ?_)]
  · exact hold
  · rw [← e, hb.cell 0] at hold
    have hu2 : u = .slice A0 n0 c0 := by simpa using hold.symm
    unfold Go.Proofs.YtpkpfnilfabkaaaDoor.ints at hu
    rw [List.getElem?_map] at hu
    cases hx : l[j]? with
    | none => rw [hx] at hu; cases hu
    | some x => rw [hx] at hu; simp at hu; rw [← hu] at hu2; cases hu2
/-- A set is put into a box that is there. -/
theorem Hold.put {g : Nat} {s s0 : SV} (h : Hold w X ((g, s0) :: L) M Z W) (hL : ∀ p ∈ L, p.1 ≠ g) (hX : ∀ p ∈ X, p.1 ≠ g) (hg : w.heap.size ≤ g) (htab : Tab (W.setCell ⟨g, 0, none⟩ (.slice s.A s.n s.c))) (hs : s.ok W W.heap.size) :
    Hold w X ((g, s) :: L) M Z (W.setCell ⟨g, 0, none⟩ (.slice s.A s.n s.c)) := by
  have hb := (h.env.all _ (.head _)).1
  refine ⟨⟨h.env.below.setCell (p := ⟨g, 0, none⟩) (by show w.heap.size ≤ g; exact hg) _, htab, fun p hp => ?_⟩, fun p hp => (h.box p hp).far (p := ⟨g, 0, none⟩) (hX p hp) _, fun t ht => (h.got t ht).boxed hb, fun z hz => (h.lst z hz).boxed hb⟩
  rcases List.mem_cons.1 hp with rfl | hp
  · exact ⟨hb.set_ 0 _, hs.boxed hb⟩
  · exact ⟨((h.env.all p (.tail _ hp)).1).far (p := ⟨g, 0, none⟩) (hL p hp) _, (h.env.all p (.tail _ hp)).2.boxed hb⟩
end

/-- A list that is handed back. -/
def GotList (l : List Int) (w : World) (e : Ending) (w' : World) : Prop :=
  ∃ (A : Option Addr) (n c : Nat), e = .returned (.slice A n c) ∧ RI w' w'.heap.size A n l ∧ n ≤ c ∧ c ≤ 9223372036854775807 ∧ w'.ownsRow w.heap.size 3 1 (.slice A n c) n (ints l) ∧ Below w.heap.size w w'
theorem gotList_of {l : List Nat} {w w' : World} {e : Ending} (h : ListOk l w e w') : GotList (intsN l) w e w' := by
  obtain ⟨v, rfl, ho, hb⟩ := h
  obtain ⟨A, c, rfl, h1, h2⟩ := own_form1 ho
  exact ⟨A, l.length, c, rfl, RI.of_own ho, h1, h2, ho, hb⟩
theorem gotList_copy {l : List Int} {n : Nat} {w w' : World} {e : Ending} (h : Copy_i n l w e w') : GotList l w e w' := by
  obtain ⟨A, c, rfl, ho, h1, h2, hb⟩ := h
  exact ⟨A, n, c, rfl, RI.of_own ho, h1, h2, ho, hb⟩
def laS (s : SV) : List Int := intsN (numsF (inW s.ws))
section
variable (s t : SV) (w : World)
theorem get_list (hT : Tab w) (hs : s.ok w w.heap.size) : Calls Tryd.prog 16 #[.agg #[.slice s.A s.n s.c]] w (GotList (laS s) w) := (s_list s w hT hs).mono fun _ _ h => gotList_of h
theorem get_rlist (hs : s.ok w w.heap.size) : Calls Tryd.prog 11 #[.agg #[.slice s.A s.n s.c]] w (GotList (laS s) w) :=
  (rlist_any s.A s.n s.c s.ws hs.2.1 hs.2.2 w hs.1).mono fun _ _ h => gotList_of h
theorem get_right (hs : s.ok w w.heap.size) : Calls Tryd.prog 13 #[.agg #[.slice s.A s.n s.c]] w fun e w' => e = .returned (.bool (rightW s.ws)) ∧ Below w.heap.size w w' :=
  right_any s.A s.n s.c s.ws hs.2.1 hs.2.2 w hs.1
theorem get_rof {A : Option Addr} {n c : Nat} {l : List Int} (hl : mayL l) (hn : n ≤ 100000) (h : RI w w.heap.size A n l) : Calls Tryd.prog 23 #[.slice A n c] w (GotSet (setW (ofF l)) w) :=
  (rof_any A n c l hl hn w h).mono fun _ _ h => got_of (can_set _).1 (setW_le _) h
theorem rsame_yes (hs : s.ok w w.heap.size) (ht : t.ok w w.heap.size) (h : s.ws = t.ws) :
    Calls Tryd.prog 24 #[.agg #[.slice s.A s.n s.c], .agg #[.slice t.A t.n t.c]] w fun e w' => e = .returned (.bool true) ∧ Below w.heap.size w w' := by
  have := rsame_any s.A t.A s.n s.c t.n t.c s.ws t.ws (by have := hs.2.2; omega) (by have := ht.2.2; omega) w hs.1 ht.1
  rwa [show decide (s.ws = t.ws) = true from decide_eq_true h] at this
theorem equal_yes {A B : Option Addr} {n c m d : Nat} {l : List Int} (hn : n ≤ 1000000) (hm : m ≤ 1000000) (h1 : RI w w.heap.size A n l) (h2 : RI w w.heap.size B m l) :
    Calls Tryd.prog 15 #[.slice A n c, .slice B m d] w fun e w' => e = .returned (.bool true) ∧ Below w.heap.size w w' := by
  have := equal_i A B n m c d l l hn hm w h1 h2
  rwa [show decide (l = l) = true from decide_eq_true rfl] at this
end
theorem la_len (s : SV) : (laS s).length ≤ 10048 := by unfold laS; rw [intsN_len]; exact nums_len _
theorem may_la (s : SV) : mayL (laS s) := may_intsN fun _ hn => in_lt (mem_nums.1 hn).2
theorem of_la (s : SV) : setW (ofF (laS s)) = setW (inW s.ws) := ofF_nums s.ws
theorem la_eq (s t : SV) : sameF (inW s.ws) (inW t.ws) = decide (laS s = laS t) := by
  rw [Bool.eq_iff_iff, decide_eq_true_iff, sameF_iff]
  constructor
  · intro h
    unfold laS
    rw [nums_congr h]
  · intro h n hn
    have e1 := ofF_intsN (numsF (inW s.ws)) n
    have e2 := ofF_intsN (numsF (inW t.ws)) n
    unfold laS at h
    rw [h, e2] at e1
    have m1 := @mem_nums (inW s.ws) n
    have m2 := @mem_nums (inW t.ws) n
    rw [Bool.eq_iff_iff]
    have := decide_eq_decide.1 e1
    constructor
    · intro h1; exact (m2.1 (this.2 (m1.2 ⟨hn, h1⟩))).2
    · intro h1; exact (m1.1 (this.1 (m2.2 ⟨hn, h1⟩))).2
end Go.Proofs.YtpkpfnilfabkaaaDoor
