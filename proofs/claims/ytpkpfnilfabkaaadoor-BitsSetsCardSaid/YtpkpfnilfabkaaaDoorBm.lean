/- Layer bits: Union: its contract. -/
import Derived.Test.YtpkpfnilfabkaaaDoorBl
namespace Go.Proofs.YtpkpfnilfabkaaaDoor
open Go.RowKit

/-- A set as it stands in a slice of sets. -/
structure SV where
  A : Option Addr
  n : Nat
  c : Nat
  ws : List Nat
def svCell (s : SV) : Value := .slice s.A s.n s.c
def svs (S : List SV) : List Value := S.map svCell
def unionF (S : List SV) (j : Nat) : Bool := S.any fun s => inW s.ws j
/-- A set that can be read, below the block B. -/
def SV.ok (w : World) (B : Nat) (s : SV) : Prop := RW w B s.A s.n s.ws ∧ W64 s.ws ∧ s.n ≤ 100000
theorem SV.ok.below {w w' : World} {B : Nat} {s : SV} (h : s.ok w B) (hb : Below B w w') : s.ok w' B := ⟨h.1.below hb, h.2.1, h.2.2⟩
theorem sv_at {w : World} {B n k : Nat} {A : Option Addr} {S : List SV} (h : Reads w B 1 A n (svs S)) (hk : k < n) :
    ∃ b o s, A = some ⟨b, o, none⟩ ∧ b < B ∧ S[k]? = some s ∧ w.cell? ⟨b, o + k, none⟩ = some (.slice s.A s.n s.c) := by
  have hl : S.length = n := by have := h.1; unfold svs at this; simp at this; omega
  obtain ⟨ad, hA, hb, hc⟩ := h.2 (by omega)
  obtain ⟨s, hs⟩ : ∃ s, S[k]? = some s := ⟨S[k]'(by omega), List.getElem?_eq_getElem _⟩
  obtain ⟨s0, hs0⟩ : ∃ s, S[0]? = some s := ⟨S[0]'(by omega), List.getElem?_eq_getElem _⟩
  have h0 := hc k (svCell s) (by unfold svs; rw [List.getElem?_map, hs]; rfl)
  have h00 := hc 0 (svCell s0) (by unfold svs; rw [List.getElem?_map, hs0]; rfl)
  obtain ⟨b, o, spot⟩ := ad
  have hspot : spot = none := by simpa [Addr.add] using World.cell?_spot h00
  subst hspot
  rw [Go.WideShapes.add_plain] at h0
  exact ⟨b, o, s, hA, hb, hs, h0⟩
theorem union_snoc {S : List SV} {k : Nat} {s : SV} (h : S[k]? = some s) (j : Nat) : unionF (S.take (k + 1)) j = (unionF (S.take k) j || inW s.ws j) := by
  have hk := (List.getElem?_eq_some_iff.1 h).1
  rw [List.take_succ_eq_append_getElem hk]
  have : S[k] = s := (List.getElem?_eq_some_iff.1 h).2
  unfold unionF
  rw [List.any_append, this]
  simp
theorem union_in {S : List SV} {j : Nat} (h : unionF S j = true) : j < 10000 := by
  unfold unionF at h
  obtain ⟨s, _, hs⟩ := List.any_eq_true.1 h
  exact in_lt hs

/-- How far the joining has come. -/
structure UniIs (w : World) (S : List SV) (k : Nat) (A : Option Addr) (n c : Nat) (p : List Nat) (wr : World) : Prop where
  own : RO w.heap.size wr A n p
  cap : n ≤ c
  len : n ≤ 157
  all : W64 p
  has : ∀ j, hasW p j = unionF (S.take k) j
  box : Blk wr w.heap.size 24 #[.slice none 0 0]
  below : Below w.heap.size w wr
theorem UniIs.end_ {w wr : World} {S : List SV} {k n c : Nat} {A : Option Addr} {p : List Nat} (h : UniIs w S k A n c p wr) (hk : S.length ≤ k) : trimW p = setW (unionF S) :=
  trim_set h.all fun n => by
    rw [h.has, List.take_of_length_le hk]
    cases hb : unionF S n with
    | false => simp
    | true => have := union_in hb; simp; omega
theorem UniIs.step {w wr w1 w2 : World} {S : List SV} {k n c m N g : Nat} {A : Option Addr} {p : List Nat} {s : SV} (h : UniIs w S k A n c p wr) (hs : S[k]? = some s) (h64 : W64 s.ws) (hm : (effW s.ws).length = m)
    (hb1 : Below wr.heap.size wr w1) (hb2 : Below w1.heap.size w1 w2) (hg : w1.heap.size ≤ g) (hl : (joinW (fun x y => x ||| y) (padW p m) (effW s.ws)).length = N) (hk : Blk w2 g 51 (wcells (joinW (fun x y => x ||| y) (padW p m) (effW s.ws))).toArray) :
    UniIs w S (k + 1) (some ⟨g, 0, none⟩) N N (joinW (fun x y => x ||| y) (padW p m) (effW s.ws)) w2 := by
  have hle := eff_len s.ws
  have hpl := h.own.1
  have hb : Below wr.heap.size wr w2 := hb1.trans (hb2.mono hb1.size)
  refine ⟨⟨hl, fun _ => ⟨g, rfl, ?_, hk⟩⟩, Nat.le_refl _, ?_, ?_, fun j => ?_, h.box.below hb h.box.lt, h.below.trans (hb.mono h.below.size)⟩
  · have := h.below.size; have := hb1.size; omega
  · rw [join_length, pad_length] at hl; have := h.len; omega
  · exact join_64 (fun x y => or_lt x y) (pad_64 h.all m) (eff_64 h64)
  · rw [has_join (J := fun x y => x ||| y) (op := fun a b => a || b) rfl (fun x y => or_bit x y) (pad_64 h.all m) (eff_64 h64) (by rw [pad_length, hm]; omega), has_pad, h.has, union_snoc hs]
    rfl

set_option maxRecDepth 100000 in
set_option maxHeartbeats 2000000 in
theorem union_any (A : Option Addr) (n c : Nat) (S : List SV) (hn : n ≤ 100000) (w : World) (hA : Reads w w.heap.size 1 A n (svs S)) (hS : ∀ s ∈ S, s.ok w w.heap.size) :
    Calls Tryd.prog 31 #[.slice A n c] w (SetOk (setW (unionF S)) w) := by
  have hl : S.length = n := by have := hA.1; unfold svs at this; simp at this; omega
  have HLN := Lib.hid hl
  have HR := Lib.hid fun W (h : Below w.heap.size w W) => Reads.below hA h
  have HS := Lib.hid fun W (h : Below w.heap.size w W) k s (e : S[k]? = some s) => (hS s (List.mem_of_getElem? e)).below h
  have HU : Hid (UniIs w S 0 none 0 0 [] (w.alloc (.cells #[.slice none 0 0] 24))) :=
    ⟨RO.none_, Nat.le_refl _, by omega, by intro x hx; simp at hx, fun j => by simp [hasW, unionF], Blk.new _ _ _, (Below.refl _ _).alloc (Nat.le_refl _) _⟩
  clear hA hS hl
  go_enter Tryd.func31, Tryd.ntmps31
  go_wp2_with fail
  go_loopw [3, 8] (fun r i wr => ∃ (k : Nat) (Ar : Option Addr) (nr cr : Nat) (p : List Nat), k ≤ n ∧ i = .int .i64 k ∧ r = .slice Ar nr cr ∧ Hid (UniIs w S k Ar nr cr p wr)) (fun _ i _ => n - (intOf i).toNat)
  case atStart => exact ⟨0, none, 0, 0, [], Nat.zero_le _, rfl, rfl, HU⟩
  case round =>
    clear HU
    obtain ⟨k, Ar, nr, cr, p, hk, rfl, rfl, HU⟩ := hrel
    by_cases hlt : k < n
    · obtain ⟨b, o, s, rfl, hb, hs, hc⟩ := sv_at (HR.out _ HU.out.below) hlt
      have hok := HS.out _ HU.out.below k s hs
      have HST := Lib.hid fun (m N g : Nat) (w1 w2 : World) => HU.out.step (m := m) (N := N) (g := g) (w1 := w1) (w2 := w2) hs hok.2.1
      have hb1 : Below wr.heap.size wr (wr.alloc (.cells #[.slice s.A s.n s.c] 24)) := (Below.refl _ _).alloc (Nat.le_refl _) _
      have hsz := HU.out.below.size
      have HW := Lib.hid (words_any s.A s.n s.c s.ws hok.2.1 (by have := hok.2.2; omega) (wr.alloc (.cells #[.slice s.A s.n s.c] 24)) ((hok.1.below (hb1.mono hsz)).more (by rw [World.size_alloc]; omega)))
      have HEL := Lib.hid (eff_len s.ws)
      have HE6 := Lib.hid (eff_64 hok.2.1)
      clear hs hok
      go_wp2_with fail
      refine HW.out.mono ?_
      rintro e w1 ⟨A1, n1, c1, rfl, r1, b1⟩
      have B1 : Hid (Below wr.heap.size wr w1) := hb1.trans (b1.mono hb1.size)
      have HL1 := Lib.hid r1.len
      have hn1 : n1 ≤ 157 := by have := r1.len; have := HEL.out; omega
      have R1 := Lib.hid (r1.more b1.size)
      have RP := Lib.hid (HU.out.own.below B1.out)
      have hnr := HU.out.len
      clear r1 b1 hb1 HW
      go_wp2_with fail
      refine (joined_or Ar A1 nr cr n1 c1 _ _ (by omega) (by omega) HU.out.all HE6.out w1 RP.out.reads R1.out).mono ?_
      rintro e w2 ⟨g, N, rfl, hl2, hg, k2, b2⟩
      have HN := Lib.hid (HST.out _ _ _ _ _ HL1.out B1.out b2 hg hl2 k2)
      clear hl2 hg k2 b2 HST RP R1 B1 HL1
      go_wp2_with fail
      go_roundw
      case rel => exact ⟨k + 1, _, N, N, _, by omega, by go_num, rfl, HN⟩
      case measure => simp [intOf]; omega
    · obtain rfl : k = n := by omega
      have HT := Lib.hid (HU.out.end_ (by rw [HLN.out]; exact Nat.le_refl _))
      have hnr := HU.out.len
      go_wp2_with fail
      refine (cut_any w.heap.size Ar nr cr p HU.out.cap (by omega) wr HU.out.own).mono ?_
      rintro e w4 ⟨A4, n4, c4, rfl, o4, b4⟩
      have B4 : Hid (Below w.heap.size w w4) := HU.out.below.trans (b4.mono HU.out.below.size)
      have HB4 := Lib.hid (HU.out.box.below b4 HU.out.box.lt)
      have zc := HB4.out.cell 0
      have zf := HB4.out.frozen 0
      have hz := World.cell?_setCell_same' w4 ⟨w.heap.size, 0, none⟩ (.slice A4 n4 c4) (by rw [zc]; rfl)
      have HE := Lib.hid (set_end (c := c4) o4 HB4.out B4.out (Nat.le_refl _) HT.out)
      clear o4 b4 HT HU
      go_wp2_with fail
      exact bodyPost_ret (v := .agg #[.slice A4 n4 c4]) (by simp [results, Tryd.results31, go_sem, hz]) rfl HE.out
end Go.Proofs.YtpkpfnilfabkaaaDoor
