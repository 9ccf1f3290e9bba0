/- NamesAll: the walk. -/
import Derived.Test.YthamkpmbfefpfaaNo
namespace Go.Proofs.Ythamkpmbfefpfaa
open Go.RowKit Go.Shelf

def rsCells (rs : List RS) : List Value := rs.map fun r => .slice r.A r.n r.c
/-- A row of rows of texts, as an argument. -/
def RowsS (w : World) (B : Nat) (A : Option Addr) (n : Nat) (rs : List RS) : Prop :=
  Reads w B 1 A n (rsCells rs) ∧ ∀ r ∈ rs, Reads w B 1 r.A r.n (strs r.l) ∧ r.n ≤ r.c ∧ r.c ≤ 9223372036854775807 ∧ ∀ s ∈ r.l, s.size ≤ 9223372036854775807
theorem RowsS.at_ {w : World} {B n k : Nat} {A : Option Addr} {rs : List RS} (h : RowsS w B A n rs) (hk : k < n) :
    ∃ (b o : Nat) (r : RS), A = some ⟨b, o, none⟩ ∧ b < B ∧ w.cell? ⟨b, o + k, none⟩ = some (.slice r.A r.n r.c) ∧ Reads w B 1 r.A r.n (strs r.l) ∧ r.n ≤ r.c ∧ r.c ≤ 9223372036854775807 ∧ ∀ s ∈ r.l, s.size ≤ 9223372036854775807 := by
  have hl : rs.length = n := by have := h.1.1; unfold rsCells at this; simp at this; omega
  obtain ⟨b, o, hA, hlt, hc⟩ := reads_plain h.1 (by omega)
  obtain ⟨r, hr⟩ : ∃ r, rs[k]? = some r := ⟨_, List.getElem?_eq_getElem (by omega)⟩
  have hcell := hc k (.slice r.A r.n r.c) (by unfold rsCells; rw [List.getElem?_map, hr]; rfl)
  exact ⟨b, o, r, hA, hlt, hcell, h.2 r (List.mem_of_getElem? hr)⟩
theorem RowsS.below {w w' : World} {B n : Nat} {A : Option Addr} {rs : List RS} (h : RowsS w B A n rs) (hb : Below B w w') : RowsS w' B A n rs := ⟨h.1.below hb, fun r hr => ⟨(h.2 r hr).1.below hb, (h.2 r hr).2⟩⟩

/-- What All gives, and the document's All: the same. -/
theorem put_same {k : Int} {ns1 ns2 ns : List ByteArray} {zs1 zs2 zs : List Int} (h1 : k = 0 → ns1 = ns ∧ zs1 = zs) (h2 : k ≠ 0 → ns1 = [] ∧ zs1 = []) (g1 : k = 0 → ns2 = ns ∧ zs2 = zs) (g2 : k ≠ 0 → ns2 = [] ∧ zs2 = []) : ns1 = ns2 ∧ zs1 = zs2 := by
  by_cases h : k = 0
  · exact ⟨(h1 h).1.trans (g1 h).1.symm, (h1 h).2.trans (g1 h).2.symm⟩
  · exact ⟨(h2 h).1.trans (g2 h).1.symm, (h2 h).2.trans (g2 h).2.symm⟩
theorem put_few {k : Int} {ns1 l : List ByteArray} {zs1 : List Int} {m : Nat} (hl : l.length ≤ m) (h1 : k = 0 → ns1 = addsN [] l ∧ zs1 = allN [] l) (h2 : k ≠ 0 → ns1 = [] ∧ zs1 = []) : ns1.length ≤ m ∧ zs1.length ≤ m := by
  by_cases h : k = 0
  · rw [(h1 h).1, (h1 h).2, allN_len]
    have := adds_len_le l []
    exact ⟨by simp at this; omega, hl⟩
  · rw [(h2 h).1, (h2 h).2]
    exact ⟨Nat.zero_le _, Nat.zero_le _⟩

set_option maxRecDepth 100000 in
set_option maxHeartbeats 16000000 in
theorem all_core (A : Option Addr) (n c : Nat) (rs : List RS) (hn : n ≤ 9223372036854775807) (w : World) (hR : RowsS w w.heap.size A n rs) :
    Calls Try.prog 5 #[.slice A n c] w fun e w' => e = .returned (.bool true) ∧ Below w.heap.size w w' := by
  have HR := Lib.hid hR
  have HW := Lib.hid (wakes10_any w)
  clear hR
  go_enter Try.func5, Try.ntmps5
  go_wp2_with fail
  refine HW.out.mono ?_
  rintro e w1 ⟨rfl, b1⟩
  go_wp2_with fail
  go_loopw [16] (fun i wr => ∃ k : Nat, k ≤ n ∧ i = .int .i64 k ∧ Hid (Below w.heap.size w wr)) (fun i _ => n - (intOf i).toNat)
  case atStart => exact ⟨0, Nat.zero_le _, rfl, b1⟩
  case round =>
    clear b1 HW w1
    obtain ⟨k, hk, rfl, HB⟩ := hrel
    by_cases hkn : k < n
    · have hlt : (k : Int) < (n : Int) := by omega
      obtain ⟨b, o, r, rfl, hb, g0, hr, hnc, hcm, hss⟩ := (HR.out.below HB.out).at_ hkn
      obtain ⟨rA, rn, rc, rl⟩ := r
      simp only at g0 hr hnc hcm hss
      by_cases h4 : k = 4
      · have h4b : ((k : Int) == 4) = true := by simp; omega
        clear h4
        go_wp2_with fail
        go_ret
        exact ⟨rfl, HB.out⟩
      · have h4b : ((k : Int) == 4) = false := by simp; omega
        have hl := strs_len hr
        have hmin : min (rn : Int) 302 = ((min rn 302 : Nat) : Int) := by omega
        have hq : min rn 302 ≤ rn ∧ min rn 302 ≤ 302 := by omega
        have HC := Lib.hid (clones_any rA (min rn 302) rc (rl.take (min rn 302)) (by omega) wr (strs_cut (hr.more HB.out.size) hq.1))
        have hsl := fun W => sliceS_h rA rn rc (min rn 302) (by omega) W
        have HSS : Hid (∀ s ∈ rl.take (min rn 302), s.size ≤ 9223372036854775807) := fun s hs => hss s (List.mem_of_mem_take hs)
        have HLT : Hid ((rl.take (min rn 302)).length ≤ 302) := by show _ ≤ _; rw [List.length_take]; omega
        have E0 := Lib.hid ((EN.start w).on HB.out)
        generalize rl.take (min rn 302) = ls at *
        generalize min rn 302 = q at *
        clear h4 hl hr hss hq hb HB
        go_wp2_with fail
        refine HC.out.mono ?_
        rintro e w2 ⟨A2, n2, c2, rfl, ho, b2⟩
        have HN2 : Hid (n2 ≤ 302) := by have := strs_len (Reads.of_own ho); have := HLT.out; show _ ≤ _; omega
        have E2 := Lib.hid ((E0.out.on b2).addS (c := c2) (Reads.of_own ho))
        clear ho b2 HC E0 hmin hsl g0
        go_wp2_with fail
        refine (clones_any A2 n2 c2 ls (by have := HN2.out; omega) w2 (E2.out.rs (.head _))).mono ?_
        rintro e w3 ⟨A3, n3, c3, rfl, ho, b3⟩
        have HN3 : Hid (n3 ≤ 302) := by have := strs_len (Reads.of_own ho); have := HLT.out; show _ ≤ _; omega
        have E3 := Lib.hid ((E2.out.on b3).addS (c := c3) (Reads.of_own ho))
        clear ho b3 E2
        go_wp2_with fail
        refine (all_any A2 n2 c2 ls (by have := HN2.out; omega) HSS.out w3 (E3.out.rs (.tail _ (.head _)))).mono ?_
        rintro e w4 ⟨A4, n4, c4, R4, m4, d4, ns4, zs4, rfl, ho, ho2, hok4, hno4, b4⟩
        obtain ⟨hf1, hf2⟩ := put_few HLT.out (fun h => hok4 (by simpa using h)) (fun h => hno4 (by simpa using h))
        have HN4 : Hid (n4 ≤ 302 ∧ m4 ≤ 302) := by have := strs_len (Reads.of_own ho); have := ints_len (Reads.of_own ho2); show _ ∧ _; omega
        have HP4 := Lib.hid (And.intro hok4 hno4)
        have E4 := Lib.hid (((E3.out.on b4).addI (c := d4) (Reads.of_own ho2)).addT (c := c4) (Reads.of_own ho))
        clear ho ho2 hok4 hno4 b4 hf1 hf2 E3
        obtain ⟨kk, hkk⟩ : ∃ kk, putsE [] ls = kk := ⟨_, rfl⟩
        rw [hkk] at HP4 ⊢
        have HKK := Lib.hid hkk
        clear hkk
        go_upto_region 10 with fail
        generalize w4.alloc (.cells #[.slice A4 n4 c4] 24) = w5 at *
        generalize w4.heap.size = B4 at *
        go_wp2_with fail
        refine (rall_any A3 n3 c3 ls (by have := HN3.out; omega) w5 (E4.out.rs (.head _))).mono ?_
        rintro e w6 ⟨A6, n6, c6, R6, m6, d6, ns6, zs6, rfl, ho, ho2, hok6, hno6, b6⟩
        rw [HKK.out] at hok6 hno6 ⊢
        obtain ⟨hs1, hs2⟩ := put_same HP4.out.1 HP4.out.2 hok6 hno6
        subst hs1
        subst hs2
        have HN6 : Hid (n6 = n4 ∧ m6 = m4) := by
          have h1 := strs_len (Reads.of_own ho)
          have h2 := ints_len (Reads.of_own ho2)
          have h3 := strs_len (E4.out.tb (.head _))
          have h4 := ints_len (E4.out.ri (.head _))
          show _ ∧ _
          omega
        have E6 := Lib.hid (((E4.out.on b6).addI (c := d6) (Reads.of_own ho2)).addT (c := c6) (Reads.of_own ho))
        clear ho ho2 hok6 hno6 b6 E4 HKK HP4
        go_upto_region 11 with fail
        generalize w6.alloc (.cells #[.slice A6 n6 c6] 24) = w7 at *
        generalize w6.heap.size = B6 at *
        have hkk : (kk != kk) = false := by simp
        have z4 := E6.out.c0 (.tail _ (.head _))
        have z6 := E6.out.c0 (.head _)
        have HQ := Lib.hid (eqi_any R4 R6 m4 m6 d4 d6 zs4 zs4 (by have := HN4.out; omega) (by have := HN4.out; have := HN6.out; omega) w7 (E6.out.ri (.tail _ (.head _))) (E6.out.ri (.head _)))
        rw [decide_eq_true rfl] at HQ
        go_wp2_with fail
        refine HQ.out.mono ?_
        rintro e w8 ⟨rfl, b8⟩
        have E8 := Lib.hid (E6.out.on b8)
        clear b8 E6 HQ z4 z6
        have z4 := E8.out.c0 (.tail _ (.head _))
        have z6 := E8.out.c0 (.head _)
        have HQ := Lib.hid (rsame_any A4 A6 n4 n6 c4 c6 ns4 ns4 (by have := HN4.out; omega) (by have := HN4.out; have := HN6.out; omega) w8 (E8.out.tb (.tail _ (.head _))) (E8.out.tb (.head _)))
        rw [decide_eq_true rfl] at HQ
        go_wp2_with fail
        refine HQ.out.mono ?_
        rintro e w9 ⟨rfl, b9⟩
        have E9 := Lib.hid (E8.out.on b9)
        clear b9 E8 HQ z4 z6
        have HQ := Lib.hid (eqs_any A2 A3 n2 n3 c2 c3 ls ls (by have := HN2.out; omega) (by have := HN3.out; omega) w9 (E9.out.rs (.tail _ (.head _))) (E9.out.rs (.head _)))
        rw [decide_eq_true rfl] at HQ
        go_wp2_with fail
        refine HQ.out.mono ?_
        rintro e w10 ⟨rfl, b10⟩
        have HB10 : Hid (Below w.heap.size w w10) := E9.out.below.trans (b10.mono E9.out.below.size)
        clear b10 E9 HQ
        go_wp2_with fail
        go_roundw
        case rel => exact ⟨k + 1, by omega, by go_num, HB10⟩
        case measure => simp [intOf]; omega
    · have hge : ¬ (k : Int) < (n : Int) := by omega
      go_wp2_with fail
      go_ret
      exact ⟨rfl, HB.out⟩
end Go.Proofs.Ythamkpmbfefpfaa
