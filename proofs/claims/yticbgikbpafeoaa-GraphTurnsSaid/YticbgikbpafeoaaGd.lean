/- Layer graph: the closure that Sort hands on, halves of edges: their contracts. -/
import Derived.Test.YticbgikbpafeoaaGc
import Derived.Laws.MakeOwn
namespace Go.Proofs.Yticbgikbpafeoaa
open Go.RowKit

theorem MDone.refill {g off n : Nat} {ds all : List Ed} {w : World} {e : Ending} {w' : World} (h : MDone g off n ds all w e w') : e = .returned (.tuple #[]) ∧ Blk w' g 35 (cellsE (ds.take off ++ all ++ ds.drop (off + n))).toArray ∧ w.grownBy w' (some g) := h

theorem elem_size (w : World) : (sizeOf (Try.prog.elem 22)).run Try.prog w = .ok 3 w := by kernel_rfl
/-- A slice cut, whatever way. -/
theorem pr_slice_lh (A : Option Addr) (len cap l h : Nat) (x y : Int) (hx : x = l) (hy : y = h) (hl : l ≤ h) (hh : h ≤ cap) (W : World) :
    (Instr.slice 22 (.slice A len cap) (some (.int .i64 x)) (some (.int .i64 y)) none).run Try.prog W = .ok (.slice (if cap = l then A else A.map (·.add (l * 3))) (h - l) (cap - l)) W := by
  subst hx; subst hy
  rw [run_slice_lh W 22 A len cap (show Try.prog.underlying 22 = some (.slice (Try.prog.elem 22)) by kernel_rfl) .i64 .i64 l h (by omega) (by omega) (by omega), elem_size]
  rfl
theorem pr_slice_h (A : Option Addr) (len cap h : Nat) (y : Int) (hy : y = h) (hh : h ≤ cap) (W : World) :
    (Instr.slice 22 (.slice A len cap) none (some (.int .i64 y)) none).run Try.prog W = .ok (.slice A h cap) W := by
  subst hy
  have e0 : Value.slice (if cap = 0 then A else A.map (·.add (0 * 2))) (h - 0) (cap - 0) = .slice A h cap := by
    have : (if cap = 0 then A else A.map (·.add (0 * 2))) = A := by
      split
      · rfl
      · cases A <;> simp [Addr.add]
    rw [this, Nat.sub_zero, Nat.sub_zero]
  rw [run_slice_h W 22 A len cap (show Try.prog.underlying 22 = some (.slice (Try.prog.elem 22)) by kernel_rfl) .i64 h (by omega) (by omega), elem_size]
  exact congrArg (fun v => Result.ok v W) e0
theorem pr_slice_l (A : Option Addr) (len cap l : Nat) (x : Int) (hx : x = l) (hl : l ≤ len) (W : World) :
    (Instr.slice 22 (.slice A len cap) (some (.int .i64 x)) none none).run Try.prog W = .ok (.slice (if cap = l then A else A.map (·.add (l * 3))) (len - l) (cap - l)) W := by
  subst hx
  rw [run_slice_l W 22 A len cap (show Try.prog.underlying 22 = some (.slice (Try.prog.elem 22)) by kernel_rfl) .i64 l (by omega) (by omega), elem_size]
  rfl
theorem pr_slice_lhm (A : Option Addr) (len cap l h m : Nat) (x y z : Int) (hx : x = l) (hy : y = h) (hz : z = m) (hl : l ≤ h) (hh : h ≤ m) (hm : m ≤ cap) (W : World) :
    (Instr.slice 22 (.slice A len cap) (some (.int .i64 x)) (some (.int .i64 y)) (some (.int .i64 z))).run Try.prog W = .ok (.slice (if m = l then A else A.map (·.add (l * 3))) (h - l) (m - l)) W := by
  subst hx; subst hy; subst hz
  rw [run_slice_lhm W 22 A len cap (show Try.prog.underlying 22 = some (.slice (Try.prog.elem 22)) by kernel_rfl) .i64 .i64 .i64 l h m (by omega) (by omega) (by omega) (by omega), elem_size]
  rfl

set_option maxRecDepth 100000 in
set_option maxHeartbeats 2000000 in
theorem part_any (g p q off n : Nat) (ds xs ys : List Ed) (A B : Option Addr) (na nb ca cb : Nat) (hna : na ≤ ca) (hnb : nb ≤ cb) (hca : ca ≤ 9223372036854775807) (hcb : cb ≤ 9223372036854775807)
    (hds : ds.length = n) (hoff : off + na + nb ≤ n) (hlt : off < n) (hn : n ≤ 1000000) (w : World) (hA : Src w g 3 A na (cellsE xs)) (hB : Src w g 3 B nb (cellsE ys)) (hgx : ∀ p ∈ xs, okE p) (hgy : ∀ p ∈ ys, okE p) (hG : Blk w g 35 (cellsE ds).toArray)
    (hP : Blk w p 22 #[.slice (some ⟨g, 0, none⟩) n n]) (hQ : Blk w q 78 #[.func (.func 63) #[] #[]]) :
    Calls Try.prog 71 #[.int .i64 off, .slice A na ca, .slice B nb cb, .pointer (some ⟨p, 0, none⟩), .pointer (some ⟨q, 0, none⟩)] w (MDone g off (na + nb) ds (mrg ltE xs ys) w) := by
  have HC : Hid (∀ (W : World), W.heap = w.heap → Calls Try.prog 72 #[.slice (some ⟨g, off * 3, none⟩) (na + nb) (n - off), .slice A na ca, .slice B nb cb, .func (.func 63) #[] #[]] W (MDone g off (na + nb) ds (mrg ltE xs ys) W)) :=
    fun W hW => merge_any g off (na + nb) (n - off) ds xs ys A B na nb ca cb rfl hna hnb hca hcb (by omega) (by omega) (by omega) W
      ⟨hA.1, fun h0 => by obtain ⟨b, o, h1, h2, h3, h4⟩ := hA.2 h0; exact ⟨b, o, h1, by rw [hW]; exact h2, h3, fun j u hu => by rw [← h4 j u hu]; unfold World.cell?; rw [hW]⟩⟩
      ⟨hB.1, fun h0 => by obtain ⟨b, o, h1, h2, h3, h4⟩ := hB.2 h0; exact ⟨b, o, h1, by rw [hW]; exact h2, h3, fun j u hu => by rw [← h4 j u hu]; unfold World.cell?; rw [hW]⟩⟩ hgx hgy (by unfold Blk at *; rw [hW]; exact hG)
  have x0 : w.cell? ⟨p, 0, none⟩ = some (.slice (some ⟨g, 0, none⟩) n n) := hP.cell 0
  have x1 : w.cell? ⟨q, 0, none⟩ = some (.func (.func 63) #[] #[]) := hQ.cell 0
  have h1 : (0 : Int) ≤ (off : Int) := by omega
  have h2 : (off : Int) + (na : Int) + (nb : Int) ≤ (n : Int) := by omega
  have h3 : ¬ n = off := by omega
  have HD := Lib.hid hds
  clear hA hB hG hP hQ hds
  have e1 : IntKind.i64.wrap ((off : Int) + (na : Int)) = (off : Int) + (na : Int) := by rw [IntKind.wrap_i64]; omega
  have e2 : IntKind.i64.wrap ((off : Int) + (na : Int) + (nb : Int)) = (off : Int) + (na : Int) + (nb : Int) := by rw [IntKind.wrap_i64]; omega
  have hsl := pr_slice_lh (some ⟨g, 0, none⟩) n n off (off + na + nb) off (off + na + nb) rfl (by omega) (by omega) hoff
  rw [if_neg h3, show (some (⟨g, 0, none⟩ : Addr)).map (·.add (off * 3)) = some ⟨g, off * 3, none⟩ by rw [Option.map_some, Go.WideShapes.add_plain, Nat.zero_add], show off + na + nb - off = na + nb by omega] at hsl
  go_enter Try.func71, Try.ntmps71
  go_wp2_with fail
  go_still_tail 13, (by kernel_rfl)
  change wpList _ _ _ _ _ w.drew
  have HB : Hid (w.grownBy w.drew (some g)) := drew_only (World.grownBy.refl w _)
  have HC2 := Lib.hid (HC.out w.drew rfl)
  clear HC x0 x1
  generalize w.drew = wd at *
  go_wp2_with fail
  refine HC2.out.mono ?_
  rintro e w2 h2
  obtain ⟨rfl, hb, hg⟩ := h2.refill
  have HB2 := Lib.hid hb
  have HG2 := Lib.hid (HB.out.trans hg)
  clear hb hg h2
  go_wp2_with fail
  go_end0
  exact ⟨rfl, HB2.out, HG2.out⟩

/-- What a pass leaves. -/
def HDone (g : Nat) (all : List Ed) (w : World) (e : Ending) (w' : World) : Prop := e = .returned (.tuple #[]) ∧ Blk w' g 35 (cellsE all).toArray ∧ w.grownBy w' (some g)
/-- How far a pass has come. -/
structure PIs (w : World) (g v : Nat) (xs ds : List Ed) (i : Nat) (wr : World) : Prop where
  blk : Blk wr g 35 (cellsE (passN ltE v xs i ++ ds.drop (2 * v * i))).toArray
  grown : w.grownBy wr (some g)
theorem row_len {v n : Nat} {xs ds : List Ed} (hx : xs.length = n) (hd : ds.length = n) (i : Nat) : (passN ltE v xs i ++ ds.drop (2 * v * i)).length = n := by
  rw [List.length_append, passN_length, List.length_drop]; omega
theorem src_of_blk {w : World} {h g n o m : Nat} {xs : List Ed} (hb : Blk w h 35 (cellsE xs).toArray) (hne : h ≠ g) (hx : xs.length = n) (ho : o + m ≤ n) : Src w g 3 (some ⟨h, o * 3, none⟩) m (cellsE ((xs.drop o).take m)) :=
  ⟨by rw [cellsE_length, List.length_take, List.length_drop]; omega, fun h0 => ⟨h, o * 3, rfl, hb.lt, hne, fun j u hu => by
    rw [hb.cell, List.getElem?_toArray]
    rw [cellsE_take, List.getElem?_take] at hu
    split at hu
    · rw [cellsE_drop, List.getElem?_drop] at hu
      exact hu
    · cases hu⟩⟩
theorem src_nil (w : World) (g : Nat) (A : Option Addr) : Src w g 3 A 0 (cellsE []) := ⟨rfl, fun h => absurd h (by omega)⟩
/-- The row behind one more merge. -/
theorem row_next {v n i a mid e : Nat} {xs ds : List Ed} (hx : xs.length = n) (hd : ds.length = n) (ha : 2 * v * i = a) (hl : a < n) (hm : mid = min (a + v) n) (he : e = min (mid + v) n) :
    (passN ltE v xs i ++ ds.drop (2 * v * i)).take a ++ mrg ltE ((xs.drop a).take (mid - a)) ((xs.drop mid).take (e - mid)) ++ (passN ltE v xs i ++ ds.drop (2 * v * i)).drop (a + (mid - a + (e - mid))) = passN ltE v xs (i + 1) ++ ds.drop (2 * v * (i + 1)) := by
  have hpl : (passN ltE v xs i).length = a := by rw [passN_length, ha]; omega
  have h1 : (xs.drop a).take (mid - a) = (xs.drop a).take v := by
    rw [List.take_eq_take_iff, List.length_drop]; omega
  have h2 : (xs.drop mid).take (e - mid) = (xs.drop (a + v)).take v := by
    rcases Nat.lt_or_ge n (a + v) with h | h
    · rw [List.drop_of_length_le (by omega), List.drop_of_length_le (by omega)]; simp
    · rw [show mid = a + v by omega, List.take_eq_take_iff, List.length_drop]; omega
  rw [h1, h2, passN, ha, List.take_left' hpl, List.drop_append, hpl, List.drop_of_length_le (l := passN ltE v xs i) (by rw [hpl]; omega), List.nil_append, List.drop_drop, Nat.mul_succ, ha]
  congr 1
  rcases Nat.lt_or_ge (a + 2 * v) n with h | h
  · congr 1; omega
  · rw [List.drop_of_length_le (by omega), List.drop_of_length_le (by omega)]

set_option maxRecDepth 100000 in
set_option maxHeartbeats 4000000 in
theorem halves_any (h g p q n v m : Nat) (xs ds : List Ed) (hx : xs.length = n) (hd : ds.length = n) (hgx : ∀ p ∈ xs, okE p) (hn0 : 0 < n) (hn : n ≤ 100000) (hv : 0 < v) (hvn : v ≤ 100000) (hm : (n - 1) / (2 * v) = m) (hhg : h ≠ g) (hpg : p ≠ g) (hqg : q ≠ g) (w : World)
    (hH : Blk w h 35 (cellsE xs).toArray) (hG : Blk w g 35 (cellsE ds).toArray)
    (hP : Blk w p 22 #[.slice (some ⟨g, 0, none⟩) n n]) (hQ : Blk w q 78 #[.func (.func 63) #[] #[]]) :
    Calls Try.prog 70 #[.slice (some ⟨h, 0, none⟩) n n, .int .i64 v, .func (.func 71) #[] #[.pointer (some ⟨p, 0, none⟩), .pointer (some ⟨q, 0, none⟩)]] w
      (HDone g (passN ltE v xs (m + 1) ++ ds.drop (2 * v * (m + 1))) w) := by
  have HI : Hid (PIs w g v xs ds 0 w) := ⟨by rw [passN, Nat.mul_zero, List.nil_append]; exact hG, World.grownBy.refl w _⟩
  have hmn : 2 * v * m ≤ n - 1 := by rw [← hm]; exact Nat.mul_div_le _ _
  have hq : ((n : Int) - 1) / (2 * (v : Int)) = (m : Int) := by
    have e1 : ((n : Int) - 1) = ((n - 1 : Nat) : Int) := by omega
    rw [e1, ← hm]; simp
  have hmb : m ≤ 100000 := by
    have := Nat.div_le_self (n - 1) (2 * v)
    omega
  have HX := Lib.hid hx
  have HD := Lib.hid hd
  have HH := Lib.hid hH
  have HP := Lib.hid hP
  have HQ := Lib.hid hQ
  have HM := Lib.hid hm
  clear hx hd hH hG hP hQ hm
  go_enter Try.func70, Try.ntmps70
  go_wp2_with fail
  clear hq
  go_loopg [17] (m + 1) (fun gg s17 wr => ∃ i : Nat, i + gg = m + 1 ∧ s17 = .int .i64 i ∧ Hid (PIs w g v xs ds i wr))
  case atStart => exact ⟨0, by omega, rfl, HI⟩
  case round =>
    obtain ⟨i, hig, rfl, HR⟩ := hrel
    cases gk with
    | zero =>
      have hge : ¬ (i : Int) < (m : Int) + 1 := by omega
      have hi : i = m + 1 := by omega
      have HR2 : Hid (PIs w g v xs ds (m + 1) wr) := by rw [← hi]; exact HR
      have HII := Lib.hid hi
      have HIG := Lib.hid hig
      clear hi hig HR
      go_wp2_with fail
      go_end0
      exact ⟨rfl, HR2.out.blk, HR2.out.grown⟩
    | succ g2 =>
      have hlt : (i : Int) < (m : Int) + 1 := by omega
      have hle : 2 * v * i ≤ 2 * v * m := Nat.mul_le_mul_left _ (by omega)
      obtain ⟨a, ha⟩ : ∃ a, 2 * v * i = a := ⟨_, rfl⟩
      have han : a < n := by omega
      have hai : 2 * (v : Int) * (i : Int) = (a : Int) := by rw [← ha]; simp
      obtain ⟨mid, hmid⟩ : ∃ mid, mid = min (a + v) n := ⟨_, rfl⟩
      obtain ⟨e, he⟩ : ∃ e, e = min (mid + v) n := ⟨_, rfl⟩
      by_cases c1 : a + v ≤ n
      · have k1 : a ≤ mid := by omega
        have k2 : mid ≤ e := by omega
        have k3 : e ≤ n := by omega
        have k4 : a < mid := by omega
        have hav : (a : Int) + (v : Int) = (mid : Int) := by omega
        have kmn : (mid : Int) ≤ (n : Int) := by omega
        by_cases c2 : mid + v ≤ n
        · have hev : (mid : Int) + (v : Int) = (e : Int) := by omega
          have ken : (e : Int) ≤ (n : Int) := by omega
          have HA := Lib.hid ha
          have HMI := Lib.hid hmid
          have HE := Lib.hid he
          have HIG := Lib.hid hig
          clear ha hmid he hig hle hmn
          go_wp2_with fail
          clear hav hev
          have hrl : (passN ltE v xs i ++ ds.drop (2 * v * i)).length = n := row_len HX.out HD.out i
          have hnext := row_next HX.out HD.out HA.out han HMI.out HE.out
          have hHr : Blk wr h 35 (cellsE xs).toArray := HH.out.grown HR.out.grown (fun e => hhg (by injection e))
          have hPr : Blk wr p 22 #[.slice (some ⟨g, 0, none⟩) n n] := HP.out.grown HR.out.grown (fun e => hpg (by injection e))
          have hQr : Blk wr q 78 #[.func (.func 63) #[] #[]] := HQ.out.grown HR.out.grown (fun e => hqg (by injection e))
          obtain ⟨Bv, hBv⟩ : ∃ Bv : Option Addr, Bv = if e = mid then some ⟨h, 0, none⟩ else some ⟨h, mid * 3, none⟩ := ⟨_, rfl⟩
          have sA := src_of_blk (o := a) (m := mid - a) hHr hhg HX.out (by omega)
          have sB : Src wr g 3 Bv (e - mid) (cellsE ((xs.drop mid).take (e - mid))) := by
            by_cases hem : e = mid
            · rw [show e - mid = 0 by omega, List.take_zero]; exact src_nil _ _ _
            · rw [hBv, if_neg hem]
              exact src_of_blk hHr hhg HX.out (by omega)
          have HC := Lib.hid (part_any g p q a n (passN ltE v xs i ++ ds.drop (2 * v * i)) _ _ (some ⟨h, a * 3, none⟩) Bv (mid - a) (e - mid) (mid - a) (e - mid) (Nat.le_refl _) (Nat.le_refl _) (by omega) (by omega) hrl (by omega) han (by omega) wr.drew sA sB (fun p hp => hgx p (List.mem_of_mem_drop (List.mem_of_mem_take hp))) (fun p hp => hgx p (List.mem_of_mem_drop (List.mem_of_mem_take hp))) HR.out.blk hPr hQr)
          have hs1 := pr_slice_lhm (some ⟨h, 0, none⟩) n n a mid mid a mid mid rfl rfl rfl k1 (Nat.le_refl _) (by omega)
          rw [if_neg (by omega), show (some (⟨h, 0, none⟩ : Addr)).map (·.add (a * 3)) = some ⟨h, a * 3, none⟩ by rw [Option.map_some, Go.WideShapes.add_plain, Nat.zero_add]] at hs1
          have hs2 := pr_slice_lhm (some ⟨h, 0, none⟩) n n mid e e mid e e rfl rfl rfl k2 (Nat.le_refl _) k3
          rw [show (some (⟨h, 0, none⟩ : Addr)).map (·.add (mid * 3)) = some ⟨h, mid * 3, none⟩ by rw [Option.map_some, Go.WideShapes.add_plain, Nat.zero_add], ← hBv] at hs2
          have HNX := Lib.hid hnext
          clear hrl hnext hHr hPr hQr hBv sA sB
          go_still_tail 12, (by kernel_rfl)
          change wpList _ _ _ _ _ wr.drew
          have HB : Hid (w.grownBy wr.drew (some g)) := drew_only HR.out.grown
          clear HR hs1 hs2
          generalize wr.drew = wd at *
          go_wp2_with fail
          refine HC.out.mono ?_
          rintro e w2 h2
          obtain ⟨rfl, hb, hg⟩ := h2.refill
          rw [HNX.out] at hb
          have HR2 : Hid (PIs w g v xs ds (i + 1) w2) := ⟨hb, HB.out.trans hg⟩
          clear hb hg h2 HC
          go_wp2_with fail
          go_roundg g2
          case measure => omega
          case rel => exact ⟨i + 1, by have := HIG.out; omega, by go_num, HR2⟩
        · have hen : n = e := by omega
          subst hen
          have kmv : (n : Int) < (mid : Int) + (v : Int) := by omega
          have HA := Lib.hid ha
          have HMI := Lib.hid hmid
          have HE := Lib.hid he
          have HIG := Lib.hid hig
          clear ha hmid he hig hle hmn
          go_wp2_with fail
          clear hav
          have hrl : (passN ltE v xs i ++ ds.drop (2 * v * i)).length = n := row_len HX.out HD.out i
          have hnext := row_next HX.out HD.out HA.out han HMI.out HE.out
          have hHr : Blk wr h 35 (cellsE xs).toArray := HH.out.grown HR.out.grown (fun e => hhg (by injection e))
          have hPr : Blk wr p 22 #[.slice (some ⟨g, 0, none⟩) n n] := HP.out.grown HR.out.grown (fun e => hpg (by injection e))
          have hQr : Blk wr q 78 #[.func (.func 63) #[] #[]] := HQ.out.grown HR.out.grown (fun e => hqg (by injection e))
          obtain ⟨Bv, hBv⟩ : ∃ Bv : Option Addr, Bv = if n = mid then some ⟨h, 0, none⟩ else some ⟨h, mid * 3, none⟩ := ⟨_, rfl⟩
          have sA := src_of_blk (o := a) (m := mid - a) hHr hhg HX.out (by omega)
          have sB : Src wr g 3 Bv (n - mid) (cellsE ((xs.drop mid).take (n - mid))) := by
            by_cases hem : n = mid
            · rw [show n - mid = 0 by omega, List.take_zero]; exact src_nil _ _ _
            · rw [hBv, if_neg hem]
              exact src_of_blk hHr hhg HX.out (by omega)
          have HC := Lib.hid (part_any g p q a n (passN ltE v xs i ++ ds.drop (2 * v * i)) _ _ (some ⟨h, a * 3, none⟩) Bv (mid - a) (n - mid) (mid - a) (n - mid) (Nat.le_refl _) (Nat.le_refl _) (by omega) (by omega) hrl (by omega) han (by omega) wr.drew sA sB (fun p hp => hgx p (List.mem_of_mem_drop (List.mem_of_mem_take hp))) (fun p hp => hgx p (List.mem_of_mem_drop (List.mem_of_mem_take hp))) HR.out.blk hPr hQr)
          have hs1 := pr_slice_lhm (some ⟨h, 0, none⟩) n n a mid mid a mid mid rfl rfl rfl k1 (Nat.le_refl _) (by omega)
          rw [if_neg (by omega), show (some (⟨h, 0, none⟩ : Addr)).map (·.add (a * 3)) = some ⟨h, a * 3, none⟩ by rw [Option.map_some, Go.WideShapes.add_plain, Nat.zero_add]] at hs1
          have hs2 := pr_slice_lhm (some ⟨h, 0, none⟩) n n mid n n mid n n rfl rfl rfl k2 (Nat.le_refl _) k3
          rw [show (some (⟨h, 0, none⟩ : Addr)).map (·.add (mid * 3)) = some ⟨h, mid * 3, none⟩ by rw [Option.map_some, Go.WideShapes.add_plain, Nat.zero_add], ← hBv] at hs2
          have HNX := Lib.hid hnext
          clear hrl hnext hHr hPr hQr hBv sA sB
          go_still_tail 12, (by kernel_rfl)
          change wpList _ _ _ _ _ wr.drew
          have HB : Hid (w.grownBy wr.drew (some g)) := drew_only HR.out.grown
          clear HR hs1 hs2
          generalize wr.drew = wd at *
          go_wp2_with fail
          refine HC.out.mono ?_
          rintro e w2 h2
          obtain ⟨rfl, hb, hg⟩ := h2.refill
          rw [HNX.out] at hb
          have HR2 : Hid (PIs w g v xs ds (i + 1) w2) := ⟨hb, HB.out.trans hg⟩
          clear hb hg h2 HC
          go_wp2_with fail
          go_roundg g2
          case measure => omega
          case rel => exact ⟨i + 1, by have := HIG.out; omega, by go_num, HR2⟩
      · have hmn1 : n = mid := by omega
        subst hmn1
        have hen : n = e := by omega
        subst hen
        have k1 : a ≤ n := by omega
        have k2 : n ≤ n := Nat.le_refl _
        have k3 : n ≤ n := Nat.le_refl _
        have kav : (n : Int) < (a : Int) + (v : Int) := by omega
        have HA := Lib.hid ha
        have HMI := Lib.hid hmid
        have HE := Lib.hid he
        have HIG := Lib.hid hig
        clear ha hmid he hig hle hmn
        go_wp2_with fail
        have hrl : (passN ltE v xs i ++ ds.drop (2 * v * i)).length = n := row_len HX.out HD.out i
        have hnext := row_next HX.out HD.out HA.out han HMI.out HE.out
        rw [Nat.sub_self] at hnext
        have hHr : Blk wr h 35 (cellsE xs).toArray := HH.out.grown HR.out.grown (fun e => hhg (by injection e))
        have hPr : Blk wr p 22 #[.slice (some ⟨g, 0, none⟩) n n] := HP.out.grown HR.out.grown (fun e => hpg (by injection e))
        have hQr : Blk wr q 78 #[.func (.func 63) #[] #[]] := HQ.out.grown HR.out.grown (fun e => hqg (by injection e))
        obtain ⟨Bv, hBv⟩ : ∃ Bv : Option Addr, Bv = if n = n then some ⟨h, 0, none⟩ else some ⟨h, n * 3, none⟩ := ⟨_, rfl⟩
        have sA := src_of_blk (o := a) (m := n - a) hHr hhg HX.out (by omega)
        have sB : Src wr g 3 Bv 0 (cellsE ((xs.drop n).take 0)) := by
          rw [List.take_zero]; exact src_nil _ _ _
        have HC := Lib.hid (part_any g p q a n (passN ltE v xs i ++ ds.drop (2 * v * i)) _ _ (some ⟨h, a * 3, none⟩) Bv (n - a) 0 (n - a) 0 (Nat.le_refl _) (Nat.le_refl _) (by omega) (by omega) hrl (by omega) han (by omega) wr.drew sA sB (fun p hp => hgx p (List.mem_of_mem_drop (List.mem_of_mem_take hp))) (fun p hp => hgx p (List.mem_of_mem_drop (List.mem_of_mem_take hp))) HR.out.blk hPr hQr)
        have hs1 := pr_slice_lhm (some ⟨h, 0, none⟩) n n a n n a n n rfl rfl rfl k1 (Nat.le_refl _) (by omega)
        rw [if_neg (by omega), show (some (⟨h, 0, none⟩ : Addr)).map (·.add (a * 3)) = some ⟨h, a * 3, none⟩ by rw [Option.map_some, Go.WideShapes.add_plain, Nat.zero_add]] at hs1
        have hs2 := pr_slice_lhm (some ⟨h, 0, none⟩) n n n n n n n n rfl rfl rfl k2 (Nat.le_refl _) k3
        rw [show (some (⟨h, 0, none⟩ : Addr)).map (·.add (n * 3)) = some ⟨h, n * 3, none⟩ by rw [Option.map_some, Go.WideShapes.add_plain, Nat.zero_add], ← hBv] at hs2
        have HNX := Lib.hid hnext
        clear hrl hnext hHr hPr hQr hBv sA sB
        go_still_tail 12, (by kernel_rfl)
        change wpList _ _ _ _ _ wr.drew
        have HB : Hid (w.grownBy wr.drew (some g)) := drew_only HR.out.grown
        clear HR hs1 hs2
        generalize wr.drew = wd at *
        go_wp2_with fail
        refine HC.out.mono ?_
        rintro e w2 h2
        obtain ⟨rfl, hb, hg⟩ := h2.refill
        rw [HNX.out] at hb
        have HR2 : Hid (PIs w g v xs ds (i + 1) w2) := ⟨hb, HB.out.trans hg⟩
        clear hb hg h2 HC
        go_wp2_with fail
        go_roundg g2
        case measure => omega
        case rel => exact ⟨i + 1, by have := HIG.out; omega, by go_num, HR2⟩
end Go.Proofs.Yticbgikbpafeoaa
