/- Layer bits, the document's answers: Of: contract. -/
import Derived.Test.YtpkpfnilfabkaaaDoorBRb
import Derived.Test.YtpkpfnilfabkaaaDoorBRd
namespace Go.Proofs.YtpkpfnilfabkaaaDoor
open Go.RowKit Go.Shelf
attribute [local go_sem] Oper.semAt_some

/-- A row in a box, while it grows. -/
structure RowIs (w : World) (N : Nat) (A : Option Addr) (c : Nat) (wr : World) : Prop where
  box : Blk wr (w.heap.size + 1) 24 #[.slice A N c]
  own : wr.ownsRow (w.heap.size + 2) 51 1 (.slice A N c) N (wcells (List.replicate N 0))
  ret : Blk wr w.heap.size 24 #[.slice none 0 0]
  below : Below w.heap.size w wr
/-- Words in a box, while they are filled. -/
structure PutIs (w : World) (N : Nat) (A : Option Addr) (c : Nat) (ws : List Nat) (wr : World) : Prop where
  box : Blk wr (w.heap.size + 1) 24 #[.slice A N c]
  own : OW (w.heap.size + 2) wr A N ws
  ret : Blk wr w.heap.size 24 #[.slice none 0 0]
  below : Below w.heap.size w wr
theorem PutIs.put {w wr : World} {N c i x : Nat} {A : Option Addr} {ws ws' : List Nat} (h : PutIs w N A c ws wr) (hi : i < N) (hw : ws.set i x = ws') :
    ∃ g u, A = some ⟨g, 0, none⟩ ∧ wr.cell? ⟨g, i, none⟩ = some u ∧ wr.frozen? ⟨g, i, none⟩ = false ∧ PutIs w N A c ws' (wr.setCell ⟨g, i, none⟩ (.int .u64 (x : Int))) := by
  have hl := h.own.1
  obtain ⟨g, cs, rfl, hg, hb, hc⟩ := h.own.2 (by omega)
  have hcell : ∃ u, cs[i]? = some u := ⟨_, hc i _ (wcells_at (by omega))⟩
  obtain ⟨u, hu⟩ := hcell
  refine ⟨g, u, rfl, by rw [hb.cell]; exact hu, hb.frozen i, h.box.far (p := ⟨g, i, none⟩) (by show w.heap.size + 1 ≠ g; omega) _, ⟨by rw [← hw]; simp [hl], fun _ => ⟨g, _, rfl, hg, hb.set_ i _, fun j v hv => ?_⟩⟩, h.ret.far (p := ⟨g, i, none⟩) (by show w.heap.size ≠ g; omega) _, h.below.setCell (p := ⟨g, i, none⟩) (by show w.heap.size ≤ g; omega) _⟩
  have hi2 : i < cs.size := by
    rcases Nat.lt_or_ge i cs.size with h1 | h1
    · exact h1
    · rw [Array.getElem?_eq_none h1] at hu; cases hu
  rw [← hw, ← wcells_set, List.getElem?_set] at hv
  rw [Array.getElem?_setIfInBounds]
  by_cases e : i = j
  · rw [if_pos e] at hv
    rw [if_pos e, if_pos hi2]
    split at hv
    · exact hv
    · cases hv
  · rw [if_neg e] at hv
    rw [if_neg e]
    exact hc j v hv
theorem RowIs.grow {w wr w2 : World} {N c c3 : Nat} {A A3 : Option Addr} {o : Obj} (h : RowIs w N A c wr) (hown : w2.ownsRow (w.heap.size + 2) 51 1 (.slice A3 (N + 1) c3) (N + 1) (wcells (List.replicate N 0) ++ [.int .u64 0])) (hg : (wr.alloc o).grownBy w2 (Value.slice A N c).ownBlock) :
    w2.cell? ⟨w.heap.size + 1, 0, none⟩ = some (.slice A N c) ∧ w2.frozen? ⟨w.heap.size + 1, 0, none⟩ = false ∧ RowIs w (N + 1) A3 c3 (w2.setCell ⟨w.heap.size + 1, 0, none⟩ (.slice A3 (N + 1) c3)) := by
  have hne : ∀ b, b < w.heap.size + 2 → some b ≠ (Value.slice A N c).ownBlock := fun b hb e => by have := own_block1 h.own _ e.symm; omega
  have b1 := (h.box.alloc o).grown hg fun e => hne _ (by omega) e
  have b2 := (h.ret.alloc o).grown hg fun e => hne _ (by omega) e
  have b3 : Below w.heap.size w w2 := (h.below.alloc h.below.size o).grown hg (by simp; have := h.below.size; omega) (fun b e => by have := own_block1 h.own _ e; omega)
  refine ⟨b1.cell 0, b1.frozen 0, b1.set_ 0 _, ?_, b2.far (p := ⟨w.heap.size + 1, 0, none⟩) (by show w.heap.size ≠ w.heap.size + 1; omega) _, b3.setCell (p := ⟨w.heap.size + 1, 0, none⟩) (by show w.heap.size ≤ w.heap.size + 1; omega) _⟩
  have := hown.kept (grownBy_setCell' w2 (w.heap.size + 1) (.slice A3 (N + 1) c3)) (.inr fun e => by have := own_block1 hown _ e; omega)
  rwa [show wcells (List.replicate N 0) ++ [.int .u64 0] = wcells (List.replicate (N + 1) 0) by rw [wcells_zero, wcells_zero, List.replicate_succ']] at this
theorem RowIs.put {w wr : World} {N c : Nat} {A : Option Addr} {ws : List Nat} (h : RowIs w N A c wr) (e : ws = List.replicate N 0) : PutIs w N A c ws wr := ⟨h.box, by rw [e]; exact OW.of_own h.own, h.ret, h.below⟩

set_option maxRecDepth 100000 in
set_option maxHeartbeats 4000000 in
theorem rof_any (A : Option Addr) (n c : Nat) (l : List Int) (hl : mayL l) (hn : n ≤ 100000) (w : World) (hA : RI w w.heap.size A n l) :
    Calls Tryd.prog 23 #[.slice A n c] w (SetOk (setW (ofF l)) w) := by
  obtain ⟨i0, hi, hz0, hz1, hz2⟩ := info_parts u64_info
  have HL := Lib.hid hl
  have HLN := Lib.hid hA.len
  have HR := Lib.hid fun W (h : Below w.heap.size w W) => hA.below h
  have hR0 : Hid (RowIs w 0 none 0 ((w.alloc (.cells #[.slice none 0 0] 24)).alloc (.cells #[.slice none 0 0] 24))) := by
    have b1 := Blk.new (w.alloc (.cells #[.slice none 0 0] 24)) 24 #[.slice none 0 0]
    rw [World.size_alloc] at b1
    exact ⟨b1, World.ownsRow_nil _ _ _ _, (Blk.new w _ _).alloc _, (one_more w _).trans ((one_more _ _).mono (by simp))⟩
  have HHAS := Lib.hid fun W (h : Below w.heap.size w W) z => rhas_any A n c l z (by omega) W ((hA.below h).more h.size)
  clear hA hl
  go_enter Tryd.func23, Tryd.ntmps23
  go_wp2_with fail
  go_loopw [11] (fun i wr => ∃ (k N : Nat) (A1 : Option Addr) (c1 : Nat), k ≤ n ∧ i = .int .i64 k ∧ N ≤ 157 ∧ Hid (TopIs l k N) ∧ Hid (RowIs w N A1 c1 wr)) (fun i _ => n - (intOf i).toNat)
  case atStart => exact ⟨0, 0, none, 0, Nat.zero_le _, rfl, by omega, top_start l, hR0⟩
  case round =>
    clear hR0
    obtain ⟨k, N, A1, c1, hk, rfl, hN, HT, HW⟩ := hrel
    by_cases hlt : k < n
    · obtain ⟨b, o, rfl, hb, hc⟩ := (HR.out _ HW.out.below).at_ hlt
      have hkl : k < l.length := by rw [HLN.out]; exact hlt
      obtain ⟨m, hz, hm⟩ := may_nat (HL.out _ (getD_mem' hkl))
      have HST := Lib.hid fun M => top_step (M := M) HT.out hkl hz
      rw [hz] at hc
      clear hz hkl HT
      go_wp2_with fail
      go_loopg [15] (m / 64 + 1) (fun gg _ wr => ∃ (M : Nat) (A2 : Option Addr) (c2 : Nat), N ≤ M ∧ M ≤ 157 ∧ m / 64 + 1 ≤ M + gg ∧ (M = N ∨ M ≤ m / 64 + 1) ∧ Hid (RowIs w M A2 c2 wr))
      case atStart => exact ⟨N, A1, c1, Nat.le_refl _, hN, by omega, .inl rfl, HW⟩
      case round =>
        clear HW
        obtain ⟨M, A2, c2, h1, h2, h3, h4, HW⟩ := hrel
        have c0 := HW.out.box.cell 0
        have d4 : IntKind.i64.wrap ((m : Int) / 64) = (m : Int) / 64 := IntWalk.i64_in _ (by omega)
        by_cases hMm : M ≤ m / 64
        · have hq : decide ((M : Int) ≤ (m : Int) / 64) = true := by simp; omega
          have OW2 := Lib.hid (HW.out.own.alloc (.cells #[.int .u64 0] 51))
          have hs1 := HW.out.below.size
          have HW0 := Lib.hid HW
          clear HW
          go_wp2_with (at_builtin; refine wpList_append_own _ rfl (.tmp 22) (.tmp 23) 22 rfl (w.heap.size + 2) 51 i0 _ 1 8 Tryd.underlying22 hi hz0 hz1 hz2 rfl (by decide) _ _ _ rfl OW2.out ⟨wr.heap.size, 0, none⟩ 1 1 [.int .u64 0] rfl rfl (cell_one_new _ _ _) (by simp [Value.oneCell']) (by unfold maxLen; omega) (by omega) (by have := HW0.out.out.box.lt; simp; omega) ?_; intro v' w2 hown' hgrow _; obtain ⟨A3, c3, rfl, _, _⟩ := own_form1 hown'; obtain ⟨g0, g1, HW3⟩ := HW0.out.out.grow hown' hgrow; have HW4 := Lib.hid HW3; clear hown' hgrow HW3)
          clear HW0 OW2
          go_wp2_with fail
          go_roundg (m / 64 - M)
          case measure => omega
          case rel => exact ⟨M + 1, A3, c3, by omega, by omega, by omega, .inr (by omega), HW4⟩
        · have hq : decide ((M : Int) ≤ (m : Int) / 64) = false := by simp; omega
          have HT2 := Lib.hid (HST.out M h1 (by omega) (by omega))
          go_wp2_with fail
          go_roundw
          case rel => exact ⟨k + 1, M, A2, c2, by omega, by go_num, by omega, HT2, HW⟩
          case measure => simp [intOf]; omega
    · obtain rfl : k = n := by omega
      have HT2 := Lib.hid HT.out
      rw [← HLN.out] at HT2
      have HFS := Lib.hid (fill_set HT2.out HL.out)
      have HP0 := Lib.hid (HW.out.put (part_zero l N))
      have c0 := HW.out.box.cell 0
      clear HT HT2
      go_wp2_with fail
      go_loopw [30] (fun i wr => ∃ j : Nat, j ≤ N ∧ i = .int .i64 j ∧ Hid (PutIs w N A1 c1 (partW l N j) wr)) (fun i _ => N - (intOf i).toNat)
      case atStart => exact ⟨0, Nat.zero_le _, rfl, HP0⟩
      case round =>
        clear HP0 HW c0
        obtain ⟨j, hj, rfl, HP⟩ := hrel
        have c0 := HP.out.box.cell 0
        by_cases hjl : j < N
        · have HH := Lib.hid (HHAS.out _ HP.out.below)
          have HPUT := Lib.hid fun x hx => HP.out.put (i := j) (x := x) hjl (part_set hjl hx)
          go_wp2_with fail
          go_loop [7, 33] (fun y i => ∃ (q x : Nat), q ≤ 64 ∧ i = .int .i64 q ∧ y = .int .u64 (x : Int) ∧ Hid (x = 2 ^ (64 - q) * bitsF (fun k => ofF l (64 * j + k)) q)) (fun _ i => 64 - (intOf i).toNat)
          case atStart => exact ⟨0, 0, by omega, rfl, rfl, by show _ = _; simp [bitsF]⟩
          case round =>
            obtain ⟨q, x, hq, rfl, rfl, HX⟩ := hrel
            have hx := word_lt hq HX.out
            by_cases hql : q < 64
            · have HST := Lib.hid (word_step hql HX.out)
              have x1 : IntKind.i64.wrap (64 * (j : Int)) = 64 * (j : Int) := IntWalk.i64_in _ (by omega)
              have x2 : IntKind.i64.wrap (64 * (j : Int) + (q : Int)) = 64 * (j : Int) + (q : Int) := IntWalk.i64_in _ (by omega)
              have HC := Lib.hid (HH.out (64 * (j : Int) + (q : Int)))
              have hm : decide ((64 * (j : Int) + (q : Int)) ∈ l) = ofF l (64 * j + q) := by unfold ofF; push_cast; rfl
              rw [hm] at HC
              clear hm
              rcases Bool.eq_false_or_eq_true (ofF l (64 * j + q)) with hb | hb
              · rw [hb] at HC
                have HN : Hid (x / 2 + 9223372036854775808 = 2 ^ (64 - (q + 1)) * bitsF (fun k => ofF l (64 * j + k)) (q + 1)) := by
                  have := HST.out
                  rwa [if_pos hb] at this
                have x3 : IntKind.u64.wrap ((x : Int) / 2 + 9223372036854775808) = ((x / 2 + 9223372036854775808 : Nat) : Int) := by
                  rw [IntKind.wrap_u64]; omega
                clear hb
                go_wp2_with fail
                refine HC.out.mono ?_
                rintro e w1 ⟨rfl, rfl⟩
                go_wp2_with fail
                go_round
                case rel => exact ⟨q + 1, x / 2 + 9223372036854775808, by omega, by go_num, by go_num, HN⟩
                case measure => simp [intOf]; omega
              · rw [hb] at HC
                have HN : Hid (x / 2 = 2 ^ (64 - (q + 1)) * bitsF (fun k => ofF l (64 * j + k)) (q + 1)) := by
                  have := HST.out
                  rwa [if_neg (by rw [hb]; decide), Nat.add_zero] at this
                clear hb
                go_wp2_with fail
                refine HC.out.mono ?_
                rintro e w1 ⟨rfl, rfl⟩
                go_wp2_with fail
                go_round
                case rel => exact ⟨q + 1, x / 2, by omega, by go_num, by go_num, HN⟩
                case measure => simp [intOf]; omega
            · obtain rfl : q = 64 := by omega
              have hxe : bitsF (fun k => ofF l (64 * j + k)) 64 = x := by have := HX.out; rw [this]; simp
              obtain ⟨g, u, rfl, hc1, hf1, HP2⟩ := HPUT.out x hxe
              have HP3 := Lib.hid HP2
              clear HP2 HPUT HX hxe
              go_wp2_with fail
              go_roundw
              case rel => exact ⟨j + 1, by omega, by go_num, HP3⟩
              case measure => simp [intOf]; omega
        · obtain rfl : j = N := by omega
          have zc := HP.out.ret.cell 0
          have zf := HP.out.ret.frozen 0
          have hz := World.cell?_setCell_same' wr ⟨w.heap.size, 0, none⟩ (.slice A1 j c1) (by rw [zc]; rfl)
          have HE := Lib.hid (set_end (c := c1) (HP.out.own.less (by omega)) HP.out.ret HP.out.below (Nat.le_refl _) ((part_end l j).trans HFS.out))
          clear HP
          go_wp2_with fail
          exact bodyPost_ret (v := .agg #[.slice A1 j c1]) (by simp [results, Tryd.results23, go_sem, hz]) rfl HE.out
end Go.Proofs.YtpkpfnilfabkaaaDoor
