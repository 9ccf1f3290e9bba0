/- The laws of layer history: a history is written over (spoil): contract. -/
import Derived.Test.YtlnbmmaminflcaaGreatDoorM30
import Derived.Test.YtlnbmmaminflcaaGreatDoorM33
import Derived.Test.YtlnbmmaminflcaaGreatDoorM16
import Derived.Test.YtlnbmmaminflcaaGreatDoorM8
import Derived.Test.YtlnbmmaminflcaaGreatDoorM17
-- holds: YtlnbmmaminflcaaGreatDoorVZa YtlnbmmaminflcaaGreatDoorVJi YtlnbmmaminflcaaGreatDoorVJj YtlnbmmaminflcaaGreatDoorVJkc YtlnbmmaminflcaaGreatDoorVJw
namespace Go.Proofs.YtlnbmmaminflcaaGreatDoor
open Go.RowKit Go.Shelf
section
theorem num_names {H : Hist} {s : Nat} (hs : s < 4) : (numP H).names s = namedN (H.names s) (spk s (refs H)) := by
 have : s = 0 ∨ s = 1 ∨ s = 2 ∨ s = 3 := by omega
 rcases this with rfl | rfl | rfl | rfl <;> simp [Hist.names, numP]
end
section
variable {H : Hist} {e : EvP} {s : Nat}
theorem fine_may (h : fineE e = true) : mayE e = true := by unfold fineE at h; simp at h; exact h.2.1
end
section
variable {H : Hist} {s : Nat} {n : Int}
theorem get_of {l : List ByteArray} (h : 0 ≤ n ∧ n < l.length) : l[n.toNat]? = some (l.getD n.toNat ⟨#[]⟩) := by
 rw [List.getD_eq_getElem?_getD, List.getElem?_eq_getElem (by omega : n.toNat < l.length)]; rfl
end
section
theorem cf9 {X : World} {g : Nat} {t : TypeId} {c0 c1 c2 c3 c4 c5 c6 c7 c8 : Value} (h : Blk X g t #[c0, c1, c2, c3, c4, c5, c6, c7, c8]) :
 (X.cell? ⟨g, 0, none⟩ = some c0 ∧ X.cell? ⟨g, 1, none⟩ = some c1 ∧ X.cell? ⟨g, 2, none⟩ = some c2 ∧ X.cell? ⟨g, 3, none⟩ = some c3 ∧ X.cell? ⟨g, 4, none⟩ = some c4 ∧ X.cell? ⟨g, 5, none⟩ = some c5 ∧ X.cell? ⟨g, 6, none⟩ = some c6 ∧ X.cell? ⟨g, 7, none⟩ = some c7 ∧ X.cell? ⟨g, 8, none⟩ = some c8) ∧
 X.frozen? ⟨g, 0, none⟩ = false ∧ X.frozen? ⟨g, 1, none⟩ = false ∧ X.frozen? ⟨g, 2, none⟩ = false ∧ X.frozen? ⟨g, 3, none⟩ = false ∧ X.frozen? ⟨g, 4, none⟩ = false ∧ X.frozen? ⟨g, 5, none⟩ = false ∧ X.frozen? ⟨g, 6, none⟩ = false ∧ X.frozen? ⟨g, 7, none⟩ = false ∧ X.frozen? ⟨g, 8, none⟩ = false :=
 ⟨⟨h.cell 0, h.cell 1, h.cell 2, h.cell 3, h.cell 4, h.cell 5, h.cell 6, h.cell 7, h.cell 8⟩, h.frozen 0, h.frozen 1, h.frozen 2, h.frozen 3, h.frozen 4, h.frozen 5, h.frozen 6, h.frozen 7, h.frozen 8⟩
end
section
theorem named_next {l : List ByteArray} {ns : List Int} {i : Nat} {n : Int} (h : ns[i]? = some n) : namedN l (ns.take (i + 1)) = namedN l (ns.take i) ++ [l.getD n.toNat ⟨#[]⟩] := by
 unfold namedN
 rw [List.take_add_one, h, List.map_append]
 rfl
end
section
set_option maxRecDepth 100000 in
set_option maxHeartbeats 8000000 in
theorem named_any (A : Option Addr) (n c : Nat) (ss : List ByteArray) (A2 : Option Addr) (k c2 : Nat) (ns : List Int) (hk : k ≤ 1000) (hns : ∀ x ∈ ns, 0 ≤ x ∧ x < ss.length) (w : World) (hR : Reads w w.heap.size 1 A n (strs ss)) (hR2 : Reads w w.heap.size 1 A2 k (ints ns)) :
 Calls Tryz.prog 52 #[.slice A n c, .slice A2 k c2] w (CopyS (namedN ss ns) w) := by
 obtain ⟨i0, hi, hz0, hz1, hz2⟩ := info_parts str_info
 have HL := Lib.hid (strs_len hR)
 have HL2 := Lib.hid (ints_len hR2)
 have HR := Lib.hid hR
 have HR2 := Lib.hid hR2
 have HNS := Lib.hid hns
 clear hR hR2 hns
 go_enter Tryz.func52, Tryz.ntmps52
 go_wp2_with fail
 go_loopw [5, 10] (fun v i wr => ∃ j : Nat, j ≤ k ∧ i = .int .i64 j ∧ Hid (GotS w (namedN ss (ns.take j)) v wr)) (fun _ i _ => k - (intOf i).toNat)
 case atStart => exact ⟨0, Nat.zero_le _, rfl, ⟨World.ownsRow_nil _ _ _ _, Below.refl _ _⟩⟩
 case round =>
  obtain ⟨j, hj, rfl, HG⟩ := hrel
  by_cases hjk : j < k
  ·have hlt : (j : Int) < (k : Int) := by omega
   obtain ⟨x, hx⟩ : ∃ x, ns[j]? = some x := ⟨ns[j]'(by rw [HL2.out]; exact hjk), List.getElem?_eq_getElem _⟩
   obtain ⟨b2, o2, rfl, hb2, hc2⟩ := int_at (HR2.out.below HG.out.below) hx
   have hin := HNS.out x (List.mem_of_getElem? hx)
   obtain ⟨t, rfl⟩ : ∃ t : Nat, x = (t : Int) := ⟨x.toNat, by omega⟩
   have hs : ss[t]? = some (ss.getD t ⟨#[]⟩) := by rw [List.getD_eq_getElem?_getD, List.getElem?_eq_getElem (show t < ss.length by omega)]; rfl
   have HY : Hid (namedN ss (ns.take (j + 1)) = namedN ss (ns.take j) ++ [ss.getD t ⟨#[]⟩]) := named_next hx
   obtain ⟨b, o, rfl, hb, hc⟩ := str_at (HR.out.below HG.out.below) hs
   have htl : (t : Int) < (n : Int) := by have := HL.out; omega
   have hfl : (namedN ss (ns.take j)).length ≤ 1000 := by unfold namedN; rw [List.length_map, List.length_take]; omega
   have HFL := Lib.hid hfl
   clear hx hs hb hb2 hin hfl
   generalize ss.getD t ⟨#[]⟩ = s at *
   have OW := Lib.hid (HG.out.alloc (.cells #[.string s] 9))
   have SL := Lib.hid (str_lit wr [s] 9 #[.string s] rfl)
   generalize hq : namedN ss (ns.take j) = q at *
   have hql := HFL.out
   go_wp2_with (at_builtin; refine wpList_append_any _ rfl (.tmp 14) (.tmp 19) 22 rfl w.heap.size 9 i0 _ 1 16 Tryz.underlying22 hi hz0 hz1 hz2 rfl (by decide) _ _ _ rfl OW.out.own _ (some ⟨wr.heap.size, 0, none⟩) 1 _ (strs [s]) rfl SL.out (strs_one _) (by unfold maxLen; omega) (by omega) OW.out.below.size ?_; intro v' w2 hown' hgrow _)
   have HN2 : Hid (GotS w (namedN ss (ns.take (j + 1))) v' w2) := by show GotS _ _ _ _; rw [HY.out]; exact OW.out.more hown' hgrow
   clear hown' hgrow OW HG hq hql SL
   go_wp2_with fail
   go_roundw
   case rel => exact ⟨j + 1, by omega, by go_num, HN2⟩
   case measure => simp [intOf]; omega
  ·obtain rfl : j = k := by omega
   have HF : Hid (namedN ss (ns.take j) = namedN ss ns) := by show _ = _; rw [List.take_of_length_le (Nat.le_of_eq HL2.out)]
   obtain ⟨A3, c3, rfl, h1, h2⟩ := own_form2 HG.out.own
   go_wp2_with fail
   go_ret
   have h9 := HG.out.own
   rw [HF.out] at h9
   exact ⟨A3, _, c3, by rw [HF.out]; rfl, h9, HG.out.below⟩
end
section
variable {w X Y : World} {Bx B : Nat} {h m : HistM} {H : Hist} {e : EvP}
theorem num_small (hS : Small H) (hs : shapedB H = true) : Small (numP H) := by
 have hl : ∀ s, s < 4 → ((numP H).names s).length ≤ 60 := fun s h4 => by
  rw [num_names h4]
  unfold namedN
  rw [List.length_map]
  have := spk_small hs hS s (refs H).length
  rwa [List.take_length] at this
 refine ⟨hl 0 (by omega), hl 1 (by omega), hl 2 (by omega), hl 3 (by omega), ?_, ?_, ?_, ?_, ?_, ?_, ?_, ?_⟩
 ·show (H.ev.map _).length ≤ 200
  rw [List.length_map]; exact hS.ev
 ·show (H.od.map _).length ≤ 60
  rw [List.length_map]; exact hS.od
 ·show (H.ma.map _).length ≤ 60
  rw [List.length_map]; exact hS.ma
 ·show (H.wa.map _).length ≤ 60
  rw [List.length_map]; exact hS.wa
 ·intro e he
  obtain ⟨x, hx, rfl⟩ := List.mem_map.1 (show e ∈ H.ev.map (reE (anewI (refs H))) from he)
  have h9 : (reE (anewI (refs H)) x).scan.length = x.scan.length := by
   unfold reE
   (repeat' split) <;> simp
  rw [h9]
  exact hS.sc x hx
 ·intro e he
  obtain ⟨x, hx, rfl⟩ := List.mem_map.1 (show e ∈ H.od.map (reO (anewI (refs H))) from he)
  show (x.ts.map _).length ≤ 60
  rw [List.length_map]; exact hS.ot x hx
 ·intro e he
  obtain ⟨x, hx, rfl⟩ := List.mem_map.1 (show e ∈ H.ma.map (reM (anewI (refs H))) from he)
  show (x.ts.map _).length ≤ 60
  rw [List.length_map]; exact hS.mt x hx
 ·intro s h4 b hb
  rw [num_names h4] at hb
  obtain ⟨n, hn, rfl⟩ := List.mem_map.1 hb
  have hin := shaped_in hs (mem_spk.1 hn)
  exact hS.tx s h4 _ (List.mem_of_getElem? (get_of (by rw [← many_len]; exact hin)))
end
end Go.Proofs.YtlnbmmaminflcaaGreatDoor
namespace Go.Proofs.YtlnbmmaminflcaaGreatDoor
open Go.RowKit Go.Shelf

def placesL (l ns : List Int) : List Int := ns.map (atI l)
theorem places_next {l ns : List Int} {i : Nat} {n : Int} (h : ns[i]? = some n) : placesL l (ns.take (i + 1)) = placesL l (ns.take i) ++ [atI l n] := by
 unfold placesL
 rw [List.take_add_one, h, List.map_append]
 rfl
def RowIs (xs : List Int) (w : World) (e : Ending) (w' : World) : Prop := ∃ (A : Option Addr) (c : Nat), e = .returned (.slice A xs.length c) ∧ w'.ownsRow w.heap.size 3 1 (.slice A xs.length c) xs.length (ints xs) ∧ Below w.heap.size w w'
set_option maxRecDepth 100000 in
set_option maxHeartbeats 8000000 in
theorem places_any (A : Option Addr) (n c : Nat) (zs : List Int) (A2 : Option Addr) (k c2 : Nat) (ns : List Int) (hn : n ≤ 1000000) (hk : k ≤ 1000) (w : World) (hR : Reads w w.heap.size 1 A n (ints zs)) (hR2 : Reads w w.heap.size 1 A2 k (ints ns)) :
 Calls Tryz.prog 55 #[.slice A n c, .slice A2 k c2] w (RowIs (placesL zs ns) w) := by
 obtain ⟨i0, hi, hz0, hz1, hz2⟩ := info_parts int_info11
 have HL2 := Lib.hid (ints_len hR2)
 have HR := Lib.hid hR
 have HR2 := Lib.hid hR2
 clear hR hR2
 go_enter Tryz.func55, Tryz.ntmps55
 go_wp2_with fail
 go_loopw [5, 10] (fun v i wr => ∃ j : Nat, j ≤ k ∧ i = .int .i64 j ∧ Hid (GotI w (placesL zs (ns.take j)) v wr)) (fun _ i _ => k - (intOf i).toNat)
 case atStart => exact ⟨0, Nat.zero_le _, rfl, ⟨World.ownsRow_nil _ _ _ _, Below.refl _ _⟩⟩
 case round =>
  obtain ⟨j, hj, rfl, HG⟩ := hrel
  by_cases hjk : j < k
  ·have hlt : (j : Int) < (k : Int) := by omega
   obtain ⟨x, hx⟩ : ∃ x, ns[j]? = some x := ⟨ns[j]'(by rw [HL2.out]; exact hjk), List.getElem?_eq_getElem _⟩
   obtain ⟨b2, o2, rfl, hb2, hc2⟩ := int_at (HR2.out.below HG.out.below) hx
   have HC := Lib.hid (at11_any A n c zs x hn wr ((HR.out.below HG.out.below).more HG.out.below.size))
   have HY := Lib.hid (places_next (l := zs) hx)
   have hfl : (placesL zs (ns.take j)).length ≤ 1000 := by unfold placesL; rw [List.length_map, List.length_take]; omega
   have HFL := Lib.hid hfl
   clear hx hb2 hfl
   go_wp2_with fail
   refine HC.out.mono ?_
   rintro e w1 ⟨rfl, rfl⟩
   generalize atI zs x = y at *
   have OW := Lib.hid (HG.out.alloc (.cells #[.int .i64 y] 3))
   have hs1 := HG.out.below.size
   generalize hq : placesL zs (ns.take j) = q at *
   have hql := HFL.out
   clear HC
   go_wp2_with (at_builtin; refine wpList_append_own _ rfl (.tmp 14) (.tmp 18) 45 rfl w.heap.size 3 i0 _ 1 8 Tryz.underlying45 hi hz0 hz1 hz2 rfl (by decide) _ _ _ rfl OW.out.own ⟨w1.heap.size, 0, none⟩ 1 1 [.int .i64 y] rfl rfl (cell_one_new w1 (.int .i64 y) 3) (by simp [Value.oneCell']) (by unfold maxLen; omega) (by omega) (by simp at hs1 ⊢; omega) ?_; intro v' w2 hown' hgrow _)
   have HN2 : Hid (GotI w (placesL zs (ns.take (j + 1))) v' w2) := by show GotI _ _ _ _; rw [HY.out]; exact OW.out.more hown' hgrow
   clear hown' hgrow OW HG hs1 hq hql
   go_wp2_with fail
   go_roundw
   case rel => exact ⟨j + 1, by omega, by go_num, HN2⟩
   case measure => simp [intOf]; omega
  ·obtain rfl : j = k := by omega
   have HF : Hid (placesL zs (ns.take j) = placesL zs ns) := by show _ = _; rw [List.take_of_length_le (Nat.le_of_eq HL2.out)]
   obtain ⟨A3, c3, rfl, h1, h2⟩ := own_form2 HG.out.own
   go_wp2_with fail
   go_ret
   have h9 := HG.out.own
   rw [HF.out] at h9
   exact ⟨A3, c3, by rw [HF.out]; rfl, h9, HG.out.below⟩
end Go.Proofs.YtlnbmmaminflcaaGreatDoor
namespace Go.Proofs.YtlnbmmaminflcaaGreatDoor
open Go.RowKit Go.Shelf

def anewV (l : List Int) (t k : Int) : Int := if 0 < k then atI l t else t
set_option maxRecDepth 100000 in
set_option maxHeartbeats 4000000 in
theorem anew_any (A : Option Addr) (n c : Nat) (zs : List Int) (t k : Int) (hn : n ≤ 1000000) (w : World) (hR : Reads w w.heap.size 1 A n (ints zs)) :
 Calls Tryz.prog 54 #[.slice A n c, .agg #[.int .i64 t, .int .i64 k]] w fun e w' => e = .returned (.agg #[.int .i64 (anewV zs t k), .int .i64 k]) ∧ Below w.heap.size w w' := by
 obtain ⟨kv, kr, b0, hs0⟩ := itwo w #[.int .i64 t, .int .i64 k] #[.int .i64 0, .int .i64 0] 36 36
 have HC := Lib.hid (at11_any A n c zs t hn _ ((hR.below b0).more b0.size))
 have KV := Lib.hid kv
 have KR := Lib.hid kr
 have B0 := Lib.hid b0
 have fin : ∀ (X : World) (u : Int), Blk X (w.heap.size + 1) 36 #[.int .i64 0, .int .i64 0] → Below w.heap.size w X → Hid (Blk ((X.setCell ⟨w.heap.size + 1, 0, none⟩ (.int .i64 u)).setCell ⟨w.heap.size + 1, 1, none⟩ (.int .i64 k)) (w.heap.size + 1) 36 #[.int .i64 u, .int .i64 k] ∧ Below w.heap.size w ((X.setCell ⟨w.heap.size + 1, 0, none⟩ (.int .i64 u)).setCell ⟨w.heap.size + 1, 1, none⟩ (.int .i64 k))) := fun X u hb hB => by
  have h := (hb.set_ 0 (.int .i64 u)).set_ 1 (.int .i64 k)
  simp at h
  exact ⟨h, (hB.setCell (p := ⟨w.heap.size + 1, 0, none⟩) (Nat.le_succ _) _).setCell (p := ⟨w.heap.size + 1, 1, none⟩) (Nat.le_succ _) _⟩
 clear kv kr b0 hs0 hR
 by_cases hk : 0 < k
 ·have HE : Hid (anewV zs t k = atI zs t) := by show _ = _; unfold anewV; rw [if_pos hk]
  go_enter Tryz.func54, Tryz.ntmps54
  go_wp2_with fail
  refine HC.out.mono ?_
  rintro e w1 ⟨rfl, rfl⟩
  generalize (w.alloc (.cells #[.int .i64 t, .int .i64 k] 36)).alloc (.cells #[.int .i64 0, .int .i64 0] 36) = W0 at *
  generalize atI zs t = u at *
  have z0 := KV.out.cell 0
  have z1 : (W0.setCell ⟨w.heap.size, 0, none⟩ (.int .i64 u)).cell? ⟨w.heap.size, 1, none⟩ = some (.int .i64 k) := by have h := (KV.out.set_ 0 (.int .i64 u)).cell 1; simpa using h
  have zz : (W0.setCell ⟨w.heap.size, 0, none⟩ (.int .i64 u)).cell? ⟨w.heap.size, 0, none⟩ = some (.int .i64 u) := by have h := (KV.out.set_ 0 (.int .i64 u)).cell 0; simpa using h
  have z2 := KV.out.frozen 0
  have kr1 := KR.out.far (p := ⟨w.heap.size, 0, none⟩) (by show w.heap.size + 1 ≠ w.heap.size; omega) (.int .i64 u)
  have y0 := kr1.cell 0
  have y1 := kr1.cell 1
  have f0 := kr1.frozen 0
  have f1 := kr1.frozen 1
  have HF := fin _ u kr1 (B0.out.setCell (p := ⟨w.heap.size, 0, none⟩) (Nat.le_refl _) _)
  clear HC kr1 fin
  go_wp2_with fail
  have r0 := HF.out.1.cell 0
  have r1 := HF.out.1.cell 1
  exact bodyPost_ret (v := .agg #[.int .i64 u, .int .i64 k]) (by simp [results, Tryz.results54, go_sem, r0, r1]) rfl ⟨by rw [HE.out], HF.out.2⟩
 ·have HE : Hid (anewV zs t k = t) := by show _ = _; unfold anewV; rw [if_neg hk]
  have B2 : Hid (Below w.heap.size w ((w.alloc (.cells #[.int .i64 t, .int .i64 k] 36)).alloc (.cells #[.int .i64 t, .int .i64 k] 36))) := ((Below.refl _ w).alloc (Nat.le_refl _) _).alloc (by simp) _
  clear HC fin
  go_enter Tryz.func54, Tryz.ntmps54
  go_wp2_with fail
  exact bodyPost_ret (v := .agg #[.int .i64 t, .int .i64 k]) (by simp [results, Tryz.results54, go_sem]) rfl ⟨by rw [HE.out], B2.out⟩
end Go.Proofs.YtlnbmmaminflcaaGreatDoor
namespace Go.Proofs.YtlnbmmaminflcaaGreatDoor
open Go.RowKit
section
variable {P : Program} {ops : Array Oper} {Q : Exit → Act → World → Prop} {md : Region.Mode} {S : World → Prop} {k : Nat}
theorem kv2 {oi : Oper} {fuel : Nat} {listed : Array Bool} {a : Act} {w : World} (i : Nat) (d : Option Tmp) (v : Value) (hi : ops[i]? = some oi) (hd : oi.dst = d)
 (hy : ∀ w', S w' → (execOp a.eval oi).run P w' = .ok (.value v) w') (h : wpAnyK P md ops Q S k fuel (listed.setIfInBounds i true) (a.put d v) w)
 (h1 : Region.wanted oi (yielded ops a.tmps) = true := by kernel_rfl) (hs : Region.noSelect ops = true := by as_aux_lemma => kernel_rfl) (hf : Region.free md ops listed i = true := by as_aux_lemma => kernel_rfl) (hr : (Region.ready md ops listed).contains i = true := by as_aux_lemma => kernel_rfl)
 (hk : waitsFor md ops k i = true := by as_aux_lemma => kernel_rfl) (hl : listed.getD k false = false := by as_aux_lemma => kernel_rfl) (hki : i ≠ k := by decide)
 (hQ : ∀ c a w, Q (.panic c) (a.put d v) w → Q (.panic c) a w := by exact fun _ _ _ h => h) (hS : S w := by assumption) : wpAnyK P md ops Q S k (fuel + 1) listed a w :=
 kv i d v hi hd hy h h1 hs hf hr hk hl hki hQ hS
theorem ka2 {oi : Oper} {fuel : Nat} {listed : Array Bool} {a : Act} {w : World} (i : Nat) (d : Option Tmp) (v : Value) (hi : ops[i]? = some oi) (hd : oi.dst = d)
 (hy : ∀ w', (execOp a.eval oi).run P w' = .ok (.value v) w') (h : wpAnyK P md ops Q S k fuel (listed.setIfInBounds i true) (a.put d v) w)
 (h1 : Region.wanted oi (yielded ops a.tmps) = true := by kernel_rfl) (hs : Region.noSelect ops = true := by as_aux_lemma => kernel_rfl) (hf : Region.free md ops listed i = true := by as_aux_lemma => kernel_rfl) (hr : (Region.ready md ops listed).contains i = true := by as_aux_lemma => kernel_rfl) (hki : i ≠ k := by decide)
 (hQ : ∀ c a w, Q (.panic c) (a.put d v) w → Q (.panic c) a w := by exact fun _ _ _ h => h) (hS : S w := by assumption) : wpAnyK P md ops Q S k (fuel + 1) listed a w :=
 ka i d v hi hd hy h h1 hs hf hr hki hQ hS
theorem kr2 (rs : List Nat) {fuel : Nat} {listed : Array Bool} {a : Act} {w : World} (h : AllReadyK P md ops Q S k fuel listed a w rs) (hr : Region.ready md ops listed = rs := by as_aux_lemma => kernel_rfl) (hne : rs ≠ [] := by simp) : wpAnyK P md ops Q S k (fuel + 1) listed a w := kr rs h hr hne
end
end Go.Proofs.YtlnbmmaminflcaaGreatDoor
namespace Go.Proofs.YtlnbmmaminflcaaGreatDoor
open Go.RowKit Go.Shelf

def Owns (B : Nat) (t : TypeId) (s : Nat) (h : SH) (X : World) : Prop := ∃ xs, X.ownsRow B t s (.slice h.A h.n h.c) h.n xs
structure SpoI (B : Nat) (w : World) (m : HistM) (X : World) : Prop where
 below : Below B w X
 bh : Blk X w.heap.size 28 m.cs
 tr : Owns B 9 1 m.tr.1 X
 ev : ∃ xs, X.ownsRow B 39 9 (.slice m.ev.1.A m.ev.1.n m.ev.1.c) m.ev.1.n xs ∧ ∀ (i : Nat) (p : EvP × SH), m.ev.2[i]? = some p → xs[i * 9 + 8]? = some (.slice p.2.A p.2.n p.2.c)
 od : X.ownsRow B 61 2 (.slice m.od.1.A m.od.1.n m.od.1.c) m.od.1.n (m.od.2.flatMap odCs)
 ma : X.ownsRow B 64 4 (.slice m.ma.1.A m.ma.1.n m.ma.1.c) m.ma.1.n (m.ma.2.flatMap maCs)
 wa : Owns B 67 2 m.wa.1 X
 sc : ∀ p ∈ m.ev.2, Owns B 59 3 p.2 X
 ot : ∀ p ∈ m.od.2, Owns B 3 1 p.2 X
 mt : ∀ p ∈ m.ma.2, Owns B 3 1 p.2 X
section
variable {B g j s : Nat} {t u : TypeId} {w X : World} {m : HistM} {h : SH} {v : Value} {cs : Array Value}
theorem Owns.at_ (o : Owns B t s h X) {k : Nat} (hk : k < h.n * s) : ∃ g, h.A = some ⟨g, 0, none⟩ ∧ B ≤ g ∧ (∃ c, Blk X g t c) ∧ (∃ v, X.cell? ⟨g, k, none⟩ = some v) ∧ X.frozen? ⟨g, k, none⟩ = false := by
 obtain ⟨xs, o⟩ := o
 have hn : 0 < h.n := by rcases Nat.eq_zero_or_pos h.n with e | e; (rw [e] at hk; simp at hk); exact e
 obtain ⟨g, hg⟩ := own_pos o hn
 rw [hg] at o
 obtain ⟨h1, _, cur, hb⟩ := own_in o (g := g) rfl
 have hl : k < xs.length := by rw [o.1]; exact hk
 exact ⟨g, hg, h1, ⟨cur, hb⟩, ⟨xs[k], (o.cellAt k hk).trans (List.getElem?_eq_getElem hl)⟩, o.frozenAt k⟩
theorem Owns.set (o : Owns B t s h X) (hb : Blk X g u cs) (j : Nat) (v : Value) : Owns B t s h (X.setCell ⟨g, j, none⟩ v) := by
 obtain ⟨xs, o⟩ := o
 by_cases hg : (Value.slice h.A h.n h.c).ownBlock = some g
 ·have hA : ∃ a, h.A = some a := by
   cases hx : h.A with
   | none => rw [hx] at hg; cases hg
   | some a => exact ⟨a, rfl⟩
  rcases o.2 with ⟨e, _⟩ | ⟨g2, cap, cur, e, _⟩
  ·injection e with e1 _ _
   rw [e1] at hg
   cases hg
  ·injection e with e1 _ _
   rw [e1] at hg
   injection hg with hg
   have hg2 : g2 = g := hg
   subst hg2
   rw [e1] at o
   have st := (o.stored j v).1
   rw [← e1] at st
   exact ⟨_, st⟩
 ·exact ⟨xs, ((Keep.refl (fun k => k ≠ g) X).set (.inr fun h => h rfl) j v).own o fun g2 hg2 e => hg (by rw [hg2, e])⟩
theorem SpoI.cells (c : SpoI B w m X) (hg : B ≤ g) (hb : Blk X g t cs) (h1 : t ≠ 28) (h2 : t ≠ 39) (h3 : t ≠ 61) (h4 : t ≠ 64) (j : Nat) (v : Value) : SpoI B w m (X.setCell ⟨g, j, none⟩ v) := by
 have k := KeepT.set hb j v
 obtain ⟨xs, he, hx⟩ := c.ev
 exact ⟨c.below.setCell (p := ⟨g, j, none⟩) hg _, k.blk c.bh (Ne.symm h1), c.tr.set hb j v, ⟨xs, k.own he (Ne.symm h2), hx⟩, k.own c.od (Ne.symm h3), k.own c.ma (Ne.symm h4), c.wa.set hb j v, fun p hp => (c.sc p hp).set hb j v, fun p hp => (c.ot p hp).set hb j v, fun p hp => (c.mt p hp).set hb j v⟩
theorem SpoI.kind (c : SpoI B w m X) (hA : m.ev.1.A = some ⟨g, 0, none⟩) (i : Nat) (v : Value) : SpoI B w m (X.setCell ⟨g, i * 9, none⟩ v) := by
 obtain ⟨xs, he, hx⟩ := c.ev
 have he0 := he
 rw [hA] at he
 obtain ⟨hg, _, cur, hb⟩ := own_in he (g := g) rfl
 have k := KeepT.set hb (i * 9) v
 refine ⟨c.below.setCell (p := ⟨g, i * 9, none⟩) hg _, k.blk c.bh (by decide), c.tr.set hb _ v, ⟨xs.set (i * 9) v, ?_, fun q p hp => ?_⟩, k.own c.od (by decide), k.own c.ma (by decide), c.wa.set hb _ v, fun p hp => (c.sc p hp).set hb _ v, fun p hp => (c.ot p hp).set hb _ v, fun p hp => (c.mt p hp).set hb _ v⟩
 ·rw [hA]; exact (he.stored (i * 9) v).1
 ·rw [List.getElem?_set_ne (by omega)]
  exact hx q p hp
end
theorem HOwn.spo {B : Nat} {w X : World} {m : HistM} (h : HOwn B w m) (hb : Below w.heap.size w X) (hB : B ≤ w.heap.size) (hk : Blk X w.heap.size 28 m.cs) : SpoI B w m X := by
 have d := h.on hb
 refine ⟨hb.mono hB, hk, ⟨_, d.nm.own 0 _ rfl⟩, ⟨_, d.ev, fun i p hp => fm_at evCs_len hp rfl⟩, d.od, d.ma, ⟨_, d.wa⟩, fun p hp => ⟨_, d.sc.at_mem (List.mem_map.2 ⟨p, hp, rfl⟩)⟩, fun p hp => ⟨_, d.it.at_mem (List.mem_append_left _ (List.mem_map.2 ⟨p, hp, rfl⟩))⟩, fun p hp => ⟨_, d.it.at_mem (List.mem_append_right _ (List.mem_map.2 ⟨p, hp, rfl⟩))⟩⟩
set_option maxRecDepth 100000 in
set_option maxHeartbeats 8000000 in
theorem spoil11_any (B : Nat) (m : HistM) (hS : Small m.pl) (w : World) (hB : B ≤ w.heap.size) (ho : HOwn B w m) : Calls Tryz.prog 18 #[.agg #[.slice m.tr.1.A m.tr.1.n m.tr.1.c, .slice m.se.1.A m.se.1.n m.se.1.c, .slice m.ob.1.A m.ob.1.n m.ob.1.c, .slice m.pr.1.A m.pr.1.n m.pr.1.c, .slice m.ev.1.A m.ev.1.n m.ev.1.c, .slice m.od.1.A m.od.1.n m.od.1.c, .slice m.ma.1.A m.ma.1.n m.ma.1.c, .slice m.wa.1.A m.wa.1.n m.wa.1.c]] w fun e w' => e = .returned (.tuple #[]) ∧ Below B w w' := by
 obtain ⟨kh, b0, hs0⟩ := ibox w #[.slice m.tr.1.A m.tr.1.n m.tr.1.c, .slice m.se.1.A m.se.1.n m.se.1.c, .slice m.ob.1.A m.ob.1.n m.ob.1.c, .slice m.pr.1.A m.pr.1.n m.pr.1.c, .slice m.ev.1.A m.ev.1.n m.ev.1.c, .slice m.od.1.A m.od.1.n m.od.1.c, .slice m.ma.1.A m.ma.1.n m.ma.1.c, .slice m.wa.1.A m.wa.1.n m.wa.1.c] 28
 obtain ⟨W0, hW0⟩ : ∃ W0, W0 = w.alloc (.cells #[.slice m.tr.1.A m.tr.1.n m.tr.1.c, .slice m.se.1.A m.se.1.n m.se.1.c, .slice m.ob.1.A m.ob.1.n m.ob.1.c, .slice m.pr.1.A m.pr.1.n m.pr.1.c, .slice m.ev.1.A m.ev.1.n m.ev.1.c, .slice m.od.1.A m.od.1.n m.od.1.c, .slice m.ma.1.A m.ma.1.n m.ma.1.c, .slice m.wa.1.A m.wa.1.n m.wa.1.c] 28) := ⟨_, rfl⟩
 rw [← hW0] at kh b0
 have HS := Lib.hid (ho.spo b0 hB kh)
 have HFIT := Lib.hid ho.rd.fit
 have HN : Hid (m.tr.1.n ≤ 60 ∧ m.ev.1.n ≤ 200 ∧ m.od.1.n ≤ 60 ∧ m.ma.1.n ≤ 60 ∧ m.wa.1.n ≤ 60) := by
  have h1 := hS.ev; have h2 := hS.od; have h3 := hS.ma; have h4 := hS.wa; have g1 := hS.tr
  have e1 : m.pl.ev.length = m.ev.1.n := (List.length_map ..).trans HFIT.out.ev.1; have e2 : m.pl.od.length = m.od.1.n := (List.length_map ..).trans HFIT.out.od.1; have e3 : m.pl.ma.length = m.ma.1.n := (List.length_map ..).trans HFIT.out.ma.1; have e4 : m.pl.wa.length = m.wa.1.n := HFIT.out.wa.1; have f1 : m.pl.tr.length = m.tr.1.n := strs_len ho.rd.tr
  show _ ∧ _; omega
 have HSZ : Hid ((∀ e ∈ m.pl.ev, e.scan.length ≤ 60) ∧ (∀ r ∈ m.pl.od, r.ts.length ≤ 60) ∧ (∀ r ∈ m.pl.ma, r.ts.length ≤ 60)) := ⟨hS.sc, hS.ot, hS.mt⟩
 clear kh b0 hs0 ho hS
 go_enter Tryz.func18, Tryz.ntmps18
 go_upto_region 1 with fail
 rw [← hW0]
 clear hW0
 have z0 : W0.cell? ⟨w.heap.size, 0, none⟩ = some (.slice m.tr.1.A m.tr.1.n m.tr.1.c) := HS.out.bh.cell 0
 have hntr : m.tr.1.n ≤ 200 := by have := HN.out; omega
 go_wp2_with fail
 clear z0
 go_loopw [13] (fun v wr => ∃ i : Nat, i ≤ m.tr.1.n ∧ v = .int .i64 i ∧ Hid (SpoI B w m wr)) (fun v _ => m.tr.1.n - (intOf v).toNat)
 case atStart => exact ⟨0, Nat.zero_le _, rfl, HS⟩
 case round =>
  clear HS
  obtain ⟨i, hi0, rfl, HS⟩ := hrel
  by_cases hin : i < m.tr.1.n
  ·have hlt : (i : Int) < (m.tr.1.n : Int) := by omega
   obtain ⟨g, hA, hg, ⟨c, hb⟩, ⟨u, hu⟩, hf⟩ := HS.out.tr.at_ (k := i) (by omega)
   have HS2 := Lib.hid (HS.out.cells hg hb (by decide) (by decide) (by decide) (by decide) (i) (.string ⟨#[]⟩))
   have z0 : wr.cell? ⟨w.heap.size, 0, none⟩ = some (.slice m.tr.1.A m.tr.1.n m.tr.1.c) := HS.out.bh.cell 0
   rw [hA] at z0 ⊢
   clear hA hg hb
   go_wp2_with fail
   go_roundw
   case rel => exact ⟨i + 1, hin, by go_num, HS2⟩
   case measure => simp [intOf]; omega
  ·have hie : i = m.tr.1.n := by omega
   rw [hie]
   clear hie hin hi0
   rename World => wtr
   have z4 : wtr.cell? ⟨w.heap.size, 4, none⟩ = some (.slice m.ev.1.A m.ev.1.n m.ev.1.c) := HS.out.bh.cell 4
   have hnev : m.ev.1.n ≤ 200 := by have := HN.out; omega
   go_wp2_with fail
   clear z4
   go_loopw [24] (fun v wr => ∃ i : Nat, i ≤ m.ev.1.n ∧ v = .int .i64 i ∧ Hid (SpoI B w m wr)) (fun v _ => m.ev.1.n - (intOf v).toNat)
   case atStart => exact ⟨0, Nat.zero_le _, rfl, HS⟩
   case round =>
    clear HS
    obtain ⟨i, hi0, rfl, HS⟩ := hrel
    by_cases hin : i < m.ev.1.n
    ·have hlt : (i : Int) < (m.ev.1.n : Int) := by omega
     obtain ⟨p, hp⟩ : ∃ p, m.ev.2[i]? = some p := ⟨m.ev.2[i]'(by rw [HFIT.out.ev.1]; exact hin), List.getElem?_eq_getElem _⟩
     obtain ⟨xs, he, hx⟩ := HS.out.ev
     obtain ⟨g, hA⟩ := own_pos he (by omega)
     have HS2 := Lib.hid (HS.out.kind hA i (.int .i64 0))
     have hl8 := he.1
     have u0 : ∃ u, wr.cell? ⟨g, i * 9, none⟩ = some u := by rw [hA] at he; exact ⟨_, (he.cellAt (i * 9) (by omega)).trans (List.getElem?_eq_getElem (by omega))⟩
     obtain ⟨u, hu⟩ := u0
     have hf : wr.frozen? ⟨g, i * 9, none⟩ = false := by rw [hA] at he; exact he.frozenAt _
     have HP := Lib.hid hp
     have HA := Lib.hid hA
     have hsn : p.2.n ≤ 60 := by have h9 : p.1.scan.length = p.2.n := (HFIT.out.sc _ (List.mem_of_getElem? hp)).1; have := HSZ.out.1 p.1 (List.mem_map.2 ⟨p, List.mem_of_getElem? hp, rfl⟩); omega
     have z4 : wr.cell? ⟨w.heap.size, 4, none⟩ = some (.slice m.ev.1.A m.ev.1.n m.ev.1.c) := HS.out.bh.cell 4
     rw [hA] at z4 ⊢
     clear he hx hl8 hp
     go_upto_region 10 with fail
     clear z4 hu hf
     generalize wr.setCell ⟨g, i * 9, none⟩ (.int .i64 0) = W9 at *
     obtain ⟨xs, he, hx⟩ := HS2.out.ev
     have hl8 := he.1
     have c8 : W9.cell? ⟨g, i * 9 + 8, none⟩ = some (.slice p.2.A p.2.n p.2.c) := by have h9 := hx i p HP.out; have hl9 := (List.getElem?_eq_some_iff.1 h9).1; rw [HA.out] at he; exact (he.cellAt _ (by omega)).trans h9
     have z4 : W9.cell? ⟨w.heap.size, 4, none⟩ = some (.slice (some ⟨g, 0, none⟩) m.ev.1.n m.ev.1.c) := by rw [← HA.out]; exact HS2.out.bh.cell 4
     clear he hx hl8 hA
     go_wp2_with fail
     rename World => wsc
     clear c8 z4
     go_loopw [39] (fun v wr => ∃ j : Nat, j ≤ p.2.n ∧ v = .int .i64 j ∧ Hid (SpoI B w m wr)) (fun v _ => p.2.n - (intOf v).toNat)
     case atStart => exact ⟨0, Nat.zero_le _, rfl, HS2⟩
     case round =>
      clear HS2 HS
      obtain ⟨j, hj0, rfl, HS⟩ := hrel
      by_cases hjn : j < p.2.n
      ·have hjl : (j : Int) < (p.2.n : Int) := by omega
       obtain ⟨xs, he, hx⟩ := HS.out.ev
       have hl8 := he.1
       have c8 : wr.cell? ⟨g, i * 9 + 8, none⟩ = some (.slice p.2.A p.2.n p.2.c) := by have h9 := hx i p HP.out; have hl9 := (List.getElem?_eq_some_iff.1 h9).1; rw [HA.out] at he; exact (he.cellAt _ (by omega)).trans h9
       obtain ⟨g2, hA2, hg2, ⟨c, hb⟩, ⟨u, hu⟩, hf⟩ := (HS.out.sc p (List.mem_of_getElem? HP.out)).at_ (k := j * 3) (by omega)
       have HS2 := Lib.hid (HS.out.cells hg2 hb (by decide) (by decide) (by decide) (by decide) (j * 3) (.int .i64 99))
       have z4 : wr.cell? ⟨w.heap.size, 4, none⟩ = some (.slice (some ⟨g, 0, none⟩) m.ev.1.n m.ev.1.c) := by rw [← HA.out]; exact HS.out.bh.cell 4
       have HA2 := Lib.hid hA2
       rw [hA2] at c8 ⊢
       clear he hx hl8 hA2 hg2 hb
       go_wp2_with fail
       go_roundw
       case rel => exact ⟨j + 1, hjn, by go_num, HS2⟩
       case measure => simp [intOf]; omega
      ·have hje : j = p.2.n := by omega
       rw [hje]
       clear hje hjn hj0
       go_wp2_with fail
       go_roundw
       case rel => exact ⟨i + 1, hin, by go_num, HS⟩
       case measure => simp [intOf]; omega
    ·have hie : i = m.ev.1.n := by omega
     rw [hie]
     clear hie hin hi0
     rename World => wev
     have z5 : wev.cell? ⟨w.heap.size, 5, none⟩ = some (.slice m.od.1.A m.od.1.n m.od.1.c) := HS.out.bh.cell 5
     have hnod : m.od.1.n ≤ 200 := by have := HN.out; omega
     go_wp2_with fail
     clear z5
     go_loopw [56] (fun v wr => ∃ i : Nat, i ≤ m.od.1.n ∧ v = .int .i64 i ∧ Hid (SpoI B w m wr)) (fun v _ => m.od.1.n - (intOf v).toNat)
     case atStart => exact ⟨0, Nat.zero_le _, rfl, HS⟩
     case round =>
      clear HS
      obtain ⟨i, hi0, rfl, HS⟩ := hrel
      by_cases hin : i < m.od.1.n
      ·have hlt : (i : Int) < (m.od.1.n : Int) := by omega
       obtain ⟨p, hp⟩ : ∃ p, m.od.2[i]? = some p := ⟨m.od.2[i]'(by rw [HFIT.out.od.1]; exact hin), List.getElem?_eq_getElem _⟩
       have HP := Lib.hid hp
       obtain ⟨g, hA⟩ := own_pos HS.out.od (by omega)
       have HA := Lib.hid hA
       have HC : Hid (∀ X, SpoI B w m X → X.cell? ⟨g, i * 2 + 1, none⟩ = some (.slice p.2.A p.2.n p.2.c)) := fun X hX => by
        have h9 : (m.od.2.flatMap odCs)[i * 2 + 1]? = some (.slice p.2.A p.2.n p.2.c) := fm_at odCs_len hp rfl
        have hl9 := (List.getElem?_eq_some_iff.1 h9).1
        have he := hX.od
        have hl8 := he.1
        rw [hA] at he
        exact (he.cellAt _ (by omega)).trans h9
       have hsn : p.2.n ≤ 60 := by have h9 : p.1.ts.length = p.2.n := (HFIT.out.ot _ (List.mem_of_getElem? hp)).1; have := HSZ.out.2.1 p.1 (List.mem_map.2 ⟨p, List.mem_of_getElem? hp, rfl⟩); omega
       have z5 : wr.cell? ⟨w.heap.size, 5, none⟩ = some (.slice m.od.1.A m.od.1.n m.od.1.c) := HS.out.bh.cell 5
       rw [hA] at z5 ⊢
       have c8 := HC.out wr HS.out
       clear hp hA
       go_wp2_with fail
       rename World => wsod
       clear c8 z5
       go_loopw [66] (fun v wr => ∃ j : Nat, j ≤ p.2.n ∧ v = .int .i64 j ∧ Hid (SpoI B w m wr)) (fun v _ => p.2.n - (intOf v).toNat)
       case atStart => exact ⟨0, Nat.zero_le _, rfl, HS⟩
       case round =>
        clear HS
        obtain ⟨j, hj0, rfl, HS⟩ := hrel
        by_cases hjn : j < p.2.n
        ·have hjl : (j : Int) < (p.2.n : Int) := by omega
         obtain ⟨g2, hA2, hg2, ⟨c, hb⟩, ⟨u, hu⟩, hf⟩ := (HS.out.ot p (List.mem_of_getElem? HP.out)).at_ (k := j) (by omega)
         have HS2 := Lib.hid (HS.out.cells hg2 hb (by decide) (by decide) (by decide) (by decide) j (.int .i64 99))
         have c8 := HC.out wr HS.out
         have z5 : wr.cell? ⟨w.heap.size, 5, none⟩ = some (.slice (some ⟨g, 0, none⟩) m.od.1.n m.od.1.c) := by rw [← HA.out]; exact HS.out.bh.cell 5
         rw [hA2] at c8 ⊢
         clear hA2 hg2 hb
         go_wp2_with fail
         go_roundw
         case rel => exact ⟨j + 1, hjn, by go_num, HS2⟩
         case measure => simp [intOf]; omega
        ·have hje : j = p.2.n := by omega
         rw [hje]
         clear hje hjn hj0
         go_wp2_with fail
         go_roundw
         case rel => exact ⟨i + 1, hin, by go_num, HS⟩
         case measure => simp [intOf]; omega
      ·have hie : i = m.od.1.n := by omega
       rw [hie]
       clear hie hin hi0
       rename World => wod
       have z6 : wod.cell? ⟨w.heap.size, 6, none⟩ = some (.slice m.ma.1.A m.ma.1.n m.ma.1.c) := HS.out.bh.cell 6
       have hnma : m.ma.1.n ≤ 200 := by have := HN.out; omega
       go_wp2_with fail
       clear z6
       go_loopw [82] (fun v wr => ∃ i : Nat, i ≤ m.ma.1.n ∧ v = .int .i64 i ∧ Hid (SpoI B w m wr)) (fun v _ => m.ma.1.n - (intOf v).toNat)
       case atStart => exact ⟨0, Nat.zero_le _, rfl, HS⟩
       case round =>
        clear HS
        obtain ⟨i, hi0, rfl, HS⟩ := hrel
        by_cases hin : i < m.ma.1.n
        ·have hlt : (i : Int) < (m.ma.1.n : Int) := by omega
         obtain ⟨p, hp⟩ : ∃ p, m.ma.2[i]? = some p := ⟨m.ma.2[i]'(by rw [HFIT.out.ma.1]; exact hin), List.getElem?_eq_getElem _⟩
         have HP := Lib.hid hp
         obtain ⟨g, hA⟩ := own_pos HS.out.ma (by omega)
         have HA := Lib.hid hA
         have HC : Hid (∀ X, SpoI B w m X → X.cell? ⟨g, i * 4 + 3, none⟩ = some (.slice p.2.A p.2.n p.2.c)) := fun X hX => by
          have h9 : (m.ma.2.flatMap maCs)[i * 4 + 3]? = some (.slice p.2.A p.2.n p.2.c) := fm_at maCs_len hp rfl
          have hl9 := (List.getElem?_eq_some_iff.1 h9).1
          have he := hX.ma
          have hl8 := he.1
          rw [hA] at he
          exact (he.cellAt _ (by omega)).trans h9
         have hsn : p.2.n ≤ 60 := by have h9 : p.1.ts.length = p.2.n := (HFIT.out.mt _ (List.mem_of_getElem? hp)).1; have := HSZ.out.2.2 p.1 (List.mem_map.2 ⟨p, List.mem_of_getElem? hp, rfl⟩); omega
         have z6 : wr.cell? ⟨w.heap.size, 6, none⟩ = some (.slice m.ma.1.A m.ma.1.n m.ma.1.c) := HS.out.bh.cell 6
         rw [hA] at z6 ⊢
         have c8 := HC.out wr HS.out
         clear hp hA
         go_wp2_with fail
         rename World => wsma
         clear c8 z6
         go_loopw [92] (fun v wr => ∃ j : Nat, j ≤ p.2.n ∧ v = .int .i64 j ∧ Hid (SpoI B w m wr)) (fun v _ => p.2.n - (intOf v).toNat)
         case atStart => exact ⟨0, Nat.zero_le _, rfl, HS⟩
         case round =>
          clear HS
          obtain ⟨j, hj0, rfl, HS⟩ := hrel
          by_cases hjn : j < p.2.n
          ·have hjl : (j : Int) < (p.2.n : Int) := by omega
           obtain ⟨g2, hA2, hg2, ⟨c, hb⟩, ⟨u, hu⟩, hf⟩ := (HS.out.mt p (List.mem_of_getElem? HP.out)).at_ (k := j) (by omega)
           have HS2 := Lib.hid (HS.out.cells hg2 hb (by decide) (by decide) (by decide) (by decide) j (.int .i64 99))
           have c8 := HC.out wr HS.out
           have z6 : wr.cell? ⟨w.heap.size, 6, none⟩ = some (.slice (some ⟨g, 0, none⟩) m.ma.1.n m.ma.1.c) := by rw [← HA.out]; exact HS.out.bh.cell 6
           rw [hA2] at c8 ⊢
           clear hA2 hg2 hb
           go_wp2_with fail
           go_roundw
           case rel => exact ⟨j + 1, hjn, by go_num, HS2⟩
           case measure => simp [intOf]; omega
          ·have hje : j = p.2.n := by omega
           rw [hje]
           clear hje hjn hj0
           go_wp2_with fail
           go_roundw
           case rel => exact ⟨i + 1, hin, by go_num, HS⟩
           case measure => simp [intOf]; omega
        ·have hie : i = m.ma.1.n := by omega
         rw [hie]
         clear hie hin hi0
         rename World => wma
         have z7 : wma.cell? ⟨w.heap.size, 7, none⟩ = some (.slice m.wa.1.A m.wa.1.n m.wa.1.c) := HS.out.bh.cell 7
         have hnwa : m.wa.1.n ≤ 200 := by have := HN.out; omega
         go_wp2_with fail
         clear z7
         go_loopw [108] (fun v wr => ∃ i : Nat, i ≤ m.wa.1.n ∧ v = .int .i64 i ∧ Hid (SpoI B w m wr)) (fun v _ => m.wa.1.n - (intOf v).toNat)
         case atStart => exact ⟨0, Nat.zero_le _, rfl, HS⟩
         case round =>
          clear HS
          obtain ⟨i, hi0, rfl, HS⟩ := hrel
          by_cases hin : i < m.wa.1.n
          ·have hlt : (i : Int) < (m.wa.1.n : Int) := by omega
           obtain ⟨g, hA, hg, ⟨c, hb⟩, ⟨u, hu⟩, hf⟩ := HS.out.wa.at_ (k := i * 2 + 1) (by omega)
           have HS2 := Lib.hid (HS.out.cells hg hb (by decide) (by decide) (by decide) (by decide) (i * 2 + 1) (.int .i64 99))
           have z7 : wr.cell? ⟨w.heap.size, 7, none⟩ = some (.slice m.wa.1.A m.wa.1.n m.wa.1.c) := HS.out.bh.cell 7
           rw [hA] at z7 ⊢
           clear hA hg hb
           go_wp2_with fail
           go_roundw
           case rel => exact ⟨i + 1, hin, by go_num, HS2⟩
           case measure => simp [intOf]; omega
          ·have hie : i = m.wa.1.n := by omega
           rw [hie]
           clear hie hin hi0
           go_wp2_with fail
           exact bodyPost_end (v := .tuple #[]) (by simp [results, Tryz.results18]) rfl ⟨rfl, HS.out.below⟩
end Go.Proofs.YtlnbmmaminflcaaGreatDoor
