/- Layer names: Check; the function that numbers names as it meets them, and its map: contracts. -/
import Derived.Test.YthamkpmbfefpfaaNb
import Derived.Test.YthamkpmbfefpfaaLd
import Derived.Maps.Own
import Derived.Maps.OwnSet
import Derived.Maps.OwnOps
import Derived.Maps.OwnIn
import Derived.StringKeys
namespace Go.Proofs.Ythamkpmbfefpfaa
open Go.RowKit Go.Shelf Go.Maps

/-- Is a text a name? -/
def nameB (s : ByteArray) : Bool := wordB s.data.toList
set_option maxHeartbeats 400000 in
theorem check_any (s : ByteArray) (hs : s.size ≤ 9223372036854775807) (w : World) : Calls Try.prog 12 #[.string s] w fun e w' => e = .returned (.int .i64 (chkE nameB s)) ∧ Below w.heap.size w w' := by
  have H := Lib.hid (Word_any s hs w)
  have HE : Hid (chkE nameB s = if wordB s.data.toList = true then 0 else 200) := rfl
  generalize wordB s.data.toList = b at *
  cases b
  all_goals
    go_enter Try.func12, Try.ntmps12
    go_wp2_with fail
    refine H.out.mono ?_
    rintro e w1 ⟨rfl, b⟩
    go_wp2_with fail
    go_ret
    exact ⟨by rw [HE.out]; rfl, b⟩

/-- What the map of the names met tells. -/
structure MapIs (D : DataW Unit) (us : List ByteArray) : Prop where
  isMap : IsMap D
  size : Maps.size D = us.length
  at_ : ∀ (s : ByteArray) (zd : DataW Unit), D.atKey (.string s.data.toList) zd = if s ∈ us then .lit (.int .i64 (idxN us s : Int)) else zd
theorem key_neS {p q : ByteArray} (h : p ≠ q) : Lit.string p.data.toList ≠ Lit.string q.data.toList := fun e => h (by
  injection e with e
  cases p; cases q
  congr 1
  exact Array.toList_inj.1 e)
theorem MapIs.none_ : MapIs (.map []) [] := ⟨⟨[], rfl⟩, rfl, fun s zd => by rw [if_neg (by simp)]; rfl⟩
theorem MapIs.has {D : DataW Unit} {us : List ByteArray} (h : MapIs D us) (s : ByteArray) : Maps.has D (.string s.data.toList) = decide (s ∈ us) := by
  by_cases hs : s ∈ us
  · rw [has_true_of_atKey (y := .lit (.int .i64 (idxN us s : Int))) (fun zd => by rw [h.at_, if_pos hs]), decide_eq_true hs]
  · rw [has_false_of_atKey (fun zd => by rw [h.at_, if_neg hs]), decide_eq_false hs]
theorem MapIs.put {D : DataW Unit} {us : List ByteArray} {s : ByteArray} (h : MapIs D us) (ht : Tidy D) (hs : s ∉ us) : MapIs (D.put (.string s.data.toList) (.lit (.int .i64 (us.length : Int)))) (us ++ [s]) := by
  refine ⟨h.isMap.put _ _, ?_, fun t zd => ?_⟩
  · rw [size_put ht, h.has, decide_eq_false hs, h.size]; simp
  · by_cases e : t = s
    · subst e
      rw [atKey_put_same h.isMap (show WideAt.IsKeyLit (.string t.data.toList) from trivial), if_pos (by simp), ← add_out hs]
      have h1 := idx_at (add_nodup (s := t) (ns := []) (by simp)) (add_at (ns := []) (s := t))
      have h2 : idxN (addN us t) t = us.length := by
        rw [add_out hs]
        refine idx_of (by simp) fun j hj => ?_
        rw [List.getElem?_append_left hj]
        exact fun e => hs (List.mem_of_getElem? e)
      rw [h2]
    · rw [atKey_put_other (key_neS e), h.at_]
      by_cases ht2 : t ∈ us
      · rw [if_pos ht2, if_pos (by simp [ht2]), idx_more _ ht2]
      · rw [if_neg ht2, if_neg (by simp [ht2, e])]

/-- The names that have been met, as they lie: the variable Bn, the map M. -/
structure NumAt (Bn M : Nat) (us : List ByteArray) (W : World) : Prop where
  box : Blk W Bn 72 #[.map (some M)]
  map : ∃ D, W.ownsMap (H := Unit) Try.prog 9 (plainElem Try.prog 3) M us.length D ∧ MapIs D us
section
variable {Bn M : Nat} {us : List ByteArray} {W W' : World}
theorem map_blockS {k : Nat} {D : DataW Unit} (h : W.ownsMap (H := Unit) Try.prog 9 (plainElem Try.prog 3) M k D) (hb : W'.heap[M]? = W.heap[M]?) : W'.ownsMap (H := Unit) Try.prog 9 (plainElem Try.prog 3) M k D := by
  obtain ⟨es, clock, h1, r⟩ := h
  exact ⟨es, clock, hb.trans h1, r⟩
theorem NumAt.lt (h : NumAt Bn M us W) : Bn < W.heap.size ∧ M < W.heap.size := by
  obtain ⟨D, h1, _⟩ := h.map
  exact ⟨h.box.lt, h1.lt⟩
theorem NumAt.ne (h : NumAt Bn M us W) : Bn ≠ M := fun e => by
  obtain ⟨D, h1, _⟩ := h.map
  obtain ⟨es, clock, hm, _⟩ := h1
  have := h.box
  unfold Blk at this
  rw [e, hm] at this
  cases this
theorem NumAt.blk_ne (h : NumAt Bn M us W) {g : Nat} {t : TypeId} {cs : Array Value} (hb : Blk W g t cs) : g ≠ M := fun e => by
  obtain ⟨D, h1, _⟩ := h.map
  obtain ⟨es, clock, hm, _⟩ := h1
  unfold Blk at hb
  rw [e, hm] at hb
  cases hb
theorem NumAt.keep {S : Nat → Prop} (h : NumAt Bn M us W) (hk : Keep S W W') (h1 : S Bn) (h2 : S M) : NumAt Bn M us W' := by
  obtain ⟨D, hd, hi⟩ := h.map
  exact ⟨hk.blk h.box h1, D, map_blockS hd (hk.block M hd.lt h2), hi⟩
theorem NumAt.on (h : NumAt Bn M us W) (hb : Below W.heap.size W W') : NumAt Bn M us W' := h.keep (Keep.of_all (fun _ => True) hb) trivial trivial
end
theorem zeroIntS (w : World) : (zeroValue 3).run Try.prog w = .ok (.int .i64 0) w := by kernel_rfl

/-- What numbering gives. -/
def NingIs (w : World) (e : Ending) (w' : World) : Prop := ∃ Bn M : Nat, e = .returned (.func (.func 39) #[] #[.pointer (some ⟨Bn, 0, none⟩)]) ∧ NumAt Bn M [] w' ∧ w.heap.size ≤ Bn ∧ w.heap.size ≤ M ∧ Below w.heap.size w w'
set_option maxHeartbeats 800000 in
theorem numbering_any (w : World) : Calls Try.prog 35 #[] w (NingIs w) := by
  have hmm := @run_makeMap Try.prog
  have HM : Hid ((w.alloc (.map #[] 0)).ownsMap (H := Unit) Try.prog 9 (plainElem Try.prog 3) w.heap.size 0 (.map [])) := World.ownsMap_made _ _ _ _
  have hb : Below w.heap.size w (w.alloc (.map #[] 0)) := (Below.refl _ _).alloc (Nat.le_refl _) _
  have HB : Hid (Below w.heap.size w ((w.alloc (.map #[] 0)).alloc (.cells #[.map (some w.heap.size)] 72))) := hb.alloc hb.size _
  have HK : Hid (Blk ((w.alloc (.map #[] 0)).alloc (.cells #[.map (some w.heap.size)] 72)) (w.heap.size + 1) 72 #[.map (some w.heap.size)]) := by
    have := Blk.new (w.alloc (.map #[] 0)) 72 #[.map (some w.heap.size)]
    rwa [World.size_alloc] at this
  clear hb
  go_enter Try.func35, Try.ntmps35
  go_wp2_with fail
  go_ret
  exact ⟨w.heap.size + 1, w.heap.size, rfl, ⟨HK.out, _, HM.out.alloc _, MapIs.none_⟩, Nat.le_succ _, Nat.le_refl _, HB.out⟩

/-- A name is numbered: it has its number, or gets the next one. -/
def NumIs (Bn M : Nat) (us : List ByteArray) (s : ByteArray) (w : World) (e : Ending) (w' : World) : Prop := e = .returned (.int .i64 (idxN us s : Int)) ∧ NumAt Bn M (addN us s) w' ∧ Keep (fun k => k ≠ M) w w'
set_option maxRecDepth 100000 in
set_option maxHeartbeats 2000000 in
theorem number_any (Bn M : Nat) (us : List ByteArray) (s : ByteArray) (hs : s.size ≤ 9223372036854775807) (hu : us.length ≤ 1000000) (w : World) (h : NumAt Bn M us w) :
    Calls Try.prog 39 #[.string s, .pointer (some ⟨Bn, 0, none⟩)] w (NumIs Bn M us s w) := by
  have z0 := h.box.cell 0
  have HN := Lib.hid h
  obtain ⟨D, hd, hi⟩ := h.map
  have hkey : keyOf Try.prog 9 (.string s) = some (.string s.data.toList) := Go.WideMaps.keyOf_string_mk Try.underlying9 (by unfold maxLen; omega)
  obtain ⟨v, ps, hlk, hv⟩ := hd.look_ok (string_keyed Try.underlying9) Try.underlying72 (zeroIntS w) (zd := .lit (.int .i64 0)) (zp := []) rfl hkey
  rw [hi.at_, hi.has] at *
  by_cases hm : s ∈ us
  · rw [if_pos hm] at hv
    rw [decide_eq_true hm] at hlk
    obtain ⟨a, rfl, ha, _⟩ := plainElem_int_inv Try.underlying3 hv
    injection ha with ha _
    injection ha with ha
    injection ha with _ ha
    subst ha
    have HA := Lib.hid (add_in hm)
    clear h hd hi hkey hv hm hu hs
    go_enter Try.func39, Try.ntmps39
    go_wp2_with fail
    go_ret
    exact ⟨rfl, by rw [HA.out]; exact HN.out, Keep.refl _ _⟩
  · rw [if_neg hm] at hv
    rw [decide_eq_false hm] at hlk
    obtain ⟨a, rfl, ha, _⟩ := plainElem_int_inv Try.underlying3 hv
    have hlen := fun ty => hd.len Try.underlying72 ty
    rw [hi.size] at hlen
    have HO := Lib.hid (idx_out hm)
    have HA := Lib.hid (add_out hm)
    have HD := Lib.hid hd
    have HP : Hid (MapIs (D.put (.string s.data.toList) (.lit (.int .i64 (us.length : Int)))) (us ++ [s])) := hi.put (hd.tidy (string_keyed Try.underlying9)) hm
    have HKEY := Lib.hid hkey
    have HU := Lib.hid hu
    clear h hd hi hkey hv hm hs ha hu
    go_enter Try.func39, Try.ntmps39
    go_wp2_with (at_mapUpdate; refine wpList_mapUpdate_own _ rfl _ _ _ 72 rfl 9 3 (string_keyed Try.underlying9) Try.underlying72 _ M us.length D rfl HD.out (by have := HU.out; unfold maxLen; omega) _ _ (.string s.data.toList) rfl rfl HKEY.out (.lit (.int .i64 (us.length : Int))) [] (plainElem_int Try.underlying3 (WalkArith.wf_i64 (by have := HU.out; omega))) ?_; intro w5 hown5 hgrow5)
    have HK : Hid (Keep (fun k => k ≠ M) w w5) := (Keep.refl _ w).grown hgrow5 fun g hg => .inr fun h => h (by injection hg with hg; exact hg.symm)
    have HO5 := Lib.hid hown5
    clear hown5 hgrow5
    go_wp2_with fail
    go_ret
    refine ⟨by rw [HO.out]; rfl, ⟨HK.out.blk HN.out.box HN.out.ne, _, ?_, by rw [HA.out]; exact HP.out⟩, HK.out⟩
    rw [HA.out, List.length_append]
    exact HO5.out
end Go.Proofs.Ythamkpmbfefpfaa
