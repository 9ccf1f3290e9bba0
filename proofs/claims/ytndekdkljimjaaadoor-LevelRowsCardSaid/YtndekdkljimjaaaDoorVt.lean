/- LevelLattice: the walk. -/
import Derived.Test.YtndekdkljimjaaaDoorVs
namespace Go.Proofs.YtndekdkljimjaaaDoor
open Go.RowKit Go.Shelf

/-- Is an assignment below another one? -/
def isB (xs ys : List Int) : Bool := decide (alikeE [xs, ys] = 0) && belowB xs ys
theorem alike_parts {xs ys : List Int} (h : alikeE [xs, ys] = 0) : xs.all levB = true ∧ ys.all levB = true ∧ xs.length = ys.length := by
  rw [alike_two] at h
  cases h1 : xs.all levB
  · rw [h1, Bool.false_and] at h; cases h
  · cases h2 : ys.all levB
    · rw [h1, h2] at h; cases h
    · by_cases h3 : xs.length = ys.length
      · exact ⟨rfl, rfl, h3⟩
      · rw [h1, h2] at h
        simp [h3] at h
theorem isB_iff {xs ys : List Int} : isB xs ys = true ↔ alikeE [xs, ys] = 0 ∧ belowB xs ys = true := by unfold isB; simp
section
variable {xs ys zs : List Int}
theorem zip_len {f : Int → Int → Int} (h : xs.length = ys.length) : (List.zipWith f xs ys).length = xs.length := by rw [List.length_zipWith]; omega
theorem zip_all {f : Int → Int → Int} (hf : ∀ x y, f x y = x ∨ f x y = y) (h1 : xs.all levB = true) (h2 : ys.all levB = true) : (List.zipWith f xs ys).all levB = true := by
  rw [List.all_eq_true]
  intro z hz
  obtain ⟨j, hj, e⟩ := List.mem_iff_getElem.1 hz
  rw [List.length_zipWith] at hj
  rw [List.getElem_zipWith] at e
  rcases hf (xs[j]'(by omega)) (ys[j]'(by omega)) with h | h
  · rw [← e, h]; exact List.all_eq_true.1 h1 _ (List.getElem_mem _)
  · rw [← e, h]; exact List.all_eq_true.1 h2 _ (List.getElem_mem _)
theorem zip_get {f : Int → Int → Int} {j : Nat} {z : Int} (h : (List.zipWith f xs ys)[j]? = some z) : ∃ x y, xs[j]? = some x ∧ ys[j]? = some y ∧ z = f x y := by
  obtain ⟨hj, e⟩ := List.getElem?_eq_some_iff.1 h
  rw [List.length_zipWith] at hj
  rw [List.getElem_zipWith] at e
  exact ⟨_, _, List.getElem?_eq_getElem (by omega), List.getElem?_eq_getElem (by omega), e.symm⟩
theorem max_or (x y : Int) : max x y = x ∨ max x y = y := by omega
theorem min_or (x y : Int) : min x y = x ∨ min x y = y := by omega
theorem is_up (h : alikeE [xs, ys] = 0) : isB xs (List.zipWith max xs ys) = true ∧ isB ys (List.zipWith max xs ys) = true := by
  obtain ⟨h1, h2, h3⟩ := alike_parts h
  refine ⟨isB_iff.2 ⟨alike_ok h1 (zip_all max_or h1 h2) (zip_len h3).symm, below_yes fun j x z hx hz => ?_⟩, isB_iff.2 ⟨alike_ok h2 (zip_all max_or h1 h2) (by rw [zip_len h3]; exact h3.symm), below_yes fun j x z hx hz => ?_⟩⟩
  · obtain ⟨a, b, ha, hb, rfl⟩ := zip_get hz
    rw [hx] at ha; injection ha with ha; omega
  · obtain ⟨a, b, ha, hb, rfl⟩ := zip_get hz
    rw [hx] at hb; injection hb with hb; omega
theorem is_down (h : alikeE [xs, ys] = 0) : isB (List.zipWith min xs ys) xs = true ∧ isB (List.zipWith min xs ys) ys = true := by
  obtain ⟨h1, h2, h3⟩ := alike_parts h
  refine ⟨isB_iff.2 ⟨alike_ok (zip_all min_or h1 h2) h1 (zip_len h3), below_yes fun j z x hz hx => ?_⟩, isB_iff.2 ⟨alike_ok (zip_all min_or h1 h2) h2 (by rw [zip_len h3]; exact h3), below_yes fun j z x hz hx => ?_⟩⟩
  · obtain ⟨a, b, ha, hb, rfl⟩ := zip_get hz
    rw [hx] at ha; injection ha with ha; omega
  · obtain ⟨a, b, ha, hb, rfl⟩ := zip_get hz
    rw [hx] at hb; injection hb with hb; omega
theorem is_least (h : alikeE [xs, ys] = 0) (h1 : isB xs zs = true) (h2 : isB ys zs = true) : isB (List.zipWith max xs ys) zs = true := by
  obtain ⟨a1, a2, a3⟩ := alike_parts h
  obtain ⟨b1, b2⟩ := isB_iff.1 h1
  obtain ⟨c1, c2⟩ := isB_iff.1 h2
  obtain ⟨d1, d2, d3⟩ := alike_parts b1
  refine isB_iff.2 ⟨alike_ok (zip_all max_or a1 a2) d2 (by rw [zip_len a3]; exact d3), below_yes fun j z x hz hx => ?_⟩
  obtain ⟨a, b, ha, hb, rfl⟩ := zip_get hz
  have := belowB_iff.1 b2 j _ _ ha hx
  have := belowB_iff.1 c2 j _ _ hb hx
  omega
theorem is_most (h : alikeE [xs, ys] = 0) (h1 : isB zs xs = true) (h2 : isB zs ys = true) : isB zs (List.zipWith min xs ys) = true := by
  obtain ⟨a1, a2, a3⟩ := alike_parts h
  obtain ⟨b1, b2⟩ := isB_iff.1 h1
  obtain ⟨c1, c2⟩ := isB_iff.1 h2
  obtain ⟨d1, d2, d3⟩ := alike_parts b1
  refine isB_iff.2 ⟨alike_ok d1 (zip_all min_or a1 a2) (by rw [zip_len a3]; exact d3), below_yes fun j x z hx hz => ?_⟩
  obtain ⟨a, b, ha, hb, rfl⟩ := zip_get hz
  have := belowB_iff.1 b2 j _ _ hx ha
  have := belowB_iff.1 c2 j _ _ hx hb
  omega
theorem is_same (h : alikeE [xs, ys] = 0) (h1 : isB xs ys = true) (h2 : isB ys xs = true) : xs = ys := by
  obtain ⟨a1, a2, a3⟩ := alike_parts h
  apply List.ext_getElem?
  intro j
  by_cases hj : j < xs.length
  · have e1 : xs[j]? = some (xs[j]'hj) := List.getElem?_eq_getElem _
    have e2 : ys[j]? = some (ys[j]'(by omega)) := List.getElem?_eq_getElem _
    have := belowB_iff.1 (isB_iff.1 h1).2 j _ _ e1 e2
    have := belowB_iff.1 (isB_iff.1 h2).2 j _ _ e2 e1
    rw [e1, e2]
    congr 1
    omega
  · rw [List.getElem?_eq_none (by omega), List.getElem?_eq_none (by omega)]
theorem is_join (h : alikeE [xs, ys] = 0) : decide (List.zipWith max xs ys = ys) = isB xs ys := by
  obtain ⟨_, _, a3⟩ := alike_parts h
  rw [zip_max a3]
  unfold isB
  rw [h]; simp
theorem is_meet (h : alikeE [xs, ys] = 0) : decide (List.zipWith min xs ys = xs) = isB xs ys := by
  obtain ⟨_, _, a3⟩ := alike_parts h
  rw [zip_min a3]
  unfold isB
  rw [h]; simp
end

set_option maxRecDepth 100000 in
set_option maxHeartbeats 1000000 in
theorem lat1_any (A B : Option Addr) (n c m d : Nat) (xs ys : List Int) (hn : n ≤ 1000000) (hm : m ≤ 1000000) (w : World) (h1 : Reads w w.heap.size 1 A n (ints xs)) (h2 : Reads w w.heap.size 1 B m (ints ys)) :
    Calls Tryd.prog 29 #[.slice A n c, .slice B m d] w fun e w' => e = .returned (.bool (isB xs ys)) ∧ Below w.heap.size w w' := by
  by_cases h : alikeE [xs, ys] = 0
  · obtain ⟨_, _, h3⟩ := alike_parts h
    have hl1 := ints_len h1
    have hl2 := ints_len h2
    obtain rfl : n = m := by omega
    have HB := Lib.hid (below9_ok A B n c d xs ys hn h w h1 h2)
    have HE : Hid (isB xs ys = belowB xs ys) := by show _ = _; unfold isB; rw [h]; simp
    rw [HE.out]
    generalize belowB xs ys = b at *
    clear h1 h2 h h3 hl1 hl2
    go_enter Tryd.func29, Tryd.ntmps29
    go_wp2_with fail
    refine HB.out.mono ?_
    rintro e w1 ⟨rfl, b1⟩
    have B1 := Lib.hid b1
    clear b1 HB
    go_wp2_with fail
    go_ret
    exact ⟨rfl, B1.out⟩
  · have HB := Lib.hid (below9_no A B n c m d xs ys hn hm _ rfl (by simpa using h) w h1 h2)
    have HE : Hid (isB xs ys = false) := by show _ = _; unfold isB; simp [h]
    rw [HE.out]
    have hk : (alikeE [xs, ys] == 0) = false := by simpa using h
    generalize alikeE [xs, ys] = k at *
    clear h1 h2 h
    go_enter Tryd.func29, Tryd.ntmps29
    go_wp2_with fail
    refine HB.out.mono ?_
    rintro e w1 ⟨rfl, b1⟩
    have B1 := Lib.hid b1
    clear b1 HB
    go_wp2_with fail
    go_ret
    exact ⟨rfl, B1.out⟩
/-- What a call that tells a bool gives in each later world. -/
def Asks (f : FuncId) (args : Array Value) (b : Bool) (w0 : World) : Prop := ∀ W, Below w0.heap.size w0 W → Calls Tryd.prog f args W fun e W' => e = .returned (.bool b) ∧ Below W.heap.size W W'
theorem Asks.at_ {f : FuncId} {args : Array Value} {b : Bool} {w0 W : World} (h : Asks f args b w0) (hb : Below w0.heap.size w0 W) : Calls Tryd.prog f args W fun e W' => e = .returned (.bool b) ∧ Below W.heap.size W W' := h W hb
theorem Env9.asks {w0 w1 : World} {L : List R9} (E : Env9 w0 L w1) {A B : Option Addr} {n c m d : Nat} {xs ys : List Int} (hn : n ≤ 40) (hm : m ≤ 40) (h1 : (⟨A, n, c, xs⟩ : R9) ∈ L) (h2 : (⟨B, m, d, ys⟩ : R9) ∈ L) :
    Asks 29 #[.slice A n c, .slice B m d] (isB xs ys) w1 := fun W hb =>
  lat1_any A B n c m d xs ys (by omega) (by omega) W ((E.on hb).rd h1) ((E.on hb).rd h2)
theorem Env9.eqs {w0 w1 : World} {L : List R9} (E : Env9 w0 L w1) {A B : Option Addr} {n c m d : Nat} {xs ys : List Int} (hn : n ≤ 40) (hm : m ≤ 40) (h1 : (⟨A, n, c, xs⟩ : R9) ∈ L) (h2 : (⟨B, m, d, ys⟩ : R9) ∈ L) :
    Asks 21 #[.slice A n c, .slice B m d] (decide (xs = ys)) w1 := fun W hb =>
  eqi_any A B n m c d xs ys (by omega) (by omega) W ((E.on hb).rd h1) ((E.on hb).rd h2)
theorem eg_lat1 : ∀ args w, (callFunc 29 args).run Tryd.prog w = .ok (.enter 29 args) w := enters_of Tryd.func29 (by kernel_rfl) rfl
end Go.Proofs.YtndekdkljimjaaaDoor
