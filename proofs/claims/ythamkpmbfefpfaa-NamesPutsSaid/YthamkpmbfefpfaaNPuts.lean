/- NamesPuts, at every input: the law answers true and leaves its arguments as they were. Conditions: none but the row's own. -/
import Derived.Test.YthamkpmbfefpfaaNr
import Derived.Test.YthamkpmbfefpfaaNu
namespace Go.Proofs.Ythamkpmbfefpfaa.lawNamesPuts
open Go.ChangeShapes Go.WideShapes Go.ChangeAt Go.RowKit
open Go.ChangeMaps (open_string shut_string)

set_option maxRecDepth 100000 in
theorem contract (H : Type) (enc : TypeId × Value → H) (W : World) (base : Nat) (args : Array Value) (ds gs : List (DataW H)) (before : List MemPlace)
    (hval : ∀ (j : Nat) t v, Try.f4.params[j]? = some t → args[j]? = some v → Value.okWide Try.prog W .any base t v)
    (hW : DataW.Whole enc Try.prog Try.f4.params.toList Rows.namesPutsSpec.vars false W args.toList ds gs before) (_ : laidMetH Try.prog [] W) :
    Calls Try.prog 4 args W fun e W' => ∃ v, e = .returned v ∧ Rows.namesPutsSpec.post enc Try.prog Try.f4 false true false false W args v W' := by
  have hW' := hW
  obtain ⟨p, q, hA0, hV, rfl, hfz, hnd⟩ := hW
  have hA : DataW.TrodAll enc Try.prog W 0 (fun _ => true) true Try.f4.params.toList args.toList ds p := hA0
  rw [Try.params4] at hA hval
  obtain ⟨v0, v1, v2, d0, d1, d2, p0, p1, p2, hargs, rfl, rfl, h0, h1, h2⟩ := trodAll_three hA
  obtain rfl : args = #[v0, v1, v2] := by cases args; simp_all
  obtain ⟨rfl, rfl⟩ := trodVars_none hV
  simp only [List.append_nil] at hW'
  have hA1 := hA0
  clear hA0
  obtain ⟨Ax, nx, cx, x, rfl, sx, qx, rx, tx⟩ := open_table (hval 0 24 v0 rfl rfl) h0
  obtain ⟨Ay, ny, cy, y, rfl, sy, qy, ry, ty⟩ := open_table (hval 1 24 v1 rfl rfl) h1
  obtain ⟨Al, nl, cl, l, rfl, sl, ql, rl, tl⟩ := open_strs (hval 2 22 v2 rfl rfl) h2
  refine (puts_core Ax nx cx x rx tx sx Ay ny cy y ry ty sy Al nl cl l (by omega) sl W qx qy ql).mono fun e W' ⟨he, hg⟩ => ?_
  subst he
  exact ⟨_, rfl, post_law hW' hA1 hg (by kernel_rfl) rfl rfl rfl rfl rfl⟩


theorem reads (os : Os) {H : Type} (enc : TypeId × Value → H) : ∃ places, DataW.whole enc Try.prog ((World.doorLaid Try.prog 4000 os).forCall (fun _ _ => 0) ⟨#[], #[Value.agg #[.slice none 0 0], Value.agg #[.slice none 0 0], Value.slice none 0 0], []⟩).memory Try.f4.params.toList Rows.namesPutsSpec.vars false #[Value.agg #[.slice none 0 0], Value.agg #[.slice none 0 0], Value.slice none 0 0].toList 8 = some ([.agg [.nil], .agg [.nil], .nil], [], places) :=
  ⟨[], by kernel_rfl⟩

set_option maxRecDepth 100000 in
theorem lifted (os : Os) (started : os.Started) (H : Type) (enc : TypeId × Value → H) (F : Stop.Interp) :
    ReturnsInHanded {} Try.checked os 4 .any ((OpenSpec.ofChange Rows.namesPutsSpec).preRow enc Try.prog Try.f4 Rows.namesPutsRow.domain false Rows.namesPutsRow.laid) (((OpenSpec.ofChange Rows.namesPutsSpec).at F).post enc Try.prog Try.f4 false true false false) := by
  obtain ⟨places, hx⟩ := reads os enc
  refine returnsInHanded_of_row (C := Try.checked) (s := OpenSpec.ofChange Rows.namesPutsSpec) own started (by kernel_rfl) Try.func4
    (witness_row_at (enc := enc) (C := Try.checked) false (World.doorLaid Try.prog 4000 os) #[Value.agg #[.slice none 0 0], Value.agg #[.slice none 0 0], Value.slice none 0 0] rfl (by kernel_rfl) (by kernel_rfl) (by kernel_rfl)
      (OpenSpec.preRow_of_cond 8 hx (by kernel_rfl) (fun k hk => by cases hk) (by kernel_rfl) (laid_met os _))) ?_
  intro W base args ds gs before hval hW _ _ _ hL _ _
  exact contract H enc W base args ds gs before hval hW hL

theorem said : Rows.NamesPutsSaid :=
  OpenClaim.holds_of_cond 4 Try.f4 rfl rfl rfl rfl rfl rfl rfl ⟨rfl, rfl, rfl, rfl, rfl⟩ rfl rfl rfl rfl rfl (by kernel_rfl) Try.func4 (by kernel_rfl)
    (of_decide_eq_true (by kernel_rfl)) (by unfold Func.isWrapper; first | (rw [if_pos (by decide +kernel)]; kernel_rfl) | (rw [if_neg (by decide +kernel)]; exact ⟨rfl, rfl⟩))
    (fun os started H enc _ F => by rw [OpenClaim.pre_eq_preRow]; exact lifted os started H enc F)

end Go.Proofs.Ythamkpmbfefpfaa.lawNamesPuts
