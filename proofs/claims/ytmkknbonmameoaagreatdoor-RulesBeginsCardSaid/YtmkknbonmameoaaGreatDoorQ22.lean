import Derived.Deep.RegionHeld3
import Derived.StillTailTactics
import Derived.Test.YtmkknbonmameoaaGreatDoorQ9
-- holds: YtmkknbonmameoaaGreatDoorHIo
namespace Go.Proofs.YtmkknbonmameoaaGreatDoor
open Go.RowKit Go.Shelf
structure MarksAt (B:Nat) (C:Nat→Prop) (Ds:List Nat) (w:World):Prop where
 once:Ds.Nodup
 all:∀ D∈Ds,B≤D∧¬C D∧w.heap[D]?=some (.deferred (some []))
section
variable {B : Nat} {C : Nat → Prop} {Ds : List Nat} {w w' : World}
theorem MarksAt.nil (B:Nat) (C:Nat→Prop) (w:World):MarksAt B C [] w:=⟨List.nodup_nil,fun D h=>by simp at h⟩
theorem MarksAt.lt (h:MarksAt B C Ds w) {D:Nat} (hD:D∈Ds):D<w.heap.size:=(Array.getElem?_eq_some_iff.1 (h.all D hD).2.2).1
theorem MarksAt.ne (h:MarksAt B C Ds w) {g:Nat} {t:TypeId} {cs:Array Value} (hb:Blk w g t cs) {D:Nat} (hD:D∈Ds):D≠g:=fun e=>by
 have h1:=(h.all D hD).2.2
 rw[e] at h1
 unfold Blk at hb
 rw[hb] at h1
 cases h1
theorem MarksAt.keep {S:Nat→Prop} (h:MarksAt B C Ds w) (hk:Keep S w w') (hS:∀ D∈Ds,S D):MarksAt B C Ds w' :=
 ⟨h.once,fun D hD=>⟨(h.all D hD).1,(h.all D hD).2.1,hk.obj (h.all D hD).2.2 (hS D hD)⟩⟩
theorem MarksAt.to {C':Nat→Prop} (h:MarksAt B C Ds w) (hC:∀ D∈Ds,C' D→C D):MarksAt B C' Ds w:=⟨h.once,fun D hD=>⟨(h.all D hD).1,fun c=>(h.all D hD).2.1 (hC D hD c),(h.all D hD).2.2⟩⟩
theorem MarksAt.cons (h:MarksAt B C Ds w) {D:Nat} (h1:B≤D) (h2:¬C D) (h3:w.heap[D]?=some (.deferred (some []))) (h4:D ∉ Ds):MarksAt B C (D :: Ds) w :=
 ⟨List.nodup_cons.2 ⟨h4,h.once⟩,fun E hE=>by
  rcases List.mem_cons.1 hE with rfl | hE
  ·exact⟨h1,h2,h3⟩
  ·exact h.all E hE⟩
end
theorem leaves_marks {F:Fence} {n:Nat} {P:Program} {fn:Func} {tmps:Array Value} {R:Ending→World→Prop} {B:Nat} {C:Nat→Prop}:∀ (Ds:List Nat) (w:World),MarksAt B C Ds w →
 (∀ w',Keep (fun k=>k ∉ Ds) w w'→LeavesIn F n P fn tmps R [] .returning w')→LeavesInM F n P fn tmps R (Ds.map mkMark) .returning w
 | [],w,_,h=>h w (Keep.refl _ _)
 | D :: Ds,w,hm,h=>by
  have h1:=hm.all D (.head _)
  have hnd:=List.nodup_cons.1 hm.once
  have hk:Keep (fun k=>k≠D) w (w.putObj D (.deferred none)):=(Keep.refl _ w).put (.inr fun e=>e rfl) _
  refine⟨by simp,.inl ⟨D,w.putObj D (.deferred none),rfl,run_takeDeferred h1.2.2,?_⟩⟩
  refine leaves_marks Ds _ (MarksAt.keep ⟨hnd.2,fun E hE=>hm.all E (.tail _ hE)⟩ hk fun E hE e=>hnd.1 (e▸hE)) fun w' hk'=>h w' ?_
  exact (hk.mono fun k _ hk=>fun e=>hk (e▸.head _)).trans (hk'.mono fun k _ hk=>fun e=>hk (.tail _ e))
def OnlyN (K:Act→World→Prop):Exit→Act→World→Prop
 | .normal,a,w=>K a w
 | _,_,_=>False
theorem OnlyN.lets {K:Act→World→Prop}:¬LetsOut (OnlyN K):=fun ⟨_,_,h⟩=>h
theorem upon_round {P:Program} {n l:Nat} {Q:Exit→Act→World→Prop} {KK K:Act→World→Prop} {K':Act→World→Prop} (hK:∀ a w,K a w→K' a w) (o:Oper) (a:Act):∀ r:Result Next,o.upon P a K (OnlyN KK) r→o.uponIn (Fence.wide.inRound l) n P a K' Q r
 | .ok (.value v) w',h=>hK _ _ h
 | .ok .skip w',h=>hK _ _ h
 | .ok (.defer d) w',h=>hK _ _ h
 | .ok (.enter f args) w',h=>⟨(fun e=>by cases e),((callsIn_wide.2 h).inRound l).mono fun e w'' he=>by
  cases e with
  | returned v=>exact hK _ _ he
  | panicked c=>exact (he:False).elim
  | outgrown=>exact (OnlyN.lets he).elim⟩
 | .ok (.row row args) w',h=>⟨(fun e=>by cases e),fun c cs _=>by
  obtain⟨v,w2,r,s⟩:=(show Rows P row args w' _ from h) c cs
  exact⟨v,w2,hK _ _ r,stepsIn_wide.2 s⟩⟩
 | .ok (.round _ _ _ _ _) w',h=>(h:False).elim
 | .halt x w',h=>by
  cases x<;>exact (h:False).elim
theorem any_round {P:Program} {n l:Nat} {md:Region.Mode} {ops:Array Oper} {Q:Exit→Act→World→Prop} (hd:∀ (i:Nat) o,ops[i]?=some o→∀ c,o.op≠.defer c):∀ (fuel:Nat) (listed:Array Bool) (a:Act) (w:World),
 wpAny P md ops (OnlyN fun a w=>Q .normal a w) fuel listed a w→wpAnyIn (Fence.wide.inRound l) n P md ops Q fuel listed a w
 | 0,_,_,_,h=>h
 | fuel+1,listed,a,w,h=>⟨h.1,fun i hi=>by
  have h2:=h.2 i hi
  unfold wpOp at h2
  unfold wpOpIn
  cases ho:ops[i]? with
  | none =>
   rw[ho] at h2
   exact any_round hd fuel _ _ _ h2
  | some o =>
   rw[ho] at h2
   simp only at h2 ⊢
   split
   ·rename_i hw
    rw[if_pos hw] at h2
    rcases h2 with h2 | h2
    ·refine⟨fun f _=>trivial,?_⟩
     rw[show (Fence.wide.inRound l).round=some l from rfl,Oper.semAt_some l _ _ (hd i o ho)]
     exact upon_round (fun a w h=>any_round hd fuel _ a w h) o a _ h2
    exact (OnlyN.lets h2.2).elim
   ·rename_i hw
    rw[if_neg hw] at h2
    exact⟨fun f _=>trivial,any_round hd fuel _ _ _ h2⟩⟩
theorem noDefer {ops:Array Oper} (h:ops.toList.all (fun o=>match o.op with | .defer _=>false | _=>true)=true):∀ (i:Nat) o,ops[i]?=some o→∀ c,o.op≠.defer c:=fun i o ho c e=>by
 have:=List.all_eq_true.1 h o (by rw[← Array.getElem?_toList] at ho;exact List.mem_of_getElem? ho)
 rw[e] at this
 cases this
theorem region_round {P:Program} {n l id:Nat} {ops:Array Oper} {Q:Exit→Act→World→Prop} {a:Act} {w:World} {S:World→Prop} (hm:P.follows .mixedOrders=true) (hd:ops.toList.all (fun o=>match o.op with | .defer _=>false | _=>true)=true) (hS:S w.drew)
 (h:S w.drew→wpAnyH P .any ops (OnlyN fun a w=>Q .normal a w) S ops.size (Array.replicate ops.size false) a w.drew):(Code.region id ops true).wpIn (Fence.wide.inRound l) n P Q a w :=
 wpIn_region_any hm (any_round (noDefer hd) _ _ _ _ (wpAny_of_held _ _ _ _ (h hS)))
theorem OnlyN.normal {K:Act→World→Prop} {a:Act} {w:World} (h:K a w):OnlyN K .normal a w:=h
end Go.Proofs.YtmkknbonmameoaaGreatDoor
