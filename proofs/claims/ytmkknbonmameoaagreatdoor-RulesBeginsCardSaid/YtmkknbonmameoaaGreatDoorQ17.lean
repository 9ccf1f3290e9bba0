import Derived.Deep.RegionHeld3
import Derived.WalkKit
import Derived.OrdersIn
import Derived.Test.YtmkknbonmameoaaGreatDoorWords
-- holds: YtmkknbonmameoaaGreatDoorHWtk YtmkknbonmameoaaGreatDoorHJk YtmkknbonmameoaaGreatDoorHYf
namespace Go.Proofs.YtmkknbonmameoaaGreatDoor
open Go.RowKit
theorem c8 {X:World} {g:Nat} {t:TypeId} {c0 c1 c2 c3 c4 c5 c6 c7:Value} (h:Blk X g t #[c0,c1,c2,c3,c4,c5,c6,c7]):X.cell? ⟨g,0,none⟩=some c0∧X.cell? ⟨g,1,none⟩=some c1∧X.cell? ⟨g,2,none⟩=some c2∧X.cell? ⟨g,3,none⟩=some c3∧X.cell? ⟨g,4,none⟩=some c4∧X.cell? ⟨g,5,none⟩=some c5∧X.cell? ⟨g,6,none⟩=some c6∧X.cell? ⟨g,7,none⟩=some c7:=⟨h.cell 0,h.cell 1,h.cell 2,h.cell 3,h.cell 4,h.cell 5,h.cell 6,h.cell 7⟩
theorem sA {α:Type _} {a:List α} {i:Nat} {x:α}:a.toArray.setIfInBounds i x=(a.set i x).toArray:=List.setIfInBounds_toArray ..
theorem sB {α:Type _} {a x:α} {l:List α}:(x :: l).set 0 a=a :: l:=List.set_cons_zero ..
theorem zS:(∀ (a:List Value) (i:Nat) (x:Value),a.toArray.setIfInBounds i x=(a.set i x).toArray)∧(∀ (a x:Value) (l:List Value),(x :: l).set 0 a=a :: l)∧(∀ (a x:Value) (l:List Value) (n:Nat),(x :: l).set (n+1) a=x :: l.set n a):=⟨fun _ _ _=>List.setIfInBounds_toArray ..,fun _ _ _=>List.set_cons_zero ..,fun _ _ _ _=>List.set_cons_succ ..⟩
theorem sC {α:Type _} {a x:α} {l:List α} {n:Nat}:(x :: l).set (n+1) a=x :: l.set n a:=List.set_cons_succ ..
variable {P : Program} {md : Region.Mode} {ops : Array Oper} {Q : Exit → Act → World → Prop} {S : World → Prop}
theorem tkv {oi:Oper} {fuel:Nat} {listed:Array Bool} {a:Act} {w:World} (i:Nat) (d:Option Tmp) (v:Value) (hi:ops[i]?=some oi) (hd:oi.dst=d)
    (hy:∀ w',S w'→(execOp a.eval oi).run P w'=.ok (.value v) w') (h:wpAnyH P md ops Q S fuel (listed.setIfInBounds i true) (a.put d v) w)
    (h1:Region.wanted oi (yielded ops a.tmps)=true:=by kernel_rfl) (hs:Region.noSelect ops=true:=by kernel_rfl) (hf:Region.free md ops listed i=true:=by kernel_rfl) (hr:(Region.ready md ops listed).contains i=true:=by kernel_rfl)
    (hQ:∀ c a w,Q (.panic c) (a.put d v) w→Q (.panic c) a w:=by exact fun _ _ _ h=>h) (hS:S w:=by assumption):wpAnyH P md ops Q S (fuel+1) listed a w :=
  by subst hd;exact wpAnyH_take hi hs hf hr hQ (Or.inl ⟨h1,hy⟩) hS h
theorem tku {oi:Oper} {fuel:Nat} {listed:Array Bool} {a:Act} {w:World} (i:Nat) (d:Option Tmp) (hi:ops[i]?=some oi) (hd:oi.dst=d)
    (h:wpAnyH P md ops Q S fuel (listed.setIfInBounds i true) (a.put d undef) w)
    (h1:Region.wanted oi (yielded ops a.tmps)=false:=by kernel_rfl) (hs:Region.noSelect ops=true:=by kernel_rfl) (hf:Region.free md ops listed i=true:=by kernel_rfl) (hr:(Region.ready md ops listed).contains i=true:=by kernel_rfl)
    (hQ:∀ c a w,Q (.panic c) (a.put d undef) w→Q (.panic c) a w:=by exact fun _ _ _ h=>h) (hS:S w:=by assumption):wpAnyH P md ops Q S (fuel+1) listed a w :=
  by subst hd;exact wpAnyH_take hi hs hf hr hQ (Or.inr ⟨h1,rfl⟩) hS h
theorem rdH (rs:List Nat) {fuel:Nat} {listed:Array Bool} {a:Act} {w:World} (h:AllReadyH P md ops Q S fuel listed a w rs) (hr:Region.ready md ops listed=rs:=by kernel_rfl) (hne:rs≠[]:=by simp):wpAnyH P md ops Q S (fuel+1) listed a w:=wpAnyH_ready hr hne h
section
variable {F : Fence} {n : Nat}
theorem tkiv {oi:Oper} {fuel:Nat} {listed:Array Bool} {a:Act} {w:World} (i:Nat) (d:Option Tmp) (v:Value) (hro:F.round=none) (hi:ops[i]?=some oi) (hd:oi.dst=d)
    (hy:∀ w',(execOp a.eval oi).run P w'=.ok (.value v) w') (h:wpAnyIn F n P md ops Q fuel (listed.setIfInBounds i true) (a.put d v) w)
    (h1:Region.wanted oi (yielded ops a.tmps)=true:=by kernel_rfl) (ha:∀ w,oi.about P w a.eval=none:=by exact fun _=>rfl) (hs:Region.noSelect ops=true:=by kernel_rfl) (hf:Region.free md ops listed i=true:=by kernel_rfl) (hr:(Region.ready md ops listed).contains i=true:=by kernel_rfl)
    (hQ:∀ c a w,Q (.panic c) (a.put d v) w→Q (.panic c) a w:=by exact fun _ _ _ h=>h):wpAnyIn F n P md ops Q (fuel+1) listed a w :=
  by subst hd;exact wpAnyIn_take hro hi hs hf hr hQ ⟨Or.inl ⟨h1,hy⟩,ha⟩ h
theorem tkiu {oi:Oper} {fuel:Nat} {listed:Array Bool} {a:Act} {w:World} (i:Nat) (d:Option Tmp) (hro:F.round=none) (hi:ops[i]?=some oi) (hd:oi.dst=d)
    (h:wpAnyIn F n P md ops Q fuel (listed.setIfInBounds i true) (a.put d undef) w)
    (h1:Region.wanted oi (yielded ops a.tmps)=false:=by kernel_rfl) (ha:∀ w,oi.about P w a.eval=none:=by exact fun _=>rfl) (hs:Region.noSelect ops=true:=by kernel_rfl) (hf:Region.free md ops listed i=true:=by kernel_rfl) (hr:(Region.ready md ops listed).contains i=true:=by kernel_rfl)
    (hQ:∀ c a w,Q (.panic c) (a.put d undef) w→Q (.panic c) a w:=by exact fun _ _ _ h=>h):wpAnyIn F n P md ops Q (fuel+1) listed a w :=
  by subst hd;exact wpAnyIn_take hro hi hs hf hr hQ ⟨Or.inr ⟨h1,rfl⟩,ha⟩ h
end
end Go.Proofs.YtmkknbonmameoaaGreatDoor
namespace Go.Proofs.YtmkknbonmameoaaGreatDoor
open Go.RowKit
theorem kA {α:Type _} {a:List α} {i:Nat} {x:α}:a.toArray.setIfInBounds i x=(a.set i x).toArray:=List.setIfInBounds_toArray ..
theorem kB {α:Type _} {a x:α} {l:List α}:(x :: l).set 0 a=a :: l:=List.set_cons_zero ..
theorem zK:(∀ (a:List Value) (i:Nat) (x:Value),a.toArray.setIfInBounds i x=(a.set i x).toArray)∧(∀ (a x:Value) (l:List Value),(x :: l).set 0 a=a :: l)∧(∀ (a x:Value) (l:List Value) (n:Nat),(x :: l).set (n+1) a=x :: l.set n a):=⟨fun _ _ _=>List.setIfInBounds_toArray ..,fun _ _ _=>List.set_cons_zero ..,fun _ _ _ _=>List.set_cons_succ ..⟩
theorem kC {α:Type _} {a x:α} {l:List α} {n:Nat}:(x :: l).set (n+1) a=x :: l.set n a:=List.set_cons_succ ..
section
variable {P : Program} {ops : Array Oper} {Q : Exit → Act → World → Prop} {md : Region.Mode} {S T : World → Prop} {k : Nat}
def wpAnyK (P:Program) (md:Region.Mode) (ops:Array Oper) (Q:Exit→Act→World→Prop) (S:World→Prop) (k:Nat):Nat→Array Bool→Act→World→Prop
 | 0,listed,a,w=>Region.ready md ops listed=[]∧Q .normal a w
 | fuel+1,listed,a,w =>
  (Region.ready md ops listed=[]→Q .normal a w) ∧
  ∀ i∈Region.ready md ops listed,wpOp P ops Q i (fun a' w'=>((listed.setIfInBounds i true).getD k false=false→S w')∧wpAnyK P md ops Q S k fuel (listed.setIfInBounds i true) a' w') a w
theorem wpAny_of_K:∀ (fuel:Nat) (listed:Array Bool) (a:Act) (w:World),wpAnyK P md ops Q S k fuel listed a w→wpAny P md ops Q fuel listed a w
 | 0,_,_,_,h=>h
 | fuel+1,_,_,_,h=>⟨h.1,fun i hi=>wpOp_mono (fun a' w' h'=>wpAny_of_K fuel _ a' w' h'.2) (h.2 i hi)⟩
def waitsFor (md:Region.Mode) (ops:Array Oper) (k i:Nat):Bool:=match ops[k]? with
 | some o=>o.after.any fun e=>Region.binds md e&&e.on==i
 | none=>true
theorem wpAnyK_first {i:Nat} {oi:Oper} {v:Value} (hi:ops[i]?=some oi) (hsel:∀ (j:Nat) (o:Oper) cs b,ops[j]?=some o→o.op≠.select cs b)
 (hQ:∀ c a w,Q (.panic c) (a.put oi.dst v) w→Q (.panic c) a w) (hT:∀ w,S w→T w) (hki:i≠k) :
 ∀ (fuel:Nat) (listed:Array Bool) (a:Act) (w:World),((∀ w,T w)∨(waitsFor md ops k i=true∧listed.getD k false=false)) →
  (∀ j oj,ops[j]?=some oj→j≠i→listed.getD j true=false→(∀ e∈oj.after,Region.binds md e=true→e.on≠i)→oi.apart ops oj=true) →
  i∈Region.ready md ops listed→YieldsIf P ops T oi v a→T w→(listed.getD k false=false→S w) →
  wpAnyK P md ops Q S k fuel (listed.setIfInBounds i true) (a.put oi.dst v) w→wpAnyK P md ops Q S k (fuel+1) listed a w:=by
 intro fuel
 induction fuel with
 | zero =>
  intro listed a w _ _ hr hy hTw hS H
  refine⟨fun h=>(by rw[h] at hr;cases hr),fun j hj=>?_⟩
  by_cases hji:j=i
  ·subst hji;exact hy.wpOp hi hTw ⟨fun h=>hS (by rwa [getD_set_ne false hki] at h),H⟩
  have:=ready_mono hj hji
  rw[H.1] at this
  cases this
 | succ fuel ih =>
  intro listed a w hk hfree hr hy hTw hS H
  refine⟨fun h=>(by rw[h] at hr;cases hr),fun j hj=>?_⟩
  by_cases hji:j=i
  ·subst hji;exact hy.wpOp hi hTw ⟨fun h=>hS (by rwa [getD_set_ne false hki] at h),H⟩
  have h1:=H.2 j (ready_mono hj hji)
  obtain⟨hjun,oj,hoj,hall⟩:=mem_ready.1 hj
  have hnot:∀ e∈oj.after,Region.binds md e=true→e.on≠i:=fun e he hb heq=>by
   have h1:=hall e he hb
   have h0:=(mem_ready.1 hr).1
   rw[heq] at h1
   rcases Nat.lt_or_ge i listed.size with h' | h'
   ·simp[h'] at h0 h1;rw[h0] at h1;cases h1
   simp[Array.getElem?_eq_none h'] at h1
  have hk':(∀ w,T w)∨(waitsFor md ops k i=true∧(listed.setIfInBounds j true).getD k false=false):=by
   rcases hk with hk | ⟨hk,hl⟩
   ·exact .inl hk
   refine .inr ⟨hk,?_⟩
   by_cases hjk:j=k
   ·subst hjk
    unfold waitsFor at hk
    rw[hoj] at hk
    simp only[Array.any_eq_true,Bool.and_eq_true,beq_iff_eq] at hk
    obtain⟨q,hq,hb,hon⟩:=hk
    exact (hnot _ (Array.getElem_mem hq) hb hon).elim
   rw[getD_set_ne false hjk]
   exact hl
  have h2:=wpOp_putIf hoj (hfree j oj hoj hji hjun hnot) (fun cs b=>hsel i oi cs b hi) (fun cs b=>hsel j oj cs b hoj) hQ hy h1
  have hfree':∀ q ok,ops[q]?=some ok→q≠i→(listed.setIfInBounds j true).getD q true=false →
   (∀ e∈ok.after,Region.binds md e=true→e.on≠i)→oi.apart ops ok=true:=fun q ok hq hqi hun hno=>by
   refine hfree q ok hq hqi ?_ hno
   by_cases hjq:j=q
   ·subst hjq;exact hjun
   rw[getD_set_ne true hjq] at hun;exact hun
  refine wpOp_mono (fun a' w' h3=>?_) h2
  have hS':(listed.setIfInBounds j true).getD k false=false→S w':=fun h=>h3.2.1 (by rw[Array.setIfInBounds_comm _ _ (Ne.symm hji),getD_set_ne false hki];exact h)
  refine⟨hS',ih (listed.setIfInBounds j true) a' w' hk' hfree' (ready_mono hr (Ne.symm hji)) h3.1 ?_ hS' ?_⟩
  ·rcases hk' with h | ⟨_,h⟩
   ·exact h w'
   exact hT w' (hS' h)
  rw[Array.setIfInBounds_comm _ _ hji]
  exact h3.2.2
theorem kv {oi:Oper} {fuel:Nat} {listed:Array Bool} {a:Act} {w:World} (i:Nat) (d:Option Tmp) (v:Value) (hi:ops[i]?=some oi) (hd:oi.dst=d)
 (hy:∀ w',S w'→(execOp a.eval oi).run P w'=.ok (.value v) w') (h:wpAnyK P md ops Q S k fuel (listed.setIfInBounds i true) (a.put d v) w)
 (h1:Region.wanted oi (yielded ops a.tmps)=true:=by kernel_rfl) (hs:Region.noSelect ops=true:=by kernel_rfl) (hf:Region.free md ops listed i=true:=by kernel_rfl) (hr:(Region.ready md ops listed).contains i=true:=by kernel_rfl)
 (hk:waitsFor md ops k i=true:=by kernel_rfl) (hl:listed.getD k false=false:=by kernel_rfl) (hki:i≠k:=by decide)
 (hQ:∀ c a w,Q (.panic c) (a.put d v) w→Q (.panic c) a w:=by exact fun _ _ _ h=>h) (hS:S w:=by assumption):wpAnyK P md ops Q S k (fuel+1) listed a w:=by
 subst hd
 exact wpAnyK_first hi (Region.noSelect_spec hs) hQ (fun _ h=>h) hki fuel listed a w (.inr ⟨hk,hl⟩) (Region.free_spec hi hf) (by simpa using hr) (Or.inl ⟨h1,hy⟩) hS (fun _=>hS) h
theorem ka {oi:Oper} {fuel:Nat} {listed:Array Bool} {a:Act} {w:World} (i:Nat) (d:Option Tmp) (v:Value) (hi:ops[i]?=some oi) (hd:oi.dst=d)
 (hy:∀ w',(execOp a.eval oi).run P w'=.ok (.value v) w') (h:wpAnyK P md ops Q S k fuel (listed.setIfInBounds i true) (a.put d v) w)
 (h1:Region.wanted oi (yielded ops a.tmps)=true:=by kernel_rfl) (hs:Region.noSelect ops=true:=by kernel_rfl) (hf:Region.free md ops listed i=true:=by kernel_rfl) (hr:(Region.ready md ops listed).contains i=true:=by kernel_rfl) (hki:i≠k:=by decide)
 (hQ:∀ c a w,Q (.panic c) (a.put d v) w→Q (.panic c) a w:=by exact fun _ _ _ h=>h) (hS:S w:=by assumption):wpAnyK P md ops Q S k (fuel+1) listed a w:=by
 subst hd
 exact wpAnyK_first (T:=fun _=>True) hi (Region.noSelect_spec hs) hQ (fun _ _=>trivial) hki fuel listed a w (.inl fun _=>trivial) (Region.free_spec hi hf) (by simpa using hr) (Or.inl ⟨h1,fun w _=>hy w⟩) trivial (fun _=>hS) h
theorem ku {oi:Oper} {fuel:Nat} {listed:Array Bool} {a:Act} {w:World} (i:Nat) (d:Option Tmp) (hi:ops[i]?=some oi) (hd:oi.dst=d)
 (h:wpAnyK P md ops Q S k fuel (listed.setIfInBounds i true) (a.put d undef) w)
 (h1:Region.wanted oi (yielded ops a.tmps)=false:=by kernel_rfl) (hs:Region.noSelect ops=true:=by kernel_rfl) (hf:Region.free md ops listed i=true:=by kernel_rfl) (hr:(Region.ready md ops listed).contains i=true:=by kernel_rfl) (hki:i≠k:=by decide)
 (hQ:∀ c a w,Q (.panic c) (a.put d undef) w→Q (.panic c) a w:=by exact fun _ _ _ h=>h) (hS:S w:=by assumption):wpAnyK P md ops Q S k (fuel+1) listed a w:=by
 subst hd
 exact wpAnyK_first (T:=fun _=>True) hi (Region.noSelect_spec hs) hQ (fun _ _=>trivial) hki fuel listed a w (.inl fun _=>trivial) (Region.free_spec hi hf) (by simpa using hr) (Or.inr ⟨h1,rfl⟩) trivial (fun _=>hS) h
def AllReadyK (P:Program) (md:Region.Mode) (ops:Array Oper) (Q:Exit→Act→World→Prop) (S:World→Prop) (k fuel:Nat) (listed:Array Bool) (a:Act) (w:World) (rs:List Nat):Prop :=
 ∀ i∈rs,wpOp P ops Q i (fun a' w'=>((listed.setIfInBounds i true).getD k false=false→S w')∧wpAnyK P md ops Q S k fuel (listed.setIfInBounds i true) a' w') a w
theorem kn {fuel:Nat} {listed:Array Bool} {a:Act} {w:World}:AllReadyK P md ops Q S k fuel listed a w []:=fun _ h=>by cases h
theorem kc {fuel:Nat} {listed:Array Bool} {a:Act} {w:World} {i:Nat} {o:Oper} {rs:List Nat} (ho:ops[i]?=some o)
 (h:∀ K':Act→World→Prop,Shut (∀ a w,S w→(S w→wpAnyK P md ops Q S k fuel (listed.setIfInBounds i true) a w)→K' a w)→if Region.wanted o (yielded ops a.tmps)=true then Oper.wp P o a w K' Q else K' (a.put o.dst undef) w)
 (hs:AllReadyK P md ops Q S k fuel listed a w rs):AllReadyK P md ops Q S k fuel listed a w (i :: rs):=fun j hj=>by
 rcases List.mem_cons.1 hj with rfl | hj
 ·exact wpOp_step ho (fun K' hK=>h K' (fun a w hS hW=>hK a w ⟨fun _=>hS,hW hS⟩))
 exact hs j hj
theorem kz {fuel:Nat} {listed:Array Bool} {a:Act} {w:World} {o:Oper} (ho:ops[k]?=some o)
 (h:∀ K':Act→World→Prop,Shut (∀ a w,wpAnyK P md ops Q S k fuel (listed.setIfInBounds k true) a w→K' a w)→if Region.wanted o (yielded ops a.tmps)=true then Oper.wp P o a w K' Q else K' (a.put o.dst undef) w) (hl:(listed.setIfInBounds k true).getD k false=true:=by kernel_rfl):AllReadyK P md ops Q S k fuel listed a w [k]:=fun j hj=>by
 obtain rfl:j=k:=by simpa using hj
 exact wpOp_step ho (fun K' hK=>h K' (fun a w hW=>hK a w ⟨fun e=>(by rw[hl] at e;cases e),hW⟩))
theorem kr (rs:List Nat) {fuel:Nat} {listed:Array Bool} {a:Act} {w:World} (h:AllReadyK P md ops Q S k fuel listed a w rs) (hr:Region.ready md ops listed=rs:=by kernel_rfl) (hne:rs≠[]:=by simp):wpAnyK P md ops Q S k (fuel+1) listed a w :=
 ⟨fun h0=>absurd (hr▸h0) hne,hr▸h⟩
theorem kd {listed:Array Bool} {a:Act} {w:World} (hr:Region.ready md ops listed=[]) (h:Q .normal a w):∀ fuel,wpAnyK P md ops Q S k fuel listed a w
 | 0=>⟨hr,h⟩
 | _+1=>⟨fun _=>h,by rw[hr];simp⟩
theorem wp_region_K {id:Nat} {a:Act} {w:World} (k:Nat) (hm:P.follows .mixedOrders=true) (hS:S w.drew)
 (h:S w.drew→wpAnyK P .any ops Q S k ops.size (Array.replicate ops.size false) a w.drew):(Code.region id ops true).wp P Q a w :=
 wp_region_any hm (wpAny_of_K _ _ _ _ (h hS))
end
section
variable {P : Program} {ops : Array Oper} {Q : Exit → Act → World → Prop}
structure InvR (n:Nat) (act:(Nat→Value)→Act) (C:Nat→Value→World→Prop) (J:World→Prop) (listed:Array Bool) (a:Act) (w:World):Prop where
 size:listed.size=n
 ex:∃ f,a=act f∧(∀ j,listed.getD j false=true→C j (f j) w)∧J w
def upF (f:Nat→Value) (i:Nat) (v:Value):Nat→Value:=fun j=>bif j==i then v else f j
theorem upF_same (f:Nat→Value) (i:Nat) (v:Value):upF f i v i=v:=by unfold upF;simp
theorem upF_other (f:Nat→Value) {i j:Nat} (v:Value) (h:j≠i):upF f i v j=f j:=by
 have:(j==i)=false:=by simpa using h
 unfold upF
 rw[this]
 rfl
theorem InvR.put {n:Nat} {act:(Nat→Value)→Act} {C:Nat→Value→World→Prop} {J:World→Prop} {listed:Array Bool} {a:Act} {w w':World} {f:Nat→Value} {i:Nat} {v:Value}
 (hs:listed.size=n) (hC:∀ j,listed.getD j false=true→C j (f j) w) (hm:∀ j,j≠i→∀ v,C j v w→C j v w') (hJ:J w') (ha:a=act (upF f i v)) (hv:C i v w'):InvR n act C J (listed.setIfInBounds i true) a w' :=
 ⟨by rw[Array.size_setIfInBounds];exact hs,upF f i v,ha,fun j hj=>by
  by_cases e:j=i
  ·subst e;rw[upF_same];exact hv
  ·rw[upF_other f v e]
   rw[getD_set_ne false (Ne.symm e)] at hj
   exact hm _ e _ (hC j hj),hJ⟩
end
section
variable {P : Program} {ops : Array Oper} {Q : Exit → Act → World → Prop} {md : Region.Mode} {S : World → Prop} {k : Nat}
theorem wpAnyK_free:∀ (fuel:Nat) (listed:Array Bool) (a:Act) (w:World),listed.getD k false=true→wpAny P md ops Q fuel listed a w→wpAnyK P md ops Q S k fuel listed a w
 | 0,_,_,_,_,h=>h
 | fuel+1,listed,a,w,hl,h=>⟨h.1,fun i hi=>wpOp_mono (fun a' w' h'=>by
  have hl':(listed.setIfInBounds i true).getD k false=true:=by
   by_cases e:i=k
   ·subst e
    have:i<listed.size:=by
     rcases Nat.lt_or_ge i listed.size with h | h
     ·exact h
     rw[Array.getD_eq_getD_getElem?,Array.getElem?_eq_none h] at hl
     cases hl
    rw[Array.getD_eq_getD_getElem?,Array.getElem?_setIfInBounds_self_of_lt this]
    rfl
   rw[getD_set_ne false e]
   exact hl
  exact⟨fun e=>(by rw[hl'] at e;cases e),wpAnyK_free fuel _ a' w' hl' h'⟩) (h.2 i hi)⟩
theorem wa1 (i:Nat) {fuel:Nat} {listed:Array Bool} {a:Act} {w:World} {o:Oper} (ho:ops[i]?=some o)
 (h:∀ K':Act→World→Prop,Shut (∀ a w,wpAny P md ops Q fuel (listed.setIfInBounds i true) a w→K' a w)→if Region.wanted o (yielded ops a.tmps)=true then Oper.wp P o a w K' Q else K' (a.put o.dst undef) w)
 (hr:Region.ready md ops listed=[i]:=by kernel_rfl):wpAny P md ops Q (fuel+1) listed a w :=
 ⟨fun h0=>(by rw[hr] at h0;cases h0),hr▸fun j hj=>by
  obtain rfl:j=i:=by simpa using hj
  exact wpOp_step ho h⟩
theorem wad {listed:Array Bool} {a:Act} {w:World} (h:Q .normal a w) (hr:Region.ready md ops listed=[]:=by kernel_rfl):∀ fuel,wpAny P md ops Q fuel listed a w
 | 0=>⟨hr,h⟩
 | _+1=>⟨fun _=>h,by rw[hr];simp⟩
end
end Go.Proofs.YtmkknbonmameoaaGreatDoor
