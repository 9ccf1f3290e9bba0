import Derived.RangeFuncNested
import Derived.RangeFuncBound
import Derived.RangeFuncCalls
import Derived.RangeFuncLeaves
import Derived.Shelf.Abstract
import Derived.Shelf.RegionOpen
import Derived.WalkKit
import Derived.OwnWalkIn
import Derived.TacticsInMore
import Derived.LoopNIn
import Derived.LoopIn
import Derived.Outline
import Derived.Test.YtmkknbonmameoaaGreatDoorWords
-- holds: YtmkknbonmameoaaGreatDoorHQz YtmkknbonmameoaaGreatDoorHIc YtmkknbonmameoaaGreatDoorHZa
namespace Go.Proofs.YtmkknbonmameoaaGreatDoor
open Go.RowKit Go.Shelf
structure Keep (S:Nat→Prop) (W W':World):Prop where
 os:W'.os=W.os
 tape:W'.tape=W.tape
 output:W'.output=W.output
 size:W.heap.size≤W'.heap.size
 block:∀ k,k<W.heap.size→S k→W'.heap[k]?=W.heap[k]?
section
variable {S T : Nat → Prop} {W X Y : World}
theorem Keep.refl (S:Nat→Prop) (W:World):Keep S W W:=⟨rfl,rfl,rfl,Nat.le_refl _,fun _ _ _=>rfl⟩
theorem Keep.trans (h:Keep S W X) (k:Keep S X Y):Keep S W Y :=
 ⟨k.os.trans h.os,k.tape.trans h.tape,k.output.trans h.output,Nat.le_trans h.size k.size,fun i hi hs=>(k.block i (Nat.lt_of_lt_of_le hi h.size) hs).trans (h.block i hi hs)⟩
theorem Keep.mono (h:Keep S W X) (hS:∀ k,k<W.heap.size→T k→S k):Keep T W X:=⟨h.os,h.tape,h.output,h.size,fun k hk ht=>h.block k hk (hS k hk ht)⟩
theorem Keep.alloc (h:Keep S W X) (o:Obj):Keep S W (X.alloc o) :=
 ⟨h.os,h.tape,h.output,Nat.le_trans h.size (by simp),fun k hk hs=>(Below.heap_alloc X o k (Nat.lt_of_lt_of_le hk h.size)).trans (h.block k hk hs)⟩
theorem Keep.drewN (h:Keep S W X) (n:Nat):Keep S W (X.drewN n):=⟨h.os,h.tape,h.output,h.size,h.block⟩
theorem Keep.drew (h:Keep S W X):Keep S W X.drew:=⟨h.os,h.tape,h.output,h.size,h.block⟩
theorem Keep.set (h:Keep S W X) {g:Nat} (hg:W.heap.size≤g∨¬S g) (i:Nat) (u:Value):Keep S W (X.setCell ⟨g,i,none⟩ u) :=
 ⟨h.os,h.tape,h.output,Nat.le_trans h.size (by rw[World.size_setCell];exact Nat.le_refl _),fun k hk hs=>(Below.heap_setCell X ⟨g,i,none⟩ u k (fun e=>by
  have e:k=g:=e
  subst e
  rcases hg with hg | hg
  ·omega
  ·exact hg hs)).trans (h.block k hk hs)⟩
theorem Keep.grown (h:Keep S W X) {row:Option Nat} (hg:X.grownBy Y row) (hr:∀ g,row=some g→W.heap.size≤g∨¬S g):Keep S W Y :=
 ⟨hg.os.trans h.os,hg.tape.trans h.tape,hg.output.trans h.output,Nat.le_trans h.size hg.size,fun k hk hs=>(hg.block k (Nat.lt_of_lt_of_le hk h.size) (fun e=>by
  rcases hr k e.symm with h1 | h1
  ·omega
  ·exact h1 hs)).trans (h.block k hk hs)⟩
theorem Keep.put (h:Keep S W X) {l:Nat} (hl:W.heap.size≤l∨¬S l) (o:Obj):Keep S W (X.putObj l o) :=
 ⟨h.os,h.tape,h.output,Nat.le_trans h.size (by simp[World.putObj]),fun k hk hs=>(World.putObj_heap_other (fun e=>by
  rcases hl with h1 | h1
  ·omega
  ·exact h1 (e▸hs))).trans (h.block k hk hs)⟩
theorem Keep.of_below {B:Nat} (h:Below B W X):Keep (fun k=>k<B) W X:=⟨h.os,h.tape,h.output,h.size,fun k _ hs=>h.block k hs⟩
theorem Keep.of_all (S:Nat→Prop) (h:Below W.heap.size W X):Keep S W X:=⟨h.os,h.tape,h.output,h.size,fun k hk _=>h.block k hk⟩
theorem Keep.below {B:Nat} (h:Keep S W X) (hB:B≤W.heap.size) (hs:∀ k,k<B→S k):Below B W X:=⟨h.os,h.tape,h.output,h.size,fun k hk=>h.block k (by omega) (hs k hk)⟩
theorem Keep.blk (h:Keep S W X) {g:Nat} {t:TypeId} {cs:Array Value} (hb:Blk W g t cs) (hs:S g):Blk X g t cs:=(h.block g hb.lt hs).trans hb
theorem own_heap6 {base n size:Nat} {e:TypeId} {v:Value} {xs:List Value} (h:W.ownsRow base e size v n xs) (hg:∀ g,v.ownBlock=some g→X.heap[g]?=W.heap[g]?):X.ownsRow base e size v n xs:=by
 refine⟨h.1,?_⟩
 rcases h.2 with hn | ⟨g,cap,cur,rfl,hbg,hk,rest⟩
 ·exact .inl hn
 exact .inr ⟨g,cap,cur,rfl,hbg,(hg g (by simp[Value.ownBlock])).trans hk,rest⟩
theorem own_in {base n size:Nat} {e:TypeId} {v:Value} {xs:List Value} (h:W.ownsRow base e size v n xs) {g:Nat} (hg:v.ownBlock=some g):base≤g∧g<W.heap.size∧∃ cur,Blk W g e cur:=by
 rcases h.2 with ⟨rfl,_⟩ | ⟨g',cap,cur,rfl,hb,hk,_⟩
 ·cases hg
 have:g'=g:=by simpa [Value.ownBlock] using hg
 subst this
 exact⟨hb,(Array.getElem?_eq_some_iff.1 hk).1,cur,hk⟩
theorem Keep.own (h:Keep S W X) {base n size:Nat} {e:TypeId} {v:Value} {xs:List Value} (ho:W.ownsRow base e size v n xs) (hs:∀ g,v.ownBlock=some g→S g):X.ownsRow base e size v n xs :=
 own_heap6 ho fun g hg=>h.block g (own_in ho hg).2.1 (hs g hg)
theorem Keep.reads (h:Keep S W X) {B size n:Nat} {A:Option Addr} {xs:List Value} (hR:Reads W B size A n xs) (hB:B≤W.heap.size) (hs:∀ k,k<B→S k):Reads X B size A n xs :=
 hR.below (h.below hB hs)
theorem Keep.obj (h:Keep S W X) {l:Nat} {o:Obj} (hl:W.heap[l]?=some o) (hs:S l):X.heap[l]?=some o:=(h.block l (Array.getElem?_eq_some_iff.1 hl).1 hs).trans hl
end
theorem room_wide {F:Fence} (hd:F.depth=none) (k:Nat):F.room k:=fun d h=>by rw[hd] at h;cases h
theorem RoundIn.deep {F:Fence} (hd:F.depth=none) {m m':Nat} {P:Program} {l:Nat} {f:FuncId} {tmps:Array Value} {assign body:Code} {w:World} {R:Ending→World→Prop}
 (h:RoundIn F m P l f tmps assign body w R):RoundIn F m' P l f tmps assign body w R:=⟨h.1,fun c cs _=>h.2 c cs (room_wide hd _)⟩
theorem YieldAt.deep {F:Fence} (hd:F.depth=none) {m:Nat} (m':Nat) {P:Program} {l:Nat} {args:Array Value} {W:World} {R:Ending→World→Prop} (h:YieldAt F m P l args W R):YieldAt F m' P l args W R:=by
 obtain⟨fn,tmps,assign,body,hy,hR⟩:=h
 exact⟨fn,tmps,assign,body,hy,RoundIn.deep hd hR⟩
def Stir:Obj→Prop
 | .loop _=>True
 | .deferred _=>True
 | _=>False
def fty (t:TypeId):Bool:=Nat.beq t 120 || (Nat.beq t 52 || (Nat.beq t 178 || Nat.beq t 92))
def Firm:Obj→Prop
 | .loop _=>True
 | .deferred _=>True
 | .cells _ t _=>fty t=true
 | _=>False
def Calm (B:Nat) (X Y:World):Prop:=Keep (fun j=>j<B∨∀ o,X.heap[j]?=some o→¬Stir o) X Y
structure Rk (X Y:World):Prop where
 size:X.heap.size≤Y.heap.size
 firm:∀ (j:Nat) (o:Obj),X.heap[j]?=some o→Firm o→Y.heap[j]?=some o
structure Fk (X Y:World):Prop where
 size:X.heap.size≤Y.heap.size
 firm:∀ (j:Nat) (cs:Array Value) (t:TypeId),Blk X j t cs→fty t=true→Blk Y j t cs
section
variable {W X Y Z : World} {B : Nat}
theorem Calm.blk (h:Calm B X Y) {g:Nat} {t:TypeId} {cs:Array Value} (hb:Blk X g t cs):Blk Y g t cs :=
 Keep.blk h hb (.inr fun o ho=>by unfold Blk at hb;rw[hb] at ho;injection ho with ho;subst ho;exact id)
theorem Calm.cell (h:Calm B X Y) {p:Addr} {u:Value} (hc:X.cell? p=some u):Y.cell? p=some u:=by
 rw[← hc]
 refine World.cell?_of_block (h.block _ (World.block_lt_of_cell? X _ hc) (.inr fun o ho hs=>?_))
 cases o<;>first | exact hs.elim | (unfold World.cell? at hc;rw[ho] at hc;simp at hc)
theorem Calm.reads (h:Calm B X Y) {B' size n:Nat} {A:Option Addr} {xs:List Value} (hr:Reads X B' size A n xs):Reads Y B' size A n xs :=
 ⟨hr.1,fun hn=>by
  obtain⟨ad,hA,hb,hc⟩:=hr.2 hn
  exact⟨ad,hA,hb,fun j u hu=>h.cell (hc j u hu)⟩⟩
theorem Calm.own (h:Calm B X Y) {base n size:Nat} {e:TypeId} {v:Value} {xs:List Value} (ho:X.ownsRow base e size v n xs):Y.ownsRow base e size v n xs :=
 Keep.own h ho fun g hg=>.inr fun o hh=>by
  obtain⟨_,_,cur,hb⟩:=own_in ho hg
  unfold Blk at hb
  rw[hb] at hh
  injection hh with hh
  subst hh
  exact id
theorem Calm.below {C:Nat} (h:Calm B X Y) (hB:B≤X.heap.size) (hb:Below C W X) (hC:C≤B):Below C W Y :=
 hb.trans (Keep.below h (Nat.le_trans hC hB) fun k hk=>.inl (by omega))
theorem Calm.of_below (h:Below X.heap.size X Y):Calm B X Y:=Keep.of_all _ h
theorem Rk.refl (X:World):Rk X X:=⟨Nat.le_refl _,fun _ _ h _=>h⟩
theorem Rk.trans (h:Rk X Y) (k:Rk Y Z):Rk X Z:=⟨Nat.le_trans h.size k.size,fun j o ho hf=>k.firm j o (h.firm j o ho hf) hf⟩
theorem Rk.of_keep {S:Nat→Prop} (h:Keep S X Y) (hS:∀ j o,X.heap[j]?=some o→Firm o→S j):Rk X Y :=
 ⟨h.size,fun j o ho hf=>(h.block j (Array.getElem?_eq_some_iff.1 ho).1 (hS j o ho hf)).trans ho⟩
theorem Rk.of_below (h:Below X.heap.size X Y):Rk X Y:=Rk.of_keep (Keep.of_all (fun _=>True) h) fun _ _ _ _=>trivial
theorem not_firm {g:Nat} {t:TypeId} {cs:Array Value} (hb:Blk X g t cs) (ht:fty t=false):∀ j o,X.heap[j]?=some o→Firm o→j≠g:=by
 rintro j o ho hf rfl
 unfold Blk at hb
 rw[hb] at ho
 injection ho with ho
 subst ho
 have hf:fty t=true:=hf
 rw[ht] at hf
 cases hf
theorem Rk.set {g:Nat} {t:TypeId} {cs:Array Value} (hb:Blk X g t cs) (ht:fty t=false) (i:Nat) (u:Value):Rk X (X.setCell ⟨g,i,none⟩ u) :=
 Rk.of_keep ((Keep.refl (fun j=>j≠g) X).set (.inr fun h=>h rfl) i u) fun j o ho hf=>not_firm hb ht j o ho hf
theorem Rk.fk (h:Rk X Y):Fk X Y:=⟨h.size,fun j _ _ hb ht=>h.firm j _ hb ht⟩
theorem Fk.refl (X:World):Fk X X:=⟨Nat.le_refl _,fun _ _ _ h _=>h⟩
theorem Fk.trans (h:Fk X Y) (k:Fk Y Z):Fk X Z:=⟨Nat.le_trans h.size k.size,fun j cs t hb ht=>k.firm j cs t (h.firm j cs t hb ht) ht⟩
theorem Fk.of_below (h:Below X.heap.size X Y):Fk X Y:=(Rk.of_below h).fk
end
def SpSeq (n:Nat) (P:Program) (gf:Nat) (lb:Array Value) (cs:List (Nat × Addr)) (Sk:World→Prop) (W:World):Prop :=
 ∀ (l:Nat) (J:Nat→World→Prop) (Jx:World→Prop) (W1:World),Fk W W1 →
  (∀ k X,J k X→Sk X)→(∀ k X Y,J k X→Below X.heap.size X Y→J k Y)→(∀ X Y,Jx X→Below X.heap.size X Y→Jx Y) →
  (∀ k s a X,cs[k]?=some (s,a)→J k X→YieldAt Fence.wide n P l #[.int .i64 (s:Nat),.pointer (some a)] X fun e X'=>(e=.returned (.bool true)∧J (k+1) X'∧Fk X X')∨(e=.returned (.bool false)∧Jx X')) →
  J 0 W1 →
  CallsIn Fence.wide n P gf (#[.func (.yield l) #[] #[]]++lb) W1 fun e X=>(∃ v,e=.returned v)∧(J cs.length X∨Jx X)
def jumpE:Option Nat→Exit
 | none=>.ret
 | some i=>.exit i
def jumpC:Option Nat→Code
 | none=>.ret
 | some i=>.exit i
def mkMark (D:Nat):Deferred:={target:=.collected D,args:=#[]}
def SpPost (jm:Option Nat) (I:Nat→World→Prop) (Ix:World→Prop) (k:Nat) (X:World):Exit→Act→World→Prop:=fun e _ X' =>
 (e=.normal∧I (k+1) X'∧Rk X X')∨(e=jumpE jm∧Ix X'∧Rk X X')
theorem range_sp {n:Nat} {P:Program} {g:Operand} {ps:Array Tmp} {assign body:Code} {Q:Exit→Act→World→Prop} {a:Act} {w:World} (jm:Option Nat) (h1:1≤n) {gf:Nat} {lb:Array Value} (hg:a.eval g=.func (.func gf) #[] lb)
 (eg:∀ args w,(callFunc gf args).run P w=.ok (.enter gf args) w) {cs:List (Nat × Addr)} {Sk:World→Prop} (hseq:SpSeq (n - 1) P gf lb cs Sk w)
 (q1 q2 r1 r2:Nat) (hps:ps=#[q1,q2]) (I:Nat→World→Prop) (Ix:World→Prop) (hSk:∀ k X,I k X→Sk X) (h0:I 0 w)
 (hI:∀ k X Y,I k X→Calm w.heap.size X Y→I k Y) (hIx:∀ X Y,Ix X→Calm w.heap.size X Y→Ix Y)
 (hassign : ∀ (l : Nat) (x y : Value) (W : World) (K : Act → World → Prop), K { tmps := (((a.tmps.setIfInBounds q1 x).setIfInBounds q2 y).setIfInBounds r1 x).setIfInBounds r2 y, defers := [] } W →
  assign.wpIn (Fence.wide.inRound l) (n - 1) P (Exit.then K (fun _ _ _=>False)) {tmps:=(a.tmps.setIfInBounds q1 x).setIfInBounds q2 y,defers:=[]} W)
 (hbody : ∀ (l k s : Nat) (p : Addr) (X : World), cs[k]? = some (s, p) → I k X → w.heap.size ≤ X.heap.size →
  body.wpIn (Fence.wide.inRound l) (n - 1) P (SpPost jm I Ix k X) {tmps:=(((a.tmps.setIfInBounds q1 (.int .i64 (s:Nat))).setIfInBounds q2 (.pointer (some p))).setIfInBounds r1 (.int .i64 (s:Nat))).setIfInBounds r2 (.pointer (some p)),defers:=[]} X)
 (hdone:∀ (D:Nat) (W:World),w.heap.size≤D→I cs.length W→W.heap[D]?=some (.deferred (some []))→Q .normal {a with defers:=mkMark D :: a.defers} W)
 (hstop:∀ (D:Nat) (W:World),w.heap.size≤D→Ix W→W.heap[D]?=some (.deferred (some []))→(jumpC jm).wpIn Fence.wide n P Q {a with defers:=mkMark D :: a.defers} W) :
 (Code.rangeFunc g ps assign body).wpIn Fence.wide n P Q a w:=by
 subst hps
 refine wpIn_rangeFunc fun fn hfn=>?_
 rw[show Fence.wide.round=none from rfl]
 obtain⟨rec,hrec⟩:∃ rec:LoopState→Option Code→Loop,rec=fun st pe=>{state:=st,pending:=pe,fn,tmps:=a.tmps,params:=#[q1,q2],assign,body,defers:=w.heap.size}:=⟨_,rfl⟩
 obtain⟨W1,hW1⟩:∃ W1,(w.alloc (.deferred (some []))).alloc (.loop (rec .ready none))=W1:=⟨_,rfl⟩
 have hL1:W1.heap[w.heap.size+1]?=some (.loop (rec .ready none)):=by
  rw[← hW1];have:=World.alloc_heap_new (w.alloc (.deferred (some []))) (.loop (rec .ready none));rwa [World.size_alloc] at this
 have hK1:W1.heap[w.heap.size]?=some (.deferred (some [])):=by
  rw[← hW1];exact (Below.heap_alloc _ _ _ (by simp)).trans (World.alloc_heap_new w _)
 have hbw:Below w.heap.size w W1:=by rw[← hW1];exact ((Below.refl _ w).alloc (Nat.le_refl _) _).alloc (by simp) _
 have hI1:I 0 W1:=hI _ _ _ h0 (Calm.of_below hbw)
 have stir:∀ {X:World} {r:Loop},X.heap[w.heap.size+1]?=some (.loop r)→¬(w.heap.size+1<w.heap.size∨∀ o,X.heap[w.heap.size+1]?=some o→¬Stir o):=fun h h2=>by
  rcases h2 with h2 | h2
  ·omega
  exact h2 _ h trivial
 have calm:∀ {X:World} {r:Loop} (o:Obj),X.heap[w.heap.size+1]?=some (.loop r)→Calm w.heap.size X (X.putObj (w.heap.size+1) o):=fun o h=>(Keep.refl _ _).put (.inr (stir h)) o
 refine⟨w.heap.size+1,[{target:=.collected w.heap.size,args:=#[]}],W1,{target:=.fn (.func gf) lb,args:=#[.func (.yield (w.heap.size+1)) #[] #[]]},W1,gf,
  #[.func (.yield (w.heap.size+1)) #[] #[]]++lb,W1,?_,?_,?_,?_,fun _=>h1,?_⟩
 ·rw[← hW1,hrec];exact run_enterLoop_outer _ _ _ _ _
 ·simp only[resolve,hg]
  simp[go_sem]
 ·intro f' hf';trivial
 ·simp[invoke,go_sem,eg]
 refine (hseq (w.heap.size+1)
  (fun k X=>I k X∧X.heap[w.heap.size+1]?=some (.loop (rec .ready none))∧X.heap[w.heap.size]?=some (.deferred (some [])))
  (fun X=>Ix X∧X.heap[w.heap.size+1]?=some (.loop (rec .done (some (jumpC jm))))∧X.heap[w.heap.size]?=some (.deferred (some [])))
  W1 (Fk.of_below hbw) ?_ ?_ ?_ ?_ ⟨hI1,hL1,hK1⟩).mono ?_
 ·rintro k X ⟨hi,_,_⟩
  exact hSk k X hi
 ·rintro k X Y ⟨hi,hl,hk⟩ hb
  exact⟨hI _ _ _ hi (Calm.of_below hb),(Keep.of_all (fun _=>True) hb).obj hl trivial,(Keep.of_all (fun _=>True) hb).obj hk trivial⟩
 ·rintro X Y ⟨hi,hl,hk⟩ hb
  exact⟨hIx _ _ hi (Calm.of_below hb),(Keep.of_all (fun _=>True) hb).obj hl trivial,(Keep.of_all (fun _=>True) hb).obj hk trivial⟩
 ·rintro k s p W hcs ⟨hi,hl,hk⟩
  have hlt:w.heap.size+1<W.heap.size:=(Array.getElem?_eq_some_iff.1 hl).1
  have hy:=run_yield (P:=P) (args:=#[.int .i64 (s:Nat),.pointer (some p)]) hl (by rw[hrec];rfl)
  rw[hrec] at hy
  refine⟨fn,_,assign,body,hy,roundIn_of_wpIn hfn ?_⟩
  clear hy
  have e:(Array.zip #[q1,q2] #[Value.int .i64 (s:Nat),.pointer (some p)]).foldl (fun t (x:Tmp × Value)=>match x with | (p,v)=>t.setIfInBounds p v) a.tmps=(a.tmps.setIfInBounds q1 (.int .i64 (s:Nat))).setIfInBounds q2 (.pointer (some p)):=by simp
  rw[e]
  refine hassign _ _ _ W _ ⟨_,run_beginRound hl (by rw[hrec]),?_⟩
  have hl2:(W.putObj (w.heap.size+1) (.loop {rec .ready none with state:=.busy})).heap[w.heap.size+1]?=some (.loop {rec .ready none with state:=.busy}):=World.putObj_heap_same hlt
  have hk2:(W.putObj (w.heap.size+1) (.loop {rec .ready none with state:=.busy})).heap[w.heap.size]?=some (.deferred (some [])):=(World.putObj_heap_other (by omega)).trans hk
  have hi2:=hI _ _ _ hi (calm (.loop {rec .ready none with state:=.busy}) hl)
  have hsz2:(W.putObj (w.heap.size+1) (.loop {rec .ready none with state:=.busy})).heap.size=W.heap.size:=by simp[World.putObj]
  have hfk:∀ {X:World} (o:Obj) {r:Loop},X.heap[w.heap.size+1]?=some (.loop r)→Fk X (X.putObj (w.heap.size+1) o):=fun {X} o {r} h=>⟨by simp[World.putObj],fun j cs t hb ht=>(World.putObj_heap_other (fun e=>by
   have e:j=w.heap.size+1:=by omega
   subst e
   unfold Blk at hb
   rw[h] at hb
   cases hb)).trans hb⟩
  refine wpIn_mono (hbody _ k s p _ hcs hi2 (by rw[hsz2];omega)) ?_
  rintro e a3 W3 (⟨rfl,hi3,hr3⟩ | ⟨he,hi3,hr3⟩)
  ·have hl3:=hr3.firm _ _ hl2 trivial
   have hD3:=hr3.firm _ _ hk2 trivial
   have hr:=run_endRound (P:=P) none hl3
   refine⟨_,_,hr,.inl ⟨rfl,⟨hI _ _ _ hi3 (calm _ hl3),?_,?_⟩,((hfk _ hl).trans hr3.fk).trans (hfk _ hl3)⟩⟩
   ·rw[World.putObj_heap_same (Array.getElem?_eq_some_iff.1 hl3).1,hrec]
    rfl
   exact (World.putObj_heap_other (by omega)).trans hD3
  have hl3:=hr3.firm _ _ hl2 trivial
  have hD3:=hr3.firm _ _ hk2 trivial
  have hr:=run_endRound (P:=P) (some (jumpC jm)) hl3
  cases jm with
  | none =>
   obtain rfl:e=.ret:=he
   refine⟨_,_,hr,.inr ⟨rfl,hIx _ _ hi3 (calm _ hl3),?_,?_⟩⟩
   ·rw[World.putObj_heap_same (Array.getElem?_eq_some_iff.1 hl3).1,hrec]
    rfl
   exact (World.putObj_heap_other (by omega)).trans hD3
  | some i =>
   obtain rfl:e=.exit i:=he
   refine⟨_,_,hr,.inr ⟨rfl,hIx _ _ hi3 (calm _ hl3),?_,?_⟩⟩
   ·rw[World.putObj_heap_same (Array.getElem?_eq_some_iff.1 hl3).1,hrec]
    rfl
   exact (World.putObj_heap_other (by omega)).trans hD3
 rintro e W2 ⟨⟨v,rfl⟩,(⟨hi,hl,hk⟩ | ⟨hi,hl,hk⟩)⟩
 ·exact⟨none,_,by have:=run_endLoop (P:=P) hl (by rw[hrec];simp);rw[hrec] at this;exact this,hdone _ _ (Nat.le_refl _) (hI _ _ _ hi (calm _ hl)) ((World.putObj_heap_other (by omega)).trans hk)⟩
 exact⟨some (jumpC jm),_,by have:=run_endLoop (P:=P) hl (by rw[hrec];simp);rw[hrec] at this;exact this,hstop _ _ (Nat.le_refl _) (hIx _ _ hi (calm _ hl)) ((World.putObj_heap_other (by omega)).trans hk)⟩
def FirstSeq (n:Nat) (P:Program) (gf:Nat) (lb:Array Value) (f:Option Nat) (N:Nat) (w1:World):Prop :=
 ∀ (l:Nat) (Jx:World→Prop) (W:World),Below w1.heap.size w1 W→(∀ X Y,Jx X→Below X.heap.size X Y→Jx Y) →
  (∀ k X,f=some k→Keep (fun j=>j<N∨w1.heap.size≤j) W X→YieldAt Fence.wide n P l #[.int .i64 (k:Nat)] X fun e X'=>e=.returned (.bool false)∧Jx X') →
  CallsIn Fence.wide n P gf (#[.func (.yield l) #[] #[]]++lb) W fun e X=>(∃ v,e=.returned v)∧((f=none∧Keep (fun j=>j<N∨w1.heap.size≤j) W X)∨(f.isSome=true∧Jx X))
theorem range_first {n:Nat} {P:Program} {g:Operand} {ps:Array Tmp} {assign body:Code} {Q:Exit→Act→World→Prop} {a:Act} {w:World} (jm:Option Nat) (h1:1≤n) {gf:Nat} {lb:Array Value} (hg:a.eval g=.func (.func gf) #[] lb)
 (eg:∀ args w,(callFunc gf args).run P w=.ok (.enter gf args) w) {f:Option Nat} {N:Nat} (hseq:FirstSeq (n - 1) P gf lb f N w) (hN:N≤w.heap.size)
 (q1 r1:Nat) (hps:ps=#[q1]) (Ix:World→Prop) (hIx:∀ X Y,Ix X→Keep (fun k=>k≠w.heap.size∧k≠w.heap.size+1) X Y→Ix Y)
 (hassign : ∀ (l : Nat) (x : Value) (W : World) (K : Act → World → Prop), K { tmps := (a.tmps.setIfInBounds q1 x).setIfInBounds r1 x, defers := [] } W →
  assign.wpIn (Fence.wide.inRound l) (n - 1) P (Exit.then K (fun _ _ _=>False)) {tmps:=a.tmps.setIfInBounds q1 x,defers:=[]} W)
 (hbody : ∀ (l k : Nat) (X : World), f = some k → Below N w X → w.heap.size + 2 ≤ X.heap.size → ((∃ o, X.heap[w.heap.size + 1]? = some (.loop o)) ∧ X.heap[w.heap.size]? = some (.deferred (some []))) →
  body.wpIn (Fence.wide.inRound l) (n - 1) P (fun e _ X'=>e=jumpE jm∧Keep (fun j=>j=w.heap.size∨j=w.heap.size+1) X X'∧Ix X') {tmps:=(a.tmps.setIfInBounds q1 (.int .i64 (k:Nat))).setIfInBounds r1 (.int .i64 (k:Nat)),defers:=[]} X)
 (hdone:∀ (D:Nat) (W:World),w.heap.size≤D→f=none→Below N w W→W.heap[D]?=some (.deferred (some []))→Q .normal {a with defers:=mkMark D :: a.defers} W)
 (hstop:∀ (D:Nat) (W:World),w.heap.size≤D→f.isSome=true→Ix W→W.heap[D]?=some (.deferred (some []))→(jumpC jm).wpIn Fence.wide n P Q {a with defers:=mkMark D :: a.defers} W) :
 (Code.rangeFunc g ps assign body).wpIn Fence.wide n P Q a w:=by
 subst hps
 refine wpIn_rangeFunc fun fn hfn=>?_
 rw[show Fence.wide.round=none from rfl]
 obtain⟨rec,hrec⟩:∃ rec:LoopState→Option Code→Loop,rec=fun st pe=>{state:=st,pending:=pe,fn,tmps:=a.tmps,params:=#[q1],assign,body,defers:=w.heap.size}:=⟨_,rfl⟩
 obtain⟨W1,hW1⟩:∃ W1,(w.alloc (.deferred (some []))).alloc (.loop (rec .ready none))=W1:=⟨_,rfl⟩
 have hL1:W1.heap[w.heap.size+1]?=some (.loop (rec .ready none)):=by
  rw[← hW1];have:=World.alloc_heap_new (w.alloc (.deferred (some []))) (.loop (rec .ready none));rwa [World.size_alloc] at this
 have hK1:W1.heap[w.heap.size]?=some (.deferred (some [])):=by
  rw[← hW1];exact (Below.heap_alloc _ _ _ (by simp)).trans (World.alloc_heap_new w _)
 have hsz1:W1.heap.size=w.heap.size+2:=by rw[← hW1];simp
 have hbw:Below w.heap.size w W1:=by rw[← hW1];exact ((Below.refl _ w).alloc (Nat.le_refl _) _).alloc (by simp) _
 have nosome:∀ {X:World} {o:Obj},Keep (fun j=>j<N∨w.heap.size≤j) W1 X→W1.heap[w.heap.size+1]?=some o→X.heap[w.heap.size+1]?=some o:=fun h ho=>h.obj ho (.inr (by omega))
 have belowN:∀ {X:World},Keep (fun j=>j<N∨w.heap.size≤j) W1 X→Below N w X:=fun h=>(hbw.mono hN).trans (h.below (by omega) fun k hk=>.inl hk)
 refine⟨w.heap.size+1,[{target:=.collected w.heap.size,args:=#[]}],W1,{target:=.fn (.func gf) lb,args:=#[.func (.yield (w.heap.size+1)) #[] #[]]},W1,gf,
  #[.func (.yield (w.heap.size+1)) #[] #[]]++lb,W1,?_,?_,?_,?_,fun _=>h1,?_⟩
 ·rw[← hW1,hrec];exact run_enterLoop_outer _ _ _ _ _
 ·simp only[resolve,hg]
  simp[go_sem]
 ·intro f' hf';trivial
 ·simp[invoke,go_sem,eg]
 refine (hseq (w.heap.size+1)
  (fun X=>Ix X∧X.heap[w.heap.size+1]?=some (.loop (rec .done (some (jumpC jm))))∧X.heap[w.heap.size]?=some (.deferred (some [])))
  W1 hbw ?_ ?_).mono ?_
 ·rintro X Y ⟨hi,hl,hk⟩ hbel
  exact⟨hIx _ _ hi (Keep.of_all _ hbel),(Keep.of_all (fun _=>True) hbel).obj hl trivial,(Keep.of_all (fun _=>True) hbel).obj hk trivial⟩
 ·rintro k W hf hkW
  have hl:=nosome hkW hL1
  have hk:=hkW.obj hK1 (.inr (Nat.le_refl _))
  have hsW:=hkW.size
  have hlt:w.heap.size+1<W.heap.size:=(Array.getElem?_eq_some_iff.1 hl).1
  have hy:=run_yield (P:=P) (args:=#[.int .i64 (k:Nat)]) hl (by rw[hrec];rfl)
  rw[hrec] at hy
  refine⟨fn,_,assign,body,hy,roundIn_of_wpIn hfn ?_⟩
  clear hy
  have e:(Array.zip #[q1] #[Value.int .i64 (k:Nat)]).foldl (fun t (x:Tmp × Value)=>match x with | (p,v)=>t.setIfInBounds p v) a.tmps=a.tmps.setIfInBounds q1 (.int .i64 (k:Nat)):=by simp
  rw[e]
  refine hassign _ _ W _ ⟨_,run_beginRound hl (by rw[hrec]),?_⟩
  have hl2:(W.putObj (w.heap.size+1) (.loop {rec .ready none with state:=.busy})).heap[w.heap.size+1]?=some (.loop {rec .ready none with state:=.busy}):=World.putObj_heap_same hlt
  have hk2:(W.putObj (w.heap.size+1) (.loop {rec .ready none with state:=.busy})).heap[w.heap.size]?=some (.deferred (some [])):=(World.putObj_heap_other (by omega)).trans hk
  have hsz2:(W.putObj (w.heap.size+1) (.loop {rec .ready none with state:=.busy})).heap.size=W.heap.size:=by simp[World.putObj]
  have hbN:Below N w (W.putObj (w.heap.size+1) (.loop {rec .ready none with state:=.busy})):=(belowN hkW).trans (((Keep.refl (fun j=>j<N) W).put (.inr (by omega)) _).below (by omega) fun _ h=>h)
  refine wpIn_mono (hbody _ k _ hf hbN (by rw[hsz2];omega) ⟨⟨_,hl2⟩,hk2⟩) ?_
  rintro e a3 W3 ⟨he,hk3,hi3⟩
  have hl3:=hk3.obj hl2 (.inr rfl)
  have hD3:=hk3.obj hk2 (.inl rfl)
  have hr:=run_endRound (P:=P) (some (jumpC jm)) hl3
  have hlt3:=(Array.getElem?_eq_some_iff.1 hl3).1
  cases jm with
  | none =>
   obtain rfl:e=.ret:=he
   refine⟨_,_,hr,rfl,hIx _ _ hi3 ((Keep.refl _ W3).put (.inr fun h=>h.2 rfl) _),?_,?_⟩
   ·rw[World.putObj_heap_same hlt3,hrec]
    rfl
   exact (World.putObj_heap_other (by omega)).trans hD3
  | some i =>
   obtain rfl:e=.exit i:=he
   refine⟨_,_,hr,rfl,hIx _ _ hi3 ((Keep.refl _ W3).put (.inr fun h=>h.2 rfl) _),?_,?_⟩
   ·rw[World.putObj_heap_same hlt3,hrec]
    rfl
   exact (World.putObj_heap_other (by omega)).trans hD3
 rintro e W2 ⟨⟨v,rfl⟩,(⟨hf,hkW⟩ | ⟨hf,hi,hl,hk⟩)⟩
 ·have hl:=nosome hkW hL1
  have hk:=hkW.obj hK1 (.inr (Nat.le_refl _))
  exact⟨none,_,by have:=run_endLoop (P:=P) hl (by rw[hrec];simp);rw[hrec] at this;exact this,hdone _ _ (Nat.le_refl _) hf ((belowN hkW).trans (((Keep.refl (fun j=>j<N) W2).put (.inr (by omega)) _).below (by have:=hkW.size;omega) fun _ h=>h)) ((World.putObj_heap_other (by omega)).trans hk)⟩
 exact⟨some (jumpC jm),_,by have:=run_endLoop (P:=P) hl (by rw[hrec];simp);rw[hrec] at this;exact this,hstop _ _ (Nat.le_refl _) hf (hIx _ _ hi ((Keep.refl _ W2).put (.inr fun h=>h.2 rfl) _)) ((World.putObj_heap_other (by omega)).trans hk)⟩
end Go.Proofs.YtmkknbonmameoaaGreatDoor
