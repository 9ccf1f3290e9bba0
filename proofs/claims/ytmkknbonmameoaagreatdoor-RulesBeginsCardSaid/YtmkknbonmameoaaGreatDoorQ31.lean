import Derived.OpenShut
import Derived.SliceStrings
import Derived.Deep.Slices
import Derived.ChangeSame
import Derived.ChangeAt
import Derived.Test.YtmkknbonmameoaaGreatDoorQ10
-- holds: YtmkknbonmameoaaGreatDoorHJl
namespace Go.Proofs.YtmkknbonmameoaaGreatDoor
open Go.ChangeShapes Go.WideShapes Go.ChangeAt Go.RowKit Go.Deep
theorem each_of {α:Type} {P:Nat→α→Prop}:∀ (n:Nat),(∀ i,i<n→∃ z,P i z)→∃ zs:List α,zs.length=n∧∀ (i:Nat) (z:α),zs[i]?=some z→P i z
 | 0,_=>⟨[],rfl,fun i z h=>by simp at h⟩
 | n+1,h=>by
  obtain⟨zs,hl,hz⟩:=each_of n fun i hi=>h i (by omega)
  obtain⟨z,hp⟩:=h n (by omega)
  refine⟨zs++[z],by simp[hl],fun i y hy=>?_⟩
  rcases Nat.lt_or_ge i n with hi | hi
  ·rw[List.getElem?_append_left (by omega)] at hy
   exact hz i y hy
  have hin:i=n:=by
   have:=(List.getElem?_eq_some_iff.1 hy).1
   simp at this
   omega
  subst hin
  rw[List.getElem?_append_right (by omega)] at hy
  simp[hl] at hy
  subst hy
  exact hp
theorem hcell_lt {W:World} {a:Addr} {v:Value} (h:W.cell? a=some v):a.block<W.heap.size:=by
 rcases Nat.lt_or_ge a.block W.heap.size with hlt | hge
 ·exact hlt
 unfold World.cell? at h
 rw[Array.getElem?_eq_none hge] at h
 cases h
section
variable {H : Type} {enc : TypeId × Value → H} {W : World} {fuel : Nat}
theorem open_rows_f {α:Type} {en:α→List Value} {P:α→Prop} {s:Nat} {t e:TypeId} (hs:∀ x,(en x).length=s) (hp:0<s) (ht:Tryz.prog.underlying t=some (.slice e)) (hc:Tryz.prog.cellsOf e=s)
 (dec:∀ (fuel:Nat) (cs:List Value) (y:DataW H × List MemPlace),cs.length=s→DataW.trod enc Tryz.prog W 0 (fun _=>true) true fuel e cs=some y→∃ x,cs=en x∧P x)
 {v:Value} {y:DataW H × List MemPlace} (hf:DataW.trod enc Tryz.prog W 0 (fun _=>true) true fuel t [v]=some y) :
 ∃ (A:Option Addr) (n c:Nat) (l:List α),v=.slice A n c∧Reads W W.heap.size s A n (l.flatMap en)∧(∀ x∈l,P x)∧n≤c∧c≤9223372036854775807:=by
 rcases open_slice ht hf with ⟨hcs,hx⟩ | ⟨a,len,cap,m,n,D,Pl,hcs,_,hl,hm,hmm,hx,hi⟩
 ·injection hcs with hcs _
  exact⟨none,0,0,[],hcs,Reads.none_,fun x h=>by simp at h,Nat.le_refl _,by decide⟩
 injection hcs with hcs _
 have hmc:m=cap:=hmm
 subst hmc
 obtain⟨zs,hzl,hz⟩:=each_of (P:=fun i (z:α)=>P z∧∀ j u,(en z)[j]?=some u→W.cell? (a.add (i * s+j))=some u) len fun i hi'=>by
  obtain⟨cs',h1,h2⟩:=hi i (by omega)
  rw[hc] at h1
  obtain⟨_,hlen,hcell⟩:=World.cells?_some h1
  obtain⟨x,rfl,hx⟩:=dec _ _ _ hlen h2
  refine⟨x,hx,fun j u hu=>?_⟩
  have hj:=(List.getElem?_eq_some_iff.1 hu).1
  rw[hs] at hj
  have:=hcell j hj
  rw[add_add] at this
  exact this.trans hu
 have hlen:(zs.flatMap en).length=len * s:=by rw[fm_len hs,hzl]
 refine⟨some a,len,m,zs,hcs,⟨hlen,fun h0=>⟨a,rfl,?_,fun j u hu=>?_⟩⟩,fun z hzm=>?_,hl,hm⟩
 ·obtain⟨z,hz0⟩:∃ z,zs[0]?=some z:=⟨zs[0]'(by omega),List.getElem?_eq_getElem _⟩
  have:=hcell_lt ((hz 0 z hz0).2 0 _ (List.getElem?_eq_getElem (by rw[hs];exact hp)))
  rwa [block_of_add] at this
 ·have hj:j<len * s:=by
   have:=(List.getElem?_eq_some_iff.1 hu).1
   rwa [hlen] at this
  have hjd:j / s<len:=Nat.div_lt_of_lt_mul (by rwa [Nat.mul_comm] at hj)
  have hjm:j % s<s:=Nat.mod_lt _ hp
  obtain⟨z,hz0⟩:∃ z,zs[j / s]?=some z:=⟨zs[j / s]'(by omega),List.getElem?_eq_getElem _⟩
  have hu2:(en z)[j % s]?=some ((en z)[j % s]'(by rw[hs];exact hjm)):=List.getElem?_eq_getElem _
  have h3:=fm_at hs hz0 hu2
  have hjj:j / s * s+j % s=j:=by rw[Nat.mul_comm];exact Nat.div_add_mod j s
  rw[hjj,hu] at h3
  have h4:=(hz _ z hz0).2 _ _ hu2
  rw[hjj] at h4
  rw[h4,h3]
 obtain⟨i,hi',rfl⟩:=List.getElem_of_mem hzm
 exact (hz i _ (List.getElem?_eq_getElem hi')).1
def fits (n c:Nat):Prop:=n≤c∧c≤9223372036854775807
theorem cells_t:Tryz.prog.cellsOf 3=1∧Tryz.prog.cellsOf 9=1∧Tryz.prog.cellsOf 4=1:=⟨by kernel_rfl,by kernel_rfl,by kernel_rfl⟩
theorem int_flat:∀ l:List Int,l.flatMap (fun z=>[Value.int .i64 z])=ints l
 | []=>rfl
 | z :: l=>by rw[List.flatMap_cons,int_flat l];rfl
theorem str_flat:∀ l:List ByteArray,l.flatMap (fun z=>[Value.string z])=strs l
 | []=>rfl
 | z :: l=>by rw[List.flatMap_cons,str_flat l];rfl
set_option maxRecDepth 100000 in
theorem open_ints_f {v:Value} {y:DataW H × List MemPlace} (hf:DataW.trod enc Tryz.prog W 0 (fun _=>true) true fuel 40 [v]=some y) :
 ∃ (A:Option Addr) (n c:Nat) (l:List Int),v=.slice A n c∧Reads W W.heap.size 1 A n (ints l)∧fits n c:=by
 obtain⟨A,n,c,l,e,r,_,h1,h2⟩:=open_rows_f (en:=fun z:Int=>[Value.int .i64 z]) (P:=fun _=>True) (s:=1) (fun _=>rfl) (by omega) Tryz.underlying40 cells_t.1 (fun fuel cs y _ h=>by
  obtain⟨z,e,_,_⟩:=DataW.trod_int Tryz.underlying3 h
  exact⟨z,e,trivial⟩) hf
 rw[int_flat] at r
 exact⟨A,n,c,l,e,r,h1,h2⟩
set_option maxRecDepth 100000 in
theorem open_strs_f {v:Value} {y:DataW H × List MemPlace} (hf:DataW.trod enc Tryz.prog W 0 (fun _=>true) true fuel 22 [v]=some y) :
 ∃ (A:Option Addr) (n c:Nat) (l:List ByteArray),v=.slice A n c∧Reads W W.heap.size 1 A n (strs l)∧fits n c∧∀ s∈l,s.size≤9223372036854775807:=by
 obtain⟨A,n,c,l,e,r,hp,h1,h2⟩:=open_rows_f (en:=fun z:ByteArray=>[Value.string z]) (P:=fun s=>s.size≤9223372036854775807) (s:=1) (fun _=>rfl) (by omega) Tryz.underlying22 cells_t.2.1 (fun fuel cs y _ h=>by
  obtain⟨z,e,_,hz⟩:=DataW.trod_string Tryz.underlying9 h
  exact⟨z,e,hz⟩) hf
 rw[str_flat] at r
 exact⟨A,n,c,l,e,r,⟨h1,h2⟩,hp⟩
theorem versionF:∃ f0 f1:Field,Tryz.prog.underlying 57=some (.struct #[f0,f1])∧(f0.offset=0∧f1.offset=1)∧(f0.type=3∧f1.type=3)∧Tryz.prog.cellsOf 57=2 :=
 ⟨_,_,Tryz.underlying57,⟨rfl,rfl⟩,⟨rfl,rfl⟩,by kernel_rfl⟩
set_option maxRecDepth 100000 in
theorem open_version_f {cs:List Value} {y:DataW H × List MemPlace} (hl:cs.length=2) (hf:DataW.trod enc Tryz.prog W 0 (fun _=>true) true fuel 57 cs=some y):∃ t k:Int,cs=[.int .i64 t,.int .i64 k]:=by
 obtain⟨f0,f1,hst,⟨o0,o1⟩,⟨t0,t1⟩,hC⟩:=versionF
 obtain⟨xs,n,_,_,_,hxl,hx⟩:=DataW.trod_struct hst hf
 match xs,hxl,cs,hl with
 | [y0,y1],_,[c0,c1],_ =>
  have g0:=hx 0 f0 rfl
  have g1:=hx 1 f1 rfl
  rw[o0,t0,cells_t.1] at g0
  rw[o1,t1,cells_t.1] at g1
  obtain⟨z0,e0,_,_⟩:=DataW.trod_int (x:=y0) Tryz.underlying3 (by simpa using g0)
  obtain⟨z1,e1,_,_⟩:=DataW.trod_int (x:=y1) Tryz.underlying3 (by simpa using g1)
  injection e0 with e0
  injection e1 with e1
  subst e0;subst e1
  exact⟨z0,z1,rfl⟩
theorem seenF:∃ f0 f1:Field,Tryz.prog.underlying 64=some (.struct #[f0,f1])∧(f0.offset=0∧f1.offset=1)∧(f0.type=3∧f1.type=57)∧Tryz.prog.cellsOf 64=3 :=
 ⟨_,_,Tryz.underlying64,⟨rfl,rfl⟩,⟨rfl,rfl⟩,by kernel_rfl⟩
theorem cellsV:Tryz.prog.cellsOf 57=2:=by kernel_rfl
set_option maxRecDepth 100000 in
theorem open_seen_f {cs:List Value} {y:DataW H × List MemPlace} (hl:cs.length=3) (hf:DataW.trod enc Tryz.prog W 0 (fun _=>true) true fuel 64 cs=some y):∃ s:SeenP,cs=seCs s:=by
 obtain⟨f0,f1,hst,⟨o0,o1⟩,⟨t0,t1⟩,hC⟩:=seenF
 obtain⟨xs,n,_,_,_,hxl,hx⟩:=DataW.trod_struct hst hf
 match xs,hxl,cs,hl with
 | [y0,y1],_,[c0,c1,c2],_ =>
  have g0:=hx 0 f0 rfl
  have g1:=hx 1 f1 rfl
  rw[o0,t0,cells_t.1] at g0
  rw[o1,t1,cellsV] at g1
  obtain⟨z0,e0,_,_⟩:=DataW.trod_int (x:=y0) Tryz.underlying3 (by simpa using g0)
  obtain⟨t,k,e1⟩:=open_version_f (cs:=[c1,c2]) (y:=y1) rfl (by simpa using g1)
  injection e0 with e0
  injection e1 with e1 e2
  injection e2 with e2
  subst e0;subst e1;subst e2
  exact⟨⟨z0,t,k⟩,rfl⟩
theorem eventF:∃ f0 f1 f2 f3 f4 f5 f6 f7:Field,Tryz.prog.underlying 60=some (.struct #[f0,f1,f2,f3,f4,f5,f6,f7])∧(f0.offset=0∧f1.offset=1∧f2.offset=2∧f3.offset=3∧f4.offset=4∧f5.offset=5∧f6.offset=7∧f7.offset=8) ∧
 (f0.type=3∧f1.type=3∧f2.type=3∧f3.type=3∧f4.type=3∧f5.type=57∧f6.type=3∧f7.type=58) :=
 ⟨_,_,_,_,_,_,_,_,Tryz.underlying60,⟨rfl,rfl,rfl,rfl,rfl,rfl,rfl,rfl⟩,⟨rfl,rfl,rfl,rfl,rfl,rfl,rfl,rfl⟩⟩
theorem cells_rows:Tryz.prog.cellsOf 58=1∧Tryz.prog.cellsOf 40=1∧Tryz.prog.cellsOf 22=1∧Tryz.prog.cellsOf 23=1∧Tryz.prog.cellsOf 24=1∧Tryz.prog.cellsOf 25=1∧Tryz.prog.cellsOf 26=1:=⟨by kernel_rfl,by kernel_rfl,by kernel_rfl,by kernel_rfl,by kernel_rfl,by kernel_rfl,by kernel_rfl⟩
theorem cells_els:Tryz.prog.cellsOf 64=3∧Tryz.prog.cellsOf 60=9∧Tryz.prog.cellsOf 66=2∧Tryz.prog.cellsOf 69=4∧Tryz.prog.cellsOf 72=2:=⟨by kernel_rfl,by kernel_rfl,by kernel_rfl,by kernel_rfl,by kernel_rfl⟩
set_option maxRecDepth 100000 in
theorem open_event_f {cs:List Value} {y:DataW H × List MemPlace} (hl:cs.length=9) (hf:DataW.trod enc Tryz.prog W 0 (fun _=>true) true fuel 60 cs=some y) :
 ∃ p:EvP × SH,cs=evCs p∧(Reads W W.heap.size 3 p.2.A p.2.n (p.1.scan.flatMap seCs)∧fits p.2.n p.2.c):=by
 obtain⟨f0,f1,f2,f3,f4,f5,f6,f7,hst,⟨o0,o1,o2,o3,o4,o5,o6,o7⟩,⟨t0,t1,t2,t3,t4,t5,t6,t7⟩⟩:=eventF
 obtain⟨xs,n,_,_,_,hxl,hx⟩:=DataW.trod_struct hst hf
 match xs,hxl,cs,hl with
 | [y0,y1,y2,y3,y4,y5,y6,y7],_,[c0,c1,c2,c3,c4,c5,c6,c7,c8],_ =>
  have g0:=hx 0 f0 rfl
  have g1:=hx 1 f1 rfl
  have g2:=hx 2 f2 rfl
  have g3:=hx 3 f3 rfl
  have g4:=hx 4 f4 rfl
  have g5:=hx 5 f5 rfl
  have g6:=hx 6 f6 rfl
  have g7:=hx 7 f7 rfl
  rw[o0,t0,cells_t.1] at g0
  rw[o1,t1,cells_t.1] at g1
  rw[o2,t2,cells_t.1] at g2
  rw[o3,t3,cells_t.1] at g3
  rw[o4,t4,cells_t.1] at g4
  rw[o5,t5,cellsV] at g5
  rw[o6,t6,cells_t.1] at g6
  rw[o7,t7,cells_rows.1] at g7
  obtain⟨z0,e0,_,_⟩:=DataW.trod_int (x:=y0) Tryz.underlying3 (by simpa using g0)
  obtain⟨z1,e1,_,_⟩:=DataW.trod_int (x:=y1) Tryz.underlying3 (by simpa using g1)
  obtain⟨z2,e2,_,_⟩:=DataW.trod_int (x:=y2) Tryz.underlying3 (by simpa using g2)
  obtain⟨z3,e3,_,_⟩:=DataW.trod_int (x:=y3) Tryz.underlying3 (by simpa using g3)
  obtain⟨z4,e4,_,_⟩:=DataW.trod_int (x:=y4) Tryz.underlying3 (by simpa using g4)
  obtain⟨t,k,e5⟩:=open_version_f (cs:=[c5,c6]) (y:=y5) rfl (by simpa using g5)
  obtain⟨z6,e6,_,_⟩:=DataW.trod_int (x:=y6) Tryz.underlying3 (by simpa using g6)
  obtain⟨A,m,c,l,e7,r,_,q1,q2⟩:=open_rows_f (v:=c8) (y:=y7) (en:=seCs) (P:=fun _=>True) seCs_len (by omega) Tryz.underlying58 cells_els.1 (fun fuel cs y h2 h=>by
   obtain⟨s,e⟩:=open_seen_f h2 h
   exact⟨s,e,trivial⟩) (by simpa using g7)
  injection e0 with e0
  injection e1 with e1
  injection e2 with e2
  injection e3 with e3
  injection e4 with e4
  injection e5 with e5 e9
  injection e9 with e9
  injection e6 with e6
  subst e0;subst e1;subst e2;subst e3;subst e4;subst e5;subst e9;subst e6;subst e7
  exact⟨(⟨z0,z1,z2,z3,z4,t,k,z6,l⟩,⟨A,m,c⟩),rfl,r,q1,q2⟩
theorem orderF:∃ f0 f1:Field,Tryz.prog.underlying 66=some (.struct #[f0,f1])∧(f0.offset=0∧f1.offset=1)∧(f0.type=3∧f1.type=40) :=
 ⟨_,_,Tryz.underlying66,⟨rfl,rfl⟩,⟨rfl,rfl⟩⟩
set_option maxRecDepth 100000 in
theorem open_order_f {cs:List Value} {y:DataW H × List MemPlace} (hl:cs.length=2) (hf:DataW.trod enc Tryz.prog W 0 (fun _=>true) true fuel 66 cs=some y) :
 ∃ p:OrdP × SH,cs=odCs p∧(Reads W W.heap.size 1 p.2.A p.2.n (ints p.1.ts)∧fits p.2.n p.2.c):=by
 obtain⟨f0,f1,hst,⟨o0,o1⟩,⟨t0,t1⟩⟩:=orderF
 obtain⟨xs,n,_,_,_,hxl,hx⟩:=DataW.trod_struct hst hf
 match xs,hxl,cs,hl with
 | [y0,y1],_,[c0,c1],_ =>
  have g0:=hx 0 f0 rfl
  have g1:=hx 1 f1 rfl
  rw[o0,t0,cells_t.1] at g0
  rw[o1,t1,cells_rows.2.1] at g1
  obtain⟨z0,e0,_,_⟩:=DataW.trod_int (x:=y0) Tryz.underlying3 (by simpa using g0)
  obtain⟨A,m,c,l,e1,r,q⟩:=open_ints_f (v:=c1) (y:=y1) (by simpa using g1)
  injection e0 with e0
  subst e0;subst e1
  exact⟨(⟨z0,l⟩,⟨A,m,c⟩),rfl,r,q⟩
theorem matchF:∃ f0 f1 f2 f3:Field,Tryz.prog.underlying 69=some (.struct #[f0,f1,f2,f3])∧(f0.offset=0∧f1.offset=1∧f2.offset=2∧f3.offset=3)∧(f0.type=3∧f1.type=3∧f2.type=4∧f3.type=40) :=
 ⟨_,_,_,_,Tryz.underlying69,⟨rfl,rfl,rfl,rfl⟩,⟨rfl,rfl,rfl,rfl⟩⟩
set_option maxRecDepth 100000 in
theorem open_match_f {cs:List Value} {y:DataW H × List MemPlace} (hl:cs.length=4) (hf:DataW.trod enc Tryz.prog W 0 (fun _=>true) true fuel 69 cs=some y) :
 ∃ p:MatP × SH,cs=maCs p∧(Reads W W.heap.size 1 p.2.A p.2.n (ints p.1.ts)∧fits p.2.n p.2.c):=by
 obtain⟨f0,f1,f2,f3,hst,⟨o0,o1,o2,o3⟩,⟨t0,t1,t2,t3⟩⟩:=matchF
 obtain⟨xs,n,_,_,_,hxl,hx⟩:=DataW.trod_struct hst hf
 match xs,hxl,cs,hl with
 | [y0,y1,y2,y3],_,[c0,c1,c2,c3],_ =>
  have g0:=hx 0 f0 rfl
  have g1:=hx 1 f1 rfl
  have g2:=hx 2 f2 rfl
  have g3:=hx 3 f3 rfl
  rw[o0,t0,cells_t.1] at g0
  rw[o1,t1,cells_t.1] at g1
  rw[o2,t2,cells_t.2.2] at g2
  rw[o3,t3,cells_rows.2.1] at g3
  obtain⟨z0,e0,_,_⟩:=DataW.trod_int (x:=y0) Tryz.underlying3 (by simpa using g0)
  obtain⟨z1,e1,_,_⟩:=DataW.trod_int (x:=y1) Tryz.underlying3 (by simpa using g1)
  obtain⟨z2,e2,_⟩:=DataW.trod_bool (x:=y2) Tryz.underlying4 (by simpa using g2)
  obtain⟨A,m,c,l,e3,r,q⟩:=open_ints_f (v:=c3) (y:=y3) (by simpa using g3)
  injection e0 with e0
  injection e1 with e1
  injection e2 with e2
  subst e0;subst e1;subst e2;subst e3
  exact⟨(⟨z0,z1,z2,l⟩,⟨A,m,c⟩),rfl,r,q⟩
theorem wantF:∃ f0 f1:Field,Tryz.prog.underlying 72=some (.struct #[f0,f1])∧(f0.offset=0∧f1.offset=1)∧(f0.type=3∧f1.type=3) :=
 ⟨_,_,Tryz.underlying72,⟨rfl,rfl⟩,⟨rfl,rfl⟩⟩
set_option maxRecDepth 100000 in
theorem open_want_f {cs:List Value} {y:DataW H × List MemPlace} (hl:cs.length=2) (hf:DataW.trod enc Tryz.prog W 0 (fun _=>true) true fuel 72 cs=some y):∃ p:WantP,cs=waCs p∧True:=by
 obtain⟨f0,f1,hst,⟨o0,o1⟩,⟨t0,t1⟩⟩:=wantF
 obtain⟨xs,n,_,_,_,hxl,hx⟩:=DataW.trod_struct hst hf
 match xs,hxl,cs,hl with
 | [y0,y1],_,[c0,c1],_ =>
  have g0:=hx 0 f0 rfl
  have g1:=hx 1 f1 rfl
  rw[o0,t0,cells_t.1] at g0
  rw[o1,t1,cells_t.1] at g1
  obtain⟨z0,e0,_,_⟩:=DataW.trod_int (x:=y0) Tryz.underlying3 (by simpa using g0)
  obtain⟨z1,e1,_,_⟩:=DataW.trod_int (x:=y1) Tryz.underlying3 (by simpa using g1)
  injection e0 with e0
  injection e1 with e1
  subst e0;subst e1
  exact⟨⟨z0,z1⟩,rfl,trivial⟩
structure HArg (W:World) (m:HistM):Prop where
 rd:HRd W W.heap.size m
 tr:fits m.tr.1.n m.tr.1.c
 se:fits m.se.1.n m.se.1.c
 ob:fits m.ob.1.n m.ob.1.c
 pr:fits m.pr.1.n m.pr.1.c
 ev:fits m.ev.1.n m.ev.1.c
 od:fits m.od.1.n m.od.1.c
 ma:fits m.ma.1.n m.ma.1.c
 wa:fits m.wa.1.n m.wa.1.c
 sc:∀ p∈m.ev.2,fits p.2.n p.2.c
 ot:∀ p∈m.od.2,fits p.2.n p.2.c
 mt:∀ p∈m.ma.2,fits p.2.n p.2.c
 z0:∀ s∈m.tr.2,s.size≤9223372036854775807
 z1:∀ s∈m.se.2,s.size≤9223372036854775807
 z2:∀ s∈m.ob.2,s.size≤9223372036854775807
 z3:∀ s∈m.pr.2,s.size≤9223372036854775807
theorem histF:∃ f0 f1 f2 f3 f4 f5 f6 f7:Field,Tryz.prog.underlying 28=some (.struct #[f0,f1,f2,f3,f4,f5,f6,f7])∧(f0.offset=0∧f1.offset=1∧f2.offset=2∧f3.offset=3∧f4.offset=4∧f5.offset=5∧f6.offset=6∧f7.offset=7) ∧
 (f0.type=22∧f1.type=22∧f2.type=22∧f3.type=22∧f4.type=23∧f5.type=24∧f6.type=25∧f7.type=26)∧Tryz.prog.cellsOf 28=8 :=
 ⟨_,_,_,_,_,_,_,_,Tryz.underlying28,⟨rfl,rfl,rfl,rfl,rfl,rfl,rfl,rfl⟩,⟨rfl,rfl,rfl,rfl,rfl,rfl,rfl,rfl⟩,by kernel_rfl⟩
set_option maxRecDepth 100000 in
theorem open_hist {base:Nat} {v:Value} {d:DataW H} {p:List MemPlace}
 (hv:Value.okWide Tryz.prog W .any base 28 v) (h:DataW.Trod enc Tryz.prog W 0 (fun _=>true) true 28 v d p) :
 ∃ m:HistM,v=.agg #[.slice m.tr.1.A m.tr.1.n m.tr.1.c,.slice m.se.1.A m.se.1.n m.se.1.c,.slice m.ob.1.A m.ob.1.n m.ob.1.c,.slice m.pr.1.A m.pr.1.n m.pr.1.c,.slice m.ev.1.A m.ev.1.n m.ev.1.c,.slice m.od.1.A m.od.1.n m.od.1.c,.slice m.ma.1.A m.ma.1.n m.ma.1.c,.slice m.wa.1.A m.wa.1.n m.wa.1.c]∧HArg W m:=by
 obtain⟨f0,f1,f2,f3,f4,f5,f6,f7,hst,⟨o0,o1,o2,o3,o4,o5,o6,o7⟩,⟨t0,t1,t2,t3,t4,t5,t6,t7⟩,hC⟩:=histF
 obtain⟨cs,rfl,hsz⟩:=okWide_struct hst hv
 obtain⟨l⟩:=cs
 match l,hsz.trans hC with
 | [c0,c1,c2,c3,c4,c5,c6,c7],_ =>
  obtain⟨fuel,hf⟩:=h
  have hf2:DataW.trod enc Tryz.prog W 0 (fun _=>true) true fuel 28 [c0,c1,c2,c3,c4,c5,c6,c7]=some (d,p):=by simpa [Value.cells] using hf
  obtain⟨xs,k,_,_,_,hxl,hx⟩:=DataW.trod_struct hst hf2
  match xs,hxl with
  | [y0,y1,y2,y3,y4,y5,y6,y7],_ =>
   have g0:=hx 0 f0 rfl
   have g1:=hx 1 f1 rfl
   have g2:=hx 2 f2 rfl
   have g3:=hx 3 f3 rfl
   have g4:=hx 4 f4 rfl
   have g5:=hx 5 f5 rfl
   have g6:=hx 6 f6 rfl
   have g7:=hx 7 f7 rfl
   rw[o0,t0,cells_rows.2.2.1] at g0
   rw[o1,t1,cells_rows.2.2.1] at g1
   rw[o2,t2,cells_rows.2.2.1] at g2
   rw[o3,t3,cells_rows.2.2.1] at g3
   rw[o4,t4,cells_rows.2.2.2.1] at g4
   rw[o5,t5,cells_rows.2.2.2.2.1] at g5
   rw[o6,t6,cells_rows.2.2.2.2.2.1] at g6
   rw[o7,t7,cells_rows.2.2.2.2.2.2] at g7
   obtain⟨A0,n0,k0,l0,rfl,r0,q0,s0⟩:=open_strs_f (v:=c0) (y:=y0) (by simpa using g0)
   obtain⟨A1,n1,k1,l1,rfl,r1,q1,s1⟩:=open_strs_f (v:=c1) (y:=y1) (by simpa using g1)
   obtain⟨A2,n2,k2,l2,rfl,r2,q2,s2⟩:=open_strs_f (v:=c2) (y:=y2) (by simpa using g2)
   obtain⟨A3,n3,k3,l3,rfl,r3,q3,s3⟩:=open_strs_f (v:=c3) (y:=y3) (by simpa using g3)
   obtain⟨A4,n4,k4,l4,rfl,r4,p4,q4⟩:=open_rows_f (v:=c4) (y:=y4) (en:=evCs) (P:=fun p=>Reads W W.heap.size 3 p.2.A p.2.n (p.1.scan.flatMap seCs)∧fits p.2.n p.2.c) evCs_len (by omega) Tryz.underlying23 cells_els.2.1 (fun fuel cs y h2 h=>open_event_f h2 h) (by simpa using g4)
   obtain⟨A5,n5,k5,l5,rfl,r5,p5,q5⟩:=open_rows_f (v:=c5) (y:=y5) (en:=odCs) (P:=fun p=>Reads W W.heap.size 1 p.2.A p.2.n (ints p.1.ts)∧fits p.2.n p.2.c) odCs_len (by omega) Tryz.underlying24 cells_els.2.2.1 (fun fuel cs y h2 h=>open_order_f h2 h) (by simpa using g5)
   obtain⟨A6,n6,k6,l6,rfl,r6,p6,q6⟩:=open_rows_f (v:=c6) (y:=y6) (en:=maCs) (P:=fun p=>Reads W W.heap.size 1 p.2.A p.2.n (ints p.1.ts)∧fits p.2.n p.2.c) maCs_len (by omega) Tryz.underlying25 cells_els.2.2.2.1 (fun fuel cs y h2 h=>open_match_f h2 h) (by simpa using g6)
   obtain⟨A7,n7,k7,l7,rfl,r7,p7,q7⟩:=open_rows_f (v:=c7) (y:=y7) (en:=waCs) (P:=fun _=>True) waCs_len (by omega) Tryz.underlying26 cells_els.2.2.2.2 (fun fuel cs y h2 h=>open_want_f h2 h) (by simpa using g7)
   exact⟨⟨(⟨A0,n0,k0⟩,l0),(⟨A1,n1,k1⟩,l1),(⟨A2,n2,k2⟩,l2),(⟨A3,n3,k3⟩,l3),(⟨A4,n4,k4⟩,l4),(⟨A5,n5,k5⟩,l5),(⟨A6,n6,k6⟩,l6),(⟨A7,n7,k7⟩,l7)⟩,rfl,
    ⟨⟨r0,r1,r2,r3,r4,r5,r6,r7,fun p hp=>(p4 p hp).1,fun p hp=>(p5 p hp).1,fun p hp=>(p6 p hp).1⟩,q0,q1,q2,q3,q4,q5,q6,q7,fun p hp=>(p4 p hp).2,fun p hp=>(p5 p hp).2,fun p hp=>(p6 p hp).2,s0,s1,s2,s3⟩⟩
end
end Go.Proofs.YtmkknbonmameoaaGreatDoor
