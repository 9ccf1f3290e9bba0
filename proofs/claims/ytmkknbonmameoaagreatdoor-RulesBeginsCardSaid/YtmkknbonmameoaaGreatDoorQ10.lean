import Derived.Test.YtmkknbonmameoaaGreatDoorQ5
import Derived.Test.YtmkknbonmameoaaGreatDoorQ7
import Derived.Test.YtmkknbonmameoaaGreatDoorQ8
import Derived.Test.YtmkknbonmameoaaGreatDoorQ9
import Derived.Sort.CutIn
import Derived.Lib.Hide
-- holds: YtmkknbonmameoaaGreatDoorHIb YtmkknbonmameoaaGreatDoorHZb YtmkknbonmameoaaGreatDoorHZbo YtmkknbonmameoaaGreatDoorHZbm YtmkknbonmameoaaGreatDoorHZbw YtmkknbonmameoaaGreatDoorHZbr YtmkknbonmameoaaGreatDoorHId YtmkknbonmameoaaGreatDoorHZbe
namespace Go.Proofs.YtmkknbonmameoaaGreatDoor
open Go.RowKit Go.Shelf
section
variable {α : Type} {enc : α → List Value} {s : Nat}
theorem fm_len (hs:∀ x,(enc x).length=s):∀ l:List α,(l.flatMap enc).length=l.length * s
 | []=>by simp
 | x :: l=>by rw[List.flatMap_cons,List.length_append,hs,fm_len hs l,List.length_cons,Nat.succ_mul,Nat.add_comm]
theorem fm_at (hs:∀ x,(enc x).length=s):∀ {l:List α} {k j:Nat} {x:α} {u:Value},l[k]?=some x→(enc x)[j]?=some u→(l.flatMap enc)[k * s+j]?=some u
 | [],_,_,_,_,h,_=>by simp at h
 | y :: l,0,j,x,u,h,hu=>by
  simp only[List.getElem?_cons_zero,Option.some.injEq] at h
  subst h
  rw[List.flatMap_cons,Nat.zero_mul,Nat.zero_add,List.getElem?_append_left (List.getElem?_eq_some_iff.1 hu).1,hu]
 | y :: l,k+1,j,x,u,h,hu=>by
  simp only[List.getElem?_cons_succ] at h
  have e:(k+1) * s+j=s+(k * s+j):=by rw[Nat.succ_mul];omega
  rw[List.flatMap_cons,e,List.getElem?_append_right (by rw[hs];omega),hs,Nat.add_sub_cancel_left]
  exact fm_at hs h hu
theorem fm_set (hs:∀ x,(enc x).length=s):∀ {l:List α} {k j:Nat} {x x':α} {u:Value},l[k]?=some x→j<s→(enc x).set j u=enc x'→(l.flatMap enc).set (k * s+j) u=(l.set k x').flatMap enc
 | [],_,_,_,_,_,h,_,_=>by simp at h
 | y :: l,0,j,x,x',u,h,hj,hu=>by
  simp only[List.getElem?_cons_zero,Option.some.injEq] at h
  subst h
  rw[List.set_cons_zero,List.flatMap_cons,List.flatMap_cons,Nat.zero_mul,Nat.zero_add,List.set_append_left _ _ (by rw[hs];exact hj),hu]
 | y :: l,k+1,j,x,x',u,h,hj,hu=>by
  simp only[List.getElem?_cons_succ] at h
  have e:(k+1) * s+j=s+(k * s+j):=by rw[Nat.succ_mul];omega
  rw[List.set_cons_succ,List.flatMap_cons,List.flatMap_cons,e,List.set_append_right _ _ (by rw[hs];omega),hs,Nat.add_sub_cancel_left,fm_set hs h hj hu]
theorem reads_len_s {w:World} {B n:Nat} {A:Option Addr} {l:List α} (hs:∀ x,(enc x).length=s) (hp:0<s) (h:Reads w B s A n (l.flatMap enc)):l.length=n:=by
 have:=h.1
 rw[fm_len hs] at this
 exact Nat.eq_of_mul_eq_mul_right hp this
theorem row_plain {w:World} {B n:Nat} {A:Option Addr} {xs:List Value} (hp:0<s) (h:Reads w B s A n xs) (hn:0<n):∃ b o,A=some ⟨b,o,none⟩∧b<B∧∀ j u,xs[j]?=some u→w.cell? ⟨b,o+j,none⟩=some u:=by
 obtain⟨ad,hA,hb,hc⟩:=h.2 hn
 have hl:0<xs.length:=by rw[h.1];exact Nat.mul_pos hn hp
 have h0:=hc 0 xs[0] (List.getElem?_eq_getElem hl)
 obtain⟨b,off,spot⟩:=ad
 have hspot:spot=none:=by simpa [Addr.add] using World.cell?_spot h0
 subst hspot
 exact⟨b,off,hA,hb,fun j u hu=>by rw[← Go.WideShapes.add_plain];exact hc j u hu⟩
theorem row_cells {w:World} {B n k:Nat} {A:Option Addr} {l:List α} {x:α} (hs:∀ x,(enc x).length=s) (hp:0<s) (h:Reads w B s A n (l.flatMap enc)) (hk:l[k]?=some x) :
 ∃ b o,A=some ⟨b,o,none⟩∧b<B∧∀ j u,(enc x)[j]?=some u→w.cell? ⟨b,o+(k * s+j),none⟩=some u:=by
 have hn:0<n:=by
  have:=reads_len_s hs hp h
  have:=(List.getElem?_eq_some_iff.1 hk).1
  omega
 obtain⟨b,o,hA,hb,hc⟩:=row_plain hp h hn
 exact⟨b,o,hA,hb,fun j u hu=>hc _ _ (fm_at hs hk hu)⟩
end
structure SH where
 A:Option Addr
 n:Nat
 c:Nat
instance:Inhabited SH:=⟨⟨none,0,0⟩⟩
def SH.v (h:SH):Value:=.slice h.A h.n h.c
def SH.ad (h:SH) (j:Nat):Addr:=match h.A with
 | some a=>⟨a.block,a.off+j,none⟩
 | none=>⟨0,j,none⟩
theorem SH.ad_is {h:SH} {b o j:Nat} (e:h.A=some ⟨b,o,none⟩):h.ad j=⟨b,o+j,none⟩:=by unfold SH.ad;rw[e]
def seCs (s:SeenP):List Value:=[.int .i64 s.o,.int .i64 s.t,.int .i64 s.k]
def evCs (p:EvP × SH):List Value:=[.int .i64 p.1.kd,.int .i64 p.1.t,.int .i64 p.1.s,.int .i64 p.1.lev,.int .i64 p.1.o,.int .i64 p.1.vt,.int .i64 p.1.vk,.int .i64 p.1.p,.slice p.2.A p.2.n p.2.c]
def odCs (p:OrdP × SH):List Value:=[.int .i64 p.1.o,.slice p.2.A p.2.n p.2.c]
def maCs (p:MatP × SH):List Value:=[.int .i64 p.1.p,.int .i64 p.1.o,.bool p.1.fi,.slice p.2.A p.2.n p.2.c]
def waCs (r:WantP):List Value:=[.int .i64 r.s,.int .i64 r.b]
theorem seCs_len (s:SeenP):(seCs s).length=3:=rfl
theorem evCs_len (s:EvP × SH):(evCs s).length=9:=rfl
theorem odCs_len (s:OrdP × SH):(odCs s).length=2:=rfl
theorem maCs_len (s:MatP × SH):(maCs s).length=4:=rfl
theorem waCs_len (s:WantP):(waCs s).length=2:=rfl
structure HistM where
 tr:SH × List ByteArray
 se:SH × List ByteArray
 ob:SH × List ByteArray
 pr:SH × List ByteArray
 ev:SH × List (EvP × SH)
 od:SH × List (OrdP × SH)
 ma:SH × List (MatP × SH)
 wa:SH × List WantP
def HistM.pl (m:HistM):Hist:=⟨m.tr.2,m.se.2,m.ob.2,m.pr.2,m.ev.2.map (·.1),m.od.2.map (·.1),m.ma.2.map (·.1),m.wa.2⟩
def HistM.cs (m:HistM):Array Value:=#[.slice m.tr.1.A m.tr.1.n m.tr.1.c,.slice m.se.1.A m.se.1.n m.se.1.c,.slice m.ob.1.A m.ob.1.n m.ob.1.c,.slice m.pr.1.A m.pr.1.n m.pr.1.c,.slice m.ev.1.A m.ev.1.n m.ev.1.c,.slice m.od.1.A m.od.1.n m.od.1.c,.slice m.ma.1.A m.ma.1.n m.ma.1.c,.slice m.wa.1.A m.wa.1.n m.wa.1.c]
structure HRd (W:World) (B:Nat) (m:HistM):Prop where
 tr:Reads W B 1 m.tr.1.A m.tr.1.n (strs m.tr.2)
 se:Reads W B 1 m.se.1.A m.se.1.n (strs m.se.2)
 ob:Reads W B 1 m.ob.1.A m.ob.1.n (strs m.ob.2)
 pr:Reads W B 1 m.pr.1.A m.pr.1.n (strs m.pr.2)
 ev:Reads W B 9 m.ev.1.A m.ev.1.n (m.ev.2.flatMap evCs)
 od:Reads W B 2 m.od.1.A m.od.1.n (m.od.2.flatMap odCs)
 ma:Reads W B 4 m.ma.1.A m.ma.1.n (m.ma.2.flatMap maCs)
 wa:Reads W B 2 m.wa.1.A m.wa.1.n (m.wa.2.flatMap waCs)
 sc:∀ p∈m.ev.2,Reads W B 3 p.2.A p.2.n (p.1.scan.flatMap seCs)
 ot:∀ p∈m.od.2,Reads W B 1 p.2.A p.2.n (ints p.1.ts)
 mt:∀ p∈m.ma.2,Reads W B 1 p.2.A p.2.n (ints p.1.ts)
section
variable {W W' : World} {B B' : Nat} {m : HistM}
theorem HRd.map (h:HRd W B m) (f:∀ {size n:Nat} {A:Option Addr} {xs:List Value},Reads W B size A n xs→Reads W' B' size A n xs):HRd W' B' m :=
 ⟨f h.tr,f h.se,f h.ob,f h.pr,f h.ev,f h.od,f h.ma,f h.wa,fun p hp=>f (h.sc p hp),fun p hp=>f (h.ot p hp),fun p hp=>f (h.mt p hp)⟩
theorem HRd.on (h:HRd W B m) (hb:Below B W W'):HRd W' B m:=h.map fun r=>r.below hb
theorem HRd.on_ (h:HRd W W.heap.size m) (hb:Below W.heap.size W W'):HRd W' W'.heap.size m:=h.map fun r=>(r.below hb).more hb.size
theorem HRd.more (h:HRd W B m) (hB:B≤B'):HRd W B' m:=h.map fun r=>r.more hB
theorem HRd.keep {S:Nat→Prop} (h:HRd W B m) (hk:Keep S W W') (hB:B≤W.heap.size) (hs:∀ k,k<B→S k):HRd W' B m:=h.map fun r=>hk.reads r hB hs
end
def flatI {α β:Type} (f:Nat→α→List β):Nat→List α→List β
 | _,[]=>[]
 | i,x :: xs=>f i x++flatI f (i+1) xs
section
variable {α β : Type} {f : Nat → α → List β}
theorem flatI_take_succ:∀ {l:List α} {i k:Nat} {x:α},l[k]?=some x→flatI f i (l.take (k+1))=flatI f i (l.take k)++f (i+k) x
 | [],_,_,_,h=>by simp at h
 | y :: l,i,0,x,h=>by
  simp only[List.getElem?_cons_zero,Option.some.injEq] at h
  subst h
  simp[flatI]
 | y :: l,i,k+1,x,h=>by
  simp only[List.getElem?_cons_succ] at h
  rw[List.take_succ_cons,List.take_succ_cons]
  unfold flatI
  rw[flatI_take_succ h,List.append_assoc,show i+1+k=i+(k+1) by omega]
theorem flatI_split {l:List α} {i k:Nat} {x:α} (h:l[k]?=some x):flatI f i l=flatI f i (l.take k)++(f (i+k) x++flatI f (i+k+1) (l.drop (k+1))):=by
 induction l generalizing i k with
 | nil=>simp at h
 | cons y l ih =>
  cases k with
  | zero =>
   simp only[List.getElem?_cons_zero,Option.some.injEq] at h
   subst h
   simp[flatI]
  | succ k =>
   simp only[List.getElem?_cons_succ] at h
   rw[List.take_succ_cons,List.drop_succ_cons]
   conv=>lhs;unfold flatI
   conv=>rhs;lhs;unfold flatI
   rw[ih h,List.append_assoc,show i+1+k=i+(k+1) by omega]
end
def plV (h:SH) (j:Nat) (k:Int):List (Nat × Addr):=if k=0 then [] else [(0,h.ad j)]
def plS (h:SH) (j:Nat) (s:SeenP):List (Nat × Addr):=(2,h.ad (j * 3)) :: plV h (j * 3+1) s.k
def plK (h:SH) (i:Nat) (p:EvP × SH):List (Nat × Addr) :=
 if p.1.kd=1 then [(1,h.ad (i * 9+2))] else if p.1.kd=2∨p.1.kd=3 then (2,h.ad (i * 9+4)) :: plV h (i * 9+5) p.1.vk else if p.1.kd=4 then (3,h.ad (i * 9+7)) :: flatI (plS p.2) 0 p.1.scan else []
def plE (h:SH) (i:Nat) (p:EvP × SH):List (Nat × Addr):=(0,h.ad (i * 9+1)) :: plK h i p
def plT (h:SH) (ts:List Int):List (Nat × Addr):=flatI (fun j _=>[(0,h.ad j)]) 0 ts
def plO (h:SH) (i:Nat) (p:OrdP × SH):List (Nat × Addr):=(2,h.ad (i * 2)) :: plT p.2 p.1.ts
def plM (h:SH) (i:Nat) (p:MatP × SH):List (Nat × Addr):=(3,h.ad (i * 4)) :: (2,h.ad (i * 4+1)) :: plT p.2 p.1.ts
def plW (h:SH) (i:Nat) (_:WantP):List (Nat × Addr):=[(1,h.ad (i * 2))]
def plcs (m:HistM):List (Nat × Addr):=flatI (plE m.ev.1) 0 m.ev.2++(flatI (plO m.od.1) 0 m.od.2++(flatI (plM m.ma.1) 0 m.ma.2++flatI (plW m.wa.1) 0 m.wa.2))
def Lnk (W:World):List (Nat × Addr)→List (Nat × Int)→Prop
 | [],[]=>True
 | (s,a) :: x,(q,n) :: y=>(s=q∧W.cell? a=some (.int .i64 n))∧Lnk W x y
 | _,_=>False
section
variable {W : World} {B : Nat} {m : HistM}
theorem Lnk.append:∀ {x x':List (Nat × Addr)} {y y':List (Nat × Int)},Lnk W x y→Lnk W x' y'→Lnk W (x++x') (y++y')
 | [],_,[],_,_,h=>h
 | (_,_) :: _,_,(_,_) :: _,_,h,h'=>⟨h.1,Lnk.append h.2 h'⟩
 | [],_,(_,_) :: _,_,h,_=>h.elim
 | (_,_) :: _,_,[],_,h,_=>h.elim
theorem Lnk.len:∀ {x:List (Nat × Addr)} {y:List (Nat × Int)},Lnk W x y→x.length=y.length
 | [],[],_=>rfl
 | (_,_) :: _,(_,_) :: _,h=>by rw[List.length_cons,List.length_cons,Lnk.len h.2]
 | [],(_,_) :: _,h=>h.elim
 | (_,_) :: _,[],h=>h.elim
theorem Lnk.at_:∀ {x:List (Nat × Addr)} {y:List (Nat × Int)} {k s:Nat} {a:Addr},Lnk W x y→x[k]?=some (s,a)→∃ n,y[k]?=some (s,n)∧W.cell? a=some (.int .i64 n)
 | [],_,_,_,_,_,h=>by simp at h
 | (s',a') :: x,(q,n) :: y,0,s,a,hl,h=>by
  simp only[List.getElem?_cons_zero,Option.some.injEq,Prod.mk.injEq] at h
  obtain⟨rfl,rfl⟩:=h
  exact⟨n,by rw[List.getElem?_cons_zero,hl.1.1],hl.1.2⟩
 | (s',a') :: x,(q,n) :: y,k+1,s,a,hl,h=>by
  simp only[List.getElem?_cons_succ] at h ⊢
  exact Lnk.at_ hl.2 h
 | (_,_) :: _,[],_,_,_,hl,_=>hl.elim
theorem Lnk.flat {α:Type} {f:Nat→α→List (Nat × Addr)} {g:α→List (Nat × Int)}:∀ {l:List α} {i:Nat},(∀ k x,l[k]?=some x→Lnk W (f (i+k) x) (g x))→Lnk W (flatI f i l) (l.flatMap g)
 | [],_,_=>trivial
 | x :: l,i,h=>by
  unfold flatI
  rw[List.flatMap_cons]
  refine Lnk.append (h 0 x rfl) (Lnk.flat fun k y hy=>?_)
  have:=h (k+1) y (by simpa using hy)
  rwa [show i+1+k=i+(k+1) by omega]
theorem lnkV {h:SH} {j:Nat} {t k:Int} (hc:W.cell? (h.ad j)=some (.int .i64 t)):Lnk W (plV h j k) (refsV t k):=by
 unfold plV refsV
 split
 ·trivial
 exact⟨⟨rfl,hc⟩,trivial⟩
theorem map_flat:∀ ts:List Int,(ts.map fun t=>((0:Nat),t))=ts.flatMap fun t=>[((0:Nat),t)]
 | []=>rfl
 | t :: ts=>by rw[List.map_cons,List.flatMap_cons,map_flat ts];rfl
theorem lnkT {h:SH} {ts:List Int} (hr:Reads W B 1 h.A h.n (ints ts)):Lnk W (plT h ts) (refsT ts):=by
 have e:refsT ts=ts.flatMap fun t=>[((0:Nat),t)]:=by
  unfold refsT
  exact map_flat ts
 rw[e]
 refine Lnk.flat fun k t hk=>?_
 obtain⟨b,o,hA,_,hc⟩:=int_at hr hk
 refine⟨⟨rfl,?_⟩,trivial⟩
 rw[SH.ad_is hA,Nat.zero_add]
 exact hc
theorem lnkE {h:SH} {n:Nat} {l:List (EvP × SH)} (hr:Reads W B 9 h.A n (l.flatMap evCs)) (hs:∀ p∈l,Reads W B 3 p.2.A p.2.n (p.1.scan.flatMap seCs)) {i:Nat} {p:EvP × SH} (hi:l[i]?=some p):Lnk W (plE h i p) (refsE p.1):=by
 obtain⟨b,o,hA,_,hc⟩:=row_cells evCs_len (by omega) hr hi
 have c1:=hc 1 _ rfl
 have c2:=hc 2 _ rfl
 have c4:=hc 4 _ rfl
 have c5:=hc 5 _ rfl
 have c7:=hc 7 _ rfl
 unfold plE refsE
 refine⟨⟨rfl,by rw[SH.ad_is hA];exact c1⟩,?_⟩
 unfold plK refsK
 by_cases h1:p.1.kd=1
 ·rw[if_pos h1,if_pos h1]
  exact⟨⟨rfl,by rw[SH.ad_is hA];exact c2⟩,trivial⟩
 by_cases h2:p.1.kd=2∨p.1.kd=3
 ·rw[if_neg h1,if_neg h1,if_pos h2,if_pos h2]
  exact⟨⟨rfl,by rw[SH.ad_is hA];exact c4⟩,lnkV (by rw[SH.ad_is hA];exact c5)⟩
 by_cases h4:p.1.kd=4
 ·rw[if_neg h1,if_neg h1,if_neg h2,if_neg h2,if_pos h4,if_pos h4]
  refine⟨⟨rfl,by rw[SH.ad_is hA];exact c7⟩,Lnk.flat fun k x hk=>?_⟩
  obtain⟨b2,o2,hA2,_,hd⟩:=row_cells seCs_len (by omega) (hs p (List.mem_of_getElem? hi)) hk
  have d0:=hd 0 _ rfl
  have d1:=hd 1 _ rfl
  unfold plS refsS
  rw[Nat.zero_add]
  exact⟨⟨rfl,by rw[SH.ad_is hA2];exact d0⟩,lnkV (by rw[SH.ad_is hA2];exact d1)⟩
 rw[if_neg h1,if_neg h1,if_neg h2,if_neg h2,if_neg h4,if_neg h4]
 trivial
theorem HRd.lnk (h:HRd W B m):Lnk W (plcs m) (refs m.pl):=by
 unfold plcs refs HistM.pl
 simp only
 rw[List.flatMap_map,List.flatMap_map,List.flatMap_map]
 refine Lnk.append (Lnk.flat fun k p hk=>?_) (Lnk.append (Lnk.flat fun k p hk=>?_) (Lnk.append (Lnk.flat fun k p hk=>?_) (Lnk.flat fun k p hk=>?_)))
 ·rw[Nat.zero_add]
  exact lnkE h.ev h.sc hk
 ·obtain⟨b,o,hA,_,hc⟩:=row_cells odCs_len (by omega) h.od hk
  have c0:=hc 0 _ rfl
  unfold plO refsO
  rw[Nat.zero_add]
  exact⟨⟨rfl,by rw[SH.ad_is hA];exact c0⟩,lnkT (h.ot p (List.mem_of_getElem? hk))⟩
 ·obtain⟨b,o,hA,_,hc⟩:=row_cells maCs_len (by omega) h.ma hk
  have c0:=hc 0 _ rfl
  have c1:=hc 1 _ rfl
  unfold plM refsM
  rw[Nat.zero_add]
  exact⟨⟨rfl,by rw[SH.ad_is hA];exact c0⟩,⟨rfl,by rw[SH.ad_is hA];exact c1⟩,lnkT (h.mt p (List.mem_of_getElem? hk))⟩
 obtain⟨b,o,hA,_,hc⟩:=row_cells waCs_len (by omega) h.wa hk
 have c0:=hc 0 _ rfl
 unfold plW refsW
 rw[Nat.zero_add]
 exact⟨⟨rfl,by rw[SH.ad_is hA];exact c0⟩,trivial⟩
structure SkE (h:SH) (X:World) (i:Nat) (p:EvP × SH):Prop where
 k0:X.cell? (h.ad (i * 9))=some (.int .i64 p.1.kd)
 k6:X.cell? (h.ad (i * 9+6))=some (.int .i64 p.1.vk)
 k8:X.cell? (h.ad (i * 9+8))=some (.slice p.2.A p.2.n p.2.c)
 sc:∀ j s,p.1.scan[j]?=some s→X.cell? (p.2.ad (j * 3+2))=some (.int .i64 s.k)
structure SkH (m:HistM) (Bh:Nat) (X:World):Prop where
 b4:X.cell? ⟨Bh,4,none⟩=some (.slice m.ev.1.A m.ev.1.n m.ev.1.c)
 b5:X.cell? ⟨Bh,5,none⟩=some (.slice m.od.1.A m.od.1.n m.od.1.c)
 b6:X.cell? ⟨Bh,6,none⟩=some (.slice m.ma.1.A m.ma.1.n m.ma.1.c)
 b7:X.cell? ⟨Bh,7,none⟩=some (.slice m.wa.1.A m.wa.1.n m.wa.1.c)
 ev:∀ i p,m.ev.2[i]?=some p→SkE m.ev.1 X i p
 od:∀ i p,m.od.2[i]?=some p→X.cell? (m.od.1.ad (i * 2+1))=some (.slice p.2.A p.2.n p.2.c)
 ma:∀ i p,m.ma.2[i]?=some p→X.cell? (m.ma.1.ad (i * 4+3))=some (.slice p.2.A p.2.n p.2.c)
structure Fit (m:HistM):Prop where
 ev:m.ev.2.length=m.ev.1.n∧(0<m.ev.1.n→∃ b o,m.ev.1.A=some ⟨b,o,none⟩)
 od:m.od.2.length=m.od.1.n∧(0<m.od.1.n→∃ b o,m.od.1.A=some ⟨b,o,none⟩)
 ma:m.ma.2.length=m.ma.1.n∧(0<m.ma.1.n→∃ b o,m.ma.1.A=some ⟨b,o,none⟩)
 wa:m.wa.2.length=m.wa.1.n∧(0<m.wa.1.n→∃ b o,m.wa.1.A=some ⟨b,o,none⟩)
 sc:∀ p∈m.ev.2,p.1.scan.length=p.2.n∧(0<p.2.n→∃ b o,p.2.A=some ⟨b,o,none⟩)
 ot:∀ p∈m.od.2,p.1.ts.length=p.2.n∧(0<p.2.n→∃ b o,p.2.A=some ⟨b,o,none⟩)
 mt:∀ p∈m.ma.2,p.1.ts.length=p.2.n∧(0<p.2.n→∃ b o,p.2.A=some ⟨b,o,none⟩)
theorem row_fit {α:Type} {enc:α→List Value} {s n:Nat} {A:Option Addr} {l:List α} (hs:∀ x,(enc x).length=s) (hp:0<s) (h:Reads W B s A n (l.flatMap enc)):l.length=n∧(0<n→∃ b o,A=some ⟨b,o,none⟩) :=
 ⟨reads_len_s hs hp h,fun hn=>by obtain⟨b,o,e,_⟩:=row_plain hp h hn;exact⟨b,o,e⟩⟩
theorem ints_fit {n:Nat} {A:Option Addr} {l:List Int} (h:Reads W B 1 A n (ints l)):l.length=n∧(0<n→∃ b o,A=some ⟨b,o,none⟩) :=
 ⟨ints_len h,fun hn=>by obtain⟨b,o,e,_⟩:=row_plain (by omega) h hn;exact⟨b,o,e⟩⟩
theorem HRd.fit (h:HRd W B m):Fit m :=
 ⟨row_fit evCs_len (by omega) h.ev,row_fit odCs_len (by omega) h.od,row_fit maCs_len (by omega) h.ma,row_fit waCs_len (by omega) h.wa,
  fun p hp=>row_fit seCs_len (by omega) (h.sc p hp),fun p hp=>ints_fit (h.ot p hp),fun p hp=>ints_fit (h.mt p hp)⟩
theorem HRd.skel {Bh:Nat} (h:HRd W B m) (hb:Blk W Bh 28 m.cs):SkH m Bh W where
 b4:=hb.cell 4
 b5:=hb.cell 5
 b6:=hb.cell 6
 b7:=hb.cell 7
 ev:=fun i p hi=>by
  obtain⟨b,o,hA,_,hc⟩:=row_cells evCs_len (by omega) h.ev hi
  refine⟨by rw[SH.ad_is hA];exact hc 0 _ rfl,by rw[SH.ad_is hA];exact hc 6 _ rfl,by rw[SH.ad_is hA];exact hc 8 _ rfl,fun j s hj=>?_⟩
  obtain⟨b2,o2,hA2,_,hd⟩:=row_cells seCs_len (by omega) (h.sc p (List.mem_of_getElem? hi)) hj
  rw[SH.ad_is hA2]
  exact hd 2 _ rfl
 od:=fun i p hi=>by
  obtain⟨b,o,hA,_,hc⟩:=row_cells odCs_len (by omega) h.od hi
  rw[SH.ad_is hA]
  exact hc 1 _ rfl
 ma:=fun i p hi=>by
  obtain⟨b,o,hA,_,hc⟩:=row_cells maCs_len (by omega) h.ma hi
  rw[SH.ad_is hA]
  exact hc 3 _ rfl
end
theorem findZ_at {n i:Nat} {p:Nat→Bool} (h1:i<n) (h2:p i=true) (h3:∀ j,j<i→p j=false):(List.range n).find? p=some i:=by
 rw[List.find?_range_eq_some]
 exact⟨h2,by simpa using h1,fun j hj=>by rw[h3 j hj];rfl⟩
theorem findZ_no {n:Nat} {p:Nat→Bool} (h:∀ j,j<n→p j=false):(List.range n).find? p=none:=by
 rw[List.find?_eq_none]
 intro j hj
 rw[h j (by simpa using hj)]
 simp
theorem uptoZ_more {i:Nat} {p:Nat→Bool} (h:∀ j,j<i→p j=false) (hi:p i=false):∀ j,j<i+1→p j=false:=fun j hj=>by
 rcases Nat.lt_or_ge j i with h1 | h1
 ·exact h j h1
 rw[show j=i by omega,hi]
def slCs (h:SH):List Value:=[.slice h.A h.n h.c]
theorem slCs_len (h:SH):(slCs h).length=1:=rfl
set_option maxRecDepth 100000 in
set_option maxHeartbeats 4000000 in
theorem placeso_seq (d:Nat) (fq:FuncId) (hcf:∀ (args:Array Value) (W:World),(callFunc fq args).run Tryz.prog W=.ok (.enter fq args) W) (caps:Array Value) (p:Nat→Bool) (Q:Nat→World→Prop) (T:Nat→Prop) (N Br Bq:Nat) (A:Option Addr) (n c:Nat) (l:List (OrdP × SH)) (w1:World) (hn:n≤1000000)
 (hR:Reads w1 N 2 A n (l.flatMap odCs)) (hNw:N≤w1.heap.size) (hBr:Blk w1 Br 24 #[.slice A n c]) (hBq:Blk w1 Bq 153 #[.func (.func fq) #[] caps])
 (hT:∀ j,T j→N≤j∧j<w1.heap.size∧j≠Br∧j≠Bq) (hQ:∀ k X Y,Q k X→Below X.heap.size X Y→Q k Y)
 (hask:∀ k e X,l[k]?=some e→Q k X→Calls Tryz.prog fq (#[.agg #[.int .i64 e.1.o,.slice e.2.A e.2.n e.2.c]]++caps) X fun r X'=>r=.returned (.bool (p k))∧Q (k+1) X'∧Keep (fun j=>¬T j) X X') (h0:Q 0 w1) :
 FirstSeq d Tryz.prog 139 #[.pointer (some ⟨Br,0,none⟩),.pointer (some ⟨Bq,0,none⟩)] ((List.range n).find? p) N w1:=by
 intro l0 Jx W hW hJ hY
 have HL:=zh (reads_len_s odCs_len (by omega) hR)
 have HR:Hid (∀ X,Keep (fun j=>¬T j) W X→Reads X N 2 A n (l.flatMap odCs)):=fun X h=>h.reads (hR.below (hW.mono hNw)) (Nat.le_trans hNw hW.size) (fun k hk ht=>by have:=(hT k ht).1;omega)
 have HBR:Hid (∀ X,Keep (fun j=>¬T j) W X→X.cell? ⟨Br,0,none⟩=some (.slice A n c)):=fun X h=>(h.blk (hBr.below hW hBr.lt) (fun ht=>(hT _ ht).2.2.1 rfl)).cell 0
 have HBQ:Hid (∀ X,Keep (fun j=>¬T j) W X→X.cell? ⟨Bq,0,none⟩=some (.func (.func fq) #[] caps)):=fun X h=>(h.blk (hBq.below hW hBq.lt) (fun ht=>(hT _ ht).2.2.2 rfl)).cell 0
 have H0:Hid (Q 0 W):=hQ _ _ _ h0 hW
 have HKM:Hid (∀ X,Keep (fun j=>¬T j) W X→Keep (fun j=>j<N∨w1.heap.size≤j) W X):=fun X h=>h.mono fun j _ hj ht=>by have:=hT j ht;omega
 have HQ:=zh hQ
 have HA:=zh hask
 have HY:=zh hY
 have s0:=HBR.out W (Keep.refl _ _)
 have HCF:=zh hcf
 clear hR hNw hBr hBq hT hQ hask h0 hW hJ hY
 refine callsIn_of_wp Tryz.func139 rfl trivial ?_ rfl
 simp only[Tryz.ntmps139,List.size_toArray,List.length_cons,List.length_nil,Nat.reduceAdd,Nat.reduceSub,Array.replicate_succ,Array.replicate_zero,List.push_toArray,List.append_toArray,List.nil_append,List.cons_append]
 gi_wp2_with fail
 clear s0
 gi_loopw [8] (fun v wr=>∃ i:Nat,v=.int .i64 i∧i≤n∧Hid (Q i wr)∧Hid (Keep (fun j=>¬T j) W wr)∧Hid (∀ j,j<i→p j=false)) (fun v _=>n - (intOf v).toNat)
 case atStart=>exact⟨0,rfl,Nat.zero_le _,H0,Keep.refl _ _,fun j hj=>by omega⟩
 obtain⟨i,rfl,hin,HQI,HK,HF⟩:=hrel
 by_cases hin2:i<n
 ·have hlt:(i:Int)<(n:Int):=by omega
  obtain⟨⟨e,hd⟩,he⟩:∃ e,l[i]?=some e:=⟨l[i]'(by rw[HL.out];omega),List.getElem?_eq_getElem _⟩
  obtain⟨b,o,rfl,hb,hc⟩:=row_cells odCs_len (by omega) (HR.out wr HK.out) he
  have c0:wr.cell? ⟨b,o+i * 2,none⟩=some (.int .i64 e.o):=by have h9:=hc 0 _ rfl;rwa [show o+(i * 2+0)=o+i * 2 by omega] at h9
  have c1:wr.cell? ⟨b,o+i * 2+1,none⟩=some (.slice hd.A hd.n hd.c):=by have h9:=hc 1 _ rfl;rwa [show o+(i * 2+1)=o+i * 2+1 by omega] at h9
  have hbx:Below wr.heap.size wr (wr.alloc (.cells #[.int .i64 e.o,.slice hd.A hd.n hd.c] 66)):=(Below.refl _ _).alloc (Nat.le_refl _) _
  have KE:=Blk.new wr 66 #[.int .i64 e.o,.slice hd.A hd.n hd.c]
  have d0:=KE.cell 0
  have d1:=KE.cell 1
  have HK1:Hid (Keep (fun j=>¬T j) W (wr.alloc (.cells #[.int .i64 e.o,.slice hd.A hd.n hd.c] 66))):=HK.out.trans (Keep.of_all _ hbx)
  have HA1:=zh (HA.out i (e,hd) (wr.alloc (.cells #[.int .i64 e.o,.slice hd.A hd.n hd.c] 66)) he (HQ.out _ _ _ HQI.out hbx))
  have q0:=HBQ.out _ HK1.out
  clear hc he HQI HK hbx
  gi_upto_region 3 with fail
  clear KE c0 c1
  generalize (wr.alloc (.cells #[.int .i64 e.o,.slice hd.A hd.n hd.c] 66))=X1 at *
  cases hp:p i
  ·rw[hp] at HA1
   have HF1:=zh (uptoZ_more HF.out hp)
   clear hp HF
   have hcf:=HCF.out
   gi_wp2_with fail
   refine⟨trivial,(fun h=>by cases h),(callsIn_wide.2 HA1.out).mono ?_⟩
   rintro r W3 ⟨rfl,hq3,hk3⟩
   have HQ3:=zh hq3
   have HK3:=zh (HK1.out.trans hk3)
   clear hq3 hk3 HA1 HK1 q0 d0 d1
   gi_wp2_with fail
   refine⟨(fun f h=>by cases h),?_⟩
   gi_wp2_with fail
   go_roundw
   case rel=>exact⟨i+1,by go_num,hin2,HQ3,HK3,HF1⟩
   case measure=>simp[intOf];omega
  rw[hp] at HA1
  have HF1:=zh (findZ_at hin2 hp HF.out)
  clear hp HF
  have hcf:=HCF.out
  gi_wp2_with fail
  refine⟨trivial,(fun h=>by cases h),(callsIn_wide.2 HA1.out).mono ?_⟩
  rintro r W3 ⟨rfl,hq3,hk3⟩
  have HK3:=zh (HK1.out.trans hk3)
  clear hq3 hk3 HA1 HK1 q0 d0 d1
  obtain⟨fn,tmps,assign,body,hy,hRR⟩:=HY.out i W3 HF1.out (HKM.out _ HK3.out)
  have HRR:=zh hRR
  clear hRR
  gi_wp2_with fail
  refine⟨(fun h=>by cases h),(RoundIn.deep rfl HRR.out).mono ?_⟩
  rintro r W4 ⟨rfl,hJ4⟩
  have HJ4:=zh hJ4
  clear hJ4 hy HRR HK3
  gi_wp2_with fail
  refine bodyPost_ret (results_none rfl _ _ _) rfl ?_
  exact⟨⟨_,rfl⟩,.inr ⟨by rw[HF1.out];rfl,HJ4.out⟩⟩
 have hge:¬(i:Int)<(n:Int):=by omega
 obtain rfl:i=n:=by omega
 gi_wp2_with fail
 go_end0
 exact⟨⟨_,rfl⟩,.inl ⟨by first | exact findZ_no HF.out | exact HF.out,HKM.out _ HK.out⟩⟩
set_option maxRecDepth 100000 in
set_option maxHeartbeats 1000000 in
theorem placeso_any (A:Option Addr) (n c:Nat) (fq:FuncId) (caps:Array Value) (w:World):Calls Tryz.prog 104 #[.slice A n c,.func (.func fq) #[] caps] w fun e w'=>e=.returned (.func (.func 139) #[] #[.pointer (some ⟨w.heap.size,0,none⟩),.pointer (some ⟨w.heap.size+1,0,none⟩)])∧w'=(w.alloc (.cells #[.slice A n c] 24)).alloc (.cells #[.func (.func fq) #[] caps] 153):=by
 go_enter Tryz.func104,Tryz.ntmps104
 go_wp2_with fail
 go_ret
 exact⟨rfl,rfl⟩
theorem placeso_first (fq:FuncId) (hcf:∀ (args:Array Value) (W:World),(callFunc fq args).run Tryz.prog W=.ok (.enter fq args) W) (caps:Array Value) (p:Nat→Bool) (Q:Nat→World→Prop) (T:Nat→Prop) (N:Nat) (A:Option Addr) (n c:Nat) (l:List (OrdP × SH)) (w:World) (hn:n≤1000000)
 (hR:Reads w N 2 A n (l.flatMap odCs)) (hNw:N≤w.heap.size) (hT:∀ j,T j→N≤j∧j<w.heap.size) (hQ:∀ k X Y,Q k X→Below X.heap.size X Y→Q k Y)
 (hask:∀ k e X,l[k]?=some e→Q k X→Calls Tryz.prog fq (#[.agg #[.int .i64 e.1.o,.slice e.2.A e.2.n e.2.c]]++caps) X fun r X'=>r=.returned (.bool (p k))∧Q (k+1) X'∧Keep (fun j=>¬T j) X X') (h0:Q 0 w) :
 Calls Tryz.prog 104 #[.slice A n c,.func (.func fq) #[] caps] w fun e w'=>Below w.heap.size w w'∧∃ lb,e=.returned (.func (.func 139) #[] lb)∧∀ d,FirstSeq d Tryz.prog 139 lb ((List.range n).find? p) N w':=by
 refine (placeso_any A n c fq caps w).mono ?_
 rintro e w' ⟨rfl,rfl⟩
 have b1:Below w.heap.size w (w.alloc (.cells #[.slice A n c] 24)):=(Below.refl _ w).alloc (Nat.le_refl _) _
 have b:Below w.heap.size w ((w.alloc (.cells #[.slice A n c] 24)).alloc (.cells #[.func (.func fq) #[] caps] 153)):=b1.alloc (by simp) _
 have k1:Blk ((w.alloc (.cells #[.slice A n c] 24)).alloc (.cells #[.func (.func fq) #[] caps] 153)) w.heap.size 24 #[.slice A n c]:=(Blk.new w _ _).alloc _
 have k2:Blk ((w.alloc (.cells #[.slice A n c] 24)).alloc (.cells #[.func (.func fq) #[] caps] 153)) (w.heap.size+1) 153 #[.func (.func fq) #[] caps]:=by
  have:=Blk.new (w.alloc (.cells #[.slice A n c] 24)) 153 #[.func (.func fq) #[] caps]
  rwa [World.size_alloc] at this
 exact⟨b,_,rfl,fun d=>placeso_seq d fq hcf caps p Q T N _ _ A n c l _ hn (hR.below (b.mono hNw)) (Nat.le_trans hNw b.size) k1 k2 (fun j hj=>by have:=hT j hj;have:=b.size;omega) hQ hask (hQ _ _ _ h0 b)⟩
set_option maxRecDepth 100000 in
set_option maxHeartbeats 4000000 in
theorem placesm_seq (d:Nat) (fq:FuncId) (hcf:∀ (args:Array Value) (W:World),(callFunc fq args).run Tryz.prog W=.ok (.enter fq args) W) (caps:Array Value) (p:Nat→Bool) (Q:Nat→World→Prop) (T:Nat→Prop) (N Br Bq:Nat) (A:Option Addr) (n c:Nat) (l:List (MatP × SH)) (w1:World) (hn:n≤1000000)
 (hR:Reads w1 N 4 A n (l.flatMap maCs)) (hNw:N≤w1.heap.size) (hBr:Blk w1 Br 25 #[.slice A n c]) (hBq:Blk w1 Bq 161 #[.func (.func fq) #[] caps])
 (hT:∀ j,T j→N≤j∧j<w1.heap.size∧j≠Br∧j≠Bq) (hQ:∀ k X Y,Q k X→Below X.heap.size X Y→Q k Y)
 (hask:∀ k e X,l[k]?=some e→Q k X→Calls Tryz.prog fq (#[.agg #[.int .i64 e.1.p,.int .i64 e.1.o,.bool e.1.fi,.slice e.2.A e.2.n e.2.c]]++caps) X fun r X'=>r=.returned (.bool (p k))∧Q (k+1) X'∧Keep (fun j=>¬T j) X X') (h0:Q 0 w1) :
 FirstSeq d Tryz.prog 142 #[.pointer (some ⟨Br,0,none⟩),.pointer (some ⟨Bq,0,none⟩)] ((List.range n).find? p) N w1:=by
 intro l0 Jx W hW hJ hY
 have HL:=zh (reads_len_s maCs_len (by omega) hR)
 have HR:Hid (∀ X,Keep (fun j=>¬T j) W X→Reads X N 4 A n (l.flatMap maCs)):=fun X h=>h.reads (hR.below (hW.mono hNw)) (Nat.le_trans hNw hW.size) (fun k hk ht=>by have:=(hT k ht).1;omega)
 have HBR:Hid (∀ X,Keep (fun j=>¬T j) W X→X.cell? ⟨Br,0,none⟩=some (.slice A n c)):=fun X h=>(h.blk (hBr.below hW hBr.lt) (fun ht=>(hT _ ht).2.2.1 rfl)).cell 0
 have HBQ:Hid (∀ X,Keep (fun j=>¬T j) W X→X.cell? ⟨Bq,0,none⟩=some (.func (.func fq) #[] caps)):=fun X h=>(h.blk (hBq.below hW hBq.lt) (fun ht=>(hT _ ht).2.2.2 rfl)).cell 0
 have H0:Hid (Q 0 W):=hQ _ _ _ h0 hW
 have HKM:Hid (∀ X,Keep (fun j=>¬T j) W X→Keep (fun j=>j<N∨w1.heap.size≤j) W X):=fun X h=>h.mono fun j _ hj ht=>by have:=hT j ht;omega
 have HQ:=zh hQ
 have HA:=zh hask
 have HY:=zh hY
 have s0:=HBR.out W (Keep.refl _ _)
 have HCF:=zh hcf
 clear hR hNw hBr hBq hT hQ hask h0 hW hJ hY
 refine callsIn_of_wp Tryz.func142 rfl trivial ?_ rfl
 simp only[Tryz.ntmps142,List.size_toArray,List.length_cons,List.length_nil,Nat.reduceAdd,Nat.reduceSub,Array.replicate_succ,Array.replicate_zero,List.push_toArray,List.append_toArray,List.nil_append,List.cons_append]
 gi_wp2_with fail
 clear s0
 gi_loopw [8] (fun v wr=>∃ i:Nat,v=.int .i64 i∧i≤n∧Hid (Q i wr)∧Hid (Keep (fun j=>¬T j) W wr)∧Hid (∀ j,j<i→p j=false)) (fun v _=>n - (intOf v).toNat)
 case atStart=>exact⟨0,rfl,Nat.zero_le _,H0,Keep.refl _ _,fun j hj=>by omega⟩
 obtain⟨i,rfl,hin,HQI,HK,HF⟩:=hrel
 by_cases hin2:i<n
 ·have hlt:(i:Int)<(n:Int):=by omega
  obtain⟨⟨e,hd⟩,he⟩:∃ e,l[i]?=some e:=⟨l[i]'(by rw[HL.out];omega),List.getElem?_eq_getElem _⟩
  obtain⟨b,o,rfl,hb,hc⟩:=row_cells maCs_len (by omega) (HR.out wr HK.out) he
  have c0:wr.cell? ⟨b,o+i * 4,none⟩=some (.int .i64 e.p):=by have h9:=hc 0 _ rfl;rwa [show o+(i * 4+0)=o+i * 4 by omega] at h9
  have c1:wr.cell? ⟨b,o+i * 4+1,none⟩=some (.int .i64 e.o):=by have h9:=hc 1 _ rfl;rwa [show o+(i * 4+1)=o+i * 4+1 by omega] at h9
  have c2:wr.cell? ⟨b,o+i * 4+2,none⟩=some (.bool e.fi):=by have h9:=hc 2 _ rfl;rwa [show o+(i * 4+2)=o+i * 4+2 by omega] at h9
  have c3:wr.cell? ⟨b,o+i * 4+3,none⟩=some (.slice hd.A hd.n hd.c):=by have h9:=hc 3 _ rfl;rwa [show o+(i * 4+3)=o+i * 4+3 by omega] at h9
  have hbx:Below wr.heap.size wr (wr.alloc (.cells #[.int .i64 e.p,.int .i64 e.o,.bool e.fi,.slice hd.A hd.n hd.c] 69)):=(Below.refl _ _).alloc (Nat.le_refl _) _
  have KE:=Blk.new wr 69 #[.int .i64 e.p,.int .i64 e.o,.bool e.fi,.slice hd.A hd.n hd.c]
  have d0:=KE.cell 0
  have d1:=KE.cell 1
  have d2:=KE.cell 2
  have d3:=KE.cell 3
  have HK1:Hid (Keep (fun j=>¬T j) W (wr.alloc (.cells #[.int .i64 e.p,.int .i64 e.o,.bool e.fi,.slice hd.A hd.n hd.c] 69))):=HK.out.trans (Keep.of_all _ hbx)
  have HA1:=zh (HA.out i (e,hd) (wr.alloc (.cells #[.int .i64 e.p,.int .i64 e.o,.bool e.fi,.slice hd.A hd.n hd.c] 69)) he (HQ.out _ _ _ HQI.out hbx))
  have q0:=HBQ.out _ HK1.out
  clear hc he HQI HK hbx
  gi_upto_region 3 with fail
  clear KE c0 c1 c2 c3
  generalize (wr.alloc (.cells #[.int .i64 e.p,.int .i64 e.o,.bool e.fi,.slice hd.A hd.n hd.c] 69))=X1 at *
  cases hp:p i
  ·rw[hp] at HA1
   have HF1:=zh (uptoZ_more HF.out hp)
   clear hp HF
   have hcf:=HCF.out
   gi_wp2_with fail
   refine⟨trivial,(fun h=>by cases h),(callsIn_wide.2 HA1.out).mono ?_⟩
   rintro r W3 ⟨rfl,hq3,hk3⟩
   have HQ3:=zh hq3
   have HK3:=zh (HK1.out.trans hk3)
   clear hq3 hk3 HA1 HK1 q0 d0 d1 d2 d3
   gi_wp2_with fail
   refine⟨(fun f h=>by cases h),?_⟩
   gi_wp2_with fail
   go_roundw
   case rel=>exact⟨i+1,by go_num,hin2,HQ3,HK3,HF1⟩
   case measure=>simp[intOf];omega
  rw[hp] at HA1
  have HF1:=zh (findZ_at hin2 hp HF.out)
  clear hp HF
  have hcf:=HCF.out
  gi_wp2_with fail
  refine⟨trivial,(fun h=>by cases h),(callsIn_wide.2 HA1.out).mono ?_⟩
  rintro r W3 ⟨rfl,hq3,hk3⟩
  have HK3:=zh (HK1.out.trans hk3)
  clear hq3 hk3 HA1 HK1 q0 d0 d1 d2 d3
  obtain⟨fn,tmps,assign,body,hy,hRR⟩:=HY.out i W3 HF1.out (HKM.out _ HK3.out)
  have HRR:=zh hRR
  clear hRR
  gi_wp2_with fail
  refine⟨(fun h=>by cases h),(RoundIn.deep rfl HRR.out).mono ?_⟩
  rintro r W4 ⟨rfl,hJ4⟩
  have HJ4:=zh hJ4
  clear hJ4 hy HRR HK3
  gi_wp2_with fail
  refine bodyPost_ret (results_none rfl _ _ _) rfl ?_
  exact⟨⟨_,rfl⟩,.inr ⟨by rw[HF1.out];rfl,HJ4.out⟩⟩
 have hge:¬(i:Int)<(n:Int):=by omega
 obtain rfl:i=n:=by omega
 gi_wp2_with fail
 go_end0
 exact⟨⟨_,rfl⟩,.inl ⟨by first | exact findZ_no HF.out | exact HF.out,HKM.out _ HK.out⟩⟩
set_option maxRecDepth 100000 in
set_option maxHeartbeats 1000000 in
theorem placesm_any (A:Option Addr) (n c:Nat) (fq:FuncId) (caps:Array Value) (w:World):Calls Tryz.prog 111 #[.slice A n c,.func (.func fq) #[] caps] w fun e w'=>e=.returned (.func (.func 142) #[] #[.pointer (some ⟨w.heap.size,0,none⟩),.pointer (some ⟨w.heap.size+1,0,none⟩)])∧w'=(w.alloc (.cells #[.slice A n c] 25)).alloc (.cells #[.func (.func fq) #[] caps] 161):=by
 go_enter Tryz.func111,Tryz.ntmps111
 go_wp2_with fail
 go_ret
 exact⟨rfl,rfl⟩
theorem placesm_first (fq:FuncId) (hcf:∀ (args:Array Value) (W:World),(callFunc fq args).run Tryz.prog W=.ok (.enter fq args) W) (caps:Array Value) (p:Nat→Bool) (Q:Nat→World→Prop) (T:Nat→Prop) (N:Nat) (A:Option Addr) (n c:Nat) (l:List (MatP × SH)) (w:World) (hn:n≤1000000)
 (hR:Reads w N 4 A n (l.flatMap maCs)) (hNw:N≤w.heap.size) (hT:∀ j,T j→N≤j∧j<w.heap.size) (hQ:∀ k X Y,Q k X→Below X.heap.size X Y→Q k Y)
 (hask:∀ k e X,l[k]?=some e→Q k X→Calls Tryz.prog fq (#[.agg #[.int .i64 e.1.p,.int .i64 e.1.o,.bool e.1.fi,.slice e.2.A e.2.n e.2.c]]++caps) X fun r X'=>r=.returned (.bool (p k))∧Q (k+1) X'∧Keep (fun j=>¬T j) X X') (h0:Q 0 w) :
 Calls Tryz.prog 111 #[.slice A n c,.func (.func fq) #[] caps] w fun e w'=>Below w.heap.size w w'∧∃ lb,e=.returned (.func (.func 142) #[] lb)∧∀ d,FirstSeq d Tryz.prog 142 lb ((List.range n).find? p) N w':=by
 refine (placesm_any A n c fq caps w).mono ?_
 rintro e w' ⟨rfl,rfl⟩
 have b1:Below w.heap.size w (w.alloc (.cells #[.slice A n c] 25)):=(Below.refl _ w).alloc (Nat.le_refl _) _
 have b:Below w.heap.size w ((w.alloc (.cells #[.slice A n c] 25)).alloc (.cells #[.func (.func fq) #[] caps] 161)):=b1.alloc (by simp) _
 have k1:Blk ((w.alloc (.cells #[.slice A n c] 25)).alloc (.cells #[.func (.func fq) #[] caps] 161)) w.heap.size 25 #[.slice A n c]:=(Blk.new w _ _).alloc _
 have k2:Blk ((w.alloc (.cells #[.slice A n c] 25)).alloc (.cells #[.func (.func fq) #[] caps] 161)) (w.heap.size+1) 161 #[.func (.func fq) #[] caps]:=by
  have:=Blk.new (w.alloc (.cells #[.slice A n c] 25)) 161 #[.func (.func fq) #[] caps]
  rwa [World.size_alloc] at this
 exact⟨b,_,rfl,fun d=>placesm_seq d fq hcf caps p Q T N _ _ A n c l _ hn (hR.below (b.mono hNw)) (Nat.le_trans hNw b.size) k1 k2 (fun j hj=>by have:=hT j hj;have:=b.size;omega) hQ hask (hQ _ _ _ h0 b)⟩
set_option maxRecDepth 100000 in
set_option maxHeartbeats 4000000 in
theorem placesw_seq (d:Nat) (fq:FuncId) (hcf:∀ (args:Array Value) (W:World),(callFunc fq args).run Tryz.prog W=.ok (.enter fq args) W) (caps:Array Value) (p:Nat→Bool) (Q:Nat→World→Prop) (T:Nat→Prop) (N Br Bq:Nat) (A:Option Addr) (n c:Nat) (l:List (WantP)) (w1:World) (hn:n≤1000000)
 (hR:Reads w1 N 2 A n (l.flatMap waCs)) (hNw:N≤w1.heap.size) (hBr:Blk w1 Br 26 #[.slice A n c]) (hBq:Blk w1 Bq 163 #[.func (.func fq) #[] caps])
 (hT:∀ j,T j→N≤j∧j<w1.heap.size∧j≠Br∧j≠Bq) (hQ:∀ k X Y,Q k X→Below X.heap.size X Y→Q k Y)
 (hask:∀ k e X,l[k]?=some e→Q k X→Calls Tryz.prog fq (#[.agg #[.int .i64 e.s,.int .i64 e.b]]++caps) X fun r X'=>r=.returned (.bool (p k))∧Q (k+1) X'∧Keep (fun j=>¬T j) X X') (h0:Q 0 w1) :
 FirstSeq d Tryz.prog 143 #[.pointer (some ⟨Br,0,none⟩),.pointer (some ⟨Bq,0,none⟩)] ((List.range n).find? p) N w1:=by
 intro l0 Jx W hW hJ hY
 have HL:=zh (reads_len_s waCs_len (by omega) hR)
 have HR:Hid (∀ X,Keep (fun j=>¬T j) W X→Reads X N 2 A n (l.flatMap waCs)):=fun X h=>h.reads (hR.below (hW.mono hNw)) (Nat.le_trans hNw hW.size) (fun k hk ht=>by have:=(hT k ht).1;omega)
 have HBR:Hid (∀ X,Keep (fun j=>¬T j) W X→X.cell? ⟨Br,0,none⟩=some (.slice A n c)):=fun X h=>(h.blk (hBr.below hW hBr.lt) (fun ht=>(hT _ ht).2.2.1 rfl)).cell 0
 have HBQ:Hid (∀ X,Keep (fun j=>¬T j) W X→X.cell? ⟨Bq,0,none⟩=some (.func (.func fq) #[] caps)):=fun X h=>(h.blk (hBq.below hW hBq.lt) (fun ht=>(hT _ ht).2.2.2 rfl)).cell 0
 have H0:Hid (Q 0 W):=hQ _ _ _ h0 hW
 have HKM:Hid (∀ X,Keep (fun j=>¬T j) W X→Keep (fun j=>j<N∨w1.heap.size≤j) W X):=fun X h=>h.mono fun j _ hj ht=>by have:=hT j ht;omega
 have HQ:=zh hQ
 have HA:=zh hask
 have HY:=zh hY
 have s0:=HBR.out W (Keep.refl _ _)
 have HCF:=zh hcf
 clear hR hNw hBr hBq hT hQ hask h0 hW hJ hY
 refine callsIn_of_wp Tryz.func143 rfl trivial ?_ rfl
 simp only[Tryz.ntmps143,List.size_toArray,List.length_cons,List.length_nil,Nat.reduceAdd,Nat.reduceSub,Array.replicate_succ,Array.replicate_zero,List.push_toArray,List.append_toArray,List.nil_append,List.cons_append]
 gi_wp2_with fail
 clear s0
 gi_loopw [8] (fun v wr=>∃ i:Nat,v=.int .i64 i∧i≤n∧Hid (Q i wr)∧Hid (Keep (fun j=>¬T j) W wr)∧Hid (∀ j,j<i→p j=false)) (fun v _=>n - (intOf v).toNat)
 case atStart=>exact⟨0,rfl,Nat.zero_le _,H0,Keep.refl _ _,fun j hj=>by omega⟩
 obtain⟨i,rfl,hin,HQI,HK,HF⟩:=hrel
 by_cases hin2:i<n
 ·have hlt:(i:Int)<(n:Int):=by omega
  obtain⟨e,he⟩:∃ e,l[i]?=some e:=⟨l[i]'(by rw[HL.out];omega),List.getElem?_eq_getElem _⟩
  obtain⟨b,o,rfl,hb,hc⟩:=row_cells waCs_len (by omega) (HR.out wr HK.out) he
  have c0:wr.cell? ⟨b,o+i * 2,none⟩=some (.int .i64 e.s):=by have h9:=hc 0 _ rfl;rwa [show o+(i * 2+0)=o+i * 2 by omega] at h9
  have c1:wr.cell? ⟨b,o+i * 2+1,none⟩=some (.int .i64 e.b):=by have h9:=hc 1 _ rfl;rwa [show o+(i * 2+1)=o+i * 2+1 by omega] at h9
  have hbx:Below wr.heap.size wr (wr.alloc (.cells #[.int .i64 e.s,.int .i64 e.b] 72)):=(Below.refl _ _).alloc (Nat.le_refl _) _
  have KE:=Blk.new wr 72 #[.int .i64 e.s,.int .i64 e.b]
  have d0:=KE.cell 0
  have d1:=KE.cell 1
  have HK1:Hid (Keep (fun j=>¬T j) W (wr.alloc (.cells #[.int .i64 e.s,.int .i64 e.b] 72))):=HK.out.trans (Keep.of_all _ hbx)
  have HA1:=zh (HA.out i e (wr.alloc (.cells #[.int .i64 e.s,.int .i64 e.b] 72)) he (HQ.out _ _ _ HQI.out hbx))
  have q0:=HBQ.out _ HK1.out
  clear hc he HQI HK hbx
  gi_upto_region 3 with fail
  clear KE c0 c1
  generalize (wr.alloc (.cells #[.int .i64 e.s,.int .i64 e.b] 72))=X1 at *
  cases hp:p i
  ·rw[hp] at HA1
   have HF1:=zh (uptoZ_more HF.out hp)
   clear hp HF
   have hcf:=HCF.out
   gi_wp2_with fail
   refine⟨trivial,(fun h=>by cases h),(callsIn_wide.2 HA1.out).mono ?_⟩
   rintro r W3 ⟨rfl,hq3,hk3⟩
   have HQ3:=zh hq3
   have HK3:=zh (HK1.out.trans hk3)
   clear hq3 hk3 HA1 HK1 q0 d0 d1
   gi_wp2_with fail
   refine⟨(fun f h=>by cases h),?_⟩
   gi_wp2_with fail
   go_roundw
   case rel=>exact⟨i+1,by go_num,hin2,HQ3,HK3,HF1⟩
   case measure=>simp[intOf];omega
  rw[hp] at HA1
  have HF1:=zh (findZ_at hin2 hp HF.out)
  clear hp HF
  have hcf:=HCF.out
  gi_wp2_with fail
  refine⟨trivial,(fun h=>by cases h),(callsIn_wide.2 HA1.out).mono ?_⟩
  rintro r W3 ⟨rfl,hq3,hk3⟩
  have HK3:=zh (HK1.out.trans hk3)
  clear hq3 hk3 HA1 HK1 q0 d0 d1
  obtain⟨fn,tmps,assign,body,hy,hRR⟩:=HY.out i W3 HF1.out (HKM.out _ HK3.out)
  have HRR:=zh hRR
  clear hRR
  gi_wp2_with fail
  refine⟨(fun h=>by cases h),(RoundIn.deep rfl HRR.out).mono ?_⟩
  rintro r W4 ⟨rfl,hJ4⟩
  have HJ4:=zh hJ4
  clear hJ4 hy HRR HK3
  gi_wp2_with fail
  refine bodyPost_ret (results_none rfl _ _ _) rfl ?_
  exact⟨⟨_,rfl⟩,.inr ⟨by rw[HF1.out];rfl,HJ4.out⟩⟩
 have hge:¬(i:Int)<(n:Int):=by omega
 obtain rfl:i=n:=by omega
 gi_wp2_with fail
 go_end0
 exact⟨⟨_,rfl⟩,.inl ⟨by first | exact findZ_no HF.out | exact HF.out,HKM.out _ HK.out⟩⟩
set_option maxRecDepth 100000 in
set_option maxHeartbeats 1000000 in
theorem placesw_any (A:Option Addr) (n c:Nat) (fq:FuncId) (caps:Array Value) (w:World):Calls Tryz.prog 113 #[.slice A n c,.func (.func fq) #[] caps] w fun e w'=>e=.returned (.func (.func 143) #[] #[.pointer (some ⟨w.heap.size,0,none⟩),.pointer (some ⟨w.heap.size+1,0,none⟩)])∧w'=(w.alloc (.cells #[.slice A n c] 26)).alloc (.cells #[.func (.func fq) #[] caps] 163):=by
 go_enter Tryz.func113,Tryz.ntmps113
 go_wp2_with fail
 go_ret
 exact⟨rfl,rfl⟩
theorem placesw_first (fq:FuncId) (hcf:∀ (args:Array Value) (W:World),(callFunc fq args).run Tryz.prog W=.ok (.enter fq args) W) (caps:Array Value) (p:Nat→Bool) (Q:Nat→World→Prop) (T:Nat→Prop) (N:Nat) (A:Option Addr) (n c:Nat) (l:List (WantP)) (w:World) (hn:n≤1000000)
 (hR:Reads w N 2 A n (l.flatMap waCs)) (hNw:N≤w.heap.size) (hT:∀ j,T j→N≤j∧j<w.heap.size) (hQ:∀ k X Y,Q k X→Below X.heap.size X Y→Q k Y)
 (hask:∀ k e X,l[k]?=some e→Q k X→Calls Tryz.prog fq (#[.agg #[.int .i64 e.s,.int .i64 e.b]]++caps) X fun r X'=>r=.returned (.bool (p k))∧Q (k+1) X'∧Keep (fun j=>¬T j) X X') (h0:Q 0 w) :
 Calls Tryz.prog 113 #[.slice A n c,.func (.func fq) #[] caps] w fun e w'=>Below w.heap.size w w'∧∃ lb,e=.returned (.func (.func 143) #[] lb)∧∀ d,FirstSeq d Tryz.prog 143 lb ((List.range n).find? p) N w':=by
 refine (placesw_any A n c fq caps w).mono ?_
 rintro e w' ⟨rfl,rfl⟩
 have b1:Below w.heap.size w (w.alloc (.cells #[.slice A n c] 26)):=(Below.refl _ w).alloc (Nat.le_refl _) _
 have b:Below w.heap.size w ((w.alloc (.cells #[.slice A n c] 26)).alloc (.cells #[.func (.func fq) #[] caps] 163)):=b1.alloc (by simp) _
 have k1:Blk ((w.alloc (.cells #[.slice A n c] 26)).alloc (.cells #[.func (.func fq) #[] caps] 163)) w.heap.size 26 #[.slice A n c]:=(Blk.new w _ _).alloc _
 have k2:Blk ((w.alloc (.cells #[.slice A n c] 26)).alloc (.cells #[.func (.func fq) #[] caps] 163)) (w.heap.size+1) 163 #[.func (.func fq) #[] caps]:=by
  have:=Blk.new (w.alloc (.cells #[.slice A n c] 26)) 163 #[.func (.func fq) #[] caps]
  rwa [World.size_alloc] at this
 exact⟨b,_,rfl,fun d=>placesw_seq d fq hcf caps p Q T N _ _ A n c l _ hn (hR.below (b.mono hNw)) (Nat.le_trans hNw b.size) k1 k2 (fun j hj=>by have:=hT j hj;have:=b.size;omega) hQ hask (hQ _ _ _ h0 b)⟩
set_option maxRecDepth 100000 in
set_option maxHeartbeats 4000000 in
theorem placesr_seq (d:Nat) (fq:FuncId) (hcf:∀ (args:Array Value) (W:World),(callFunc fq args).run Tryz.prog W=.ok (.enter fq args) W) (caps:Array Value) (p:Nat→Bool) (Q:Nat→World→Prop) (T:Nat→Prop) (N Br Bq:Nat) (A:Option Addr) (n c:Nat) (l:List (SH)) (w1:World) (hn:n≤1000000)
 (hR:Reads w1 N 1 A n (l.flatMap slCs)) (hNw:N≤w1.heap.size) (hBr:Blk w1 Br 86 #[.slice A n c]) (hBq:Blk w1 Bq 52 #[.func (.func fq) #[] caps])
 (hT:∀ j,T j→N≤j∧j<w1.heap.size∧j≠Br∧j≠Bq) (hQ:∀ k X Y,Q k X→Below X.heap.size X Y→Q k Y)
 (hask:∀ k e X,l[k]?=some e→Q k X→Calls Tryz.prog fq (#[.slice e.A e.n e.c]++caps) X fun r X'=>r=.returned (.bool (p k))∧Q (k+1) X'∧Keep (fun j=>¬T j) X X') (h0:Q 0 w1) :
 FirstSeq d Tryz.prog 140 #[.pointer (some ⟨Br,0,none⟩),.pointer (some ⟨Bq,0,none⟩)] ((List.range n).find? p) N w1:=by
 intro l0 Jx W hW hJ hY
 have HL:=zh (reads_len_s slCs_len (by omega) hR)
 have HR:Hid (∀ X,Keep (fun j=>¬T j) W X→Reads X N 1 A n (l.flatMap slCs)):=fun X h=>h.reads (hR.below (hW.mono hNw)) (Nat.le_trans hNw hW.size) (fun k hk ht=>by have:=(hT k ht).1;omega)
 have HBR:Hid (∀ X,Keep (fun j=>¬T j) W X→X.cell? ⟨Br,0,none⟩=some (.slice A n c)):=fun X h=>(h.blk (hBr.below hW hBr.lt) (fun ht=>(hT _ ht).2.2.1 rfl)).cell 0
 have HBQ:Hid (∀ X,Keep (fun j=>¬T j) W X→X.cell? ⟨Bq,0,none⟩=some (.func (.func fq) #[] caps)):=fun X h=>(h.blk (hBq.below hW hBq.lt) (fun ht=>(hT _ ht).2.2.2 rfl)).cell 0
 have H0:Hid (Q 0 W):=hQ _ _ _ h0 hW
 have HKM:Hid (∀ X,Keep (fun j=>¬T j) W X→Keep (fun j=>j<N∨w1.heap.size≤j) W X):=fun X h=>h.mono fun j _ hj ht=>by have:=hT j ht;omega
 have HQ:=zh hQ
 have HA:=zh hask
 have HY:=zh hY
 have s0:=HBR.out W (Keep.refl _ _)
 have HCF:=zh hcf
 clear hR hNw hBr hBq hT hQ hask h0 hW hJ hY
 refine callsIn_of_wp Tryz.func140 rfl trivial ?_ rfl
 simp only[Tryz.ntmps140,List.size_toArray,List.length_cons,List.length_nil,Nat.reduceAdd,Nat.reduceSub,Array.replicate_succ,Array.replicate_zero,List.push_toArray,List.append_toArray,List.nil_append,List.cons_append]
 gi_wp2_with fail
 clear s0
 gi_loopw [8] (fun v wr=>∃ i:Nat,v=.int .i64 i∧i≤n∧Hid (Q i wr)∧Hid (Keep (fun j=>¬T j) W wr)∧Hid (∀ j,j<i→p j=false)) (fun v _=>n - (intOf v).toNat)
 case atStart=>exact⟨0,rfl,Nat.zero_le _,H0,Keep.refl _ _,fun j hj=>by omega⟩
 obtain⟨i,rfl,hin,HQI,HK,HF⟩:=hrel
 by_cases hin2:i<n
 ·have hlt:(i:Int)<(n:Int):=by omega
  obtain⟨e,he⟩:∃ e,l[i]?=some e:=⟨l[i]'(by rw[HL.out];omega),List.getElem?_eq_getElem _⟩
  obtain⟨b,o,rfl,hb,hc⟩:=row_cells slCs_len (by omega) (HR.out wr HK.out) he
  have c0:wr.cell? ⟨b,o+i,none⟩=some (.slice e.A e.n e.c):=by have h9:=hc 0 _ rfl;rwa [show o+(i * 1+0)=o+i by omega] at h9
  have hbx:Below wr.heap.size wr wr:=Below.refl _ _
  have HK1:Hid (Keep (fun j=>¬T j) W wr):=HK.out.trans (Keep.of_all _ hbx)
  have HA1:=zh (HA.out i e wr he (HQ.out _ _ _ HQI.out hbx))
  have q0:=HBQ.out _ HK1.out
  clear hc he HQI HK hbx
  gi_upto_region 3 with fail
  clear c0
  generalize wr=X1 at *
  cases hp:p i
  ·rw[hp] at HA1
   have HF1:=zh (uptoZ_more HF.out hp)
   clear hp HF
   have hcf:=HCF.out
   gi_wp2_with fail
   refine⟨trivial,(fun h=>by cases h),(callsIn_wide.2 HA1.out).mono ?_⟩
   rintro r W3 ⟨rfl,hq3,hk3⟩
   have HQ3:=zh hq3
   have HK3:=zh (HK1.out.trans hk3)
   clear hq3 hk3 HA1 HK1 q0 
   gi_wp2_with fail
   refine⟨(fun f h=>by cases h),?_⟩
   gi_wp2_with fail
   go_roundw
   case rel=>exact⟨i+1,by go_num,hin2,HQ3,HK3,HF1⟩
   case measure=>simp[intOf];omega
  rw[hp] at HA1
  have HF1:=zh (findZ_at hin2 hp HF.out)
  clear hp HF
  have hcf:=HCF.out
  gi_wp2_with fail
  refine⟨trivial,(fun h=>by cases h),(callsIn_wide.2 HA1.out).mono ?_⟩
  rintro r W3 ⟨rfl,hq3,hk3⟩
  have HK3:=zh (HK1.out.trans hk3)
  clear hq3 hk3 HA1 HK1 q0 
  obtain⟨fn,tmps,assign,body,hy,hRR⟩:=HY.out i W3 HF1.out (HKM.out _ HK3.out)
  have HRR:=zh hRR
  clear hRR
  gi_wp2_with fail
  refine⟨(fun h=>by cases h),(RoundIn.deep rfl HRR.out).mono ?_⟩
  rintro r W4 ⟨rfl,hJ4⟩
  have HJ4:=zh hJ4
  clear hJ4 hy HRR HK3
  gi_wp2_with fail
  refine bodyPost_ret (results_none rfl _ _ _) rfl ?_
  exact⟨⟨_,rfl⟩,.inr ⟨by rw[HF1.out];rfl,HJ4.out⟩⟩
 have hge:¬(i:Int)<(n:Int):=by omega
 obtain rfl:i=n:=by omega
 gi_wp2_with fail
 go_end0
 exact⟨⟨_,rfl⟩,.inl ⟨by first | exact findZ_no HF.out | exact HF.out,HKM.out _ HK.out⟩⟩
set_option maxRecDepth 100000 in
set_option maxHeartbeats 1000000 in
theorem placesr_any (A:Option Addr) (n c:Nat) (fq:FuncId) (caps:Array Value) (w:World):Calls Tryz.prog 108 #[.slice A n c,.func (.func fq) #[] caps] w fun e w'=>e=.returned (.func (.func 140) #[] #[.pointer (some ⟨w.heap.size,0,none⟩),.pointer (some ⟨w.heap.size+1,0,none⟩)])∧w'=(w.alloc (.cells #[.slice A n c] 86)).alloc (.cells #[.func (.func fq) #[] caps] 52):=by
 go_enter Tryz.func108,Tryz.ntmps108
 go_wp2_with fail
 go_ret
 exact⟨rfl,rfl⟩
theorem placesr_first (fq:FuncId) (hcf:∀ (args:Array Value) (W:World),(callFunc fq args).run Tryz.prog W=.ok (.enter fq args) W) (caps:Array Value) (p:Nat→Bool) (Q:Nat→World→Prop) (T:Nat→Prop) (N:Nat) (A:Option Addr) (n c:Nat) (l:List (SH)) (w:World) (hn:n≤1000000)
 (hR:Reads w N 1 A n (l.flatMap slCs)) (hNw:N≤w.heap.size) (hT:∀ j,T j→N≤j∧j<w.heap.size) (hQ:∀ k X Y,Q k X→Below X.heap.size X Y→Q k Y)
 (hask:∀ k e X,l[k]?=some e→Q k X→Calls Tryz.prog fq (#[.slice e.A e.n e.c]++caps) X fun r X'=>r=.returned (.bool (p k))∧Q (k+1) X'∧Keep (fun j=>¬T j) X X') (h0:Q 0 w) :
 Calls Tryz.prog 108 #[.slice A n c,.func (.func fq) #[] caps] w fun e w'=>Below w.heap.size w w'∧∃ lb,e=.returned (.func (.func 140) #[] lb)∧∀ d,FirstSeq d Tryz.prog 140 lb ((List.range n).find? p) N w':=by
 refine (placesr_any A n c fq caps w).mono ?_
 rintro e w' ⟨rfl,rfl⟩
 have b1:Below w.heap.size w (w.alloc (.cells #[.slice A n c] 86)):=(Below.refl _ w).alloc (Nat.le_refl _) _
 have b:Below w.heap.size w ((w.alloc (.cells #[.slice A n c] 86)).alloc (.cells #[.func (.func fq) #[] caps] 52)):=b1.alloc (by simp) _
 have k1:Blk ((w.alloc (.cells #[.slice A n c] 86)).alloc (.cells #[.func (.func fq) #[] caps] 52)) w.heap.size 86 #[.slice A n c]:=(Blk.new w _ _).alloc _
 have k2:Blk ((w.alloc (.cells #[.slice A n c] 86)).alloc (.cells #[.func (.func fq) #[] caps] 52)) (w.heap.size+1) 52 #[.func (.func fq) #[] caps]:=by
  have:=Blk.new (w.alloc (.cells #[.slice A n c] 86)) 52 #[.func (.func fq) #[] caps]
  rwa [World.size_alloc] at this
 exact⟨b,_,rfl,fun d=>placesr_seq d fq hcf caps p Q T N _ _ A n c l _ hn (hR.below (b.mono hNw)) (Nat.le_trans hNw b.size) k1 k2 (fun j hj=>by have:=hT j hj;have:=b.size;omega) hQ hask (hQ _ _ _ h0 b)⟩
def EachIs (J:Nat→World→Prop) (Jx:World→Prop) (n:Nat):Ending→World→Prop:=fun e X=>(e=.returned (.bool true)∧J n X)∨(e=.returned (.bool false)∧Jx X)
set_option maxRecDepth 100000 in
set_option maxHeartbeats 4000000 in
theorem each_ev (g:FuncId) (lb:Array Value) (eg:∀ args w,(callFunc g args).run Tryz.prog w=.ok (.enter g args) w) (A:Option Addr) (n c:Nat) (hA:0<n→∃ b o,A=some ⟨b,o,none⟩) (J:Nat→World→Prop) (Jx:World→Prop)
 (hQ:∀ i X,i<n→J i X→Calls Tryz.prog g (#[.pointer (some (SH.ad ⟨A,n,c⟩ (i * 9)))]++lb) X (EachIs (fun _=>J (i+1)) Jx 0)) (hn:n≤140737488355328) (W:World) (h0:J 0 W) :
 Calls Tryz.prog 77 #[.slice A n c,.func (.func g) #[] lb] W (EachIs J Jx n):=by
 have HQ:=zh hQ
 have H0:=zh h0
 have HA:=zh hA
 clear hQ h0 hA
 go_enter Tryz.func77,Tryz.ntmps77
 go_wp2_with fail
 go_loopw [8] (fun v wr=>∃ i:Nat,v=.int .i64 i∧i≤n∧Hid (J i wr)) (fun v _=>n - (intOf v).toNat)
 case atStart=>exact⟨0,rfl,Nat.zero_le _,H0⟩
 clear H0
 obtain⟨i,rfl,hin,HJ⟩:=hrel
 by_cases hin2:i<n
 ·have hlt:(i:Int)<(n:Int):=by omega
  obtain⟨b,o,rfl⟩:=HA.out (by omega)
  have HC:=zh (HQ.out i wr hin2 HJ.out)
  rw[SH.ad_is rfl] at HC
  clear HJ
  go_wp2_with fail
  refine HC.out.mono ?_
  rintro e w2 (⟨rfl,hj⟩ | ⟨rfl,hj⟩)
  ·have HJ2:=zh hj
   clear hj HC
   go_wp2_with fail
   go_roundw
   case rel=>exact⟨i+1,by go_num,hin2,HJ2⟩
   case measure=>simp[intOf];omega
  have HJ2:=zh hj
  clear hj HC
  go_wp2_with fail
  go_ret
  exact .inr ⟨rfl,HJ2.out⟩
 have hge:¬(i:Int)<(n:Int):=by omega
 obtain rfl:i=n:=by omega
 go_wp2_with fail
 go_ret
 exact .inl ⟨rfl,HJ.out⟩
set_option maxRecDepth 100000 in
set_option maxHeartbeats 4000000 in
theorem each_od (g:FuncId) (lb:Array Value) (eg:∀ args w,(callFunc g args).run Tryz.prog w=.ok (.enter g args) w) (A:Option Addr) (n c:Nat) (hA:0<n→∃ b o,A=some ⟨b,o,none⟩) (J:Nat→World→Prop) (Jx:World→Prop)
 (hQ:∀ i X,i<n→J i X→Calls Tryz.prog g (#[.pointer (some (SH.ad ⟨A,n,c⟩ (i * 2)))]++lb) X (EachIs (fun _=>J (i+1)) Jx 0)) (hn:n≤140737488355328) (W:World) (h0:J 0 W) :
 Calls Tryz.prog 80 #[.slice A n c,.func (.func g) #[] lb] W (EachIs J Jx n):=by
 have HQ:=zh hQ
 have H0:=zh h0
 have HA:=zh hA
 clear hQ h0 hA
 go_enter Tryz.func80,Tryz.ntmps80
 go_wp2_with fail
 go_loopw [8] (fun v wr=>∃ i:Nat,v=.int .i64 i∧i≤n∧Hid (J i wr)) (fun v _=>n - (intOf v).toNat)
 case atStart=>exact⟨0,rfl,Nat.zero_le _,H0⟩
 clear H0
 obtain⟨i,rfl,hin,HJ⟩:=hrel
 by_cases hin2:i<n
 ·have hlt:(i:Int)<(n:Int):=by omega
  obtain⟨b,o,rfl⟩:=HA.out (by omega)
  have HC:=zh (HQ.out i wr hin2 HJ.out)
  rw[SH.ad_is rfl] at HC
  clear HJ
  go_wp2_with fail
  refine HC.out.mono ?_
  rintro e w2 (⟨rfl,hj⟩ | ⟨rfl,hj⟩)
  ·have HJ2:=zh hj
   clear hj HC
   go_wp2_with fail
   go_roundw
   case rel=>exact⟨i+1,by go_num,hin2,HJ2⟩
   case measure=>simp[intOf];omega
  have HJ2:=zh hj
  clear hj HC
  go_wp2_with fail
  go_ret
  exact .inr ⟨rfl,HJ2.out⟩
 have hge:¬(i:Int)<(n:Int):=by omega
 obtain rfl:i=n:=by omega
 go_wp2_with fail
 go_ret
 exact .inl ⟨rfl,HJ.out⟩
set_option maxRecDepth 100000 in
set_option maxHeartbeats 4000000 in
theorem each_ma (g:FuncId) (lb:Array Value) (eg:∀ args w,(callFunc g args).run Tryz.prog w=.ok (.enter g args) w) (A:Option Addr) (n c:Nat) (hA:0<n→∃ b o,A=some ⟨b,o,none⟩) (J:Nat→World→Prop) (Jx:World→Prop)
 (hQ:∀ i X,i<n→J i X→Calls Tryz.prog g (#[.pointer (some (SH.ad ⟨A,n,c⟩ (i * 4)))]++lb) X (EachIs (fun _=>J (i+1)) Jx 0)) (hn:n≤140737488355328) (W:World) (h0:J 0 W) :
 Calls Tryz.prog 82 #[.slice A n c,.func (.func g) #[] lb] W (EachIs J Jx n):=by
 have HQ:=zh hQ
 have H0:=zh h0
 have HA:=zh hA
 clear hQ h0 hA
 go_enter Tryz.func82,Tryz.ntmps82
 go_wp2_with fail
 go_loopw [8] (fun v wr=>∃ i:Nat,v=.int .i64 i∧i≤n∧Hid (J i wr)) (fun v _=>n - (intOf v).toNat)
 case atStart=>exact⟨0,rfl,Nat.zero_le _,H0⟩
 clear H0
 obtain⟨i,rfl,hin,HJ⟩:=hrel
 by_cases hin2:i<n
 ·have hlt:(i:Int)<(n:Int):=by omega
  obtain⟨b,o,rfl⟩:=HA.out (by omega)
  have HC:=zh (HQ.out i wr hin2 HJ.out)
  rw[SH.ad_is rfl] at HC
  clear HJ
  go_wp2_with fail
  refine HC.out.mono ?_
  rintro e w2 (⟨rfl,hj⟩ | ⟨rfl,hj⟩)
  ·have HJ2:=zh hj
   clear hj HC
   go_wp2_with fail
   go_roundw
   case rel=>exact⟨i+1,by go_num,hin2,HJ2⟩
   case measure=>simp[intOf];omega
  have HJ2:=zh hj
  clear hj HC
  go_wp2_with fail
  go_ret
  exact .inr ⟨rfl,HJ2.out⟩
 have hge:¬(i:Int)<(n:Int):=by omega
 obtain rfl:i=n:=by omega
 go_wp2_with fail
 go_ret
 exact .inl ⟨rfl,HJ.out⟩
set_option maxRecDepth 100000 in
set_option maxHeartbeats 4000000 in
theorem each_wa (g:FuncId) (lb:Array Value) (eg:∀ args w,(callFunc g args).run Tryz.prog w=.ok (.enter g args) w) (A:Option Addr) (n c:Nat) (hA:0<n→∃ b o,A=some ⟨b,o,none⟩) (J:Nat→World→Prop) (Jx:World→Prop)
 (hQ:∀ i X,i<n→J i X→Calls Tryz.prog g (#[.pointer (some (SH.ad ⟨A,n,c⟩ (i * 2)))]++lb) X (EachIs (fun _=>J (i+1)) Jx 0)) (hn:n≤140737488355328) (W:World) (h0:J 0 W) :
 Calls Tryz.prog 84 #[.slice A n c,.func (.func g) #[] lb] W (EachIs J Jx n):=by
 have HQ:=zh hQ
 have H0:=zh h0
 have HA:=zh hA
 clear hQ h0 hA
 go_enter Tryz.func84,Tryz.ntmps84
 go_wp2_with fail
 go_loopw [8] (fun v wr=>∃ i:Nat,v=.int .i64 i∧i≤n∧Hid (J i wr)) (fun v _=>n - (intOf v).toNat)
 case atStart=>exact⟨0,rfl,Nat.zero_le _,H0⟩
 clear H0
 obtain⟨i,rfl,hin,HJ⟩:=hrel
 by_cases hin2:i<n
 ·have hlt:(i:Int)<(n:Int):=by omega
  obtain⟨b,o,rfl⟩:=HA.out (by omega)
  have HC:=zh (HQ.out i wr hin2 HJ.out)
  rw[SH.ad_is rfl] at HC
  clear HJ
  go_wp2_with fail
  refine HC.out.mono ?_
  rintro e w2 (⟨rfl,hj⟩ | ⟨rfl,hj⟩)
  ·have HJ2:=zh hj
   clear hj HC
   go_wp2_with fail
   go_roundw
   case rel=>exact⟨i+1,by go_num,hin2,HJ2⟩
   case measure=>simp[intOf];omega
  have HJ2:=zh hj
  clear hj HC
  go_wp2_with fail
  go_ret
  exact .inr ⟨rfl,HJ2.out⟩
 have hge:¬(i:Int)<(n:Int):=by omega
 obtain rfl:i=n:=by omega
 go_wp2_with fail
 go_ret
 exact .inl ⟨rfl,HJ.out⟩
set_option maxRecDepth 100000 in
set_option maxHeartbeats 4000000 in
theorem each_se (g:FuncId) (lb:Array Value) (eg:∀ args w,(callFunc g args).run Tryz.prog w=.ok (.enter g args) w) (A:Option Addr) (n c:Nat) (hA:0<n→∃ b o,A=some ⟨b,o,none⟩) (J:Nat→World→Prop) (Jx:World→Prop)
 (hQ:∀ i X,i<n→J i X→Calls Tryz.prog g (#[.pointer (some (SH.ad ⟨A,n,c⟩ (i * 3)))]++lb) X (EachIs (fun _=>J (i+1)) Jx 0)) (hn:n≤140737488355328) (W:World) (h0:J 0 W) :
 Calls Tryz.prog 134 #[.slice A n c,.func (.func g) #[] lb] W (EachIs J Jx n):=by
 have HQ:=zh hQ
 have H0:=zh h0
 have HA:=zh hA
 clear hQ h0 hA
 go_enter Tryz.func134,Tryz.ntmps134
 go_wp2_with fail
 go_loopw [8] (fun v wr=>∃ i:Nat,v=.int .i64 i∧i≤n∧Hid (J i wr)) (fun v _=>n - (intOf v).toNat)
 case atStart=>exact⟨0,rfl,Nat.zero_le _,H0⟩
 clear H0
 obtain⟨i,rfl,hin,HJ⟩:=hrel
 by_cases hin2:i<n
 ·have hlt:(i:Int)<(n:Int):=by omega
  obtain⟨b,o,rfl⟩:=HA.out (by omega)
  have HC:=zh (HQ.out i wr hin2 HJ.out)
  rw[SH.ad_is rfl] at HC
  clear HJ
  go_wp2_with fail
  refine HC.out.mono ?_
  rintro e w2 (⟨rfl,hj⟩ | ⟨rfl,hj⟩)
  ·have HJ2:=zh hj
   clear hj HC
   go_wp2_with fail
   go_roundw
   case rel=>exact⟨i+1,by go_num,hin2,HJ2⟩
   case measure=>simp[intOf];omega
  have HJ2:=zh hj
  clear hj HC
  go_wp2_with fail
  go_ret
  exact .inr ⟨rfl,HJ2.out⟩
 have hge:¬(i:Int)<(n:Int):=by omega
 obtain rfl:i=n:=by omega
 go_wp2_with fail
 go_ret
 exact .inl ⟨rfl,HJ.out⟩
set_option maxRecDepth 100000 in
set_option maxHeartbeats 4000000 in
theorem each_in (g:FuncId) (lb:Array Value) (eg:∀ args w,(callFunc g args).run Tryz.prog w=.ok (.enter g args) w) (A:Option Addr) (n c:Nat) (hA:0<n→∃ b o,A=some ⟨b,o,none⟩) (J:Nat→World→Prop) (Jx:World→Prop)
 (hQ:∀ i X,i<n→J i X→Calls Tryz.prog g (#[.pointer (some (SH.ad ⟨A,n,c⟩ (i)))]++lb) X (EachIs (fun _=>J (i+1)) Jx 0)) (hn:n≤140737488355328) (W:World) (h0:J 0 W) :
 Calls Tryz.prog 75 #[.slice A n c,.func (.func g) #[] lb] W (EachIs J Jx n):=by
 have HQ:=zh hQ
 have H0:=zh h0
 have HA:=zh hA
 clear hQ h0 hA
 go_enter Tryz.func75,Tryz.ntmps75
 go_wp2_with fail
 go_loopw [8] (fun v wr=>∃ i:Nat,v=.int .i64 i∧i≤n∧Hid (J i wr)) (fun v _=>n - (intOf v).toNat)
 case atStart=>exact⟨0,rfl,Nat.zero_le _,H0⟩
 clear H0
 obtain⟨i,rfl,hin,HJ⟩:=hrel
 by_cases hin2:i<n
 ·have hlt:(i:Int)<(n:Int):=by omega
  obtain⟨b,o,rfl⟩:=HA.out (by omega)
  have HC:=zh (HQ.out i wr hin2 HJ.out)
  rw[SH.ad_is rfl] at HC
  clear HJ
  go_wp2_with fail
  refine HC.out.mono ?_
  rintro e w2 (⟨rfl,hj⟩ | ⟨rfl,hj⟩)
  ·have HJ2:=zh hj
   clear hj HC
   go_wp2_with fail
   go_roundw
   case rel=>exact⟨i+1,by go_num,hin2,HJ2⟩
   case measure=>simp[intOf];omega
  have HJ2:=zh hj
  clear hj HC
  go_wp2_with fail
  go_ret
  exact .inr ⟨rfl,HJ2.out⟩
 have hge:¬(i:Int)<(n:Int):=by omega
 obtain rfl:i=n:=by omega
 go_wp2_with fail
 go_ret
 exact .inl ⟨rfl,HJ.out⟩
set_option maxRecDepth 100000 in
set_option maxHeartbeats 4000000 in
theorem placese_seq (d:Nat) (fq:FuncId) (hcf:∀ (args:Array Value) (W:World),(callFunc fq args).run Tryz.prog W=.ok (.enter fq args) W) (caps:Array Value) (p:Nat→Bool) (Q:Nat→World→Prop) (T:Nat→Prop) (N Br Bq:Nat) (A:Option Addr) (n c:Nat) (l:List (EvP × SH)) (w1:World) (hn:n≤1000000)
 (hR:Reads w1 N 9 A n (l.flatMap evCs)) (hNw:N≤w1.heap.size) (hBr:Blk w1 Br 23 #[.slice A n c]) (hBq:Blk w1 Bq 141 #[.func (.func fq) #[] caps])
 (hT:∀ j,T j→N≤j∧j<w1.heap.size∧j≠Br∧j≠Bq) (hQ:∀ k X Y,Q k X→Below X.heap.size X Y→Q k Y)
 (hask:∀ k e X,l[k]?=some e→Q k X→Calls Tryz.prog fq (#[.agg #[.int .i64 e.1.kd,.int .i64 e.1.t,.int .i64 e.1.s,.int .i64 e.1.lev,.int .i64 e.1.o,.int .i64 e.1.vt,.int .i64 e.1.vk,.int .i64 e.1.p,.slice e.2.A e.2.n e.2.c]]++caps) X fun r X'=>r=.returned (.bool (p k))∧Q (k+1) X'∧Keep (fun j=>¬T j) X X') (h0:Q 0 w1) :
 FirstSeq d Tryz.prog 136 #[.pointer (some ⟨Br,0,none⟩),.pointer (some ⟨Bq,0,none⟩)] ((List.range n).find? p) N w1:=by
 intro l0 Jx W hW hJ hY
 have HL:=zh (reads_len_s evCs_len (by omega) hR)
 have HR:Hid (∀ X,Keep (fun j=>¬T j) W X→Reads X N 9 A n (l.flatMap evCs)):=fun X h=>h.reads (hR.below (hW.mono hNw)) (Nat.le_trans hNw hW.size) (fun k hk ht=>by have:=(hT k ht).1;omega)
 have HBR:Hid (∀ X,Keep (fun j=>¬T j) W X→X.cell? ⟨Br,0,none⟩=some (.slice A n c)):=fun X h=>(h.blk (hBr.below hW hBr.lt) (fun ht=>(hT _ ht).2.2.1 rfl)).cell 0
 have HBQ:Hid (∀ X,Keep (fun j=>¬T j) W X→X.cell? ⟨Bq,0,none⟩=some (.func (.func fq) #[] caps)):=fun X h=>(h.blk (hBq.below hW hBq.lt) (fun ht=>(hT _ ht).2.2.2 rfl)).cell 0
 have H0:Hid (Q 0 W):=hQ _ _ _ h0 hW
 have HKM:Hid (∀ X,Keep (fun j=>¬T j) W X→Keep (fun j=>j<N∨w1.heap.size≤j) W X):=fun X h=>h.mono fun j _ hj ht=>by have:=hT j ht;omega
 have HQ:=zh hQ
 have HA:=zh hask
 have HY:=zh hY
 have s0:=HBR.out W (Keep.refl _ _)
 have HCF:=zh hcf
 clear hR hNw hBr hBq hT hQ hask h0 hW hJ hY
 refine callsIn_of_wp Tryz.func136 rfl trivial ?_ rfl
 simp only[Tryz.ntmps136,List.size_toArray,List.length_cons,List.length_nil,Nat.reduceAdd,Nat.reduceSub,Array.replicate_succ,Array.replicate_zero,List.push_toArray,List.append_toArray,List.nil_append,List.cons_append]
 gi_wp2_with fail
 clear s0
 gi_loopw [8] (fun v wr=>∃ i:Nat,v=.int .i64 i∧i≤n∧Hid (Q i wr)∧Hid (Keep (fun j=>¬T j) W wr)∧Hid (∀ j,j<i→p j=false)) (fun v _=>n - (intOf v).toNat)
 case atStart=>exact⟨0,rfl,Nat.zero_le _,H0,Keep.refl _ _,fun j hj=>by omega⟩
 obtain⟨i,rfl,hin,HQI,HK,HF⟩:=hrel
 by_cases hin2:i<n
 ·have hlt:(i:Int)<(n:Int):=by omega
  obtain⟨⟨e,hd⟩,he⟩:∃ e,l[i]?=some e:=⟨l[i]'(by rw[HL.out];omega),List.getElem?_eq_getElem _⟩
  obtain⟨b,o,rfl,hb,hc⟩:=row_cells evCs_len (by omega) (HR.out wr HK.out) he
  have c0:wr.cell? ⟨b,o+i * 9,none⟩=some (.int .i64 e.kd):=by have h9:=hc 0 _ rfl;rwa [show o+(i * 9+0)=o+i * 9 by omega] at h9
  have c1:wr.cell? ⟨b,o+i * 9+1,none⟩=some (.int .i64 e.t):=by have h9:=hc 1 _ rfl;rwa [show o+(i * 9+1)=o+i * 9+1 by omega] at h9
  have c2:wr.cell? ⟨b,o+i * 9+2,none⟩=some (.int .i64 e.s):=by have h9:=hc 2 _ rfl;rwa [show o+(i * 9+2)=o+i * 9+2 by omega] at h9
  have c3:wr.cell? ⟨b,o+i * 9+3,none⟩=some (.int .i64 e.lev):=by have h9:=hc 3 _ rfl;rwa [show o+(i * 9+3)=o+i * 9+3 by omega] at h9
  have c4:wr.cell? ⟨b,o+i * 9+4,none⟩=some (.int .i64 e.o):=by have h9:=hc 4 _ rfl;rwa [show o+(i * 9+4)=o+i * 9+4 by omega] at h9
  have c5:wr.cell? ⟨b,o+i * 9+5,none⟩=some (.int .i64 e.vt):=by have h9:=hc 5 _ rfl;rwa [show o+(i * 9+5)=o+i * 9+5 by omega] at h9
  have c6:wr.cell? ⟨b,o+i * 9+6,none⟩=some (.int .i64 e.vk):=by have h9:=hc 6 _ rfl;rwa [show o+(i * 9+6)=o+i * 9+6 by omega] at h9
  have c7:wr.cell? ⟨b,o+i * 9+7,none⟩=some (.int .i64 e.p):=by have h9:=hc 7 _ rfl;rwa [show o+(i * 9+7)=o+i * 9+7 by omega] at h9
  have c8:wr.cell? ⟨b,o+i * 9+8,none⟩=some (.slice hd.A hd.n hd.c):=by have h9:=hc 8 _ rfl;rwa [show o+(i * 9+8)=o+i * 9+8 by omega] at h9
  have hbx:Below wr.heap.size wr (wr.alloc (.cells #[.int .i64 e.kd,.int .i64 e.t,.int .i64 e.s,.int .i64 e.lev,.int .i64 e.o,.int .i64 e.vt,.int .i64 e.vk,.int .i64 e.p,.slice hd.A hd.n hd.c] 60)):=(Below.refl _ _).alloc (Nat.le_refl _) _
  have KE:=Blk.new wr 60 #[.int .i64 e.kd,.int .i64 e.t,.int .i64 e.s,.int .i64 e.lev,.int .i64 e.o,.int .i64 e.vt,.int .i64 e.vk,.int .i64 e.p,.slice hd.A hd.n hd.c]
  have d0:=KE.cell 0
  have d1:=KE.cell 1
  have d2:=KE.cell 2
  have d3:=KE.cell 3
  have d4:=KE.cell 4
  have d5:=KE.cell 5
  have d6:=KE.cell 6
  have d7:=KE.cell 7
  have d8:=KE.cell 8
  have HK1:Hid (Keep (fun j=>¬T j) W (wr.alloc (.cells #[.int .i64 e.kd,.int .i64 e.t,.int .i64 e.s,.int .i64 e.lev,.int .i64 e.o,.int .i64 e.vt,.int .i64 e.vk,.int .i64 e.p,.slice hd.A hd.n hd.c] 60))):=HK.out.trans (Keep.of_all _ hbx)
  have HA1:=zh (HA.out i (e,hd) (wr.alloc (.cells #[.int .i64 e.kd,.int .i64 e.t,.int .i64 e.s,.int .i64 e.lev,.int .i64 e.o,.int .i64 e.vt,.int .i64 e.vk,.int .i64 e.p,.slice hd.A hd.n hd.c] 60)) he (HQ.out _ _ _ HQI.out hbx))
  have q0:=HBQ.out _ HK1.out
  clear hc he HQI HK hbx
  gi_upto_region 3 with fail
  clear KE c0 c1 c2 c3 c4 c5 c6 c7 c8
  generalize (wr.alloc (.cells #[.int .i64 e.kd,.int .i64 e.t,.int .i64 e.s,.int .i64 e.lev,.int .i64 e.o,.int .i64 e.vt,.int .i64 e.vk,.int .i64 e.p,.slice hd.A hd.n hd.c] 60))=X1 at *
  cases hp:p i
  ·rw[hp] at HA1
   have HF1:=zh (uptoZ_more HF.out hp)
   clear hp HF
   have hcf:=HCF.out
   gi_wp2_with fail
   refine⟨trivial,(fun h=>by cases h),(callsIn_wide.2 HA1.out).mono ?_⟩
   rintro r W3 ⟨rfl,hq3,hk3⟩
   have HQ3:=zh hq3
   have HK3:=zh (HK1.out.trans hk3)
   clear hq3 hk3 HA1 HK1 q0 d0 d1 d2 d3 d4 d5 d6 d7 d8
   gi_wp2_with fail
   refine⟨(fun f h=>by cases h),?_⟩
   gi_wp2_with fail
   go_roundw
   case rel=>exact⟨i+1,by go_num,hin2,HQ3,HK3,HF1⟩
   case measure=>simp[intOf];omega
  rw[hp] at HA1
  have HF1:=zh (findZ_at hin2 hp HF.out)
  clear hp HF
  have hcf:=HCF.out
  gi_wp2_with fail
  refine⟨trivial,(fun h=>by cases h),(callsIn_wide.2 HA1.out).mono ?_⟩
  rintro r W3 ⟨rfl,hq3,hk3⟩
  have HK3:=zh (HK1.out.trans hk3)
  clear hq3 hk3 HA1 HK1 q0 d0 d1 d2 d3 d4 d5 d6 d7 d8
  obtain⟨fn,tmps,assign,body,hy,hRR⟩:=HY.out i W3 HF1.out (HKM.out _ HK3.out)
  have HRR:=zh hRR
  clear hRR
  gi_wp2_with fail
  refine⟨(fun h=>by cases h),(RoundIn.deep rfl HRR.out).mono ?_⟩
  rintro r W4 ⟨rfl,hJ4⟩
  have HJ4:=zh hJ4
  clear hJ4 hy HRR HK3
  gi_wp2_with fail
  refine bodyPost_ret (results_none rfl _ _ _) rfl ?_
  exact⟨⟨_,rfl⟩,.inr ⟨by rw[HF1.out];rfl,HJ4.out⟩⟩
 have hge:¬(i:Int)<(n:Int):=by omega
 obtain rfl:i=n:=by omega
 gi_wp2_with fail
 go_end0
 exact⟨⟨_,rfl⟩,.inl ⟨by first | exact findZ_no HF.out | exact HF.out,HKM.out _ HK.out⟩⟩
set_option maxRecDepth 100000 in
set_option maxHeartbeats 1000000 in
theorem placese_any (A:Option Addr) (n c:Nat) (fq:FuncId) (caps:Array Value) (w:World):Calls Tryz.prog 91 #[.slice A n c,.func (.func fq) #[] caps] w fun e w'=>e=.returned (.func (.func 136) #[] #[.pointer (some ⟨w.heap.size,0,none⟩),.pointer (some ⟨w.heap.size+1,0,none⟩)])∧w'=(w.alloc (.cells #[.slice A n c] 23)).alloc (.cells #[.func (.func fq) #[] caps] 141):=by
 go_enter Tryz.func91,Tryz.ntmps91
 go_wp2_with fail
 go_ret
 exact⟨rfl,rfl⟩
theorem placese_first (fq:FuncId) (hcf:∀ (args:Array Value) (W:World),(callFunc fq args).run Tryz.prog W=.ok (.enter fq args) W) (caps:Array Value) (p:Nat→Bool) (Q:Nat→World→Prop) (T:Nat→Prop) (N:Nat) (A:Option Addr) (n c:Nat) (l:List (EvP × SH)) (w:World) (hn:n≤1000000)
 (hR:Reads w N 9 A n (l.flatMap evCs)) (hNw:N≤w.heap.size) (hT:∀ j,T j→N≤j∧j<w.heap.size) (hQ:∀ k X Y,Q k X→Below X.heap.size X Y→Q k Y)
 (hask:∀ k e X,l[k]?=some e→Q k X→Calls Tryz.prog fq (#[.agg #[.int .i64 e.1.kd,.int .i64 e.1.t,.int .i64 e.1.s,.int .i64 e.1.lev,.int .i64 e.1.o,.int .i64 e.1.vt,.int .i64 e.1.vk,.int .i64 e.1.p,.slice e.2.A e.2.n e.2.c]]++caps) X fun r X'=>r=.returned (.bool (p k))∧Q (k+1) X'∧Keep (fun j=>¬T j) X X') (h0:Q 0 w) :
 Calls Tryz.prog 91 #[.slice A n c,.func (.func fq) #[] caps] w fun e w'=>Below w.heap.size w w'∧∃ lb,e=.returned (.func (.func 136) #[] lb)∧∀ d,FirstSeq d Tryz.prog 136 lb ((List.range n).find? p) N w':=by
 refine (placese_any A n c fq caps w).mono ?_
 rintro e w' ⟨rfl,rfl⟩
 have b1:Below w.heap.size w (w.alloc (.cells #[.slice A n c] 23)):=(Below.refl _ w).alloc (Nat.le_refl _) _
 have b:Below w.heap.size w ((w.alloc (.cells #[.slice A n c] 23)).alloc (.cells #[.func (.func fq) #[] caps] 141)):=b1.alloc (by simp) _
 have k1:Blk ((w.alloc (.cells #[.slice A n c] 23)).alloc (.cells #[.func (.func fq) #[] caps] 141)) w.heap.size 23 #[.slice A n c]:=(Blk.new w _ _).alloc _
 have k2:Blk ((w.alloc (.cells #[.slice A n c] 23)).alloc (.cells #[.func (.func fq) #[] caps] 141)) (w.heap.size+1) 141 #[.func (.func fq) #[] caps]:=by
  have:=Blk.new (w.alloc (.cells #[.slice A n c] 23)) 141 #[.func (.func fq) #[] caps]
  rwa [World.size_alloc] at this
 exact⟨b,_,rfl,fun d=>placese_seq d fq hcf caps p Q T N _ _ A n c l _ hn (hR.below (b.mono hNw)) (Nat.le_trans hNw b.size) k1 k2 (fun j hj=>by have:=hT j hj;have:=b.size;omega) hQ hask (hQ _ _ _ h0 b)⟩
end Go.Proofs.YtmkknbonmameoaaGreatDoor
