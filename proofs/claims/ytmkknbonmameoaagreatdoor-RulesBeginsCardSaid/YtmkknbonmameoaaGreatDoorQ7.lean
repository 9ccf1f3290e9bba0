import Derived.Test.YtmkknbonmameoaaGreatDoorQ5
import Derived.Test.YtmkknbonmameoaaGreatDoorQ6
-- holds: YtmkknbonmameoaaGreatDoorHIa YtmkknbonmameoaaGreatDoorHAa YtmkknbonmameoaaGreatDoorHZe YtmkknbonmameoaaGreatDoorHYa
namespace Go.Proofs.YtmkknbonmameoaaGreatDoor
structure SeenP where
 o:Int
 t:Int
 k:Int
deriving DecidableEq
structure EvP where
 kd:Int
 t:Int
 s:Int
 lev:Int
 o:Int
 vt:Int
 vk:Int
 p:Int
 scan:List SeenP
deriving DecidableEq
structure OrdP where
 o:Int
 ts:List Int
deriving DecidableEq
structure MatP where
 p:Int
 o:Int
 fi:Bool
 ts:List Int
deriving DecidableEq
structure WantP where
 s:Int
 b:Int
deriving DecidableEq
structure Hist where
 tr:List ByteArray
 se:List ByteArray
 ob:List ByteArray
 pr:List ByteArray
 ev:List EvP
 od:List OrdP
 ma:List MatP
 wa:List WantP
deriving DecidableEq
def refsV (t k:Int):List (Nat × Int):=if k=0 then [] else [(0,t)]
def refsS (s:SeenP):List (Nat × Int):=(2,s.o) :: refsV s.t s.k
def refsK (e:EvP):List (Nat × Int) :=
 if e.kd=1 then [(1,e.s)] else if e.kd=2∨e.kd=3 then (2,e.o) :: refsV e.vt e.vk else if e.kd=4 then (3,e.p) :: e.scan.flatMap refsS else []
def refsE (e:EvP):List (Nat × Int):=(0,e.t) :: refsK e
def refsT (ts:List Int):List (Nat × Int):=ts.map fun t=>(0,t)
def refsO (r:OrdP):List (Nat × Int):=(2,r.o) :: refsT r.ts
def refsM (r:MatP):List (Nat × Int):=(3,r.p) :: (2,r.o) :: refsT r.ts
def refsW (r:WantP):List (Nat × Int):=[(1,r.s)]
def refs (H:Hist):List (Nat × Int):=H.ev.flatMap refsE++(H.od.flatMap refsO++(H.ma.flatMap refsM++H.wa.flatMap refsW))
def reV (f:Nat→Int→Int) (t k:Int):Int:=if k=0 then t else f 0 t
def reS (f:Nat→Int→Int) (s:SeenP):SeenP:=⟨f 2 s.o,reV f s.t s.k,s.k⟩
def reE (f:Nat→Int→Int) (e:EvP):EvP :=
 if e.kd=1 then ⟨e.kd,f 0 e.t,f 1 e.s,e.lev,e.o,e.vt,e.vk,e.p,e.scan⟩
 else if e.kd=2∨e.kd=3 then ⟨e.kd,f 0 e.t,e.s,e.lev,f 2 e.o,reV f e.vt e.vk,e.vk,e.p,e.scan⟩
 else if e.kd=4 then ⟨e.kd,f 0 e.t,e.s,e.lev,e.o,e.vt,e.vk,f 3 e.p,e.scan.map (reS f)⟩
 else ⟨e.kd,f 0 e.t,e.s,e.lev,e.o,e.vt,e.vk,e.p,e.scan⟩
def reO (f:Nat→Int→Int) (r:OrdP):OrdP:=⟨f 2 r.o,r.ts.map (f 0)⟩
def reM (f:Nat→Int→Int) (r:MatP):MatP:=⟨f 3 r.p,f 2 r.o,r.fi,r.ts.map (f 0)⟩
def reW (f:Nat→Int→Int) (r:WantP):WantP:=⟨f 1 r.s,r.b⟩
def reH (f:Nat→Int→Int) (H:Hist):Hist:={H with ev:=H.ev.map (reE f),od:=H.od.map (reO f),ma:=H.ma.map (reM f),wa:=H.wa.map (reW f)}
section
variable {f : Nat → Int → Int} {e : EvP} {t k : Int}
def reP (f:Nat→Int→Int) (p:Nat × Int):Nat × Int:=(p.1,f p.1 p.2)
theorem refsV_re (t k:Int):refsV (reV f t k) k=(refsV t k).map (reP f):=by
 unfold refsV reV;split<;>rfl
theorem refsS_re (s:SeenP):refsS (reS f s)=(refsS s).map (reP f):=by
 unfold refsS reS
 simp only[refsV_re,List.map_cons];rfl
theorem reE_kd (e:EvP):(reE f e).kd=e.kd:=by unfold reE;(repeat' split)<;>rfl
theorem reE_vk (e:EvP):(reE f e).vk=e.vk:=by unfold reE;(repeat' split)<;>rfl
theorem reE_t (e:EvP):(reE f e).t=f 0 e.t:=by unfold reE;(repeat' split)<;>rfl
theorem scan_re (l:List SeenP):(l.map (reS f)).flatMap refsS=(l.flatMap refsS).map (reP f):=by
 simp only[List.map_flatMap,List.flatMap_map,refsS_re]
theorem refsE_re (e:EvP):refsE (reE f e)=(refsE e).map (reP f):=by
 unfold refsE
 rw[reE_t,List.map_cons]
 congr 1
 unfold refsK
 rw[reE_kd]
 unfold reE
 by_cases h1:e.kd=1
 ·rw[if_pos h1,if_pos h1,if_pos h1];rfl
 by_cases h2:e.kd=2∨e.kd=3
 ·rw[if_neg h1,if_neg h1,if_neg h1,if_pos h2,if_pos h2,if_pos h2,List.map_cons,← refsV_re];rfl
 by_cases h4:e.kd=4
 ·rw[if_neg h1,if_neg h1,if_neg h1,if_neg h2,if_neg h2,if_neg h2,if_pos h4,if_pos h4,if_pos h4,List.map_cons,← scan_re];rfl
 rw[if_neg h1,if_neg h1,if_neg h1,if_neg h2,if_neg h2,if_neg h2,if_neg h4,if_neg h4];rfl
theorem refsT_re (ts:List Int):refsT (ts.map (f 0))=(refsT ts).map (reP f):=by
 unfold refsT;rw[List.map_map,List.map_map];rfl
theorem refsO_re (r:OrdP):refsO (reO f r)=(refsO r).map (reP f):=by
 unfold refsO reO;simp only[refsT_re,List.map_cons];rfl
theorem refsM_re (r:MatP):refsM (reM f r)=(refsM r).map (reP f):=by
 unfold refsM reM;simp only[refsT_re,List.map_cons];rfl
theorem refsW_re (r:WantP):refsW (reW f r)=(refsW r).map (reP f):=rfl
theorem refs_re (H:Hist):refs (reH f H)=(refs H).map (reP f):=by
 unfold refs reH
 simp only[List.map_append,List.map_flatMap,List.flatMap_map,refsE_re,refsO_re,refsM_re,refsW_re]
theorem reE_one (h:e.kd=1):reE f e=⟨e.kd,f 0 e.t,f 1 e.s,e.lev,e.o,e.vt,e.vk,e.p,e.scan⟩:=by unfold reE;rw[if_pos h]
theorem reE_two (h:e.kd=2∨e.kd=3):reE f e=⟨e.kd,f 0 e.t,e.s,e.lev,f 2 e.o,reV f e.vt e.vk,e.vk,e.p,e.scan⟩:=by unfold reE;rw[if_neg (by omega),if_pos h]
theorem reE_four (h:e.kd=4):reE f e=⟨e.kd,f 0 e.t,e.s,e.lev,e.o,e.vt,e.vk,f 3 e.p,e.scan.map (reS f)⟩:=by unfold reE;rw[if_neg (by omega),if_neg (by omega),if_pos h]
theorem reE_end (h:¬e.kd=1∧¬(e.kd=2∨e.kd=3)∧¬e.kd=4):reE f e=⟨e.kd,f 0 e.t,e.s,e.lev,e.o,e.vt,e.vk,e.p,e.scan⟩:=by unfold reE;rw[if_neg h.1,if_neg h.2.1,if_neg h.2.2]
end
def addI (l:List Int) (n:Int):List Int:=if n∈l then l else l++[n]
def firstsF (l:List Int) (r:List Int):List Int:=r.foldl addI l
def ofSort (s:Nat) (r:List (Nat × Int)):List Int:=(r.filter fun p=>p.1==s).map (·.2)
def spk (s:Nat) (r:List (Nat × Int)):List Int:=firstsF [] (ofSort s r)
def idxI:List Int→Int→Nat
 | [],_=>0
 | x :: xs,s=>if x=s then 0 else idxI xs s+1
section
variable {l l2 r : List Int} {n m : Int} {i : Nat}
theorem addI_in (h:n∈l):addI l n=l:=by unfold addI;rw[if_pos h]
theorem addI_out (h:n ∉ l):addI l n=l++[n]:=by unfold addI;rw[if_neg h]
theorem mem_addI:m∈addI l n↔m∈l∨m=n:=by
 unfold addI
 split
 ·exact⟨.inl,fun h=>h.elim id fun h=>by rw[h];assumption⟩
 simp
theorem firstsF_cons:firstsF l (n :: r)=firstsF (addI l n) r:=rfl
theorem firstsF_append (a b:List Int):firstsF l (a++b)=firstsF (firstsF l a) b:=by unfold firstsF;rw[List.foldl_append]
theorem mem_firstsF:∀ {r l:List Int},m∈firstsF l r↔m∈l∨m∈r
 | [],l=>by simp[firstsF]
 | n :: r,l=>by
  rw[firstsF_cons,mem_firstsF,mem_addI,List.mem_cons,or_assoc]
theorem firstsF_all:∀ {r l:List Int},(∀ n∈r,n∈l)→firstsF l r=l
 | [],_,_=>rfl
 | n :: r,l,h=>by rw[firstsF_cons,addI_in (h n (by simp))];exact firstsF_all fun m hm=>h m (by simp[hm])
theorem addI_nodup (h:l.Nodup):(addI l n).Nodup:=by
 unfold addI
 split
 ·exact h
 rename_i hn
 rw[List.nodup_append]
 exact⟨h,by simp,fun a ha b hb=>by simp at hb;subst hb;exact fun e=>hn (e▸ha)⟩
theorem firstsF_nodup:∀ {r l:List Int},l.Nodup→(firstsF l r).Nodup
 | [],_,h=>h
 | n :: r,l,h=>firstsF_nodup (r:=r) (l:=addI l n) (addI_nodup h)
theorem addI_pre:∃ t,addI l n=l++t:=by
 unfold addI
 split
 ·exact⟨[],by simp⟩
 exact⟨[n],rfl⟩
theorem firstsF_pre:∀ {r l:List Int},∃ t,firstsF l r=l++t
 | [],l=>⟨[],by simp[firstsF]⟩
 | n :: r,l=>by
  obtain⟨t,ht⟩:=addI_pre (l:=l) (n:=n)
  obtain⟨u,hu⟩:=firstsF_pre (r:=r) (l:=addI l n)
  exact⟨t++u,by rw[firstsF_cons,hu,ht,List.append_assoc]⟩
theorem idxI_lt:∀ {l:List Int},n∈l→idxI l n<l.length
 | x :: xs,h=>by
  unfold idxI
  split
  ·simp
  rename_i e
  rcases List.mem_cons.1 h with h | h
  ·exact absurd h.symm e
  have:=idxI_lt h;simp;omega
theorem idxI_at:∀ {l:List Int},n∈l→l[idxI l n]?=some n
 | x :: xs,h=>by
  unfold idxI
  split
  ·rename_i e;simp[e]
  rename_i e
  rcases List.mem_cons.1 h with h | h
  ·exact absurd h.symm e
  simpa using idxI_at h
theorem idxI_more:∀ {l:List Int} (t:List Int),n∈l→idxI (l++t) n=idxI l n
 | x :: xs,t,h=>by
  rw[List.cons_append]
  unfold idxI
  split
  ·rfl
  rename_i e
  rcases List.mem_cons.1 h with h | h
  ·exact absurd h.symm e
  rw[idxI_more t h]
theorem idxI_new (h:n ∉ l):idxI (l++[n]) n=l.length:=by
 induction l with
 | nil=>simp[idxI]
 | cons x xs ih =>
  rw[List.cons_append]
  unfold idxI
  rw[if_neg (fun e=>h (by simp[e])),ih (fun e=>h (by simp[e]))]
  rfl
theorem idxI_inj (hn:n∈l) (hm:m∈l) (h:idxI l n=idxI l m):n=m:=by
 have h1:=idxI_at hn
 rw[h,idxI_at hm] at h1
 exact (Option.some.inj h1).symm
def upI (n:Nat):List Int:=(List.range n).map fun (i:Nat)=>(i:Int)
theorem upI_len (n:Nat):(upI n).length=n:=by unfold upI;simp
theorem upI_at {n i:Nat} (h:i<n):(upI n)[i]?=some (i:Int):=by unfold upI;rw[List.getElem?_map,List.getElem?_range h];rfl
theorem mem_upI {n:Nat}:m∈upI n↔0≤m∧m<n:=by
 unfold upI
 simp only[List.mem_map,List.mem_range]
 exact⟨fun ⟨i,hi,e⟩=>by omega,fun h=>⟨m.toNat,by omega,by omega⟩⟩
theorem upI_nodup (n:Nat):(upI n).Nodup:=by
 unfold upI
 refine List.Pairwise.map _ (R:=fun a b=>a≠b) ?_ List.nodup_range
 intro a b h e
 exact h (by omega)
theorem upI_succ (n:Nat):upI (n+1)=upI n++[(n:Int)]:=by unfold upI;rw[List.range_succ,List.map_append];rfl
theorem firsts_idx:∀ {r l:List Int},(∀ n∈r,n∈firstsF l r)→firstsF (upI l.length) (r.map fun n=>(idxI (firstsF l r) n:Int))=upI (firstsF l r).length
 | [],l,_=>rfl
 | n :: r,l,h=>by
  rw[List.map_cons,firstsF_cons]
  obtain⟨t,ht⟩:=firstsF_pre (r:=r) (l:=addI l n)
  have hin:n∈addI l n:=mem_addI.2 (.inr rfl)
  have hstep:addI (upI l.length) (idxI (firstsF l (n :: r)) n:Int)=upI (addI l n).length:=by
   rw[firstsF_cons,ht,idxI_more t hin]
   by_cases hn:n∈l
   ·rw[addI_in hn]
    refine addI_in (mem_upI.2 ?_)
    have:=idxI_lt hn
    omega
   rw[addI_out hn,idxI_new hn,addI_out (fun hm=>by have:=(mem_upI.1 hm).2;omega),List.length_append,List.length_singleton,upI_succ]
  rw[hstep]
  exact firsts_idx (r:=r) (l:=addI l n) fun m hm=>by rw[← firstsF_cons];exact h m (List.mem_cons_of_mem _ hm)
end
theorem ofSort_append (s:Nat) (a b:List (Nat × Int)):ofSort s (a++b)=ofSort s a++ofSort s b:=by unfold ofSort;rw[List.filter_append,List.map_append]
theorem mem_ofSort {s:Nat} {n:Int} {r:List (Nat × Int)}:n∈ofSort s r↔(s,n)∈r:=by
 unfold ofSort
 simp only[List.mem_map,List.mem_filter,beq_iff_eq]
 exact⟨fun ⟨p,⟨h,e⟩,e2⟩=>by obtain⟨a,b⟩:=p;simp only at e e2;subst e;subst e2;exact h,fun h=>⟨_,⟨h,rfl⟩,rfl⟩⟩
theorem mem_spk {s:Nat} {n:Int} {r:List (Nat × Int)}:n∈spk s r↔(s,n)∈r:=by
 unfold spk;rw[mem_firstsF,mem_ofSort];simp
theorem spk_nodup (s:Nat) (r:List (Nat × Int)):(spk s r).Nodup:=firstsF_nodup (by simp)
theorem spk_snoc (s:Nat) (r:List (Nat × Int)) (q:Nat) (n:Int):spk s (r++[(q,n)])=if q=s then addI (spk s r) n else spk s r:=by
 unfold spk
 rw[ofSort_append,firstsF_append]
 unfold ofSort
 by_cases h:q=s
 ·subst h;simp[firstsF]
 simp[h,firstsF]
theorem spk_pre (s:Nat) (a b:List (Nat × Int)):∃ t,spk s (a++b)=spk s a++t:=by
 unfold spk
 rw[ofSort_append,firstsF_append]
 exact firstsF_pre
theorem ofSort_re (f:Nat→Int→Int) (s:Nat) (r:List (Nat × Int)):ofSort s (r.map (reP f))=(ofSort s r).map (f s):=by
 induction r with
 | nil=>rfl
 | cons p r ih =>
  rw[List.map_cons,show reP f p :: r.map (reP f)=[reP f p]++r.map (reP f) from rfl,ofSort_append,ih,show p :: r=[p]++r from rfl,ofSort_append,List.map_append]
  congr 1
  unfold ofSort reP
  by_cases h:p.1=s
  ·subst h;simp
  simp[h]
def anewI (r:List (Nat × Int)) (s:Nat) (n:Int):Int:=(idxI (spk s r) n:Int)
theorem spk_anew (s:Nat) (r:List (Nat × Int)):spk s (r.map (reP (anewI r)))=upI (spk s r).length:=by
 unfold spk
 rw[ofSort_re]
 exact firsts_idx (l:=[]) (r:=ofSort s r) (fun n hn=>mem_firstsF.2 (.inr hn))
def Hist.many (H:Hist) (s:Nat):Nat:=if s=0 then H.tr.length else if s=1 then H.se.length else if s=2 then H.ob.length else H.pr.length
def Hist.names (H:Hist) (s:Nat):List ByteArray:=if s=0 then H.tr else if s=1 then H.se else if s=2 then H.ob else H.pr
theorem many_len (H:Hist) (s:Nat):H.many s=(H.names s).length:=by unfold Hist.many Hist.names;(repeat' split)<;>rfl
def namedN (l:List ByteArray) (ns:List Int):List ByteArray:=ns.map fun n=>l.getD n.toNat ⟨#[]⟩
def numP (H:Hist):Hist :=
 {reH (anewI (refs H)) H with tr:=namedN H.tr (spk 0 (refs H)),se:=namedN H.se (spk 1 (refs H)),ob:=namedN H.ob (spk 2 (refs H)),pr:=namedN H.pr (spk 3 (refs H))}
theorem refs_num (H:Hist):refs (numP H)=(refs H).map (reP (anewI (refs H))):=refs_re H
theorem num_many {H:Hist} {s:Nat} (hs:s<4):(numP H).many s=(spk s (refs H)).length:=by
 have:s=0∨s=1∨s=2∨s=3:=by omega
 rcases this with rfl | rfl | rfl | rfl<;>simp[Hist.many,numP,namedN]
theorem num_names {H:Hist} {s:Nat} (hs:s<4):(numP H).names s=namedN (H.names s) (spk s (refs H)):=by
 have:s=0∨s=1∨s=2∨s=3:=by omega
 rcases this with rfl | rfl | rfl | rfl<;>simp[Hist.names,numP]
def ordP (H:Hist):Prop:=∀ s,s<4→spk s (refs H)=upI (H.many s)
theorem num_ord (H:Hist):ordP (numP H):=fun s hs=>by rw[refs_num,spk_anew,num_many hs]
theorem refs_sort {H:Hist}:∀ p∈refs H,p.1<4:=by
 intro p hp
 have hT:∀ ts,p∈refsT ts→p.1<4:=fun ts h=>by obtain⟨t,_,rfl⟩:=List.mem_map.1 h;exact Nat.zero_lt_succ _
 have hV:∀ t k,p∈refsV t k→p.1<4:=fun t k h=>by unfold refsV at h;split at h<;>simp at h;subst h;exact Nat.zero_lt_succ _
 have hS:∀ s,p∈refsS s→p.1<4:=fun s h=>by
  rcases List.mem_cons.1 h with rfl | h
  ·show 2<4;omega
  exact hV _ _ h
 unfold refs at hp
 rcases List.mem_append.1 hp with h | h
 ·obtain⟨e,_,h⟩:=List.mem_flatMap.1 h
  rcases List.mem_cons.1 h with rfl | h
  ·show 0<4;omega
  unfold refsK at h
  split at h
  ·simp at h;subst h;show 1<4;omega
  split at h
  ·rcases List.mem_cons.1 h with rfl | h
   ·show 2<4;omega
   exact hV _ _ h
  split at h
  ·rcases List.mem_cons.1 h with rfl | h
   ·show 3<4;omega
   obtain⟨s,_,h⟩:=List.mem_flatMap.1 h
   exact hS _ h
  simp at h
 rcases List.mem_append.1 h with h | h
 ·obtain⟨e,_,h⟩:=List.mem_flatMap.1 h
  rcases List.mem_cons.1 h with rfl | h
  ·show 2<4;omega
  exact hT _ h
 rcases List.mem_append.1 h with h | h
 ·obtain⟨e,_,h⟩:=List.mem_flatMap.1 h
  rcases List.mem_cons.1 h with rfl | h
  ·show 3<4;omega
  rcases List.mem_cons.1 h with rfl | h
  ·show 2<4;omega
  exact hT _ h
 obtain⟨e,_,h⟩:=List.mem_flatMap.1 h
 simp[refsW] at h
 subst h
 show 1<4;omega
def isN (n:Int) (many:Nat):Bool:=decide (0≤n∧n<many)
theorem isN_iff {n:Int} {m:Nat}:isN n m=true↔0≤n∧n<m:=by unfold isN;simp
def toldB (t k:Int):Bool:=if k=0 then decide (t=0) else decide (0<k)&&decide (k≤999)
def bareE (e:EvP):EvP :=
 if e.kd=1 then ⟨e.kd,e.t,e.s,e.lev,0,0,0,0,[]⟩
 else if e.kd=2∨e.kd=3 then ⟨e.kd,e.t,0,0,e.o,e.vt,e.vk,0,[]⟩
 else if e.kd=4 then ⟨e.kd,e.t,0,0,0,0,0,e.p,e.scan⟩
 else ⟨e.kd,e.t,0,0,0,0,0,0,[]⟩
def mayE (e:EvP):Bool :=
 if e.kd=1 then levB e.lev
 else if e.kd=2 then (decide (e.vt=e.t)&&decide (0<e.vk))&&toldB e.vt e.vk
 else if e.kd=3 then toldB e.vt e.vk
 else if e.kd=4 then decide (e.scan.length≤40)&&e.scan.all fun s=>toldB s.t s.k
 else true
def fineE (e:EvP):Bool:=decide (1≤e.kd∧e.kd≤6)&&(mayE e&&decide (e=bareE e))
def Hist.inR (H:Hist) (p:Nat × Int):Bool:=isN p.2 (H.many p.1)
def wrdB (s:ByteArray):Bool:=wordB s.data.toList
def namesB (l:List ByteArray):Bool:=l.all wrdB&&decide l.Nodup
def fineH (H:Hist):Bool:=H.ev.all fineE&&H.wa.all fun r=>guB r.b
def nmsB (H:Hist):Bool:=(namesB H.tr&&namesB H.se)&&(namesB H.ob&&namesB H.pr)
def shapedB (H:Hist):Bool:=(nmsB H&&fineH H)&&(refs H).all H.inR
def ordB (H:Hist):Bool:=(List.range 4).all fun s=>decide (spk s (refs H)=upI (H.many s))
theorem ordB_iff {H:Hist}:ordB H=true↔ordP H:=by unfold ordB ordP;simp
def rightB (H:Hist):Bool:=shapedB H&&ordB H
structure Small (H:Hist):Prop where
 tr:H.tr.length≤60
 se:H.se.length≤60
 ob:H.ob.length≤60
 pr:H.pr.length≤60
 ev:H.ev.length≤200
 od:H.od.length≤60
 ma:H.ma.length≤60
 wa:H.wa.length≤60
 sc:∀ e∈H.ev,e.scan.length≤60
 ot:∀ r∈H.od,r.ts.length≤60
 mt:∀ r∈H.ma,r.ts.length≤60
 tx:∀ s,s<4→∀ b∈H.names s,b.size≤100
def mostN (k:Nat):Nat:=[300,60,300,60].getD k 0
def limN (H:Hist):Bool:=(List.range 4).all fun s=>decide (H.many s≤mostN s)
def limC (H:Hist):Bool:=decide (H.ev.length≤3000)&&(decide (H.od.length≤3000)&&(decide (H.ma.length≤3000)&&decide (H.wa.length≤3000)))
def limT (H:Hist):Bool:=(H.od.all fun r=>decide (r.ts.length≤300))&&H.ma.all fun r=>decide (r.ts.length≤300)
def limB (H:Hist):Bool:=limN H&&(limC H&&limT H)
theorem limC_iff {H:Hist}:limC H=true↔H.ev.length≤3000∧H.od.length≤3000∧H.ma.length≤3000∧H.wa.length≤3000:=by unfold limC;simp
theorem limT_iff {H:Hist}:limT H=true↔(∀ r∈H.od,r.ts.length≤300)∧∀ r∈H.ma,r.ts.length≤300:=by unfold limT;simp
theorem limN_iff {H:Hist}:limN H=true↔H.tr.length≤300∧H.se.length≤60∧H.ob.length≤300∧H.pr.length≤60:=by
 unfold limN
 rw[List.all_eq_true]
 constructor
 ·intro h
  have h0:=h 0 (by simp);have h1:=h 1 (by simp);have h2:=h 2 (by simp);have h3:=h 3 (by simp)
  simp[Hist.many,mostN] at h0 h1 h2 h3
  exact⟨h0,h1,h2,h3⟩
 intro h s hs
 have:s=0∨s=1∨s=2∨s=3:=by simp at hs;omega
 rcases this with rfl | rfl | rfl | rfl<;>simp[Hist.many,mostN]<;>omega
theorem limB_iff {H:Hist}:limB H=true↔(H.tr.length≤300∧H.se.length≤60∧H.ob.length≤300∧H.pr.length≤60)∧(H.ev.length≤3000∧H.od.length≤3000∧H.ma.length≤3000∧H.wa.length≤3000)∧(∀ r∈H.od,r.ts.length≤300)∧∀ r∈H.ma,r.ts.length≤300:=by
 unfold limB
 rw[Bool.and_eq_true,Bool.and_eq_true,limN_iff,limC_iff,limT_iff]
theorem Small.lim {H:Hist} (h:Small H):limB H=true:=by
 have h1:=h.tr;have h2:=h.se;have h3:=h.ob;have h4:=h.pr;have h5:=h.ev;have h6:=h.od;have h7:=h.ma;have h8:=h.wa
 rw[limB_iff]
 exact⟨⟨by omega,by omega,by omega,by omega⟩,⟨by omega,by omega,by omega,by omega⟩,fun r hr=>by have:=h.ot r hr;omega,fun r hr=>by have:=h.mt r hr;omega⟩
def rightW (H:Hist):Bool:=limB H&&rightB H
theorem Small.right {H:Hist} (h:Small H):rightW H=rightB H:=by unfold rightW;rw[h.lim,Bool.true_and]
section
variable {H : Hist} {e : EvP} {s : Nat}
theorem Small.many (h:Small H) (s:Nat):H.many s≤60:=by
 have:=h.tr;have:=h.se;have:=h.ob;have:=h.pr
 unfold Hist.many
 (repeat' split)<;>assumption
theorem fine_kd (h:fineE e=true):1≤e.kd∧e.kd≤6:=by unfold fineE at h;simp at h;exact h.1
theorem fine_bare (h:fineE e=true):bareE e=e:=by unfold fineE at h;simp at h;exact h.2.2.symm
theorem fine_may (h:fineE e=true):mayE e=true:=by unfold fineE at h;simp at h;exact h.2.1
theorem fine_len (h:fineE e=true):e.scan.length≤40:=by
 by_cases h4:e.kd=4
 ·have:=fine_may h
  unfold mayE at this
  rw[if_neg (by omega),if_neg (by omega),if_neg (by omega),if_pos h4] at this
  simp only[Bool.and_eq_true,decide_eq_true_eq] at this
  exact this.1
 have hb:=fine_bare h
 have:(bareE e).scan=[]:=by unfold bareE;(repeat' split)<;>first | rfl | omega
 rw[hb] at this
 rw[this]
 simp
theorem fine_scan (h:fineE e=true) (hk:e.kd≠4):e.scan=[]:=by
 have h2:=fine_bare h
 unfold bareE at h2
 rw[← h2]
 (repeat' split)<;>first | rfl | omega
variable {f : Nat → Int → Int}
theorem toldB_re {t k:Int}:toldB (reV f t k) k=toldB t k:=by unfold toldB reV;split<;>rfl
theorem fineE_re (h:fineE e=true):fineE (reE f e)=true:=by
 have hk:=fine_kd h
 have hb:=fine_bare h
 have hm:=fine_may h
 have hs:=fine_scan h
 unfold mayE at hm
 unfold bareE at hb
 unfold fineE
 rw[reE_kd]
 by_cases h1:e.kd=1
 ·rw[if_pos h1] at hb hm
  have:reE f e=bareE (reE f e):=by
   rw[reE_one h1]
   unfold bareE
   rw[if_pos h1]
   rw[← hb]
  rw[← this,reE_one h1]
  unfold mayE
  simp[h1,hm]
 by_cases h2:e.kd=2∨e.kd=3
 ·rw[if_neg h1,if_pos h2] at hb
  have:reE f e=bareE (reE f e):=by
   rw[reE_two h2]
   unfold bareE
   rw[if_neg h1,if_pos h2]
   rw[← hb]
  rw[← this,reE_two h2]
  unfold mayE
  rw[if_neg h1] at hm
  rcases h2 with h2 | h2
  ·simp only[h2,if_true,Bool.and_eq_true,decide_eq_true_eq] at hm
   have hk0:e.vk≠0:=by omega
   have hv:reV f e.vt e.vk=f 0 e.t:=by unfold reV;rw[if_neg hk0,hm.1.1]
   simp[h2,hm.1.2,hv]
   rw[← hv,toldB_re]
   exact hm.2
  simp[h2] at hm
  simp[h2,toldB_re,hm]
 by_cases h4:e.kd=4
 ·rw[if_neg h1,if_neg h2,if_pos h4] at hb
  have:reE f e=bareE (reE f e):=by
   rw[reE_four h4]
   unfold bareE
   rw[if_neg h1,if_neg h2,if_pos h4]
   rw[← hb]
  rw[← this,reE_four h4]
  unfold mayE
  simp only[h4,if_true,Int.reduceEq,if_false,Bool.and_eq_true,decide_eq_true_eq,List.all_eq_true] at hm
  simp only[h4,if_true,Int.reduceEq,if_false,List.length_map,List.all_map,Bool.and_eq_true,decide_eq_true_eq,List.all_eq_true]
  exact⟨by omega,⟨hm.1,fun s hs=>by show toldB (reV f s.t s.k) s.k=true;rw[toldB_re];exact hm.2 s hs⟩,trivial⟩
 rw[if_neg h1,if_neg h2,if_neg h4] at hb
 have:reE f e=bareE (reE f e):=by
  rw[reE_end ⟨h1,h2,h4⟩]
  unfold bareE
  rw[if_neg h1,if_neg h2,if_neg h4]
  rw[← hb]
 rw[← this,reE_end ⟨h1,h2,h4⟩]
 have h22:¬e.kd=2:=by omega
 have h33:¬e.kd=3:=by omega
 unfold mayE
 simp[h1,h22,h33,h4,hk]
end
section
variable {H : Hist} {s : Nat} {n : Int}
theorem shaped_in (h:shapedB H=true) {p:Nat × Int} (hp:p∈refs H):0≤p.2∧p.2<H.many p.1:=by
 unfold shapedB at h
 simp only[Bool.and_eq_true,List.all_eq_true] at h
 exact isN_iff.1 (h.2 p hp)
theorem shaped_names (h:shapedB H=true) (hs:s<4):namesB (H.names s)=true:=by
 unfold shapedB nmsB at h
 simp only[Bool.and_eq_true] at h
 have:s=0∨s=1∨s=2∨s=3:=by omega
 rcases this with rfl | rfl | rfl | rfl
 ·exact h.1.1.1.1
 ·exact h.1.1.1.2
 ·exact h.1.1.2.1
 exact h.1.1.2.2
theorem shaped_ev (h:shapedB H=true) {e:EvP} (he:e∈H.ev):fineE e=true:=by
 unfold shapedB fineH at h
 simp only[Bool.and_eq_true,List.all_eq_true] at h
 exact h.1.2.1 e he
theorem shaped_wa (h:shapedB H=true) {r:WantP} (he:r∈H.wa):guB r.b=true:=by
 unfold shapedB fineH at h
 simp only[Bool.and_eq_true,List.all_eq_true] at h
 exact h.1.2.2 r he
theorem namesB_iff {l:List ByteArray}:namesB l=true↔(∀ x∈l,wrdB x=true)∧l.Nodup:=by unfold namesB;simp
theorem get_of {l:List ByteArray} (h:0≤n∧n<l.length):l[n.toNat]?=some (l.getD n.toNat ⟨#[]⟩):=by
 rw[List.getD_eq_getElem?_getD,List.getElem?_eq_getElem (by omega:n.toNat<l.length)];rfl
theorem namedN_ok {l:List ByteArray} {ns:List Int} (h:namesB l=true) (hn:ns.Nodup) (hr:∀ n∈ns,0≤n∧n<l.length):namesB (namedN l ns)=true:=by
 rw[namesB_iff] at h ⊢
 refine⟨fun x hx=>?_,?_⟩
 ·obtain⟨n,hm,rfl⟩:=List.mem_map.1 hx
  exact h.1 _ (List.mem_of_getElem? (get_of (hr n hm)))
 unfold namedN
 have hr2:=hr
 clear hr
 induction ns with
 | nil=>simp
 | cons n ns ih =>
  have hn2:=List.nodup_cons.1 hn
  rw[List.map_cons,List.nodup_cons]
  refine⟨fun hm=>?_,ih hn2.2 fun m hm=>hr2 m (by simp[hm])⟩
  obtain⟨m,hm,e⟩:=List.mem_map.1 hm
  have h1:=get_of (l:=l) (hr2 n (by simp))
  have h2:=get_of (l:=l) (hr2 m (by simp[hm]))
  rw[e] at h2
  have h3:=(List.getElem?_inj (i:=n.toNat) (j:=m.toNat) (show n.toNat<l.length by have:=hr2 n (by simp);omega) h.2).1 (h1.trans h2.symm)
  have:=hr2 n (by simp)
  have:=hr2 m (by simp[hm])
  have:n=m:=by omega
  subst this
  exact hn2.1 hm
theorem num_shaped (h:shapedB H=true):shapedB (numP H)=true:=by
 have hn:∀ s,s<4→namesB ((numP H).names s)=true:=fun s hs=>by
  rw[num_names hs]
  refine namedN_ok (shaped_names h hs) (spk_nodup _ _) fun n hn=>?_
  have:=shaped_in h (mem_spk.1 hn)
  rw[← many_len]
  exact this
 have h0:=hn 0 (by omega)
 have h1:=hn 1 (by omega)
 have h2:=hn 2 (by omega)
 have h3:=hn 3 (by omega)
 have he:(numP H).ev.all fineE=true:=by
  rw[List.all_eq_true]
  intro e he
  obtain⟨e0,h0,rfl⟩:=List.mem_map.1 he
  exact fineE_re (shaped_ev h h0)
 have hw:(numP H).wa.all (fun r=>guB r.b)=true:=by
  rw[List.all_eq_true]
  intro e he
  obtain⟨e0,h0,e1⟩:=List.mem_map.1 he
  rw[← e1]
  exact shaped_wa (r:=e0) h h0
 have hr:(refs (numP H)).all (numP H).inR=true:=by
  rw[List.all_eq_true,refs_num]
  intro p hp
  obtain⟨q,hq,rfl⟩:=List.mem_map.1 hp
  refine isN_iff.2 ?_
  unfold reP anewI
  simp only
  rw[num_many (refs_sort q hq)]
  have:=idxI_lt (mem_spk.2 (show (q.1,q.2)∈refs H from hq))
  omega
 unfold shapedB nmsB fineH
 rw[he,hw,hr]
 simp only[Hist.names,if_true,if_false,Nat.one_ne_zero,Nat.reduceEqDiff] at h0 h1 h2 h3
 rw[h0,h1,h2,h3]
 rfl
theorem num_right (h:shapedB H=true):rightB (numP H)=true:=by
 unfold rightB;rw[num_shaped h,ordB_iff.2 (num_ord H)];rfl
theorem right_shaped (h:rightB H=true):shapedB H=true:=by
 unfold rightB at h
 exact (Bool.and_eq_true_iff.1 h).1
end
def hasB (H:Hist) (t kd:Int):Bool:=H.ev.any fun e=>decide (e.t=t)&&decide (e.kd=kd)
def openB (H:Hist) (t:Int):Bool:=hasB H t 1&&(!hasB H t 5&&!hasB H t 6)
def leftL (H:Hist):List Int:=(upI H.tr.length).filter (openB H)
def abortE (t:Int):EvP:=⟨6,t,0,0,0,0,0,0,[]⟩
def comP (H:Hist):Hist:={H with ev:=H.ev++(leftL H).map abortE}
section
variable {H : Hist} {t : Int}
theorem hasB_iff {kd:Int}:hasB H t kd=true↔∃ e∈H.ev,e.t=t∧e.kd=kd:=by unfold hasB;simp
theorem refs_t {e:EvP} (he:e∈H.ev):(0,e.t)∈refs H:=List.mem_append_left _ (List.mem_flatMap.2 ⟨e,he,List.mem_cons_self ..⟩)
theorem left_begun (h:t∈leftL H):∃ e∈H.ev,e.t=t:=by
 have:=(List.mem_filter.1 h).2
 unfold openB at this
 simp only[Bool.and_eq_true] at this
 obtain⟨e,he,h1,_⟩:=hasB_iff.1 this.1
 exact⟨e,he,h1⟩
theorem abort_flat:∀ l:List Int,(l.map abortE).flatMap refsE=l.map fun t=>((0:Nat),t)
 | []=>rfl
 | t :: l=>by rw[List.map_cons,List.flatMap_cons,abort_flat l];rfl
theorem refs_com (H:Hist):∃ a c,refs H=a++c∧refs (comP H)=a++((leftL H).map (fun t=>((0:Nat),t))++c)∧∀ t∈leftL H,(0,t)∈a:=by
 refine⟨H.ev.flatMap refsE,H.od.flatMap refsO++(H.ma.flatMap refsM++H.wa.flatMap refsW),rfl,?_,fun t ht=>?_⟩
 ·unfold refs comP
  rw[List.flatMap_append,abort_flat,List.append_assoc]
 obtain⟨e,he,rfl⟩:=left_begun ht
 exact List.mem_flatMap.2 ⟨e,he,List.mem_cons_self ..⟩
theorem spk_com (H:Hist) (s:Nat):spk s (refs (comP H))=spk s (refs H):=by
 obtain⟨a,c,h1,h2,h3⟩:=refs_com H
 rw[h1,h2]
 unfold spk
 rw[ofSort_append,ofSort_append,ofSort_append,firstsF_append,firstsF_append,firstsF_append]
 rw[firstsF_all (r:=ofSort s ((leftL H).map fun t=>((0:Nat),t)))]
 intro n hn
 obtain⟨t,ht,e⟩:=List.mem_map.1 (mem_ofSort.1 hn)
 injection e with e1 e2
 subst e1;subst e2
 exact mem_firstsF.2 (.inr (mem_ofSort.2 (h3 _ ht)))
theorem com_right (h:rightB H=true):rightB (comP H)=true:=by
 have hs:=right_shaped h
 unfold rightB at h ⊢
 simp only[Bool.and_eq_true] at h ⊢
 refine⟨?_,ordB_iff.2 fun s hs4=>by rw[spk_com];exact ordB_iff.1 h.2 s hs4⟩
 have he:(comP H).ev.all fineE=true:=by
  rw[List.all_eq_true]
  intro e he
  rcases List.mem_append.1 he with he | he
  ·exact shaped_ev hs he
  obtain⟨t,_,rfl⟩:=List.mem_map.1 he
  unfold fineE mayE bareE abortE
  simp
 have hr:(refs (comP H)).all (comP H).inR=true:=by
  rw[List.all_eq_true]
  obtain⟨a,c,h1,h2,h3⟩:=refs_com H
  intro p hp
  have:p∈refs H:=by
   rw[h2] at hp
   rw[h1]
   rcases List.mem_append.1 hp with hp | hp
   ·exact List.mem_append_left _ hp
   rcases List.mem_append.1 hp with hp | hp
   ·obtain⟨t,ht,rfl⟩:=List.mem_map.1 hp
    exact List.mem_append_left _ (h3 t ht)
   exact List.mem_append_right _ hp
  exact isN_iff.2 (shaped_in hs this)
 have hx:=h.1
 unfold shapedB fineH at hx ⊢
 rw[he,hr]
 simp only[Bool.and_eq_true] at hx ⊢
 exact⟨⟨hx.1.1,trivial,hx.1.2.2⟩,trivial⟩
theorem left_len (H:Hist):(leftL H).length≤H.tr.length:=by
 unfold leftL
 have:=List.length_filter_le (openB H) (upI H.tr.length)
 rwa [upI_len] at this
end
def ruW (t x:Int) (e:EvP):Bool:=decide (e.kd=2)&&(decide (e.t=t)&&decide (e.o=x))
def ruWs (l:List EvP) (t x:Int):List EvP:=l.filter (ruW t x)
def ruWr (H:Hist) (x t:Int):Bool:=H.ev.any (ruW t x)&&hasB H t 5
def ruWriters (H:Hist) (x:Int):List Int:=(upI H.tr.length).filter (ruWr H x)
def ruSeen (e:EvP):List SeenP:=if e.kd=3 then [⟨e.o,e.vt,e.vk⟩] else e.scan
def ruBegun (l:List EvP) (t:Int):Bool:=l.any fun y=>decide (y.t=t)&&decide (y.kd=1)
def ruOver (l:List EvP) (t:Int):Bool:=l.any fun y=>decide (y.t=t)&&(decide (y.kd=5) || decide (y.kd=6))
def ruIs (s:SeenP) (y:EvP):Bool:=decide (y.kd=2)&&(decide (y.o=s.o)&&decide (y.vt=s.t∧y.vk=s.k))
def ruThere (l:List EvP) (s:SeenP):Bool:=decide (s.k=0) || l.any (ruIs s)
def ruOwn (l:List EvP) (t:Int) (s:SeenP):Bool:=match (ruWs l t s.o).getLast? with
 | none=>false
 | some y=>!decide (y.vt=s.t∧y.vk=s.k)
def ruEv (r:Nat) (e:EvP) (l:List EvP):Bool :=
 if r=1 then ruBegun l e.t==decide (e.kd=1)
 else if r=2 then ruOver l e.t
 else if r=3 then decide (e.kd=2)&&!decide (e.vk=((ruWs l e.t e.o).length:Int)+1)
 else if r=4 then (ruSeen e).any fun s=>!ruThere l s
 else if r=5 then (ruSeen e).any (ruOwn l e.t)
 else if r=6 then !decide ((ruSeen e).map (·.o)).Nodup
 else false
def ruSome (a b:List Int):Bool:=decide (a.Nodup∧∀ t∈a,t∈b)
def ruOrd (H:Hist) (i:Nat):Bool:=match H.od[i]? with
 | none=>false
 | some r=>(H.od.take i).any (fun p=>decide (p.o=r.o)) || (!ruSome r.ts (ruWriters H r.o) || !ruSome (ruWriters H r.o) r.ts)
def ruMis (H:Hist) (x:Int):Bool:=!(H.od.any fun r=>decide (r.o=x))&&decide (2≤(ruWriters H x).length)
def ruMat (H:Hist) (i:Nat):Bool:=match H.ma[i]? with
 | none=>false
 | some r=>(H.ma.take i).any (fun p=>decide (p.p=r.p)&&decide (p.o=r.o)) || !ruSome r.ts (ruWriters H r.o)
def ruWan (H:Hist) (i:Nat):Bool:=match H.wa[i]? with
 | none=>false
 | some r=>(H.wa.take i).any (fun p=>decide (p.s=r.s)) || !(H.ev.any fun e=>decide (e.kd=1)&&decide (e.s=r.s))
def ruEvs (H:Hist) (r i:Nat):Bool:=match H.ev[i]? with
 | none=>false
 | some e=>ruEv r e (H.ev.take i)
def ruBrk (H:Hist) (r i:Nat):Bool :=
 if r=7 then ruOrd H i else if r=8 then ruMis H i else if r=9 then ruMat H i else if r=10 then ruWan H i else ruEvs H r i
def ruMany (H:Hist) (r:Nat):Nat :=
 if r=7 then H.od.length else if r=8 then H.ob.length else if r=9 then H.ma.length else if r=10 then H.wa.length else H.ev.length
def ruPlace (H:Hist) (r:Nat):Option Nat:=(List.range (ruMany H r)).find? (ruBrk H r)
def ruFirst (H:Hist):Option (Nat × Nat):=(List.range' 1 10).findSome? fun r=>(ruPlace H r).map fun i=>(r,i)
def ruSound (H:Hist):Bool:=rightB H&&(ruFirst H).isNone
section
variable {H : Hist} {r i : Nat}
theorem any_same {α:Type} {p q:α→Bool}:∀ {l:List α},(∀ x∈l,p x=q x)→l.any p=l.any q
 | [],_=>rfl
 | x :: l,h=>by rw[List.any_cons,List.any_cons,h x (by simp),any_same fun y hy=>h y (by simp[hy])]
theorem place_none:ruPlace H r=none↔∀ i,i<ruMany H r→ruBrk H r i=false:=by
 unfold ruPlace
 rw[List.find?_eq_none]
 simp
theorem mem_rules:r∈List.range' 1 10↔1≤r∧r≤10:=by
 rw[List.mem_range'_1]
 omega
theorem first_none:ruFirst H=none↔∀ r,1≤r→r≤10→ruPlace H r=none:=by
 unfold ruFirst
 rw[List.findSome?_eq_none_iff]
 simp only[mem_rules,Option.map_eq_none_iff]
 exact⟨fun h r h1 h2=>h r ⟨h1,h2⟩,fun h r hr=>h r hr.1 hr.2⟩
theorem first_at (h1:1≤r∧r≤10) (h2:ruPlace H r=some i) (h3:∀ q,1≤q→q<r→ruPlace H q=none):ruFirst H=some (r,i):=by
 have e:List.range' 1 10=List.range' 1 (r - 1)++(r :: List.range' (r+1) (10 - r)):=by
  rw[show r :: List.range' (r+1) (10 - r)=List.range' r (10 - r+1) from (List.range'_succ ..).symm]
  have:=List.range'_append (s:=1) (m:=r - 1) (n:=10 - r+1) (step:=1)
  rw[show 1+1 * (r - 1)=r by omega,show r - 1+(10 - r+1)=10 by omega] at this
  exact this.symm
 unfold ruFirst
 rw[e,List.findSome?_append]
 have hz:(List.range' 1 (r - 1)).findSome? (fun r=>(ruPlace H r).map fun i=>(r,i))=none:=by
  rw[List.findSome?_eq_none_iff]
  intro q hq
  rw[List.mem_range'_1] at hq
  rw[h3 q hq.1 (by omega)]
  rfl
 rw[hz,List.findSome?_cons,h2]
 rfl
theorem first_some {p:Nat × Nat} (h:ruFirst H=some p):(1≤p.1∧p.1≤10)∧ruPlace H p.1=some p.2∧∀ q,1≤q→q<p.1→ruPlace H q=none:=by
 have hex:∃ n,n<11∧1≤n∧ruPlace H n≠none:=by
  apply Classical.byContradiction
  intro hn
  have:ruFirst H=none:=first_none.2 fun r h1 h2=>Classical.byContradiction fun h3=>hn ⟨r,by omega,h1,h3⟩
  rw[this] at h
  cases h
 have key:∀ n,(∃ m,m<n∧1≤m∧ruPlace H m≠none)→∃ m,m<n∧1≤m∧ruPlace H m≠none∧∀ q,1≤q→q<m→ruPlace H q=none:=by
  intro n
  induction n with
  | zero=>rintro⟨m,hm,_⟩;omega
  | succ n ih =>
   rintro⟨m,hm,h1,h2⟩
   by_cases hc:∃ m,m<n∧1≤m∧ruPlace H m≠none
   ·obtain⟨m,h3,h4⟩:=ih hc
    exact⟨m,by omega,h4⟩
   refine⟨m,hm,h1,h2,fun q h3 h4=>Classical.byContradiction fun h5=>hc ⟨q,by omega,h3,h5⟩⟩
 obtain⟨m,h1,h2,h3,h4⟩:=key 11 hex
 obtain⟨i,hi⟩:=Option.ne_none_iff_exists'.1 h3
 have:=first_at ⟨h2,by omega⟩ hi h4
 rw[this] at h
 injection h with h
 subst h
 exact⟨⟨h2,by omega⟩,hi,h4⟩
theorem sound_iff:ruSound H=true↔rightB H=true∧∀ r,1≤r→r≤10→∀ i,i<ruMany H r→ruBrk H r i=false:=by
 unfold ruSound
 rw[Bool.and_eq_true,Option.isNone_iff_eq_none,first_none]
 exact⟨fun h=>⟨h.1,fun r h1 h2=>place_none.1 (h.2 r h1 h2)⟩,fun h=>⟨h.1,fun r h1 h2=>place_none.2 (h.2 r h1 h2)⟩⟩
theorem writers_up (x:Int):(ruWriters H x).Pairwise (· < ·):=by
 unfold ruWriters
 refine List.Pairwise.filter _ ?_
 unfold upI
 rw[List.pairwise_map]
 refine List.Pairwise.imp ?_ List.pairwise_lt_range
 intro a b h
 omega
theorem writers_in {x t:Int}:t∈ruWriters H x↔(0≤t∧t<H.tr.length)∧H.ev.any (ruW t x)=true∧hasB H t 5=true:=by
 unfold ruWriters ruWr
 rw[List.mem_filter,mem_upI,Bool.and_eq_true]
end
section
variable {H : Hist}
theorem com_any (p:EvP→Bool) (h:∀ t,p (abortE t)=false):(comP H).ev.any p=H.ev.any p:=by
 unfold comP
 simp only[List.any_append,List.any_map]
 have:(leftL H).any (p ∘ abortE)=false:=by
  rw[List.any_eq_false]
  intro t _
  simp[h]
 rw[this,Bool.or_false]
theorem com_writers (x:Int):ruWriters (comP H) x=ruWriters H x:=by
 have hw:ruWr (comP H) x=ruWr H x:=by
  funext t
  unfold ruWr hasB
  rw[com_any _ (fun t'=>by simp[ruW,abortE]),com_any _ (fun t'=>by simp[abortE])]
 unfold ruWriters
 rw[hw]
 rfl
theorem nodup_at {α:Type} {l:List α} {i j:Nat} (h:l.Nodup) (hi:i<l.length) (hj:j<l.length) (e:l[i]=l[j]):i=j :=
 (List.getElem?_inj hi h).1 (by rw[List.getElem?_eq_getElem hi,List.getElem?_eq_getElem hj,e])
theorem left_nodup:(leftL H).Nodup:=(upI_nodup _).filter _
theorem com_sound (h:ruSound H=true):ruSound (comP H)=true:=by
 rw[sound_iff] at h ⊢
 refine⟨com_right h.1,fun r h1 h2 i hi=>?_⟩
 have hr:=h.2 r h1 h2
 by_cases h7:r=7
 ·subst h7
  have:=hr i hi
  unfold ruBrk ruOrd at this ⊢
  simp only[if_true,com_writers] at this ⊢
  exact this
 by_cases h8:r=8
 ·subst h8
  have:=hr i hi
  unfold ruBrk ruMis at this ⊢
  simp only[if_true,com_writers] at this ⊢
  exact this
 by_cases h9:r=9
 ·subst h9
  have:=hr i hi
  unfold ruBrk ruMat at this ⊢
  simp only[if_true,com_writers] at this ⊢
  exact this
 by_cases h10:r=10
 ·subst h10
  have:=hr i hi
  have e:∀ z:Int,(comP H).ev.any (fun e=>decide (e.kd=1)&&decide (e.s=z))=H.ev.any (fun e=>decide (e.kd=1)&&decide (e.s=z)):=fun z=>com_any _ (fun t'=>by simp[abortE])
  unfold ruBrk ruWan at this ⊢
  simp only[e] at this ⊢
  exact this
 have em:∀ G:Hist,ruMany G r=G.ev.length:=fun G=>by unfold ruMany;simp[h7,h8,h9,h10]
 have eb:∀ (G:Hist) (i:Nat),ruBrk G r i=ruEvs G r i:=fun G i=>by unfold ruBrk;simp[h7,h8,h9,h10]
 rw[em] at hi hr
 rw[eb]
 simp only[eb] at hr
 unfold ruEvs
 by_cases hin:i<H.ev.length
 ·have e1:(comP H).ev[i]?=H.ev[i]?:=by unfold comP;exact List.getElem?_append_left hin
  have e2:(comP H).ev.take i=H.ev.take i:=by unfold comP;exact List.take_append_of_le_length (by omega)
  rw[e1,e2]
  exact hr i hin
 obtain⟨j,rfl⟩:∃ j,i=H.ev.length+j:=⟨i - H.ev.length,by omega⟩
 have hj:j<(leftL H).length:=by unfold comP at hi;simp at hi;omega
 have e1:(comP H).ev[H.ev.length+j]?=some (abortE (leftL H)[j]):=by
  unfold comP
  simp only
  rw[List.getElem?_append_right (by omega),Nat.add_sub_cancel_left,List.getElem?_map,List.getElem?_eq_getElem hj]
  rfl
 have e2:(comP H).ev.take (H.ev.length+j)=H.ev++((leftL H).take j).map abortE:=by
  unfold comP
  simp only
  rw[List.take_length_add_append,List.map_take]
 rw[e1,e2]
 have ht:(leftL H)[j]∈leftL H:=List.getElem_mem hj
 have hnt:(leftL H)[j] ∉ (leftL H).take j:=by
  intro hm
  obtain⟨k,hk,e⟩:=List.mem_iff_getElem.1 hm
  rw[List.getElem_take] at e
  have hk2:k<j:=by simp at hk;omega
  have:=nodup_at left_nodup (by omega) hj e
  omega
 generalize (leftL H)[j]=t at ht hnt
 have ho:=(List.mem_filter.1 ht).2
 unfold openB at ho
 simp only[Bool.and_eq_true,Bool.not_eq_true'] at ho
 show ruEv r (abortE t) _=false
 unfold ruEv
 have hs:ruSeen (abortE t)=[]:=rfl
 rw[hs]
 by_cases r1:r=1
 ·rw[if_pos r1]
  have:ruBegun (H.ev++((leftL H).take j).map abortE) t=true:=by
   unfold ruBegun
   rw[List.any_append,Bool.or_eq_true]
   exact .inl ho.1
  show (ruBegun _ t==_)=false
  rw[this]
  rfl
 rw[if_neg r1]
 by_cases r2:r=2
 ·rw[if_pos r2]
  show ruOver _ t=false
  unfold ruOver
  rw[List.any_append,Bool.or_eq_false_iff]
  constructor
  ·have a:=ho.2.1
   have b:=ho.2.2
   unfold hasB at a b
   rw[List.any_eq_false] at a b ⊢
   intro y hy
   have a:=a y hy
   have b:=b y hy
   simp only[Bool.and_eq_true,decide_eq_true_eq,not_and,Bool.or_eq_true] at a b ⊢
   rintro h1 (h2 | h2)
   ·exact a h1 h2
   exact b h1 h2
  rw[List.any_eq_false]
  intro y hy
  obtain⟨u,hu,rfl⟩:=List.mem_map.1 hy
  have:u≠t:=fun e=>hnt (e▸hu)
  simp[abortE,this]
 rw[if_neg r2]
 (repeat' split)<;>simp[abortE]
end
section
variable {f : Nat → Int → Int} {R : Nat × Int → Prop} (hI : ∀ s n m, R (s, n) → R (s, m) → f s n = f s m → n = m)
theorem refs_o {y:EvP} (h:y.kd=2):(2,y.o)∈refsE y:=by unfold refsE refsK;simp[h]
theorem refs_e {y:EvP}:(0,y.t)∈refsE y:=by unfold refsE;simp
theorem refs_seen {e:EvP} (hf:fineE e=true) {s:SeenP} (hs:s∈ruSeen e):∀ p∈refsS s,p∈refsE e:=by
 intro p hp
 unfold ruSeen at hs
 by_cases h3:e.kd=3
 ·rw[if_pos h3] at hs
  simp only[List.mem_singleton] at hs
  subst hs
  unfold refsE refsK
  rw[if_neg (by omega),if_pos (.inr h3)]
  exact List.mem_cons_of_mem _ hp
 rw[if_neg h3] at hs
 by_cases h4:e.kd=4
 ·unfold refsE refsK
  rw[if_neg (by omega),if_neg (by omega),if_pos h4]
  exact List.mem_cons_of_mem _ (List.mem_cons_of_mem _ (List.mem_flatMap.2 ⟨s,hs,hp⟩))
 rw[fine_scan hf h4] at hs
 cases hs
theorem seen_re {e:EvP} (hf:fineE e=true):ruSeen (reE f e)=(ruSeen e).map (reS f):=by
 unfold ruSeen
 rw[reE_kd]
 by_cases h3:e.kd=3
 ·rw[if_pos h3,if_pos h3,reE_two (.inr h3)]
  rfl
 rw[if_neg h3,if_neg h3]
 by_cases h4:e.kd=4
 ·rw[reE_four h4]
 rw[fine_scan hf h4]
 have:(reE f e).scan=e.scan:=by unfold reE;rw[if_neg h4];(repeat' split)<;>rfl
 rw[this,fine_scan hf h4]
 rfl
include hI
theorem t_re {y:EvP} {t:Int} (hy:∀ p∈refsE y,R p) (ht:R (0,t)):decide ((reE f y).t=f 0 t)=decide (y.t=t):=by
 rw[reE_t]
 exact decide_eq_decide.2 ⟨fun h=>hI 0 _ _ (hy _ refs_e) ht h,fun h=>by rw[h]⟩
theorem w_re {y:EvP} {t x:Int} (hy:∀ p∈refsE y,R p) (ht:R (0,t)) (hx:R (2,x)):ruW (f 0 t) (f 2 x) (reE f y)=ruW t x y:=by
 unfold ruW
 rw[reE_kd,t_re hI hy ht]
 by_cases h2:y.kd=2
 ·have:decide ((reE f y).o=f 2 x)=decide (y.o=x):=by
   rw[reE_two (.inl h2)]
   exact decide_eq_decide.2 ⟨fun h=>hI 2 _ _ (hy _ (refs_o h2)) hx h,fun h=>by rw[h]⟩
  rw[this]
 simp[h2]
theorem ws_re {l:List EvP} {t x:Int} (hy:∀ y∈l,∀ p∈refsE y,R p) (ht:R (0,t)) (hx:R (2,x)):ruWs (l.map (reE f)) (f 0 t) (f 2 x)=(ruWs l t x).map (reE f):=by
 unfold ruWs
 rw[List.filter_map]
 congr 1
 refine List.filter_congr fun y hm=>?_
 exact w_re hI (hy y hm) ht hx
theorem v_re {t k t2 k2:Int} (h1:∀ p∈refsV t k,R p) (h2:∀ p∈refsV t2 k2,R p):decide (reV f t k=reV f t2 k2∧k=k2)=decide (t=t2∧k=k2):=by
 refine decide_eq_decide.2 ⟨fun h=>?_,fun h=>by rw[h.1,h.2];exact⟨rfl,rfl⟩⟩
 obtain⟨h,rfl⟩:=h
 refine⟨?_,rfl⟩
 unfold reV at h
 unfold refsV at h1 h2
 split at h
 ·exact h
 rename_i hk
 rw[if_neg hk] at h1 h2
 exact hI 0 _ _ (h1 _ (by simp)) (h2 _ (by simp)) h
theorem yv_re {y:EvP} {s:SeenP} (h2:y.kd=2) (hy:∀ p∈refsE y,R p) (hs:∀ p∈refsS s,R p):decide ((reE f y).vt=(reS f s).t∧(reE f y).vk=(reS f s).k)=decide (y.vt=s.t∧y.vk=s.k):=by
 rw[reE_two (.inl h2)]
 refine v_re hI (fun p hp=>hy p ?_) (fun p hp=>hs p ?_)
 ·unfold refsE refsK
  rw[if_neg (by omega),if_pos (.inl h2)]
  exact List.mem_cons_of_mem _ (List.mem_cons_of_mem _ hp)
 unfold refsS
 exact List.mem_cons_of_mem _ hp
theorem is_re {y:EvP} {s:SeenP} (hy:∀ p∈refsE y,R p) (hs:∀ p∈refsS s,R p):ruIs (reS f s) (reE f y)=ruIs s y:=by
 unfold ruIs
 rw[reE_kd]
 by_cases h2:y.kd=2
 ·rw[yv_re hI h2 hy hs]
  have:decide ((reE f y).o=(reS f s).o)=decide (y.o=s.o):=by
   rw[reE_two (.inl h2)]
   exact decide_eq_decide.2 ⟨fun h=>hI 2 _ _ (hy _ (refs_o h2)) (hs _ (by unfold refsS;simp)) h,fun h=>by show f 2 _=f 2 _;rw[h]⟩
  rw[this]
 simp[h2]
theorem ev_re {r:Nat} {e:EvP} {l:List EvP} (hf:fineE e=true) (he:∀ p∈refsE e,R p) (hl:∀ y∈l,∀ p∈refsE y,R p):ruEv r (reE f e) (l.map (reE f))=ruEv r e l:=by
 have ht:R (0,e.t):=he _ refs_e
 have hS:∀ s∈ruSeen e,∀ p∈refsS s,R p:=fun s hs p hp=>he p (refs_seen hf hs p hp)
 unfold ruEv
 rw[seen_re hf,reE_kd,reE_vk]
 have e1:ruBegun (l.map (reE f)) (reE f e).t=ruBegun l e.t:=by
  unfold ruBegun
  rw[List.any_map,reE_t]
  refine any_same fun y hy=>?_
  show (decide ((reE f y).t=_)&&decide ((reE f y).kd=1))=_
  rw[t_re hI (hl y hy) ht,reE_kd]
 have e2:ruOver (l.map (reE f)) (reE f e).t=ruOver l e.t:=by
  unfold ruOver
  rw[List.any_map,reE_t]
  refine any_same fun y hy=>?_
  show (decide ((reE f y).t=_)&&(decide ((reE f y).kd=5) || decide ((reE f y).kd=6)))=_
  rw[t_re hI (hl y hy) ht,reE_kd]
 have e3:(decide (e.kd=2)&&!decide (e.vk=((ruWs (l.map (reE f)) (reE f e).t (reE f e).o).length:Int)+1))=(decide (e.kd=2)&&!decide (e.vk=((ruWs l e.t e.o).length:Int)+1)):=by
  by_cases h2:e.kd=2
  ·have eo:(reE f e).o=f 2 e.o:=by rw[reE_two (.inl h2)]
   rw[reE_t,eo,ws_re hI hl ht (he _ (refs_o h2)),List.length_map]
  simp[h2]
 have e4:((ruSeen e).map (reS f)).any (fun s=>!ruThere (l.map (reE f)) s)=(ruSeen e).any fun s=>!ruThere l s:=by
  rw[List.any_map]
  refine any_same fun s hs=>?_
  show (!ruThere _ (reS f s))=_
  congr 1
  unfold ruThere
  rw[List.any_map]
  congr 1
  exact any_same fun y hy=>is_re hI (hl y hy) (hS s hs)
 have e5:((ruSeen e).map (reS f)).any (ruOwn (l.map (reE f)) (reE f e).t)=(ruSeen e).any (ruOwn l e.t):=by
  rw[List.any_map,reE_t]
  refine any_same fun s hs=>?_
  show ruOwn _ _ (reS f s)=_
  unfold ruOwn
  have:(reS f s).o=f 2 s.o:=rfl
  rw[this,ws_re hI hl ht (hS s hs _ (by unfold refsS;simp)),List.getLast?_map]
  cases hg:(ruWs l e.t s.o).getLast? with
  | none=>rfl
  | some y =>
   have hy:=List.mem_filter.1 (List.mem_of_getLast? hg)
   have h2:y.kd=2:=by have:=hy.2;unfold ruW at this;simp at this;exact this.1
   show (!decide ((reE f y).vt=_∧(reE f y).vk=_))=_
   rw[yv_re hI h2 (hl y hy.1) (hS s hs)]
 have e6:(((ruSeen e).map (reS f)).map (·.o)).Nodup↔((ruSeen e).map (·.o)).Nodup:=by
  have em:((ruSeen e).map (reS f)).map (·.o)=((ruSeen e).map (·.o)).map (f 2):=by
   rw[List.map_map,List.map_map]
   rfl
  rw[em]
  clear em
  have hR:∀ n∈(ruSeen e).map (·.o),R (2,n):=by
   intro n hn
   obtain⟨s,hs,rfl⟩:=List.mem_map.1 hn
   exact hS s hs _ (by unfold refsS;simp)
  generalize (ruSeen e).map (·.o)=ns at hR
  induction ns with
  | nil=>simp
  | cons n ns ih =>
   have ih2:=ih fun m hm=>hR m (List.mem_cons_of_mem _ hm)
   rw[List.map_cons,List.nodup_cons,List.nodup_cons]
   refine and_congr (not_congr ⟨fun h=>?_,fun h=>List.mem_map.2 ⟨n,h,rfl⟩⟩) ih2
   obtain⟨m,hm,e⟩:=List.mem_map.1 h
   rw[← hI 2 _ _ (hR m (by simp[hm])) (hR n (by simp)) e]
   exact hm
 rw[e1,e2,e3,e4,e5]
 simp only[e6]
end
section
variable {H : Hist}
def cutH (H:Hist) (k:Nat):Hist:={H with ev:=H.ev.take k,od:=[],ma:=[],wa:=[]}
theorem cut_refs {k:Nat} {p:Nat × Int} (h:p∈refs (cutH H k)):p∈refs H:=by
 unfold refs cutH at h
 simp only[List.flatMap_nil,List.append_nil] at h
 obtain⟨e,he,hp⟩:=List.mem_flatMap.1 h
 exact List.mem_append_left _ (List.mem_flatMap.2 ⟨e,List.mem_of_mem_take he,hp⟩)
theorem cut_shaped (h:shapedB H=true) (k:Nat):shapedB (cutH H k)=true:=by
 have hr:(refs (cutH H k)).all (cutH H k).inR=true:=by
  rw[List.all_eq_true]
  intro p hp
  exact isN_iff.2 (shaped_in h (cut_refs hp))
 have he:(cutH H k).ev.all fineE=true:=by
  rw[List.all_eq_true]
  intro e he
  exact shaped_ev h (List.mem_of_mem_take he)
 unfold shapedB fineH at h ⊢
 simp only[Bool.and_eq_true] at h
 rw[hr,he]
 show (nmsB H&&_&&_)=true
 rw[h.1.1]
 rfl
theorem cut_brk (h:ruSound H=true) (k:Nat) {r:Nat} (hr:1≤r∧r≤10∧r≠8) {i:Nat} (hi:i<ruMany (numP (cutH H k)) r):ruBrk (numP (cutH H k)) r i=false:=by
 rw[sound_iff] at h
 by_cases h7:r=7
 ·subst h7;unfold ruMany at hi;simp[numP,reH,cutH] at hi
 by_cases h9:r=9
 ·subst h9;unfold ruMany at hi;simp[numP,reH,cutH] at hi
 by_cases h10:r=10
 ·subst h10;unfold ruMany at hi;simp[numP,reH,cutH] at hi
 have hr6:=h.2 r hr.1 hr.2.1
 have em:∀ G:Hist,ruMany G r=G.ev.length:=fun G=>by unfold ruMany;simp[h7,hr.2.2,h9,h10]
 have eb:∀ (G:Hist) (i:Nat),ruBrk G r i=ruEvs G r i:=fun G i=>by unfold ruBrk;simp[h7,hr.2.2,h9,h10]
 rw[em] at hi hr6
 rw[eb]
 simp only[eb] at hr6
 have hev:(numP (cutH H k)).ev=(H.ev.take k).map (reE (anewI (refs (cutH H k)))):=rfl
 rw[hev] at hi
 rw[List.length_map,List.length_take] at hi
 have hik:i<H.ev.length:=by omega
 have h0:=hr6 i hik
 have e0:H.ev[i]?=some H.ev[i]:=List.getElem?_eq_getElem hik
 unfold ruEvs at h0 ⊢
 rw[e0] at h0
 rw[hev,List.getElem?_map,List.getElem?_take_of_lt (by omega),e0,← List.map_take,List.take_take,Nat.min_eq_left (by omega)]
 show ruEv r (reE _ H.ev[i]) _=false
 have hm:∀ y∈H.ev.take k,∀ p∈refsE y,p∈refs (cutH H k):=by
  intro y hy p hp
  unfold refs cutH
  exact List.mem_append_left _ (List.mem_flatMap.2 ⟨y,hy,hp⟩)
 have hik2:H.ev[i]∈H.ev.take k:=List.mem_of_getElem? (i:=i) (by rw[List.getElem?_take_of_lt (by omega),e0])
 rw[ev_re (R:=fun p=>p∈refs (cutH H k)) (fun s n m hn hm2 e=>?_) (shaped_ev (right_shaped h.1) (List.getElem_mem hik)) (hm _ hik2) (fun y hy=>hm y ?_)]
 ·exact h0
 ·have:idxI (spk s (refs (cutH H k))) n=idxI (spk s (refs (cutH H k))) m:=by unfold anewI at e;omega
  exact idxI_inj (mem_spk.2 hn) (mem_spk.2 hm2) this
 have:(H.ev.take k).take i=H.ev.take i:=by rw[List.take_take,Nat.min_eq_left (by omega)]
 rw[← this] at hy
 exact List.mem_of_mem_take hy
theorem cut_first (h:ruSound H=true) (k:Nat):ruFirst (numP (cutH H k))=(ruPlace (numP (cutH H k)) 8).map fun i=>(8,i):=by
 have hn:∀ r,1≤r→r≤10→r≠8→ruPlace (numP (cutH H k)) r=none:=fun r h1 h2 h8=>place_none.2 fun i hi=>cut_brk h k ⟨h1,h2,h8⟩ hi
 cases h8:ruPlace (numP (cutH H k)) 8 with
 | none =>
  rw[Option.map_none,first_none]
  intro r h1 h2
  by_cases e:r=8
  ·rw[e];exact h8
  exact hn r h1 h2 e
 | some i=>exact first_at (by omega) h8 fun q h1 h2=>hn q h1 (by omega) (by omega)
theorem cut_missing (H:Hist) (k:Nat) (i:Nat):ruBrk (numP (cutH H k)) 8 i=decide (2≤(ruWriters (numP (cutH H k)) i).length):=by
 unfold ruBrk ruMis
 rw[if_neg (by omega),if_pos rfl]
 rfl
end
structure InZ (H:Hist):Prop where
 tr:H.tr.length≤300
 se:H.se.length≤60
 ob:H.ob.length≤300
 pr:H.pr.length≤60
 ev:H.ev.length≤3000
 od:H.od.length≤3000
 ma:H.ma.length≤3000
 wa:H.wa.length≤3000
 et:∀ e∈H.ev,0≤e.t∧e.t<H.tr.length
 es:∀ e∈H.ev,e.kd=1→0≤e.s∧e.s<H.se.length
 eo:∀ e∈H.ev,e.kd=2→(0≤e.o∧e.o<H.ob.length)∧(0≤e.vt∧e.vt<H.tr.length)∧0<e.vk∧e.vk≤999
 sn:∀ e∈H.ev,∀ s∈ruSeen e,(0≤s.o∧s.o<H.ob.length)∧(0≤s.t∧s.t≤300)∧0≤s.k∧s.k≤999
 sc:∀ e∈H.ev,e.scan.length≤40∧(e.kd≠4→e.scan=[])
 oo:∀ r∈H.od,(0≤r.o∧r.o<H.ob.length)∧r.ts.length≤300∧∀ t∈r.ts,0≤t∧t<H.tr.length
 mo:∀ r∈H.ma,((0≤r.p∧r.p<H.pr.length)∧(0≤r.o∧r.o<H.ob.length))∧r.ts.length≤300∧∀ t∈r.ts,0≤t∧t<H.tr.length
 wo:∀ r∈H.wa,0≤r.s∧r.s<H.se.length
section
variable {H : Hist} {e : EvP} {r i k : Nat} {l : List EvP} {t x : Int}
theorem toldZ {t k:Int} (h:toldB t k=true):(k=0∧t=0)∨(0<k∧k≤999):=by
 unfold toldB at h
 split at h
 ·rename_i h0
  exact .inl ⟨h0,by simpa using h⟩
 right
 simpa using h
theorem inZ (h:rightW H=true):InZ H:=by
 unfold rightW at h
 rw[Bool.and_eq_true] at h
 obtain⟨hl,hr⟩:=h
 obtain⟨⟨a1,a2,a3,a4⟩,⟨b1,b2,b3,b4⟩,c1,c2⟩:=limB_iff.1 hl
 have hs:=right_shaped hr
 have hin:∀ s n,(s,n)∈refs H→0≤n∧n<H.many s:=fun s n hp=>shaped_in hs hp
 have hev:∀ e∈H.ev,∀ p∈refsE e,p∈refs H:=fun e he p hp=>List.mem_append_left _ (List.mem_flatMap.2 ⟨e,he,hp⟩)
 have hsn:∀ e∈H.ev,∀ s∈ruSeen e,toldB s.t s.k=true→(0≤s.o∧s.o<H.ob.length)∧(0≤s.t∧s.t≤300)∧0≤s.k∧s.k≤999:=fun e he s hse ht=>by
  have hre:=refs_seen (shaped_ev hs he) hse
  have h1:0≤s.o∧s.o<H.many 2:=hin 2 s.o (hev e he _ (hre _ (by unfold refsS;simp)))
  refine⟨h1,?_⟩
  rcases toldZ ht with ⟨h0,h2⟩ | h2
  ·omega
  have h3:0≤s.t∧s.t<H.many 0:=hin 0 s.t (hev e he _ (hre _ (by unfold refsS refsV;rw[if_neg (by omega)];simp)))
  have h4:H.many 0=H.tr.length:=rfl
  omega
 refine⟨a1,a2,a3,a4,b1,b2,b3,b4,fun e he=>hin 0 e.t (refs_t he),fun e he hk=>hin 1 e.s (hev e he _ (by unfold refsE refsK;simp[hk])),fun e he hk=>?_,fun e he s hse=>?_,fun e he=>⟨fine_len (shaped_ev hs he),fun h4=>fine_scan (shaped_ev hs he) h4⟩,fun r hr=>?_,fun r hr=>?_,fun r hr=>?_⟩
 ·have hm:=fine_may (shaped_ev hs he)
  unfold mayE at hm
  rw[if_neg (by omega),if_pos hk,Bool.and_eq_true,Bool.and_eq_true,decide_eq_true_eq,decide_eq_true_eq] at hm
  have h0:=hin 0 e.t (refs_t he)
  have h2:0≤e.o∧e.o<H.many 2:=hin 2 e.o (hev e he _ (by unfold refsE refsK;simp[hk]))
  refine⟨h2,?_,?_⟩
  ·rw[hm.1.1]
   exact h0
  rcases toldZ hm.2 with h3 | h3<;>omega
 ·refine hsn e he s hse ?_
  have hm:=fine_may (shaped_ev hs he)
  unfold mayE at hm
  unfold ruSeen at hse
  by_cases h3:e.kd=3
  ·rw[if_pos h3] at hse
   simp only[List.mem_singleton] at hse
   subst hse
   rw[if_neg (by omega),if_neg (by omega),if_pos h3] at hm
   exact hm
  rw[if_neg h3] at hse
  have h4:e.kd=4:=Classical.byContradiction fun h4=>by rw[fine_scan (shaped_ev hs he) h4] at hse;cases hse
  rw[if_neg (by omega),if_neg (by omega),if_neg h3,if_pos h4,Bool.and_eq_true,List.all_eq_true] at hm
  exact hm.2 s hse
 ·have hp:∀ p∈refsO r,p∈refs H:=fun p hp=>List.mem_append_right _ (List.mem_append_left _ (List.mem_flatMap.2 ⟨r,hr,hp⟩))
  exact⟨hin 2 r.o (hp _ (by unfold refsO;simp)),c1 r hr,fun t ht=>hin 0 t (hp _ (by unfold refsO refsT;simp[ht]))⟩
 ·have hp:∀ p∈refsM r,p∈refs H:=fun p hp=>List.mem_append_right _ (List.mem_append_right _ (List.mem_append_left _ (List.mem_flatMap.2 ⟨r,hr,hp⟩)))
  exact⟨⟨hin 3 r.p (hp _ (by unfold refsM;simp)),hin 2 r.o (hp _ (by unfold refsM;simp))⟩,c2 r hr,fun t ht=>hin 0 t (hp _ (by unfold refsM refsT;simp[ht]))⟩
 exact hin 1 r.s (List.mem_append_right _ (List.mem_append_right _ (List.mem_append_right _ (List.mem_flatMap.2 ⟨r,hr,by unfold refsW;simp⟩))))
def bsZ (f:Nat→Bool) (n:Nat):List Bool:=(List.range n).map f
theorem bsZ_len (f:Nat→Bool) (n:Nat):(bsZ f n).length=n:=by simp[bsZ]
theorem bsZ_get {f:Nat→Bool} {n u:Nat} (h:u<n):(bsZ f n)[u]?=some (f u):=by simp[bsZ,h]
theorem bsZ_none (n:Nat):List.replicate n false=bsZ (fun _=>false) n:=by
 unfold bsZ
 refine List.ext_getElem (by simp) fun i h1 h2=>by simp
theorem bsZ_ext {f g:Nat→Bool} {n:Nat} (h:∀ u,u<n→f u=g u):bsZ f n=bsZ g n:=by
 unfold bsZ
 exact List.map_congr_left fun u hu=>h u (by simpa using hu)
theorem bsZ_set {f g:Nat→Bool} {n tn:Nat} {b:Bool} (hb:g tn=b) (h:∀ u,u<n→u≠tn→g u=f u):(bsZ f n).set tn b=bsZ g n:=by
 refine List.ext_getElem? fun i=>?_
 by_cases hi:i<n
 ·rw[bsZ_get hi,List.getElem?_set]
  by_cases e1:tn=i
  ·subst e1
   rw[if_pos rfl,if_pos (by rw[bsZ_len];exact hi),hb]
  rw[if_neg e1,bsZ_get hi,h i hi (fun h=>e1 h.symm)]
 rw[List.getElem?_eq_none (by rw[List.length_set,bsZ_len];omega),List.getElem?_eq_none (by rw[bsZ_len];omega)]
theorem brkZ_ev (h1:1≤r) (h6:r≤6) (he:H.ev[i]?=some e):ruBrk H r i=ruEv r e (H.ev.take i):=by
 unfold ruBrk ruEvs
 rw[if_neg (by omega),if_neg (by omega),if_neg (by omega),if_neg (by omega),he]
theorem manyZ_ev (h1:1≤r) (h6:r≤6):ruMany H r=H.ev.length:=by
 unfold ruMany
 rw[if_neg (by omega),if_neg (by omega),if_neg (by omega),if_neg (by omega)]
theorem takeZ {α:Type} {l:List α} {k:Nat} {e:α} (h:l[k]?=some e):l.take (k+1)=l.take k++[e]:=by rw[List.take_add_one,h];rfl
theorem begZ_next (h:l[k]?=some e):ruBegun (l.take (k+1)) t=(ruBegun (l.take k) t || (decide (e.t=t)&&decide (e.kd=1))):=by
 unfold ruBegun
 rw[takeZ h,List.any_append]
 simp
theorem ovrZ_next (h:l[k]?=some e):ruOver (l.take (k+1)) t=(ruOver (l.take k) t || (decide (e.t=t)&&(decide (e.kd=5) || decide (e.kd=6)))):=by
 unfold ruOver
 rw[takeZ h,List.any_append]
 simp
def wsZ (l:List EvP):List (Int × Int):=(l.filter fun e=>decide (e.kd=2)).map fun e=>(e.t,e.o)
theorem wsZ_yes (h:l[k]?=some e) (hk:e.kd=2):wsZ (l.take (k+1))=wsZ (l.take k)++[(e.t,e.o)]:=by
 unfold wsZ
 rw[takeZ h,List.filter_append,List.map_append]
 simp[hk]
theorem wsZ_no (h:l[k]?=some e) (hk:e.kd≠2):wsZ (l.take (k+1))=wsZ (l.take k):=by
 unfold wsZ
 rw[takeZ h,List.filter_append,List.map_append]
 simp[hk]
theorem wsZ_len (l:List EvP):(wsZ l).length≤l.length:=by
 unfold wsZ
 rw[List.length_map]
 exact List.length_filter_le _ _
theorem wsZ_count (l:List EvP) (t x:Int):(wsZ l).count (t,x)=(ruWs l t x).length:=by
 unfold wsZ ruWs
 induction l with
 | nil=>rfl
 | cons e l ih =>
  rw[List.filter_cons,List.filter_cons]
  by_cases h2:e.kd=2
  ·rw[if_pos (by simpa using h2),List.map_cons,List.count_cons,ih]
   unfold ruW
   by_cases h3:e.t=t<;>by_cases h4:e.o=x<;>simp[h2,h3,h4]
  rw[if_neg (by simpa using h2),ih]
  unfold ruW
  simp[h2]
def snZ (l:List EvP):List (Int × Int × Int):=(l.filter fun e=>decide (e.kd=2)).map fun e=>(e.o,e.vt,e.vk)
theorem snZ_yes (h:l[k]?=some e) (hk:e.kd=2):snZ (l.take (k+1))=snZ (l.take k)++[(e.o,e.vt,e.vk)]:=by
 unfold snZ
 rw[takeZ h,List.filter_append,List.map_append]
 simp[hk]
theorem snZ_no (h:l[k]?=some e) (hk:e.kd≠2):snZ (l.take (k+1))=snZ (l.take k):=by
 unfold snZ
 rw[takeZ h,List.filter_append,List.map_append]
 simp[hk]
theorem snZ_len (l:List EvP):(snZ l).length≤l.length:=by
 unfold snZ
 rw[List.length_map]
 exact List.length_filter_le _ _
theorem snZ_mem (l:List EvP) (s:SeenP):(s.o,s.t,s.k)∈snZ l↔l.any (ruIs s)=true:=by
 unfold snZ ruIs
 simp only[List.mem_map,List.mem_filter,List.any_eq_true,Bool.and_eq_true,decide_eq_true_eq,Prod.mk.injEq]
 constructor
 ·rintro⟨e,⟨h1,h2⟩,h3,h4,h5⟩
  exact⟨e,h1,h2,h3,h4,h5⟩
 rintro⟨e,h1,h2,h3,h4,h5⟩
 exact⟨e,⟨h1,h2⟩,h3,h4,h5⟩
def thZ (l:List EvP) (s:SeenP):Bool:=decide (0<s.k)&&decide (((snZ l).count (s.o,s.t,s.k):Nat)=0)
theorem thZ_is {s:SeenP} (hk:0≤s.k):thZ l s=!ruThere l s:=by
 unfold thZ ruThere
 rw[Bool.eq_iff_iff]
 simp only[Bool.and_eq_true,decide_eq_true_eq,Bool.not_eq_true',Bool.or_eq_false_iff,decide_eq_false_iff_not,List.count_eq_zero,snZ_mem,Bool.not_eq_true]
 constructor
 ·rintro⟨h1,h2⟩
  exact⟨by omega,h2⟩
 rintro⟨h1,h2⟩
 exact⟨by omega,h2⟩
theorem seenZ_write (hs:e.kd≠4→e.scan=[]) (hk:e.kd=2):ruSeen e=[]:=by
 unfold ruSeen
 rw[if_neg (by omega),hs (by omega)]
theorem ruWs_yes (h:l[k]?=some e) (hw:ruW t x e=true):ruWs (l.take (k+1)) t x=ruWs (l.take k) t x++[e]:=by
 unfold ruWs
 rw[takeZ h,List.filter_append]
 simp[hw]
theorem ruWs_no (h:l[k]?=some e) (hw:ruW t x e=false):ruWs (l.take (k+1)) t x=ruWs (l.take k) t x:=by
 unfold ruWs
 rw[takeZ h,List.filter_append]
 simp[hw]
def lasZ (l:List EvP) (p:Int × Int):Option (Int × Int):=((ruWs l p.1 p.2).getLast?).map fun y=>(y.vt,y.vk)
theorem lasZ_yes (h:l[k]?=some e) (hk:e.kd=2) (p:Int × Int):lasZ (l.take (k+1)) p=if p=(e.t,e.o) then some (e.vt,e.vk) else lasZ (l.take k) p:=by
 obtain⟨t,x⟩:=p
 unfold lasZ
 by_cases hp:(t,x)=(e.t,e.o)
 ·rw[if_pos hp]
  injection hp with h1 h2
  rw[ruWs_yes h (by unfold ruW;simp[hk,h1,h2])]
  simp
 rw[if_neg hp,ruWs_no h]
 unfold ruW
 rw[Bool.eq_false_iff]
 intro h2
 simp only[Bool.and_eq_true,decide_eq_true_eq] at h2
 exact hp (by rw[h2.2.1,h2.2.2])
theorem lasZ_no (h:l[k]?=some e) (hk:e.kd≠2) (p:Int × Int):lasZ (l.take (k+1)) p=lasZ (l.take k) p:=by
 unfold lasZ
 rw[ruWs_no h (by unfold ruW;simp[hk])]
def ownZ (l:List EvP) (t:Int) (s:SeenP):Bool:=match lasZ l (t,s.o) with
 | none=>false
 | some v=>!decide (s.t=v.1∧s.k=v.2)
theorem ownZ_is {s:SeenP}:ownZ l t s=ruOwn l t s:=by
 unfold ownZ ruOwn lasZ
 simp only
 cases (ruWs l t s.o).getLast? with
 | none=>rfl
 | some y =>
  simp only[Option.map_some]
  congr 2
  simp only[eq_comm]
def namZ (S:List SeenP) (j:Nat):Bool:=match S[j]? with
 | none=>false
 | some s=>(S.take j).any fun a=>decide (a.o=s.o)
theorem namZ_is (S:List SeenP):((List.range S.length).find? (namZ S)).isSome=!decide (S.map (·.o)).Nodup:=by
 rw[Bool.eq_iff_iff,List.find?_isSome,Bool.not_eq_true',decide_eq_false_iff_not]
 constructor
 ·rintro⟨j,_,hj⟩ hn
  unfold namZ at hj
  cases hs:S[j]? with
  | none=>rw[hs] at hj;cases hj
  | some s =>
   rw[hs] at hj
   obtain⟨a,ha,hao⟩:=List.any_eq_true.1 hj
   obtain⟨i,hi,rfl⟩:=List.mem_iff_getElem.1 ha
   rw[List.getElem_take] at hao
   have hjl:=(List.getElem?_eq_some_iff.1 hs).1
   have hij:i<j:=by simp at hi;omega
   have h1:(S.map (·.o))[i]?=(S.map (·.o))[j]?:=by
    rw[List.getElem?_map,List.getElem?_map,hs,List.getElem?_eq_getElem (by omega)]
    simpa using hao
   have:=(List.getElem?_inj (by simp;omega) hn).1 h1
   omega
 intro hn
 apply Classical.byContradiction
 intro hno
 apply hn
 have key:∀ j,j≤S.length→((S.take j).map (·.o)).Nodup:=by
  intro j
  induction j with
  | zero=>intro _;simp
  | succ j ih =>
   intro hj
   have hs:S[j]?=some S[j]:=List.getElem?_eq_getElem (by omega)
   rw[takeZ hs,List.map_append,List.map_singleton,List.nodup_append]
   refine⟨ih (by omega),by simp,fun a ha b hb hab=>hno ⟨j,by simp;omega,?_⟩⟩
   simp at hb
   obtain⟨c,hc,hco⟩:=List.mem_map.1 ha
   unfold namZ
   rw[hs]
   exact List.any_eq_true.2 ⟨c,hc,by simp only[decide_eq_true_eq];rw[hco,hab,hb]⟩
 have:=key S.length (Nat.le_refl _)
 rwa [List.take_length] at this
theorem containsZ {S:List SeenP} {q:SeenP→Bool} {p:Nat→Bool} (h:∀ j s,S[j]?=some s→p j=q s):((List.range S.length).find? p).isSome=S.any q:=by
 rw[Bool.eq_iff_iff,List.find?_isSome,List.any_eq_true]
 constructor
 ·rintro⟨j,hj,hp⟩
  have hj2:j<S.length:=by simpa using hj
  exact⟨S[j],List.getElem_mem hj2,by rw[← h j _ (List.getElem?_eq_getElem hj2)];exact hp⟩
 rintro⟨s,hs,hq⟩
 obtain⟨j,hj,rfl⟩:=List.mem_iff_getElem.1 hs
 exact⟨j,by simpa using hj,by rw[h j _ (List.getElem?_eq_getElem hj)];exact hq⟩
theorem some_iffZ {a b:List Int}:ruSome a b=true↔a.Nodup∧∀ t∈a,t∈b:=by unfold ruSome;simp
theorem lenZ_le:∀ {a b:List Int},a.Nodup→(∀ t∈a,t∈b)→a.length≤b.length
 | [],_,_,_=>Nat.zero_le _
 | x :: a,b,h,hs=>by
  have hx:=hs x (by simp)
  have hn:=List.nodup_cons.1 h
  have:=lenZ_le (b:=b.erase x) hn.2 fun t ht=>(List.mem_erase_of_ne fun e=>hn.1 (by rw[← e];exact ht)).2 (hs t (by simp[ht]))
  rw[List.length_erase_of_mem hx] at this
  have:=List.length_pos_of_mem hx
  rw[List.length_cons]
  omega
theorem ordZ_same {a w:List Int} (hw:w.Nodup):(!decide (a.length=w.length) || !ruSome a w)=(!ruSome a w || !ruSome w a):=by
 cases h1:ruSome a w
 ·simp
 have ha:=some_iffZ.1 h1
 have:decide (a.length=w.length)=ruSome w a:=by
  rw[Bool.eq_iff_iff,decide_eq_true_eq,some_iffZ]
  constructor
  ·intro hl
   refine⟨hw,fun t ht=>?_⟩
   apply Classical.byContradiction
   intro hta
   have:=lenZ_le (b:=w.erase t) ha.1 fun u hu=>(List.mem_erase_of_ne fun e=>hta (by rw[← e];exact hu)).2 (ha.2 u hu)
   rw[List.length_erase_of_mem ht] at this
   have:=List.length_pos_of_mem ht
   omega
  rintro⟨_,h⟩
  exact Nat.le_antisymm (lenZ_le ha.1 ha.2) (lenZ_le hw h)
 rw[this]
 simp
theorem wr_nodupZ (x:Int):(ruWriters H x).Nodup:=(upI_nodup _).filter _
theorem wr_inZ {u:Int} (h:u∈ruWriters H x):0≤u∧u<H.tr.length:=(writers_in.1 h).1
def lefZ (H:Hist) (k:Nat) (x:Int):List Int:=if (H.od.take k).any (fun r=>decide (r.o=x)) then [] else ruWriters H x
theorem misZ_is:ruMis H x=decide (1<(lefZ H H.od.length x).length):=by
 unfold ruMis lefZ
 rw[List.take_length]
 cases H.od.any fun r=>decide (r.o=x)
 ·simp;rfl
 simp
theorem wanZ_next (h:l[k]?=some e):((l.take (k+1)).any fun e=>decide (e.kd=1)&&decide (e.s=t))=(((l.take k).any fun e=>decide (e.kd=1)&&decide (e.s=t)) || (decide (e.kd=1)&&decide (e.s=t))):=by
 rw[takeZ h,List.any_append]
 simp
end
def okX (H:Hist):Bool:=limB H&&ruSound H
section
variable {H : Hist} {t x : Int} {i n : Nat}
theorem okX_iff:okX H=true↔rightW H=true∧ruSound H=true:=by
 unfold okX rightW ruSound
 simp only[Bool.and_eq_true]
 exact⟨fun h=>⟨⟨h.1,h.2.1⟩,h.2⟩,fun h=>⟨h.1.1,h.2⟩⟩
end
section
variable {H : Hist} {s : Int} {k : Nat} {e : EvP}
end
end Go.Proofs.YtmkknbonmameoaaGreatDoor
