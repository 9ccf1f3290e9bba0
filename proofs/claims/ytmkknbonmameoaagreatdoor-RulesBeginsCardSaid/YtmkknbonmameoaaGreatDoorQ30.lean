import Derived.Test.YtmkknbonmameoaaGreatDoorQ5
import Derived.Lay
import Derived.WideKeyEntry
import Derived.DeepKeys4
import Derived.Maps.Own
import Derived.Maps.OwnSet
import Derived.Maps.OwnOps
import Derived.Maps.OwnIn
import Derived.Test.YtmkknbonmameoaaGreatDoorQ29
import Derived.Test.YtmkknbonmameoaaGreatDoorQ17
-- holds: YtmkknbonmameoaaGreatDoorHIzc YtmkknbonmameoaaGreatDoorHIzd YtmkknbonmameoaaGreatDoorHJa YtmkknbonmameoaaGreatDoorHAh
namespace Go.Proofs.YtmkknbonmameoaaGreatDoor
open Go.RowKit Go.Shelf Go.Maps Go.WideElems Go.ChangeShapes Go.WideShapes
theorem laidN:laidOutB Tryz.prog=true:=by kernel_rfl
theorem nameLaw:WideMaps.KeyLaw Tryz.prog 101:=deep_law_laid laidN (m:=2) (by omega) (of_decide_eq_true (by kernel_rfl)) (by kernel_rfl) (by kernel_rfl)
theorem nameKeyed:Keyed Tryz.prog 101:=Keyed.of_law nameLaw
def keyN (s:Nat) (n:Int):Lit:=.string (keyBytes [.int .i64 (s:Int),.int .i64 n])
def agN (s:Nat) (n:Int):Value:=.agg #[.int .i64 (s:Int),.int .i64 n]
theorem lits_nm (m:Nat) (x y:Value):Tryz.prog.keyLits (m+1+1) 101 [x,y]=(Tryz.prog.keyLits (m+1) 3 [x]).bind fun a=>(Tryz.prog.keyLits (m+1) 3 [y]).map fun b=>a++b:=by
 conv=>lhs;unfold Program.keyLits
 simp only[Tryz.underlying101]
 rw[if_pos ⟨by show 2=_;kernel_rfl,by kernel_rfl⟩,List.mapM_cons,List.mapM_cons,List.mapM_nil]
 have c:Tryz.prog.cellsOf 3=1:=by kernel_rfl
 simp only[c,List.drop_zero,List.take_succ_cons,List.take_zero,List.drop_succ_cons,List.drop_zero]
 cases Tryz.prog.keyLits (m+1) 3 [x]<;>cases Tryz.prog.keyLits (m+1) 3 [y]<;>simp
set_option maxRecDepth 100000 in
theorem keyOf_nm (s:Nat) (n:Int) (h1:(Lit.int .i64 (s:Int)).wf=true) (h2:(Lit.int .i64 n).wf=true):keyOf Tryz.prog 101 (agN s n)=some (keyN s n):=by
 have hk:Tryz.prog.keyType 101=true:=by kernel_rfl
 have hc:Tryz.prog.cellsOf 101=2:=by kernel_rfl
 obtain⟨m,hm⟩:∃ m,Tryz.prog.types.size=m+1:=⟨Tryz.prog.types.size - 1,by decide⟩
 unfold keyOf agN
 simp only[Tryz.underlying101]
 rw[if_pos (by simp[hk,Value.formed,Tryz.underlying101,hc]),hm]
 simp only[Value.cells]
 rw[lits_nm]
 simp[Program.keyLits,Tryz.underlying3,h1,h2,keyN]
def okN (p:Nat × Int):Prop:=p.1<4∧0≤p.2∧p.2<100
theorem wf_small {a:Int} (h:0≤a∧a<100):(Lit.int .i64 a).wf=true:=WalkArith.wf_i64 (by omega)
theorem keyOf_ok {p:Nat × Int} (h:okN p):keyOf Tryz.prog 101 (agN p.1 p.2)=some (keyN p.1 p.2) :=
 keyOf_nm _ _ (wf_small ⟨by omega,by have:=h.1;omega⟩) (wf_small h.2)
theorem keyN_ne {p q:Nat × Int} (hp:okN p) (hq:okN q) (h:p≠q):keyN p.1 p.2≠keyN q.1 q.2:=fun e=>by
 have h1:=keyOf_ok hp
 have h2:=keyOf_ok hq
 rw[e] at h1
 have:=nameKeyed.inj h1 h2
 unfold agN at this
 injection this with this
 apply h
 simp at this
 exact Prod.ext (by omega) this.2
structure MapN (D:DataW Unit) (R:List (Nat × Int)):Prop where
 isMap:IsMap D
 at_:∀ (p:Nat × Int) (zd:DataW Unit),okN p→D.atKey (keyN p.1 p.2) zd=if p∈R then .lit (.int .i64 (idxI (spk p.1 R) p.2:Int)) else zd
theorem MapN.none_:MapN (.map []) []:=⟨⟨[],rfl⟩,fun s zd _=>by rw[if_neg (by simp)];rfl⟩
section
variable {D : DataW Unit} {R : List (Nat × Int)} {p : Nat × Int}
theorem MapN.has (h:MapN D R) (hp:okN p):Maps.has D (keyN p.1 p.2)=decide (p∈R):=by
 by_cases hs:p∈R
 ·rw[has_true_of_atKey (y:=.lit (.int .i64 (idxI (spk p.1 R) p.2:Int))) (fun zd=>by rw[h.at_ p zd hp,if_pos hs]),decide_eq_true hs]
 rw[has_false_of_atKey (fun zd=>by rw[h.at_ p zd hp,if_neg hs]),decide_eq_false hs]
theorem MapN.old (h:MapN D R) (hs:p∈R):MapN D (R++[p]):=by
 have e:∀ q,spk q (R++[p])=spk q R:=fun q=>by
  obtain⟨s,n⟩:=p
  rw[spk_snoc]
  split
  ·rename_i hq
   subst hq
   exact addI_in (mem_spk.2 hs)
  rfl
 refine⟨h.isMap,fun q zd hq=>?_⟩
 rw[h.at_ q zd hq,e]
 by_cases hq2:q∈R
 ·rw[if_pos hq2,if_pos (by simp[hq2])]
 rw[if_neg hq2,if_neg (by
  rw[List.mem_append]
  rintro (h1 | h1)
  ·exact hq2 h1
  ·simp at h1
   subst h1
   exact hq2 hs)]
theorem MapN.put (h:MapN D R) (hp:okN p) (hs:p ∉ R):MapN (D.put (keyN p.1 p.2) (.lit (.int .i64 ((spk p.1 R).length:Int)))) (R++[p]):=by
 obtain⟨s,n⟩:=p
 have hout:n ∉ spk s R:=fun hm=>hs (mem_spk.1 hm)
 refine⟨h.isMap.put _ _,fun q zd hq=>?_⟩
 by_cases e:q=(s,n)
 ·subst e
  rw[atKey_put_same h.isMap (show WideAt.IsKeyLit (keyN s n) from trivial),if_pos (by simp),spk_snoc,if_pos rfl,addI_out hout,idxI_new hout]
 rw[atKey_put_other (keyN_ne hq hp e),h.at_ q zd hq]
 by_cases hq2:q∈R
 ·rw[if_pos hq2,if_pos (by simp[hq2]),spk_snoc]
  obtain⟨q1,q2⟩:=q
  split
  ·rename_i hqs
   simp only at hqs
   subst hqs
   rw[addI_out hout,idxI_more _ (mem_spk.2 hq2)]
  rfl
 rw[if_neg hq2,if_neg (by simp[hq2,e])]
end
structure NumMap (Bn M:Nat) (R:List (Nat × Int)) (W:World):Prop where
 box:Blk W Bn 99 #[.map (some M)]
 map:∃ D,W.ownsMap (H:=Unit) Tryz.prog 101 (plainElem Tryz.prog 3) M R.length D∧MapN D R
section
variable {Bn M : Nat} {R : List (Nat × Int)} {W W' : World}
theorem map_blockN {k:Nat} {D:DataW Unit} (h:W.ownsMap (H:=Unit) Tryz.prog 101 (plainElem Tryz.prog 3) M k D) (hb:W'.heap[M]?=W.heap[M]?):W'.ownsMap (H:=Unit) Tryz.prog 101 (plainElem Tryz.prog 3) M k D:=by
 obtain⟨es,clock,h1,r⟩:=h
 exact⟨es,clock,hb.trans h1,r⟩
theorem NumMap.lt (h:NumMap Bn M R W):Bn<W.heap.size∧M<W.heap.size:=by
 obtain⟨D,h1,_⟩:=h.map
 exact⟨h.box.lt,h1.lt⟩
theorem NumMap.obj (h:NumMap Bn M R W):∃ es clock,W.heap[M]?=some (.map es clock):=by
 obtain⟨D,h1,_⟩:=h.map
 obtain⟨es,clock,hm,_⟩:=h1
 exact⟨es,clock,hm⟩
theorem NumMap.blk_ne (h:NumMap Bn M R W) {g:Nat} {t:TypeId} {cs:Array Value} (hb:Blk W g t cs):g≠M:=fun e=>by
 obtain⟨es,clock,hm⟩:=h.obj
 unfold Blk at hb
 rw[e,hm] at hb
 cases hb
theorem NumMap.keep {S:Nat→Prop} (h:NumMap Bn M R W) (hk:Keep S W W') (h1:S Bn) (h2:S M):NumMap Bn M R W':=by
 obtain⟨D,hd,hi⟩:=h.map
 exact⟨hk.blk h.box h1,D,map_blockN hd (hk.block M hd.lt h2),hi⟩
theorem NumMap.on (h:NumMap Bn M R W) (hb:Below W.heap.size W W'):NumMap Bn M R W':=h.keep (Keep.of_all (fun _=>True) hb) trivial trivial
theorem NumMap.keepT {t:TypeId} (h:NumMap Bn M R W) (hk:KeepT t W W') (hne:99≠t):NumMap Bn M R W':=by
 obtain⟨D,hd,hi⟩:=h.map
 refine⟨hk.blk h.box hne,D,map_blockN hd (hk.block M hd.lt fun cs hb=>?_),hi⟩
 exact h.blk_ne hb rfl
theorem NumMap.calm {B:Nat} (h:NumMap Bn M R W) (hc:Calm B W W'):NumMap Bn M R W':=by
 obtain⟨D,hd,hi⟩:=h.map
 refine⟨hc.blk h.box,D,map_blockN hd (hc.block M hd.lt (.inr fun o ho hs=>?_)),hi⟩
 obtain⟨es,clock,hm⟩:=h.obj
 rw[hm] at ho
 injection ho with ho
 subst ho
 exact hs
end
theorem zeroIntN (w:World):(zeroValue 3).run Tryz.prog w=.ok (.int .i64 0) w:=by kernel_rfl
theorem sh_eq {a b:SH} (h:a.A=b.A∧a.n=b.n∧a.c=b.c):a=b:=by
 obtain⟨_,_,_⟩:=a
 obtain⟨_,_,_⟩:=b
 simp only at h
 rw[h.1,h.2.1,h.2.2]
structure NumI (w:World) (m n0:HistM) (B5 B6 B7 Bn M k q r:Nat) (X:World) (h:HistM):Prop where
 below:Below w.heap.size w X
 bh:Blk X w.heap.size 28 m.cs
 br:Blk X (w.heap.size+1) 28 zeroH
 b5:Blk X B5 28 h.cs
 b6:Blk X B6 95 #[.pointer (some ⟨w.heap.size,0,none⟩),.pointer (some ⟨w.heap.size,1,none⟩),.pointer (some ⟨w.heap.size,2,none⟩),.pointer (some ⟨w.heap.size,3,none⟩)]
 b7:Blk X B7 95 #[.pointer (some ⟨B5,0,none⟩),.pointer (some ⟨B5,1,none⟩),.pointer (some ⟨B5,2,none⟩),.pointer (some ⟨B5,3,none⟩)]
 map:NumMap Bn M ((refs m.pl).take q) X
 own:HOwn w.heap.size X h
 nms:∀ s,s<4→(h.sort s).2=namedN (m.pl.names s) (spk s ((refs m.pl).take r))
 rf:refs h.pl=((refs m.pl).take k).map (reP (anewI (refs m.pl)))++(refs m.pl).drop k
 sk:(reH z0 h.pl).ev=(reH z0 m.pl).ev∧(reH z0 h.pl).od=(reH z0 m.pl).od∧(reH z0 h.pl).ma=(reH z0 m.pl).ma∧(reH z0 h.pl).wa=(reH z0 m.pl).wa
 pl:plcs h=plcs n0
 ne:w.heap.size+1<B5∧w.heap.size≤M
 hd:(h.ev.1=n0.ev.1∧h.od.1=n0.od.1∧h.ma.1=n0.ma.1∧h.wa.1=n0.wa.1)∧h.ev.2.map (·.2)=n0.ev.2.map (·.2)∧h.od.2.map (·.2)=n0.od.2.map (·.2)∧h.ma.2.map (·.2)=n0.ma.2.map (·.2)
section
variable {w X Y : World} {m n0 h h' : HistM} {s : Nat} {v : Int} {a : Addr} {B5 B6 B7 Bn M k q r : Nat}
theorem NumI.on (c:NumI w m n0 B5 B6 B7 Bn M k q r X h) (hb:Below X.heap.size X Y):NumI w m n0 B5 B6 B7 Bn M k q r Y h :=
 ⟨c.below.trans (hb.mono c.below.size),c.bh.below hb c.bh.lt,c.br.below hb c.br.lt,c.b5.below hb c.b5.lt,c.b6.below hb c.b6.lt,c.b7.below hb c.b7.lt,c.map.on hb,c.own.on hb,c.nms,c.rf,c.sk,c.pl,c.ne,c.hd⟩
theorem HOwn.calm {B C:Nat} (h:HOwn B X n0) (hc:Calm C X Y):HOwn B Y n0 :=
 ⟨⟨fun i p hp=>hc.own (h.nm.own i p hp),h.nm.nd⟩,hc.own h.ev,hc.own h.od,hc.own h.ma,hc.own h.wa,⟨fun i p hp=>hc.own (h.sc.own i p hp),h.sc.nd⟩,⟨fun i p hp=>hc.own (h.it.own i p hp),h.it.nd⟩⟩
theorem NumI.calm {B:Nat} (c:NumI w m n0 B5 B6 B7 Bn M k q r X h) (hc:Calm B X Y) (hB:w.heap.size≤B):NumI w m n0 B5 B6 B7 Bn M k q r Y h :=
 ⟨c.below.trans (Keep.below hc c.below.size fun k hk=>.inl (by omega)),hc.blk c.bh,hc.blk c.br,hc.blk c.b5,hc.blk c.b6,hc.blk c.b7,c.map.calm hc,c.own.calm hc,c.nms,c.rf,c.sk,c.pl,c.ne,c.hd⟩
theorem NumI.here (c:NumI w m n0 B5 B6 B7 Bn M k q r X h) (hk:(plcs n0)[k]?=some (s,a)):∃ n,(refs m.pl)[k]?=some (s,n)∧X.cell? a=some (.int .i64 n):=by
 rw[← c.pl] at hk
 obtain⟨n,h1,h2⟩:=Lnk.at_ c.own.rd.lnk hk
 refine⟨n,?_,h2⟩
 have hkl:=(List.getElem?_eq_some_iff.1 h1).1
 rw[c.rf] at h1 hkl
 rw[List.length_append,List.length_map,List.length_take,List.length_drop] at hkl
 have hlt:k<(refs m.pl).length:=by omega
 rw[List.getElem?_append_right (by rw[List.length_map,List.length_take];omega),List.length_map,List.length_take,Nat.min_eq_left (by omega),Nat.sub_self,List.getElem?_drop] at h1
 simpa using h1
theorem NumI.done (c:NumI w m n0 B5 B6 B7 Bn M (refs m.pl).length (refs m.pl).length (refs m.pl).length X h):h.pl=numP m.pl:=by
 have hrf:=c.rf
 have hnm:=c.nms
 rw[List.take_length,List.drop_length,List.append_nil] at hrf
 rw[List.take_length] at hnm
 refine reH_inj ?_ (hrf.trans (refs_num m.pl).symm)
 have e:reH z0 (numP m.pl)={reH z0 (reH (anewI (refs m.pl)) m.pl) with tr:=namedN m.pl.tr (spk 0 (refs m.pl)),se:=namedN m.pl.se (spk 1 (refs m.pl)),ob:=namedN m.pl.ob (spk 2 (refs m.pl)),pr:=namedN m.pl.pr (spk 3 (refs m.pl))}:=rfl
 rw[e,reH_z]
 have h0:h.tr.2=namedN m.pl.tr (spk 0 (refs m.pl)):=hnm 0 (by omega)
 have h1:h.se.2=namedN m.pl.se (spk 1 (refs m.pl)):=hnm 1 (by omega)
 have h2:h.ob.2=namedN m.pl.ob (spk 2 (refs m.pl)):=hnm 2 (by omega)
 have h3:h.pr.2=namedN m.pl.pr (spk 3 (refs m.pl)):=hnm 3 (by omega)
 obtain⟨s1,s2,s3,s4⟩:=c.sk
 show Hist.mk h.tr.2 h.se.2 h.ob.2 h.pr.2 (reH z0 h.pl).ev (reH z0 h.pl).od (reH z0 h.pl).ma (reH z0 h.pl).wa=_
 rw[h0,h1,h2,h3,s1,s2,s3,s4]
theorem take_ref (hn:(refs m.pl)[k]?=some (s,v)):(refs m.pl).take (k+1)=(refs m.pl).take k++[(s,v)]:=by rw[List.take_add_one,hn];rfl
theorem anew_at (hn:(refs m.pl)[k]?=some (s,v)):anewI (refs m.pl) s v=(idxI (spk s ((refs m.pl).take (k+1))) v:Int):=by
 obtain⟨t,ht⟩:=spk_pre s ((refs m.pl).take (k+1)) ((refs m.pl).drop (k+1))
 rw[List.take_append_drop] at ht
 unfold anewI
 rw[ht,idxI_more t (mem_spk.2 (by rw[take_ref hn];simp))]
theorem anew_old (hn:(refs m.pl)[k]?=some (s,v)) (hm:(s,v)∈(refs m.pl).take k):anewI (refs m.pl) s v=(idxI (spk s ((refs m.pl).take k)) v:Int):=by
 rw[anew_at hn,take_ref hn,spk_snoc,if_pos rfl,addI_in (mem_spk.2 hm)]
theorem anew_new (hn:(refs m.pl)[k]?=some (s,v)) (hm:(s,v) ∉ (refs m.pl).take k):anewI (refs m.pl) s v=((spk s ((refs m.pl).take k)).length:Int):=by
 have ho:v ∉ spk s ((refs m.pl).take k):=fun h=>hm (mem_spk.1 h)
 rw[anew_at hn,take_ref hn,spk_snoc,if_pos rfl,addI_out ho,idxI_new ho]
theorem NumI.old (c:NumI w m n0 B5 B6 B7 Bn M k k k X h) (hn:(refs m.pl)[k]?=some (s,v)) (hm:(s,v)∈(refs m.pl).take k):NumI w m n0 B5 B6 B7 Bn M k (k+1) (k+1) X h:=by
 refine⟨c.below,c.bh,c.br,c.b5,c.b6,c.b7,?_,c.own,fun q hq=>?_,c.rf,c.sk,c.pl,c.ne,c.hd⟩
 ·rw[take_ref hn]
  obtain⟨D,hd,hi⟩:=c.map.map
  exact⟨c.map.box,D,hd.mono (by simp),hi.old hm⟩
 rw[take_ref hn,spk_snoc]
 split
 ·rename_i hq2
  subst hq2
  rw[addI_in (mem_spk.2 hm)]
  exact c.nms s hq
 exact c.nms q hq
theorem rowT_ne {t u:TypeId} (ht:rowT t=true) (hu:rowT u=false):u≠t:=by
 rintro rfl
 rw[hu] at ht
 cases ht
theorem rowT_fty {t:TypeId} (ht:rowT t=true):fty t=false:=by
 unfold rowT at ht
 simp only[Bool.or_eq_true] at ht
 rcases ht with h | h | h | h | h | h<;>(rw[Nat.eq_of_beq_eq_true h];rfl)
theorem NumI.put (c:NumI w m n0 B5 B6 B7 Bn M k (k+1) (k+1) X h) (hk:(plcs n0)[k]?=some (s,a)) (hn:(refs m.pl)[k]?=some (s,v)) :
 X.frozen? a=false∧Rk X (X.setCell a (.int .i64 (anewI (refs m.pl) s v)))∧∃ h',NumI w m n0 B5 B6 B7 Bn M (k+1) (k+1) (k+1) (X.setCell a (.int .i64 (anewI (refs m.pl) s v))) h':=by
 obtain⟨⟨g,j,t,cs,rfl,hg,hb,ht⟩,h',hp⟩:=put_place c.own (by rw[c.pl];exact hk) (anewI (refs m.pl) s v)
 have kt:=box_turn hb j (.int .i64 (anewI (refs m.pl) s v))
 refine⟨hb.frozen j,Rk.set hb ?_ j _,h',c.below.setCell (p:=⟨g,j,none⟩) hg _,kt.blk c.bh (rowT_ne ht (by decide)),kt.blk c.br (rowT_ne ht (by decide)),?_,kt.blk c.b6 (rowT_ne ht (by decide)),kt.blk c.b7 (rowT_ne ht (by decide)),c.map.keepT kt (rowT_ne ht (by decide)),hp.own,fun q hq=>?_,?_,?_,hp.pl.trans c.pl,c.ne,?_⟩
 ·exact rowT_fty ht
 ·rw[hp.cs]
  exact kt.blk c.b5 (rowT_ne ht (by decide))
 ·obtain⟨e1,e2,e3,e4⟩:=hp.nm
  have:h'.sort q=h.sort q:=by unfold HistM.sort;rw[e1,e2,e3,e4]
  rw[this]
  exact c.nms q hq
 ·rw[hp.rf,c.rf,take_ref hn]
  have hkl:=(List.getElem?_eq_some_iff.1 hn).1
  have hl:(((refs m.pl).take k).map (reP (anewI (refs m.pl)))).length=k:=by rw[List.length_map,List.length_take];omega
  have hd:(refs m.pl).drop k=(s,v) :: (refs m.pl).drop (k+1):=by
   rw[List.drop_eq_getElem_cons hkl]
   congr 1
   rw[List.getElem?_eq_getElem hkl] at hn
   injection hn
  have e:=set_app (a:=((refs m.pl).take k).map (reP (anewI (refs m.pl)))) (b:=(s,v) :: (refs m.pl).drop (k+1)) (k:=0) (v:=(s,anewI (refs m.pl) s v)) hl
  rw[show k+0=k from rfl,List.set_cons_zero] at e
  rw[hd,e,List.map_append,List.append_assoc]
  rfl
 ·rw[hp.sk]
  exact c.sk
 obtain⟨⟨a1,a2,a3,a4⟩,b1,b2,b3⟩:=c.hd
 obtain⟨d1,d2,d3⟩:=hp.hd
 have e:=hp.cs
 unfold HistM.cs at e
 simp only[Array.mk.injEq,List.cons.injEq,Value.slice.injEq,and_true] at e
 obtain⟨_,_,_,_,e4,e5,e6,e7⟩:=e
 refine⟨⟨?_,?_,?_,?_⟩,d1.trans b1,d2.trans b2,d3.trans b3⟩
 ·rw[← a1];exact sh_eq e4
 ·rw[← a2];exact sh_eq e5
 ·rw[← a3];exact sh_eq e6
 rw[← a4];exact sh_eq e7
theorem HOwn.keepS {S:Nat→Prop} {B:Nat} (h:HOwn B X n0) (hk:Keep S X Y) (hS:∀ g t cs,Blk X g t cs→S g):HOwn B Y n0:=by
 have o:∀ {t:TypeId} {s n:Nat} {v:Value} {xs:List Value},X.ownsRow B t s v n xs→Y.ownsRow B t s v n xs:=fun {t s n v xs} hr=>hk.own hr fun g hg=>by
  obtain⟨_,_,cur,hb⟩:=own_in hr hg
  exact hS g t cur hb
 exact⟨⟨fun i p hp=>o (h.nm.own i p hp),h.nm.nd⟩,o h.ev,o h.od,o h.ma,o h.wa,⟨fun i p hp=>o (h.sc.own i p hp),h.sc.nd⟩,⟨fun i p hp=>o (h.it.own i p hp),h.it.nd⟩⟩
theorem NumI.mapped (c:NumI w m n0 B5 B6 B7 Bn M k k k X h) (hn:(refs m.pl)[k]?=some (s,v)) (hp:okN (s,v)) (hm:(s,v) ∉ (refs m.pl).take k) {D:DataW Unit} (hi:MapN D ((refs m.pl).take k)) {len:Nat} (hl:len=((refs m.pl).take k).length)
 (hown:Y.ownsMap (H:=Unit) Tryz.prog 101 (plainElem Tryz.prog 3) M (len+1) (D.put (keyN s v) (.lit (.int .i64 ((spk s ((refs m.pl).take k)).length:Int))))) (hg:X.grownBy Y (some M)) :
 NumI w m n0 B5 B6 B7 Bn M k (k+1) k Y h∧Rk X Y:=by
 have hk:Keep (fun j=>j≠M) X Y:=(Keep.refl _ X).grown hg fun g hg=>.inr fun h=>h (by injection hg with hg;exact hg.symm)
 have hb:∀ {g:Nat} {t:TypeId} {cs:Array Value},Blk X g t cs→Blk Y g t cs:=fun hb=>hk.blk hb (c.map.blk_ne hb)
 refine⟨⟨c.below.trans (hk.below c.below.size fun j hj=>by have:=c.ne.2;omega),hb c.bh,hb c.br,hb c.b5,hb c.b6,hb c.b7,⟨hb c.map.box,D.put (keyN s v) (.lit (.int .i64 ((spk s ((refs m.pl).take k)).length:Int))),?_,?_⟩,c.own.keepS hk fun g t cs hb=>c.map.blk_ne hb,c.nms,c.rf,c.sk,c.pl,c.ne,c.hd⟩,?_⟩
 ·rw[take_ref hn,List.length_append,← hl]
  exact hown
 ·rw[take_ref hn]
  exact hi.put (p:=(s,v)) hp hm
 refine Rk.of_keep hk fun j o ho hf=>?_
 rintro rfl
 obtain⟨es,clock,hm2⟩:=c.map.obj
 rw[hm2] at ho
 injection ho with ho
 subst ho
 exact hf
theorem NumI.name {q:Nat} (c:NumI w m n0 B5 B6 B7 Bn M k q k X h) (hs:s<4) (hn:(refs m.pl)[k]?=some (s,v)) (hm:(s,v) ∉ (refs m.pl).take k) {x:ByteArray} (hx:x=(m.pl.names s).getD v.toNat ⟨#[]⟩) {A':Option Addr} {c':Nat}
 (ho:Y.ownsRow w.heap.size 9 1 (.slice A' ((h.sort s).1.n+1) c') ((h.sort s).1.n+1) (strs (h.sort s).2++strs [x])) (hg:X.grownBy Y (Value.slice (h.sort s).1.A (h.sort s).1.n (h.sort s).1.c).ownBlock)
 (hat:(Value.slice A' ((h.sort s).1.n+1) c').ownBlock=(Value.slice (h.sort s).1.A (h.sort s).1.n (h.sort s).1.c).ownBlock∨(Value.slice A' ((h.sort s).1.n+1) c').ownBlock=some X.heap.size) :
 (KeepT 9 X Y∧Blk Y B5 28 h.cs)∧NumI w m n0 B5 B6 B7 Bn M k q (k+1) (Y.setCell ⟨B5,s,none⟩ (.slice A' ((h.sort s).1.n+1) c')) (setSort h s (⟨A',(h.sort s).1.n+1,c'⟩,(h.sort s).2++[x])):=by
 have hold:=c.own.nm.own s _ (nms_at (h:=h) hs)
 have k1:KeepT 9 X Y:=KeepT.grown hold hg
 have b5Y:=k1.blk c.b5 (by decide)
 have k2:=box_turn b5Y s (.slice A' ((h.sort s).1.n+1) c')
 obtain⟨e1,e2,e3,e4⟩:=set_rest (h:=h) (x:=((⟨A',(h.sort s).1.n+1,c'⟩:SH),(h.sort s).2++[x])) hs
 have hnm:=c.own.nm.grow (nms_at (h:=h) hs) ho hg hat
 have hro:v ∉ spk s ((refs m.pl).take k):=fun h=>hm (mem_spk.1 h)
 refine⟨⟨k1,b5Y⟩,(c.below.grown hg c.below.size fun g hg2=>(own_in_block hold hg2).1).setCell (p:=⟨B5,s,none⟩) (by show w.heap.size≤B5;have:=c.ne.1;omega) _,(k1.blk c.bh (by decide)).far (p:=⟨B5,s,none⟩) (by show w.heap.size≠B5;have:=c.ne.1;omega) _,(k1.blk c.br (by decide)).far (p:=⟨B5,s,none⟩) (by show w.heap.size+1≠B5;have:=c.ne.1;omega) _,?_,k2.blk (k1.blk c.b6 (by decide)) (by decide),k2.blk (k1.blk c.b7 (by decide)) (by decide),(c.map.keepT k1 (by decide)).keepT k2 (by decide),⟨?_,?_,?_,?_,?_,?_,?_⟩,fun p hp=>?_,?_,?_,?_,c.ne,by rw[e1,e2,e3,e4];exact c.hd⟩
 ·rw[set_cs hs]
  exact b5Y.set_ s _
 ·show RG _ _ _ _ (setSort h s _).nms
  rw[set_nms hs]
  rw[← strs_append] at hnm
  exact hnm.keepT k2 (by decide)
 ·rw[e1];exact k2.own (k1.own c.own.ev (by decide)) (by decide)
 ·rw[e2];exact k2.own (k1.own c.own.od (by decide)) (by decide)
 ·rw[e3];exact k2.own (k1.own c.own.ma (by decide)) (by decide)
 ·rw[e4];exact k2.own (k1.own c.own.wa (by decide)) (by decide)
 ·rw[e1];exact (c.own.sc.keepT k1 (by decide)).keepT k2 (by decide)
 ·rw[e2,e3];exact (c.own.it.keepT k1 (by decide)).keepT k2 (by decide)
 ·rw[take_ref hn,spk_snoc]
  by_cases e:s=p
  ·subst e
   rw[if_pos rfl,set_sort hs,addI_out hro]
   show (h.sort s).2++[x]=_
   rw[c.nms s hs,hx]
   unfold namedN
   rw[List.map_append]
   rfl
  rw[if_neg e,set_other hs hp (Ne.symm e)]
  exact c.nms p hp
 ·rw[← c.rf]
  rw[refs_parts,refs_parts]
  unfold rEv rOd rMa rWa
  rw[e1,e2,e3,e4]
 ·have e5:∀ g:HistM,(reH z0 g.pl).ev=g.ev.2.map (fun p=>reE z0 p.1)∧(reH z0 g.pl).od=g.od.2.map (fun p=>reO z0 p.1)∧(reH z0 g.pl).ma=g.ma.2.map (fun p=>reM z0 p.1)∧(reH z0 g.pl).wa=g.wa.2.map (reW z0):=fun g=>by
   unfold reH HistM.pl
   simp only[List.map_map]
   exact⟨rfl,rfl,rfl,trivial⟩
  obtain⟨a1,a2,a3,a4⟩:=e5 (setSort h s (⟨A',(h.sort s).1.n+1,c'⟩,(h.sort s).2++[x]))
  obtain⟨b1,b2,b3,b4⟩:=e5 h
  rw[a1,a2,a3,a4,e1,e2,e3,e4,← b1,← b2,← b3,← b4]
  exact c.sk
 rw[← c.pl]
 unfold plcs
 rw[e1,e2,e3,e4]
theorem scan_ks (e:EvP):(reE z0 e).scan.map (·.k)=e.scan.map (·.k):=by
 by_cases h1:e.kd=1
 ·rw[reE_one h1]
 by_cases h2:e.kd=2∨e.kd=3
 ·rw[reE_two h2]
 by_cases h4:e.kd=4
 ·rw[reE_four h4]
  simp only[List.map_map]
  rfl
 rw[reE_end ⟨h1,h2,h4⟩]
theorem SkE.of {hd:SH} {i:Nat} {p p':EvP × SH} (h:SkE hd X i p') (h2:p'.2=p.2) (hz:reE z0 p'.1=reE z0 p.1):SkE hd X i p:=by
 have hk:p'.1.kd=p.1.kd:=by have:=congrArg EvP.kd hz;rwa [reE_kd,reE_kd] at this
 have hv:p'.1.vk=p.1.vk:=by have:=congrArg EvP.vk hz;rwa [reE_vk,reE_vk] at this
 have hs:p'.1.scan.map (·.k)=p.1.scan.map (·.k):=by rw[← scan_ks p'.1,hz,scan_ks]
 refine⟨by rw[← hk];exact h.k0,by rw[← hv];exact h.k6,by rw[← h2];exact h.k8,fun j s hj=>?_⟩
 have e:(p'.1.scan.map (·.k))[j]?=some s.k:=by rw[hs,List.getElem?_map,hj];rfl
 rw[List.getElem?_map] at e
 cases hq:p'.1.scan[j]? with
 | none=>rw[hq] at e;cases e
 | some s' =>
  rw[hq] at e
  injection e with e
  have e:s'.k=s.k:=e
  rw[← h2,← e]
  exact h.sc j s' hq
theorem pair_at {α β γ:Type} {z:α→γ} {l l':List (α × β)} (h1:l.map (·.2)=l'.map (·.2)) (h2:l.map (fun p=>z p.1)=l'.map fun p=>z p.1) {i:Nat} {p:α × β} (hi:l'[i]?=some p):∃ p',l[i]?=some p'∧p'.2=p.2∧z p'.1=z p.1:=by
 have e1:(l.map (·.2))[i]?=some p.2:=by rw[h1,List.getElem?_map,hi];rfl
 have e2:(l.map fun p=>z p.1)[i]?=some (z p.1):=by rw[h2,List.getElem?_map,hi];rfl
 rw[List.getElem?_map] at e1 e2
 cases hl:l[i]? with
 | none=>rw[hl] at e1;cases e1
 | some p' =>
  rw[hl] at e1 e2
  injection e1 with e1
  injection e2 with e2
  exact⟨p',rfl,e1,e2⟩
theorem NumI.skel (c:NumI w m n0 B5 B6 B7 Bn M k q r X h) (hn0:n0.pl.ev=m.pl.ev∧n0.pl.od=m.pl.od∧n0.pl.ma=m.pl.ma):SkH n0 B5 X:=by
 have s:=c.own.rd.skel c.b5
 obtain⟨⟨a1,a2,a3,a4⟩,b1,b2,b3⟩:=c.hd
 obtain⟨s1,s2,s3,_⟩:=c.sk
 have e1:h.ev.2.map (fun p=>reE z0 p.1)=n0.ev.2.map fun p=>reE z0 p.1:=by
  have:=s1
  unfold reH at this
  simp only at this
  rw[← hn0.1] at this
  unfold HistM.pl at this
  simpa [List.map_map,Function.comp_def] using this
 refine⟨by rw[← a1];exact s.b4,by rw[← a2];exact s.b5,by rw[← a3];exact s.b6,by rw[← a4];exact s.b7,fun i p hi=>?_,fun i p hi=>?_,fun i p hi=>?_⟩
 ·obtain⟨p',h1,h2,h3⟩:=pair_at (z:=reE z0) b1 e1 hi
  rw[← a1]
  exact (s.ev i p' h1).of h2 h3
 ·obtain⟨p',h1,h2,_⟩:=pair_at (z:=fun _=>()) b2 (by have:=congrArg List.length b2;simp at this;exact List.ext_getElem (by simpa using this) (by simp)) hi
  rw[← a2,← h2]
  exact s.od i p' h1
 obtain⟨p',h1,h2,_⟩:=pair_at (z:=fun _=>()) b3 (by have:=congrArg List.length b3;simp at this;exact List.ext_getElem (by simpa using this) (by simp)) hi
 rw[← a3,← h2]
 exact s.ma i p' h1
end
end Go.Proofs.YtmkknbonmameoaaGreatDoor
namespace Go.Proofs.YtmkknbonmameoaaGreatDoor
open Go.RowKit Go.Shelf Go.Maps
attribute [local go_sem] Oper.semAt_some
theorem Blk.ne_def {W:World} {g D:Nat} {t:TypeId} {cs:Array Value} {x:Option (List Deferred)} (hb:Blk W g t cs) (hd:W.heap[D]?=some (.deferred x)):g≠D:=by
 rintro rfl
 unfold Blk at hb
 rw[hd] at hb
 cases hb
theorem RG.wipe {t:TypeId} {s B i:Nat} {X:World} {ps:List (List Value × SH)} (h:RG t s B X ps):RG t s B X (ps.set i ([],⟨none,0,0⟩)):=by
 have at_:∀ {k:Nat} {p:List Value × SH},(ps.set i ([],(⟨none,0,0⟩:SH)))[k]?=some p→p=([],⟨none,0,0⟩)∨ps[k]?=some p:=by
  intro k p hp
  rw[List.getElem?_set] at hp
  split at hp
  ·split at hp
   ·injection hp with hp
    exact .inl hp.symm
   cases hp
  exact .inr hp
 refine⟨fun k p hp=>?_,fun k l p q hp hq hkl g hg hg2=>?_⟩
 ·rcases at_ hp with rfl | hp
  ·exact World.ownsRow_nil _ _ _ _
  exact h.own k p hp
 rcases at_ hp with rfl | hp
 ·cases hg
 rcases at_ hq with rfl | hq
 ·cases hg2
 exact h.nd k l p q hp hq hkl g hg hg2
theorem nodes_few11:∀ {m:Nat} {l:List Int},l.Nodup→(∀ x∈l,0≤x∧x<(m:Int))→l.length≤m
 | 0,[],_,_=>Nat.le_refl _
 | 0,x :: l,_,h=>by have:=h x (.head _);omega
 | m+1,l,hn,h=>by
  have h1:(l.filter fun x=>decide (x≠(m:Int))).length≤m:=nodes_few11 (hn.filter _) fun x hx=>by
   obtain⟨h1,h2⟩:=List.mem_filter.1 hx
   have:=h x h1
   simp at h2
   omega
  have h2:(l.filter fun x=>decide (x=(m:Int))).length≤1:=by
   have h3:(l.filter fun x=>decide (x=(m:Int))).Nodup:=hn.filter _
   match hl:l.filter (fun x=>decide (x=(m:Int))),h3 with
   | [],_=>simp
   | [_],_=>simp
   | x :: y :: r,h3 =>
    have hx:x∈l.filter fun x=>decide (x=(m:Int)):=by rw[hl];simp
    have hy:y∈l.filter fun x=>decide (x=(m:Int)):=by rw[hl];simp
    have e1:=(List.mem_filter.1 hx).2
    have e2:=(List.mem_filter.1 hy).2
    simp at e1 e2
    have:=(List.nodup_cons.1 h3).1
    rw[e1,e2] at this
    simp at this
  have h3:∀ l:List Int,l.length=(l.filter fun x=>decide (x≠(m:Int))).length+(l.filter fun x=>decide (x=(m:Int))).length:=by
   intro l
   induction l with
   | nil=>rfl
   | cons x l ih=>by_cases e:x=(m:Int)<;>simp[e]<;>simp at ih<;>omega
  have:=h3 l
  omega
theorem flat_le {α β:Type} {g:α→List β} {c:Nat}:∀ {l:List α},(∀ x∈l,(g x).length≤c)→(l.flatMap g).length≤l.length * c
 | [],_=>by simp
 | x :: l,h=>by
  rw[List.flatMap_cons,List.length_append,List.length_cons,Nat.succ_mul]
  have h1:=h x (by simp)
  have h2:=flat_le (g:=g) (c:=c) (l:=l) fun y hy=>h y (by simp[hy])
  omega
theorem refs_small {H:Hist} (hS:Small H) (k:Nat):((refs H).take k).length≤100000:=by
 have e1:(H.ev.flatMap refsE).length≤200 * 200:=by
  refine Nat.le_trans (flat_le (c:=200) (fun e he=>?_)) (Nat.mul_le_mul_right _ hS.ev)
  unfold refsE refsK
  have hs:=hS.sc e he
  have h1:∀ t k,(refsV t k).length≤1:=fun t k=>by unfold refsV;split<;>simp
  have h2:(e.scan.flatMap refsS).length≤60 * 2:=Nat.le_trans (flat_le (c:=2) (fun s _=>by unfold refsS;rw[List.length_cons];have:=h1 s.t s.k;omega)) (Nat.mul_le_mul_right _ hs)
  rw[List.length_cons]
  have h3:=h1 e.vt e.vk
  (repeat' split)<;>simp only[List.length_cons,List.length_nil]<;>omega
 have e2:(H.od.flatMap refsO).length≤60 * 100:=Nat.le_trans (flat_le (c:=100) (fun r hr=>by have:=hS.ot r hr;unfold refsO refsT;simp;omega)) (Nat.mul_le_mul_right _ hS.od)
 have e3:(H.ma.flatMap refsM).length≤60 * 100:=Nat.le_trans (flat_le (c:=100) (fun r hr=>by have:=hS.mt r hr;unfold refsM refsT;simp;omega)) (Nat.mul_le_mul_right _ hS.ma)
 have e4:(H.wa.flatMap refsW).length≤60 * 1:=Nat.le_trans (flat_le (c:=1) (fun r _=>by simp[refsW])) (Nat.mul_le_mul_right _ hS.wa)
 have:((refs H).take k).length≤(refs H).length:=by rw[List.length_take];omega
 refine Nat.le_trans this ?_
 unfold refs
 rw[List.length_append,List.length_append,List.length_append]
 omega
theorem spk_small {H:Hist} (h:shapedB H=true) (hS:Small H) (s k:Nat):(spk s ((refs H).take k)).length≤60:=by
 have hn:=spk_nodup s ((refs H).take k)
 have hsub:spk s ((refs H).take k) ⊆ upI (H.many s):=fun v hv=>mem_upI.2 (shaped_in h (List.mem_of_mem_take (mem_spk.1 hv)))
 have:=nodes_few11 hn (m:=H.many s) fun v hv=>mem_upI.1 (hsub hv)
 have:=hS.many s
 omega
structure PreN (w:World) (m n:HistM) (B5 B6 k:Nat) (X:World) (h:HistM):Prop where
 below:Below w.heap.size w X
 bh:Blk X w.heap.size 28 m.cs
 br:Blk X (w.heap.size+1) 28 zeroH
 b5:Blk X B5 28 h.cs
 b6:Blk X B6 95 #[.pointer (some ⟨w.heap.size,0,none⟩),.pointer (some ⟨w.heap.size,1,none⟩),.pointer (some ⟨w.heap.size,2,none⟩),.pointer (some ⟨w.heap.size,3,none⟩)]
 b7:Blk X (B6+1) 95 #[.pointer (some ⟨B5,0,none⟩),.pointer (some ⟨B5,1,none⟩),.pointer (some ⟨B5,2,none⟩),.pointer (some ⟨B5,3,none⟩)]
 own:HOwn w.heap.size X h
 nil:∀ s,s<k→s<4→(h.sort s).2=[]
 rows:h.ev=n.ev∧h.od=n.od∧h.ma=n.ma∧h.wa=n.wa
 ne:w.heap.size+1<B5
section
variable {w X Y : World} {m n h : HistM} {B5 B6 k Bn M : Nat}
theorem PreN.on (c:PreN w m n B5 B6 k X h) (hb:Below X.heap.size X Y):PreN w m n B5 B6 k Y h :=
 ⟨c.below.trans (hb.mono c.below.size),c.bh.below hb c.bh.lt,c.br.below hb c.br.lt,c.b5.below hb c.b5.lt,c.b6.below hb c.b6.lt,c.b7.below hb c.b7.lt,c.own.on hb,c.nil,c.rows,c.ne⟩
theorem PreN.step (c:PreN w m n B5 B6 k X h) (hk:k<4):PreN w m n B5 B6 (k+1) (X.setCell ⟨B5,k,none⟩ (.slice none 0 0)) (setSort h k nilS):=by
 have k2:=box_turn c.b5 k (.slice none 0 0)
 have o:=(own_step c.own c.b5 k (.slice none 0 0)).1
 obtain⟨e1,e2,e3,e4⟩:=set_rest (h:=h) (x:=nilS) hk
 refine⟨c.below.setCell (p:=⟨B5,k,none⟩) (by show w.heap.size≤B5;have:=c.ne;omega) _,c.bh.far (p:=⟨B5,k,none⟩) (by show w.heap.size≠B5;have:=c.ne;omega) _,c.br.far (p:=⟨B5,k,none⟩) (by show w.heap.size+1≠B5;have:=c.ne;omega) _,?_,k2.blk c.b6 (by decide),k2.blk c.b7 (by decide),⟨?_,?_,?_,?_,?_,?_,?_⟩,fun s hs h4=>?_,?_,c.ne⟩
 ·rw[set_cs hk]
  exact c.b5.set_ k _
 ·show RG _ _ _ _ (setSort h k nilS).nms
  rw[set_nms hk]
  exact RG.wipe o.nm
 ·rw[e1];exact o.ev
 ·rw[e2];exact o.od
 ·rw[e3];exact o.ma
 ·rw[e4];exact o.wa
 ·rw[e1];exact o.sc
 ·rw[e2,e3];exact o.it
 ·by_cases e:s=k
  ·subst e
   rw[set_sort hk]
   rfl
  rw[set_other hk h4 e]
  exact c.nil s (by omega) h4
 rw[e1,e2,e3,e4]
 exact c.rows
theorem PreN.same (c:PreN w m n B5 B6 k X h) (hpl:n.pl=m.pl):h.pl.ev=m.pl.ev∧h.pl.od=m.pl.od∧h.pl.ma=m.pl.ma∧h.pl.wa=m.pl.wa:=by
 obtain⟨r1,r2,r3,r4⟩:=c.rows
 rw[← hpl]
 unfold HistM.pl
 simp only[r1,r2,r3,r4,and_self]
theorem PreN.start (c:PreN w m n B5 B6 4 X h) (hpl:n.pl=m.pl) (mp:NumMap Bn M [] X) (hM:w.heap.size≤M):NumI w m h B5 B6 (B6+1) Bn M 0 0 0 X h:=by
 obtain⟨p1,p2,p3,p4⟩:=c.same hpl
 refine⟨c.below,c.bh,c.br,c.b5,c.b6,c.b7,mp,c.own,fun s hs=>?_,?_,?_,rfl,⟨c.ne,hM⟩,⟨⟨rfl,rfl,rfl,rfl⟩,rfl,rfl,rfl⟩⟩
 ·rw[c.nil s hs hs]
  rfl
 ·rw[List.take_zero,List.drop_zero,List.map_nil,List.nil_append]
  unfold refs
  rw[p1,p2,p3,p4]
 unfold reH
 simp only
 rw[p1,p2,p3,p4]
 exact⟨rfl,rfl,rfl,rfl⟩
end
theorem def_step {X:World} {g D:Nat} {t:TypeId} {cs:Array Value} {x:Option (List Deferred)} (hb:Blk X g t cs) (hd:X.heap[D]?=some (.deferred x)) (j:Nat) (u:Value):(X.setCell ⟨g,j,none⟩ u).heap[D]?=some (.deferred x) :=
 ((Keep.refl (fun j=>j≠g) X).set (.inr fun h=>h rfl) j u).obj hd (fun e=>Blk.ne_def hb hd e.symm)
def numE (H:Hist):Int:=if shapedB H=true then 0 else 210
def NumIs11 (H:Hist) (w:World):Ending→World→Prop:=fun e w'=>∃ n:HistM,e=.returned (.tuple #[.agg #[.slice n.tr.1.A n.tr.1.n n.tr.1.c,.slice n.se.1.A n.se.1.n n.se.1.c,.slice n.ob.1.A n.ob.1.n n.ob.1.c,.slice n.pr.1.A n.pr.1.n n.pr.1.c,.slice n.ev.1.A n.ev.1.n n.ev.1.c,.slice n.od.1.A n.od.1.n n.od.1.c,.slice n.ma.1.A n.ma.1.n n.ma.1.c,.slice n.wa.1.A n.wa.1.n n.wa.1.c],.int .i64 (numE H)])∧HOwn w.heap.size w' n∧n.pl=(if shapedB H=true then numP H else emptyH)∧Below w.heap.size w w'
set_option maxRecDepth 100000 in
set_option maxHeartbeats 16000000 in
theorem number11_any (m:HistM) (hS:Small m.pl) (w:World) (hT:Tabs w) (hm:HRd w w.heap.size m):Calls Tryz.prog 23 #[.agg #[.slice m.tr.1.A m.tr.1.n m.tr.1.c,.slice m.se.1.A m.se.1.n m.se.1.c,.slice m.ob.1.A m.ob.1.n m.ob.1.c,.slice m.pr.1.A m.pr.1.n m.pr.1.c,.slice m.ev.1.A m.ev.1.n m.ev.1.c,.slice m.od.1.A m.od.1.n m.od.1.c,.slice m.ma.1.A m.ma.1.n m.ma.1.c,.slice m.wa.1.A m.wa.1.n m.wa.1.c]] w (NumIs11 m.pl w):=by
 obtain⟨i0,hi,hz0,hz1,hz2⟩:=info_parts str_info
 obtain⟨kh,kr,b0,hs0⟩:=itwo w #[.slice m.tr.1.A m.tr.1.n m.tr.1.c,.slice m.se.1.A m.se.1.n m.se.1.c,.slice m.ob.1.A m.ob.1.n m.ob.1.c,.slice m.pr.1.A m.pr.1.n m.pr.1.c,.slice m.ev.1.A m.ev.1.n m.ev.1.c,.slice m.od.1.A m.od.1.n m.od.1.c,.slice m.ma.1.A m.ma.1.n m.ma.1.c,.slice m.wa.1.A m.wa.1.n m.wa.1.c] #[.slice none 0 0,.slice none 0 0,.slice none 0 0,.slice none 0 0,.slice none 0 0,.slice none 0 0,.slice none 0 0,.slice none 0 0] 28 28
 have HC:=zh (loose_any m hS _ (hT.on b0 (Nat.le_refl _)) ((hm.on b0).more b0.size))
 have KH:=zh kh
 have KR:=zh kr
 have B0:=zh b0
 have HRDS:Hid (∀ W,Below w.heap.size w W→HRd W W.heap.size m):=fun W hW=>(hm.on hW).more hW.size
 have hmm:=@run_makeMap Tryz.prog
 clear kh kr b0 hs0 hT
 refine (callsIn_wide (n:=6)).1 (callsIn_of_wp_marks Tryz.func23 rfl trivial ?_ rfl)
 simp only[Tryz.ntmps23,List.size_toArray,List.length_cons,List.length_nil,Nat.reduceAdd,Nat.reduceSub,Array.replicate_succ,Array.replicate_zero,List.push_toArray,List.append_toArray,List.nil_append,List.cons_append]
 refine wpIn_wide.2 ?_
 go_wp2_with fail
 refine HC.out.mono ?_
 rintro e w1 ⟨rfl,b1⟩
 have KH:=zh (KH.out.below b1 KH.out.lt)
 have KR:=zh (KR.out.below b1 KR.out.lt)
 have BW:=zh (B0.out.trans (b1.mono B0.out.size))
 have HZ:Hid (w.heap.size+1<w1.heap.size):=KR.out.lt
 clear b1 HC B0
 cases hx:shapedB m.pl
 ·have HX:Hid (numE m.pl=210):=by show _=_;unfold numE;rw[hx];rfl
  have HR:=zh hx
  rw[looseE_no hx]
  clear hx
  obtain⟨y0,y1,y2,y3,y4,y5,y6,y7⟩:=c8 KR.out
  have f0:=KR.out.frozen 0
  have f1:=KR.out.frozen 1
  have f2:=KR.out.frozen 2
  have f3:=KR.out.frozen 3
  have f4:=KR.out.frozen 4
  have f5:=KR.out.frozen 5
  have f6:=KR.out.frozen 6
  have f7:=KR.out.frozen 7
  go_wp2_with fail
  clear y0 f0 y1 f1 y2 f2 y3 f3 y4 f4 y5 f5 y6 f6 y7 f7
  have HF0:=zh (own_step (own_empty w.heap.size w1) (KR.out) 0 (.slice none 0 0))
  have HF1:=zh (own_step (HF0.out.1) (HF0.out.2) 1 (.slice none 0 0))
  have HF2:=zh (own_step (HF1.out.1) (HF1.out.2) 2 (.slice none 0 0))
  have HF3:=zh (own_step (HF2.out.1) (HF2.out.2) 3 (.slice none 0 0))
  have HF4:=zh (own_step (HF3.out.1) (HF3.out.2) 4 (.slice none 0 0))
  have HF5:=zh (own_step (HF4.out.1) (HF4.out.2) 5 (.slice none 0 0))
  have HF6:=zh (own_step (HF5.out.1) (HF5.out.2) 6 (.slice none 0 0))
  have HF7:=zh (own_step (HF6.out.1) (HF6.out.2) 7 (.slice none 0 0))
  have HBF:=zh ((((((((((((((((BW.out).setCell (p:=⟨w.heap.size+1,0,none⟩) (Nat.le_succ _) (.slice none 0 0))).setCell (p:=⟨w.heap.size+1,1,none⟩) (Nat.le_succ _) (.slice none 0 0))).setCell (p:=⟨w.heap.size+1,2,none⟩) (Nat.le_succ _) (.slice none 0 0))).setCell (p:=⟨w.heap.size+1,3,none⟩) (Nat.le_succ _) (.slice none 0 0))).setCell (p:=⟨w.heap.size+1,4,none⟩) (Nat.le_succ _) (.slice none 0 0))).setCell (p:=⟨w.heap.size+1,5,none⟩) (Nat.le_succ _) (.slice none 0 0))).setCell (p:=⟨w.heap.size+1,6,none⟩) (Nat.le_succ _) (.slice none 0 0))).setCell (p:=⟨w.heap.size+1,7,none⟩) (Nat.le_succ _) (.slice none 0 0))
  have kf:=HF7.out.2
  simp at kf
  have HKF:=zh kf
  have HOF:=zh HF7.out.1
  clear kf HF0 HF1 HF2 HF3 HF4 HF5 HF6 HF7
  generalize ((((((((w1.setCell ⟨w.heap.size+1,0,none⟩ (.slice none 0 0)).setCell ⟨w.heap.size+1,1,none⟩ (.slice none 0 0)).setCell ⟨w.heap.size+1,2,none⟩ (.slice none 0 0)).setCell ⟨w.heap.size+1,3,none⟩ (.slice none 0 0)).setCell ⟨w.heap.size+1,4,none⟩ (.slice none 0 0)).setCell ⟨w.heap.size+1,5,none⟩ (.slice none 0 0)).setCell ⟨w.heap.size+1,6,none⟩ (.slice none 0 0)).setCell ⟨w.heap.size+1,7,none⟩ (.slice none 0 0))=wf at *
  refine leaves_marks (B:=0) (C:=fun _=>False) [] _ (MarksAt.nil _ _ _) fun w6 hk=>?_
  have kf:=hk.blk HKF.out (by simp)
  obtain⟨r0,r1,r2,r3,r4,r5,r6,r7⟩:=c8 kf
  exact⟨.tuple #[.agg #[.slice none 0 0,.slice none 0 0,.slice none 0 0,.slice none 0 0,.slice none 0 0,.slice none 0 0,.slice none 0 0,.slice none 0 0],.int .i64 210],by simp[results,Tryz.results23,go_sem,r0,r1,r2,r3,r4,r5,r6,r7],⟨emptyM,by rw[HX.out];rfl,HOF.out.keepS hk fun _ _ _ _=>by simp,by rw[HR.out];rfl,HBF.out.trans (hk.below HBF.out.size fun _ _=>by simp)⟩⟩
 have HX:Hid (numE m.pl=0):=by show _=_;unfold numE;rw[hx];rfl
 have HSH:=zh hx
 rw[looseE_ok hx]
 clear hx
 obtain⟨z0,z1,z2,z3,z4,z5,z6,z7⟩:=c8 KH.out
 go_wp2_with fail
 refine (copied_any m hS w1 (HRDS.out w1 BW.out)).mono ?_
 rintro e w2 ⟨n,rfl,hon,hpl,b2⟩
 clear z0 z1 z2 z3 z4 z5 z6 z7
 obtain⟨k5,b5,hs5⟩:=ibox w2 #[.slice n.tr.1.A n.tr.1.n n.tr.1.c,.slice n.se.1.A n.se.1.n n.se.1.c,.slice n.ob.1.A n.ob.1.n n.ob.1.c,.slice n.pr.1.A n.pr.1.n n.pr.1.c,.slice n.ev.1.A n.ev.1.n n.ev.1.c,.slice n.od.1.A n.od.1.n n.od.1.c,.slice n.ma.1.A n.ma.1.n n.ma.1.c,.slice n.wa.1.A n.wa.1.n n.wa.1.c] 28
 have b25:=b2.trans (b5.mono b2.size)
 have KH:=zh (KH.out.below b25 KH.out.lt)
 have KR:=zh (KR.out.below b25 KR.out.lt)
 have K5:=zh k5
 have HON:=zh ((hon.on b5).mono BW.out.size)
 have HPL:=zh hpl
 have HB5:Hid (w.heap.size+1<w2.heap.size):=by have h1:=b2.size;have h2:=HZ.out;show _<_;omega
 have BW:=zh (BW.out.trans (b25.mono BW.out.size))
 clear hon hpl k5 b5 hs5 b2 b25
 go_wp2_with fail
 generalize w2.alloc (.cells #[.slice n.tr.1.A n.tr.1.n n.tr.1.c,.slice n.se.1.A n.se.1.n n.se.1.c,.slice n.ob.1.A n.ob.1.n n.ob.1.c,.slice n.pr.1.A n.pr.1.n n.pr.1.c,.slice n.ev.1.A n.ev.1.n n.ev.1.c,.slice n.od.1.A n.od.1.n n.od.1.c,.slice n.ma.1.A n.ma.1.n n.ma.1.c,.slice n.wa.1.A n.wa.1.n n.wa.1.c] 28)=W5 at *
 generalize w2.heap.size=B5 at *
 refine (names_any w.heap.size W5).mono ?_
 rintro e w3 ⟨rfl,b3⟩
 go_wp2_with fail
 refine (names_any B5 w3).mono ?_
 rintro e w4 ⟨rfl,b4⟩
 have b34:=b3.trans (b4.mono b3.size)
 have KH:=zh (KH.out.below b34 KH.out.lt)
 have KR:=zh (KR.out.below b34 KR.out.lt)
 have K5:=zh (K5.out.below b34 K5.out.lt)
 have HON:=zh (HON.out.on b34)
 have BW:=zh (BW.out.trans (b34.mono BW.out.size))
 clear b3 b4 b34
 go_wp2_with fail
 obtain⟨k6,k7,b67,hs67⟩:=itwo w4 #[.pointer (some ⟨w.heap.size,0,none⟩),.pointer (some ⟨w.heap.size,1,none⟩),.pointer (some ⟨w.heap.size,2,none⟩),.pointer (some ⟨w.heap.size,3,none⟩)] #[.pointer (some ⟨B5,0,none⟩),.pointer (some ⟨B5,1,none⟩),.pointer (some ⟨B5,2,none⟩),.pointer (some ⟨B5,3,none⟩)] 95 95
 have HPN:Hid (PreN w m n B5 w4.heap.size 0 ((w4.alloc (.cells #[.pointer (some ⟨w.heap.size,0,none⟩),.pointer (some ⟨w.heap.size,1,none⟩),.pointer (some ⟨w.heap.size,2,none⟩),.pointer (some ⟨w.heap.size,3,none⟩)] 95)).alloc (.cells #[.pointer (some ⟨B5,0,none⟩),.pointer (some ⟨B5,1,none⟩),.pointer (some ⟨B5,2,none⟩),.pointer (some ⟨B5,3,none⟩)] 95)) n):=⟨BW.out.trans (b67.mono BW.out.size),KH.out.below b67 KH.out.lt,KR.out.below b67 KR.out.lt,K5.out.below b67 K5.out.lt,k6,k7,HON.out.on b67,fun s hs=>absurd hs (Nat.not_lt_zero _),⟨rfl,rfl,rfl,rfl⟩,HB5.out⟩
 clear k6 k7 b67 hs67 KH KR K5 HON BW HB5
 generalize (w4.alloc (.cells #[.pointer (some ⟨w.heap.size,0,none⟩),.pointer (some ⟨w.heap.size,1,none⟩),.pointer (some ⟨w.heap.size,2,none⟩),.pointer (some ⟨w.heap.size,3,none⟩)] 95)).alloc (.cells #[.pointer (some ⟨B5,0,none⟩),.pointer (some ⟨B5,1,none⟩),.pointer (some ⟨B5,2,none⟩),.pointer (some ⟨B5,3,none⟩)] 95)=W7 at *
 generalize w4.heap.size=B6 at *
 go_loopw [27] (fun v wr=>∃ (k:Nat) (h:HistM),k≤4∧v=.int .i64 k∧Hid (PreN w m n B5 B6 k wr h)) (fun v _=>4 - (intOf v).toNat)
 case atStart=>exact⟨0,n,by omega,rfl,HPN⟩
 clear HPN
 obtain⟨k,h,hk,rfl,HPN⟩:=hrel
 have h5:k=0∨k=1∨k=2∨k=3∨k=4:=by omega
 clear hk
 rcases h5 with rfl | rfl | rfl | rfl | rfl
 ·simp only[show ((0:Nat):Int)=0 from rfl]
  have hix:=idx4_0 B5 wr
  have y:wr.cell? ⟨B5,0,none⟩=some (.slice (h.sort 0).1.A (h.sort 0).1.n (h.sort 0).1.c):=(HPN.out.b5.cell 0).trans (cs_sort h 0 (by omega))
  have fz:=HPN.out.b5.frozen 0
  have HX:=zh (HPN.out.step (k:=0) (by omega))
  go_wp2_with fail
  go_roundw
  case rel=>exact⟨1,_,by omega,rfl,HX⟩
  case measure=>simp[intOf]
 ·simp only[show ((1:Nat):Int)=1 from rfl]
  have hix:=idx4_1 B5 wr
  have y:wr.cell? ⟨B5,1,none⟩=some (.slice (h.sort 1).1.A (h.sort 1).1.n (h.sort 1).1.c):=(HPN.out.b5.cell 1).trans (cs_sort h 1 (by omega))
  have fz:=HPN.out.b5.frozen 1
  have HX:=zh (HPN.out.step (k:=1) (by omega))
  go_wp2_with fail
  go_roundw
  case rel=>exact⟨2,_,by omega,rfl,HX⟩
  case measure=>simp[intOf]
 ·simp only[show ((2:Nat):Int)=2 from rfl]
  have hix:=idx4_2 B5 wr
  have y:wr.cell? ⟨B5,2,none⟩=some (.slice (h.sort 2).1.A (h.sort 2).1.n (h.sort 2).1.c):=(HPN.out.b5.cell 2).trans (cs_sort h 2 (by omega))
  have fz:=HPN.out.b5.frozen 2
  have HX:=zh (HPN.out.step (k:=2) (by omega))
  go_wp2_with fail
  go_roundw
  case rel=>exact⟨3,_,by omega,rfl,HX⟩
  case measure=>simp[intOf]
 ·simp only[show ((3:Nat):Int)=3 from rfl]
  have hix:=idx4_3 B5 wr
  have y:wr.cell? ⟨B5,3,none⟩=some (.slice (h.sort 3).1.A (h.sort 3).1.n (h.sort 3).1.c):=(HPN.out.b5.cell 3).trans (cs_sort h 3 (by omega))
  have fz:=HPN.out.b5.frozen 3
  have HX:=zh (HPN.out.step (k:=3) (by omega))
  go_wp2_with fail
  go_roundw
  case rel=>exact⟨4,_,by omega,rfl,HX⟩
  case measure=>simp[intOf]
 have HMB:Hid (Below wr.heap.size wr ((wr.alloc (.map #[] 0)).alloc (.cells #[.map (some wr.heap.size)] 99))):=((Below.refl _ _).alloc (Nat.le_refl _) _).alloc (by simp) _
 have hmp:NumMap (wr.heap.size+1) wr.heap.size [] ((wr.alloc (.map #[] 0)).alloc (.cells #[.map (some wr.heap.size)] 99)):=⟨by
  have:=Blk.new (wr.alloc (.map #[] 0)) 99 #[.map (some wr.heap.size)]
  rwa [World.size_alloc] at this,_,(World.ownsMap_made (H:=Unit) _ _ _ _).alloc _,MapN.none_⟩
 have HSAME:=zh (HPN.out.same HPL.out)
 have HFT:=zh HPN.out.own.rd.fit
 have HLW:Hid (Low h):=by
  obtain⟨r1,r2,r3,r4⟩:=HPN.out.rows
  have hl:Low n:=by
   refine Fit.low ?_ (by rw[HPL.out];exact hS)
   have f:=HPN.out.own.rd.fit
   exact⟨by rw[← r1];exact f.ev,by rw[← r2];exact f.od,by rw[← r3];exact f.ma,by rw[← r4];exact f.wa,by rw[← r1];exact f.sc,by rw[← r2];exact f.ot,by rw[← r3];exact f.mt⟩
  exact⟨by rw[r1];exact hl.ev,by rw[r2];exact hl.od,by rw[r3];exact hl.ma,by rw[r4];exact hl.wa,by rw[r1];exact hl.sc,by rw[r2];exact hl.ot,by rw[r3];exact hl.mt⟩
 have HNI:=zh ((HPN.out.on HMB.out).start HPL.out hmp HPN.out.below.size)
 clear hmp HPN HMB
 go_wp2_with fail
 generalize (wr.alloc (.map #[] 0)).alloc (.cells #[.map (some wr.heap.size)] 99)=W8 at *
 generalize wr.heap.size=M at *
 refine (spoken_any ⟨B5,0,none⟩ W8).mono ?_
 rintro e w9 ⟨rfl,rfl⟩
 obtain⟨kp,bp,hsp⟩:=ibox W8 #[.pointer (some ⟨B5,0,none⟩)] 92
 have HNI:=zh (HNI.out.on bp)
 have KP:=zh kp
 clear kp bp hsp
 go_wp2_with fail
 generalize W8.alloc (.cells #[.pointer (some ⟨B5,0,none⟩)] 92)=W9 at *
 generalize W8.heap.size=Bp at *
 refine (wpIn_wide (n:=6)).1 ?_
 have HLE:Hid (w.heap.size≤W9.heap.size):=HNI.out.below.size
 refine range_sp none (by omega) (gf:=73) (lb:=#[.pointer (some ⟨Bp,0,none⟩)]) rfl eg_spoken (cs:=plcs h) (Sk:=SkH h B5) (spoken_seq _ Bp B5 h HFT.out HLW.out W9 KP.out) 35 36 11 12 rfl
  (fun k X=>∃ g,NumI w m h B5 B6 (B6+1) (M+1) M k k k X g) (fun _=>False) ?hSk ⟨_,HNI.out⟩ ?hI (fun _ _ h _=>h) ?assign ?body ?done ?stop
 case hSk =>
  rintro k X ⟨g,c⟩
  exact c.skel ⟨HSAME.out.1,HSAME.out.2.1,HSAME.out.2.2.1⟩
 case hI =>
  rintro k X Y ⟨g,c⟩ hc
  exact⟨g,c.calm hc HLE.out⟩
 case assign =>
  intro l x y W K hK
  simp only[List.setIfInBounds_toArray,List.set_cons_zero,List.set_cons_succ] at hK ⊢
  gi_wp2_with fail
  exact hK
 case stop =>
  rintro D W hD h
  exact h.elim
 case body =>
  rintro l k s p X hcs ⟨g,c⟩ hsz
  obtain⟨n1,hrf,hcell0⟩:=c.here hcs
  have hs4:s<4:=refs_sort (H:=m.pl) (s,n1) (List.mem_of_getElem? hrf)
  have hin:=shaped_in HSH.out (List.mem_of_getElem? hrf)
  have hm60:=hS.many s
  simp only at hin
  obtain⟨t,rfl⟩:∃ t:Nat,n1=(t:Int):=⟨n1.toNat,by omega⟩
  have hok:okN (s,(t:Int)):=⟨hs4,by show (0:Int)≤t;omega,by show (t:Int)<100;omega⟩
  have hs0:¬(s:Int)<0:=by omega
  have hs5:(s:Int)<4:=by omega
  have al:Below X.heap.size X (X.alloc (.cells #[.int .i64 (s:Nat),.int .i64 (t:Int)] 101)):=(Below.refl _ _).alloc (Nat.le_refl _) _
  have C1:=zh (c.on al)
  have LK1:=zh (Rk.of_below al)
  obtain⟨D,hd,hi9⟩:=C1.out.map.map
  have hkey:=keyOf_ok hok
  obtain⟨v,ps,hlk,hv⟩:=hd.look_ok nameKeyed Tryz.underlying99 (zeroIntN _) (zd:=.lit (.int .i64 0)) (zp:=[]) rfl hkey
  rw[hi9.at_ (s,(t:Int)) _ hok] at hv
  rw[hi9.has hok] at hlk
  have zb:(X.alloc (.cells #[.int .i64 (s:Nat),.int .i64 (t:Int)] 101)).cell? ⟨M+1,0,none⟩=some (.map (some M)):=C1.out.map.box.cell 0
  have HCS:=zh hcs
  have HRF:=zh hrf
  have HOK:=zh hok
  have HIN:=zh hin
  obtain⟨n9,h91,h92⟩:=C1.out.here hcs
  rw[hrf] at h91;injection h91 with h91;injection h91 with _ h91;subst h91
  have HPC1:Hid ((X.alloc (.cells #[.int .i64 (s:Nat),.int .i64 (t:Int)] 101)).cell? p=some (.int .i64 (t:Int))):=h92
  simp only[List.setIfInBounds_toArray,List.set_cons_zero,List.set_cons_succ]
  unfold agN at hlk
  simp only at hlk
  by_cases hmem:(s,(t:Int))∈(refs m.pl).take k
  ·rw[if_pos hmem] at hv
   rw[decide_eq_true hmem] at hlk
   obtain⟨a,rfl,ha,_⟩:=plainElem_int_inv Tryz.underlying3 hv
   injection ha with ha _
   injection ha with ha
   injection ha with _ ha
   subst ha
   obtain⟨fz,rk,g9,c9⟩:=(C1.out.old hrf hmem).put hcs hrf
   have y9:=HPC1.out
   rw[anew_old hrf hmem] at rk c9
   have HX:Hid (SpPost none (fun k X=>∃ g,NumI w m h B5 B6 (B6+1) (M+1) M k k k X g) (fun _=>False) k X .normal ⟨#[],[]⟩ ((X.alloc (.cells #[.int .i64 (s:Nat),.int .i64 (t:Int)] 101)).setCell p (.int .i64 (idxI (spk s ((refs m.pl).take k)) (t:Int):Int)))):=.inl ⟨rfl,⟨g9,c9⟩,LK1.out.trans rk⟩
   clear c hcs hrf hsz hin hok al hd hi9 hkey hv rk c9 hmem h92
   gi_wp2_with fail
   exact HX.out
  rw[if_neg hmem] at hv
  rw[decide_eq_false hmem] at hlk
  obtain⟨a,rfl,ha,_⟩:=plainElem_int_inv Tryz.underlying3 hv
  have HMEM:=zh hmem
  have HD:=zh hd
  have HI9:=zh hi9
  have HKEY:=zh hkey
  have hgl:(g.sort s).1.n=(spk s ((refs m.pl).take k)).length:=by
   have h1:=strs_len (c.own.rd.sort s)
   rw[← h1,c.nms s hs4]
   unfold namedN
   rw[List.length_map]
  have HGL:=zh hgl
  have hgn:(g.sort s).1.n≤1000:=by
   rw[hgl]
   have:=spk_small HSH.out hS s k
   omega
  have HGN:=zh hgn
  obtain⟨x,hx⟩:∃ x,(m.sort s).2[t]?=some x:=by
   have h1:m.pl.many s=(m.sort s).2.length:=by rw[many_len,← sort_names]
   exact⟨_,List.getElem?_eq_getElem (show t<(m.sort s).2.length by omega)⟩
  obtain⟨b,o,hA,hbl,hst⟩:=str_at (hm.sort s) hx
  have HA:=zh hA
  have HST:Hid (∀ W,Below w.heap.size w W→W.cell? ⟨b,o+t,none⟩=some (.string x)):=fun W hW=>by
   obtain⟨b2,o2,hA2,_,h2⟩:=str_at ((hm.on hW).sort s) hx
   obtain⟨rfl,rfl⟩:b=b2∧o=o2:=by rw[hA] at hA2;simpa using hA2
   exact h2
  have HXN:Hid (x=(m.pl.names s).getD (t:Int).toNat ⟨#[]⟩):=by
   show x=_
   rw[← sort_names,Int.toNat_natCast,List.getD_eq_getElem?_getD,hx]
   rfl
  have hxl:(t:Int)<((m.sort s).1.n:Int):=by have:=strs_len (hm.sort s);have:=(List.getElem?_eq_some_iff.1 hx).1;omega
  have HCL:=zh fun W=>sclone_any x (by have:=hS.sizes (k:=s) (by omega) x (List.mem_of_getElem? hx);omega) W
  have z7:(X.alloc (.cells #[.int .i64 (s:Nat),.int .i64 (t:Int)] 101)).cell? ⟨B6+1,s,none⟩=some (.pointer (some ⟨B5,s,none⟩)):=(C1.out.b7.cell s).trans (ptr4_at B5 s hs4)
  have z5:(X.alloc (.cells #[.int .i64 (s:Nat),.int .i64 (t:Int)] 101)).cell? ⟨B5,s,none⟩=some (.slice (g.sort s).1.A (g.sort s).1.n (g.sort s).1.c):=(C1.out.b5.cell s).trans (cs_sort g s hs4)
  have hwf:(Lit.int .i64 ((g.sort s).1.n:Int)).wf=true:=WalkArith.wf_i64 (by omega)
  have HWF:=zh hwf
  have hlen:((refs m.pl).take k).length<maxLen:=by have:=refs_small hS k;unfold maxLen;omega
  have HLEN:=zh hlen
  clear c hcs hrf hsz hin hok al hd hi9 hkey hv hmem h92 hgl hgn hx hA hbl hst hwf hlen ha
  gi_wp2_with (gi_at_mapUpdate;refine wpListIn_mapUpdate_own _ rfl _ _ _ 99 rfl 101 3 nameKeyed Tryz.underlying99 _ M _ D rfl HD.out HLEN.out _ _ (keyN s (t:Int)) rfl rfl HKEY.out (.lit (.int .i64 ((g.sort s).1.n:Int))) [] (plainElem_int Tryz.underlying3 HWF.out) ?_;intro w5 hown5 hgrow5)
  rw[HGL.out] at hown5
  obtain⟨c2,lk2⟩:=C1.out.mapped HRF.out HOK.out HMEM.out HI9.out rfl hown5 hgrow5
  have C2:=zh c2
  have LK2:=zh (LK1.out.trans lk2)
  have HPC2:Hid (w5.cell? p=some (.int .i64 (t:Int))):=by obtain⟨n9,h91,h92⟩:=C2.out.here HCS.out;rw[HRF.out] at h91;cases h91;exact h92
  clear hown5 hgrow5 c2 lk2 z7 z5 zb
  gi_upto_region 20 with fail
  refine region_round (S:=fun W=>Blk W B6 95 #[.pointer (some ⟨w.heap.size,0,none⟩),.pointer (some ⟨w.heap.size,1,none⟩),.pointer (some ⟨w.heap.size,2,none⟩),.pointer (some ⟨w.heap.size,3,none⟩)]∧Blk W (B6+1) 95 #[.pointer (some ⟨B5,0,none⟩),.pointer (some ⟨B5,1,none⟩),.pointer (some ⟨B5,2,none⟩),.pointer (some ⟨B5,3,none⟩)]∧Blk W w.heap.size 28 m.cs∧Below w.heap.size w W∧W.cell? p=some (.int .i64 (t:Int))) (by kernel_rfl) (by kernel_rfl) ⟨C2.out.b6,C2.out.b7,C2.out.bh,(C2.out.on ((Below.refl _ _).drew)).below,HPC2.out⟩ (fun hHeld=>?_)
  have C3:=zh (C2.out.on ((Below.refl _ w5).drew))
  have HPC3:Hid (w5.drew.cell? p=some (.int .i64 (t:Int))):=by obtain⟨n9,h91,h92⟩:=C3.out.here HCS.out;rw[HRF.out] at h91;cases h91;exact h92
  have LKC3:=zh (LK2.out.trans (Rk.of_below ((Below.refl _ w5).drew)))
  generalize w5.drew=wd at *
  refine tkv 0 (some 59) (.int .i64 (s:Nat)) rfl rfl (fun w' hSw=>by (try dsimp only at hSw);go_simp) ?_
  try simp only[Act.put,zS]
  refine tkv 1 (some 60) (.pointer (some ⟨B6+1,s,none⟩)) rfl rfl (fun w' hSw=>by (try dsimp only at hSw);go_simp) ?_
  try simp only[Act.put,zS]
  refine tkv 2 (some 61) (.pointer (some ⟨B5,s,none⟩)) rfl rfl (fun w' hSw=>by (have c9:w'.cell? ⟨B6+1,s,none⟩=some (.pointer (some ⟨B5,s,none⟩)):=(hSw.2.1.cell s).trans (ptr4_at B5 s hs4));go_simp) ?_
  try simp only[Act.put,zS]
  refine tkv 3 (some 62) (.int .i64 (s:Nat)) rfl rfl (fun w' hSw=>by (try dsimp only at hSw);go_simp) ?_
  try simp only[Act.put,zS]
  refine tkv 4 (some 63) (.pointer (some ⟨B6+1,s,none⟩)) rfl rfl (fun w' hSw=>by (try dsimp only at hSw);go_simp) ?_
  try simp only[Act.put,zS]
  refine tkv 5 (some 64) (.pointer (some ⟨B5,s,none⟩)) rfl rfl (fun w' hSw=>by (have c9:w'.cell? ⟨B6+1,s,none⟩=some (.pointer (some ⟨B5,s,none⟩)):=(hSw.2.1.cell s).trans (ptr4_at B5 s hs4));go_simp) ?_
  try simp only[Act.put,zS]
  refine tkv 6 (some 65) (.pointer (some ⟨B5,s,none⟩)) rfl rfl (fun w' hSw=>by (try dsimp only at hSw);go_simp) ?_
  try simp only[Act.put,zS]
  refine tkv 8 (some 67) (.int .i64 (s:Nat)) rfl rfl (fun w' hSw=>by (try dsimp only at hSw);go_simp) ?_
  try simp only[Act.put,zS]
  refine tkv 9 (some 68) (.pointer (some ⟨B6,s,none⟩)) rfl rfl (fun w' hSw=>by (try dsimp only at hSw);go_simp) ?_
  try simp only[Act.put,zS]
  refine tkv 10 (some 69) (.pointer (some ⟨w.heap.size,s,none⟩)) rfl rfl (fun w' hSw=>by (have c9:w'.cell? ⟨B6,s,none⟩=some (.pointer (some ⟨w.heap.size,s,none⟩)):=(hSw.1.cell s).trans (ptr4_at w.heap.size s hs4));go_simp) ?_
  try simp only[Act.put,zS]
  refine tkv 11 (some 70) (.pointer (some ⟨w.heap.size,s,none⟩)) rfl rfl (fun w' hSw=>by (try dsimp only at hSw);go_simp) ?_
  try simp only[Act.put,zS]
  refine tkv 12 (some 71) (.slice (some ⟨b,o,none⟩) (m.sort s).1.n (m.sort s).1.c) rfl rfl (fun w' hSw=>by (have c9:w'.cell? ⟨w.heap.size,s,none⟩=some (.slice (some ⟨b,o,none⟩) (m.sort s).1.n (m.sort s).1.c):=by rw[← HA.out];exact (hSw.2.2.1.cell s).trans (cs_sort m s hs4));go_simp) ?_
  try simp only[Act.put,zS]
  refine tkv 13 (some 72) (.pointer (some p)) rfl rfl (fun w' hSw=>by (try dsimp only at hSw);go_simp) ?_
  try simp only[Act.put,zS]
  refine tkv 14 (some 73) (.pointer (some p)) rfl rfl (fun w' hSw=>by (try dsimp only at hSw);go_simp) ?_
  try simp only[Act.put,zS]
  refine tkv 15 (some 74) (.int .i64 (t:Int)) rfl rfl (fun w' hSw=>by (have c9:=hSw.2.2.2.2);go_simp) ?_
  try simp only[Act.put,zS]
  refine tkv 16 (some 75) (.pointer (some ⟨b,o+t,none⟩)) rfl rfl (fun w' hSw=>by (try dsimp only at hSw);go_simp) ?_
  try simp only[Act.put,zS]
  refine tkv 17 (some 76) (.string x) rfl rfl (fun w' hSw=>by (have c9:=HST.out w' hSw.2.2.2.1);go_simp) ?_
  try simp only[Act.put,zS]
  refine rdH [7,18] ?_
  refine AllReadyH.cons rfl (fun K hK=>?_) ?_
  ·have z3:=(C3.out.b5.cell s).trans (cs_sort g s hs4)
   go_simp
   clear hHeld z3
   refine hK.out _ _ ⟨C3.out.b6,C3.out.b7,C3.out.bh,C3.out.below,HPC3.out⟩ (fun hHeld=>?_)
   clear hK K
   try simp only[Act.put,zS]
   refine rdH [18] ?_
   refine AllReadyH.cons rfl (fun K hK=>?_) ?_
   ·go_simp
    refine (HCL.out _).mono ?_
    rintro e7 w7 ⟨rfl,b7⟩
    have C4:=zh (C3.out.on b7)
    have HPC4:Hid (w7.cell? p=some (.int .i64 (t:Int))):=by obtain⟨n9,h91,h92⟩:=C4.out.here HCS.out;rw[HRF.out] at h91;cases h91;exact h92
    have LKC4:=zh (LKC3.out.trans (Rk.of_below b7))
    clear b7 hHeld
    go_simp
    refine hK.out _ _ ⟨C4.out.b6,C4.out.b7,C4.out.bh,C4.out.below,HPC4.out⟩ (fun hHeld=>?_)
    clear hK K
    try simp only[Act.put,zS]
    refine rdH [19] ?_
    refine AllReadyH.cons rfl (fun K hK=>?_) ?_
    ·go_simp
     have hal:Below w7.heap.size w7 (w7.alloc (.cells #[.string x] 9)):=(Below.refl _ _).alloc (Nat.le_refl _) _
     have C5:=zh (C4.out.on hal)
     have HPC5:Hid ((w7.alloc (.cells #[.string x] 9)).cell? p=some (.int .i64 (t:Int))):=by obtain⟨n9,h91,h92⟩:=C5.out.here HCS.out;rw[HRF.out] at h91;cases h91;exact h92
     have LKC5:=zh (LKC4.out.trans (Rk.of_below hal))
     have SL:=zh (str_lit w7 [x] 9 #[.string x] rfl)
     clear hal hHeld
     refine hK.out _ _ ⟨C5.out.b6,C5.out.b7,C5.out.bh,C5.out.below,HPC5.out⟩ (fun hHeld=>?_)
     clear hK K
     try simp only[Act.put,zS]
     generalize w7.alloc (.cells #[.string x] 9)=ua at *
     generalize w7.heap.size=XS at *
     refine rdH [20] ?_
     refine AllReadyH.cons (o:={dst:=some 79,op:=Op.call {callee:=Callee.builtin Builtin.append,args:=#[Operand.tmp 66,Operand.tmp 78],argTypes:=#[22,22]},type:=22,pos:="history.go:73",after:=#[⟨7,.data⟩,⟨19,.data⟩,⟨18,.chain⟩],guard:=none}) rfl (fun K hK=>?_) ?_
     ·have OWN:=zh (C5.out.own.nm.own s _ (nms_at hs4))
      refine step_append_any _ rfl (.tmp 66) (.tmp 78) 22 rfl w.heap.size 9 i0 _ 1 16 Tryz.underlying22 hi hz0 hz1 hz2 rfl (by decide) (.slice (g.sort s).1.A (g.sort s).1.n (g.sort s).1.c) (g.sort s).1.n _ rfl OWN.out _ (some ⟨XS,0,none⟩) 1 _ (strs [x]) rfl SL.out (strs_one _) (by have:=HGN.out;unfold maxLen;omega) (by have:=HGN.out;omega) C5.out.below.size ?_
      intro v' w8 hown8 hgrow8 hat8;obtain⟨A8,c8,rfl,-,-⟩:=own_form2 hown8
      obtain⟨⟨kt8,hb8⟩,c9⟩:=C5.out.name hs4 HRF.out HMEM.out HXN.out hown8 hgrow8 hat8
      have HB8:=zh hb8
      have C9:=zh c9
      have KT8:=zh kt8
      have q6:=kt8.blk C5.out.b6 (by decide)
      have q7:=kt8.blk C5.out.b7 (by decide)
      have qh:=kt8.blk C5.out.bh (by decide)
      have qb:Below w.heap.size w w8:=C5.out.below.grown hgrow8 C5.out.below.size fun g hg2=>(own_in_block OWN.out hg2).1
      have LK8:Hid (Rk X w8):=LKC5.out.trans (Rk.of_keep kt8 fun j o ho hf=>fun cs hb=>not_firm hb (by decide) j o ho hf rfl)
      have qp:w8.cell? p=some (.int .i64 (t:Int)):=by
       obtain⟨⟨ga,ja,ta,ca,e1,e2,e3,e4⟩,_⟩:=put_place C5.out.own (by rw[C5.out.pl];exact HCS.out) 0
       subst e1
       have e5:=kt8.blk e3 (Ne.symm (rowT_ne e4 (by decide)))
       rw[e5.cell,← e3.cell]
       exact HPC5.out
      have HQ8:Hid (Blk w8 B6 95 #[.pointer (some ⟨w.heap.size,0,none⟩),.pointer (some ⟨w.heap.size,1,none⟩),.pointer (some ⟨w.heap.size,2,none⟩),.pointer (some ⟨w.heap.size,3,none⟩)]∧Blk w8 (B6+1) 95 #[.pointer (some ⟨B5,0,none⟩),.pointer (some ⟨B5,1,none⟩),.pointer (some ⟨B5,2,none⟩),.pointer (some ⟨B5,3,none⟩)]∧Blk w8 w.heap.size 28 m.cs∧Below w.heap.size w w8∧w8.cell? p=some (.int .i64 (t:Int))):=⟨q6,q7,qh,qb,qp⟩
      clear hown8 hgrow8 hat8 hHeld q6 q7 qh qb qp kt8 hb8 c9
      refine hK.out _ _ HQ8.out (fun hHeld=>?_)
      clear hK K
      try simp only[Act.put,zS]
      refine tkv 21 (some 80) (.pointer (some ⟨B5,s,none⟩)) rfl rfl (fun w' hSw=>by (try dsimp only at hSw);go_simp) ?_
      try simp only[Act.put,zS]
      refine rdH [22] ?_
      refine AllReadyH.cons (o:={dst:=none,op:=Op.store 22 (Operand.tmp 80) (Operand.tmp 79),type:=0,pos:="history.go:73",after:=#[⟨21,.data⟩,⟨20,.data⟩,⟨20,.chain⟩,⟨0,.phase⟩,⟨1,.phase⟩,⟨2,.phase⟩,⟨3,.phase⟩,⟨4,.phase⟩,⟨5,.phase⟩,⟨6,.phase⟩,⟨7,.phase⟩,⟨8,.phase⟩,⟨9,.phase⟩,⟨10,.phase⟩,⟨11,.phase⟩,⟨12,.phase⟩,⟨13,.phase⟩,⟨14,.phase⟩,⟨15,.phase⟩,⟨16,.phase⟩,⟨17,.phase⟩,⟨18,.phase⟩,⟨19,.phase⟩,⟨20,.phase⟩],guard:=none}) rfl (fun K hK=>?_) ?_
      ·have y3:w8.cell? ⟨B5,s,none⟩=some (.slice (g.sort s).1.A (g.sort s).1.n (g.sort s).1.c):=(HB8.out.cell s).trans (cs_sort g s hs4)
       have f3:=HB8.out.frozen s
       go_simp
       have HPC9:Hid ((w8.setCell ⟨B5,s,none⟩ (.slice A8 ((g.sort s).1.n+1) c8)).cell? p=some (.int .i64 (t:Int))):=by obtain⟨n9,h91,h92⟩:=C9.out.here HCS.out;rw[HRF.out] at h91;cases h91;exact h92
       have LKC9:=zh (LK8.out.trans (Rk.set HB8.out (by decide) s (.slice A8 ((g.sort s).1.n+1) c8)))
       clear HB8 KT8 HQ8 OWN SL y3 f3 hHeld
       refine hK.out _ _ ⟨C9.out.b6,C9.out.b7,C9.out.bh,C9.out.below,HPC9.out⟩ (fun hHeld=>?_)
       clear hK K
       refine wpAnyH_done (by kernel_rfl) ?_ _
       refine OnlyN.normal ?_
       obtain⟨fz,rk,g9,c10⟩:=C9.out.put HCS.out HRF.out
       have y9:=HPC9.out
       have HV9:Hid (anewI (refs m.pl) s (t:Int)=((g.sort s).1.n:Int)):=by show _=_;rw[anew_new HRF.out HMEM.out,HGL.out]
       rw[HV9.out] at rk c10
       have HX:Hid (SpPost none (fun k X=>∃ g,NumI w m h B5 B6 (B6+1) (M+1) M k k k X g) (fun _=>False) k X .normal ⟨#[],[]⟩ ((w8.setCell ⟨B5,s,none⟩ (.slice A8 ((g.sort s).1.n+1) c8)).setCell p (.int .i64 ((g.sort s).1.n:Int)))):=.inl ⟨rfl,⟨g9,c10⟩,LKC9.out.trans rk⟩
       clear rk c10
       gi_wp2_with fail
       exact HX.out
      exact AllReadyH.nil
     exact AllReadyH.nil
    exact AllReadyH.nil
   exact AllReadyH.nil
  refine AllReadyH.cons rfl (fun K hK=>?_) ?_
  ·go_simp
   refine (HCL.out _).mono ?_
   rintro e7 w7 ⟨rfl,b7⟩
   have C4:=zh (C3.out.on b7)
   have HPC4:Hid (w7.cell? p=some (.int .i64 (t:Int))):=by obtain⟨n9,h91,h92⟩:=C4.out.here HCS.out;rw[HRF.out] at h91;cases h91;exact h92
   have LKC4:=zh (LKC3.out.trans (Rk.of_below b7))
   clear b7 hHeld
   go_simp
   refine hK.out _ _ ⟨C4.out.b6,C4.out.b7,C4.out.bh,C4.out.below,HPC4.out⟩ (fun hHeld=>?_)
   clear hK K
   try simp only[Act.put,zS]
   refine rdH [7,19] ?_
   refine AllReadyH.cons rfl (fun K hK=>?_) ?_
   ·have z3:=(C4.out.b5.cell s).trans (cs_sort g s hs4)
    go_simp
    clear hHeld z3
    refine hK.out _ _ ⟨C4.out.b6,C4.out.b7,C4.out.bh,C4.out.below,HPC4.out⟩ (fun hHeld=>?_)
    clear hK K
    try simp only[Act.put,zS]
    refine rdH [19] ?_
    refine AllReadyH.cons rfl (fun K hK=>?_) ?_
    ·go_simp
     have hal:Below w7.heap.size w7 (w7.alloc (.cells #[.string x] 9)):=(Below.refl _ _).alloc (Nat.le_refl _) _
     have C5:=zh (C4.out.on hal)
     have HPC5:Hid ((w7.alloc (.cells #[.string x] 9)).cell? p=some (.int .i64 (t:Int))):=by obtain⟨n9,h91,h92⟩:=C5.out.here HCS.out;rw[HRF.out] at h91;cases h91;exact h92
     have LKC5:=zh (LKC4.out.trans (Rk.of_below hal))
     have SL:=zh (str_lit w7 [x] 9 #[.string x] rfl)
     clear hal hHeld
     refine hK.out _ _ ⟨C5.out.b6,C5.out.b7,C5.out.bh,C5.out.below,HPC5.out⟩ (fun hHeld=>?_)
     clear hK K
     try simp only[Act.put,zS]
     generalize w7.alloc (.cells #[.string x] 9)=ua at *
     generalize w7.heap.size=XS at *
     refine rdH [20] ?_
     refine AllReadyH.cons (o:={dst:=some 79,op:=Op.call {callee:=Callee.builtin Builtin.append,args:=#[Operand.tmp 66,Operand.tmp 78],argTypes:=#[22,22]},type:=22,pos:="history.go:73",after:=#[⟨7,.data⟩,⟨19,.data⟩,⟨18,.chain⟩],guard:=none}) rfl (fun K hK=>?_) ?_
     ·have OWN:=zh (C5.out.own.nm.own s _ (nms_at hs4))
      refine step_append_any _ rfl (.tmp 66) (.tmp 78) 22 rfl w.heap.size 9 i0 _ 1 16 Tryz.underlying22 hi hz0 hz1 hz2 rfl (by decide) (.slice (g.sort s).1.A (g.sort s).1.n (g.sort s).1.c) (g.sort s).1.n _ rfl OWN.out _ (some ⟨XS,0,none⟩) 1 _ (strs [x]) rfl SL.out (strs_one _) (by have:=HGN.out;unfold maxLen;omega) (by have:=HGN.out;omega) C5.out.below.size ?_
      intro v' w8 hown8 hgrow8 hat8;obtain⟨A8,c8,rfl,-,-⟩:=own_form2 hown8
      obtain⟨⟨kt8,hb8⟩,c9⟩:=C5.out.name hs4 HRF.out HMEM.out HXN.out hown8 hgrow8 hat8
      have HB8:=zh hb8
      have C9:=zh c9
      have KT8:=zh kt8
      have q6:=kt8.blk C5.out.b6 (by decide)
      have q7:=kt8.blk C5.out.b7 (by decide)
      have qh:=kt8.blk C5.out.bh (by decide)
      have qb:Below w.heap.size w w8:=C5.out.below.grown hgrow8 C5.out.below.size fun g hg2=>(own_in_block OWN.out hg2).1
      have LK8:Hid (Rk X w8):=LKC5.out.trans (Rk.of_keep kt8 fun j o ho hf=>fun cs hb=>not_firm hb (by decide) j o ho hf rfl)
      have qp:w8.cell? p=some (.int .i64 (t:Int)):=by
       obtain⟨⟨ga,ja,ta,ca,e1,e2,e3,e4⟩,_⟩:=put_place C5.out.own (by rw[C5.out.pl];exact HCS.out) 0
       subst e1
       have e5:=kt8.blk e3 (Ne.symm (rowT_ne e4 (by decide)))
       rw[e5.cell,← e3.cell]
       exact HPC5.out
      have HQ8:Hid (Blk w8 B6 95 #[.pointer (some ⟨w.heap.size,0,none⟩),.pointer (some ⟨w.heap.size,1,none⟩),.pointer (some ⟨w.heap.size,2,none⟩),.pointer (some ⟨w.heap.size,3,none⟩)]∧Blk w8 (B6+1) 95 #[.pointer (some ⟨B5,0,none⟩),.pointer (some ⟨B5,1,none⟩),.pointer (some ⟨B5,2,none⟩),.pointer (some ⟨B5,3,none⟩)]∧Blk w8 w.heap.size 28 m.cs∧Below w.heap.size w w8∧w8.cell? p=some (.int .i64 (t:Int))):=⟨q6,q7,qh,qb,qp⟩
      clear hown8 hgrow8 hat8 hHeld q6 q7 qh qb qp kt8 hb8 c9
      refine hK.out _ _ HQ8.out (fun hHeld=>?_)
      clear hK K
      try simp only[Act.put,zS]
      refine tkv 21 (some 80) (.pointer (some ⟨B5,s,none⟩)) rfl rfl (fun w' hSw=>by (try dsimp only at hSw);go_simp) ?_
      try simp only[Act.put,zS]
      refine rdH [22] ?_
      refine AllReadyH.cons (o:={dst:=none,op:=Op.store 22 (Operand.tmp 80) (Operand.tmp 79),type:=0,pos:="history.go:73",after:=#[⟨21,.data⟩,⟨20,.data⟩,⟨20,.chain⟩,⟨0,.phase⟩,⟨1,.phase⟩,⟨2,.phase⟩,⟨3,.phase⟩,⟨4,.phase⟩,⟨5,.phase⟩,⟨6,.phase⟩,⟨7,.phase⟩,⟨8,.phase⟩,⟨9,.phase⟩,⟨10,.phase⟩,⟨11,.phase⟩,⟨12,.phase⟩,⟨13,.phase⟩,⟨14,.phase⟩,⟨15,.phase⟩,⟨16,.phase⟩,⟨17,.phase⟩,⟨18,.phase⟩,⟨19,.phase⟩,⟨20,.phase⟩],guard:=none}) rfl (fun K hK=>?_) ?_
      ·have y3:w8.cell? ⟨B5,s,none⟩=some (.slice (g.sort s).1.A (g.sort s).1.n (g.sort s).1.c):=(HB8.out.cell s).trans (cs_sort g s hs4)
       have f3:=HB8.out.frozen s
       go_simp
       have HPC9:Hid ((w8.setCell ⟨B5,s,none⟩ (.slice A8 ((g.sort s).1.n+1) c8)).cell? p=some (.int .i64 (t:Int))):=by obtain⟨n9,h91,h92⟩:=C9.out.here HCS.out;rw[HRF.out] at h91;cases h91;exact h92
       have LKC9:=zh (LK8.out.trans (Rk.set HB8.out (by decide) s (.slice A8 ((g.sort s).1.n+1) c8)))
       clear HB8 KT8 HQ8 OWN SL y3 f3 hHeld
       refine hK.out _ _ ⟨C9.out.b6,C9.out.b7,C9.out.bh,C9.out.below,HPC9.out⟩ (fun hHeld=>?_)
       clear hK K
       refine wpAnyH_done (by kernel_rfl) ?_ _
       refine OnlyN.normal ?_
       obtain⟨fz,rk,g9,c10⟩:=C9.out.put HCS.out HRF.out
       have y9:=HPC9.out
       have HV9:Hid (anewI (refs m.pl) s (t:Int)=((g.sort s).1.n:Int)):=by show _=_;rw[anew_new HRF.out HMEM.out,HGL.out]
       rw[HV9.out] at rk c10
       have HX:Hid (SpPost none (fun k X=>∃ g,NumI w m h B5 B6 (B6+1) (M+1) M k k k X g) (fun _=>False) k X .normal ⟨#[],[]⟩ ((w8.setCell ⟨B5,s,none⟩ (.slice A8 ((g.sort s).1.n+1) c8)).setCell p (.int .i64 ((g.sort s).1.n:Int)))):=.inl ⟨rfl,⟨g9,c10⟩,LKC9.out.trans rk⟩
       clear rk c10
       gi_wp2_with fail
       exact HX.out
      exact AllReadyH.nil
     exact AllReadyH.nil
    exact AllReadyH.nil
   refine AllReadyH.cons rfl (fun K hK=>?_) ?_
   ·go_simp
    have hal:Below w7.heap.size w7 (w7.alloc (.cells #[.string x] 9)):=(Below.refl _ _).alloc (Nat.le_refl _) _
    have C5:=zh (C4.out.on hal)
    have HPC5:Hid ((w7.alloc (.cells #[.string x] 9)).cell? p=some (.int .i64 (t:Int))):=by obtain⟨n9,h91,h92⟩:=C5.out.here HCS.out;rw[HRF.out] at h91;cases h91;exact h92
    have LKC5:=zh (LKC4.out.trans (Rk.of_below hal))
    have SL:=zh (str_lit w7 [x] 9 #[.string x] rfl)
    clear hal hHeld
    refine hK.out _ _ ⟨C5.out.b6,C5.out.b7,C5.out.bh,C5.out.below,HPC5.out⟩ (fun hHeld=>?_)
    clear hK K
    try simp only[Act.put,zS]
    generalize w7.alloc (.cells #[.string x] 9)=ua at *
    generalize w7.heap.size=XS at *
    refine rdH [7] ?_
    refine AllReadyH.cons rfl (fun K hK=>?_) ?_
    ·have z3:=(C5.out.b5.cell s).trans (cs_sort g s hs4)
     go_simp
     clear hHeld z3
     refine hK.out _ _ ⟨C5.out.b6,C5.out.b7,C5.out.bh,C5.out.below,HPC5.out⟩ (fun hHeld=>?_)
     clear hK K
     try simp only[Act.put,zS]
     refine rdH [20] ?_
     refine AllReadyH.cons (o:={dst:=some 79,op:=Op.call {callee:=Callee.builtin Builtin.append,args:=#[Operand.tmp 66,Operand.tmp 78],argTypes:=#[22,22]},type:=22,pos:="history.go:73",after:=#[⟨7,.data⟩,⟨19,.data⟩,⟨18,.chain⟩],guard:=none}) rfl (fun K hK=>?_) ?_
     ·have OWN:=zh (C5.out.own.nm.own s _ (nms_at hs4))
      refine step_append_any _ rfl (.tmp 66) (.tmp 78) 22 rfl w.heap.size 9 i0 _ 1 16 Tryz.underlying22 hi hz0 hz1 hz2 rfl (by decide) (.slice (g.sort s).1.A (g.sort s).1.n (g.sort s).1.c) (g.sort s).1.n _ rfl OWN.out _ (some ⟨XS,0,none⟩) 1 _ (strs [x]) rfl SL.out (strs_one _) (by have:=HGN.out;unfold maxLen;omega) (by have:=HGN.out;omega) C5.out.below.size ?_
      intro v' w8 hown8 hgrow8 hat8;obtain⟨A8,c8,rfl,-,-⟩:=own_form2 hown8
      obtain⟨⟨kt8,hb8⟩,c9⟩:=C5.out.name hs4 HRF.out HMEM.out HXN.out hown8 hgrow8 hat8
      have HB8:=zh hb8
      have C9:=zh c9
      have KT8:=zh kt8
      have q6:=kt8.blk C5.out.b6 (by decide)
      have q7:=kt8.blk C5.out.b7 (by decide)
      have qh:=kt8.blk C5.out.bh (by decide)
      have qb:Below w.heap.size w w8:=C5.out.below.grown hgrow8 C5.out.below.size fun g hg2=>(own_in_block OWN.out hg2).1
      have LK8:Hid (Rk X w8):=LKC5.out.trans (Rk.of_keep kt8 fun j o ho hf=>fun cs hb=>not_firm hb (by decide) j o ho hf rfl)
      have qp:w8.cell? p=some (.int .i64 (t:Int)):=by
       obtain⟨⟨ga,ja,ta,ca,e1,e2,e3,e4⟩,_⟩:=put_place C5.out.own (by rw[C5.out.pl];exact HCS.out) 0
       subst e1
       have e5:=kt8.blk e3 (Ne.symm (rowT_ne e4 (by decide)))
       rw[e5.cell,← e3.cell]
       exact HPC5.out
      have HQ8:Hid (Blk w8 B6 95 #[.pointer (some ⟨w.heap.size,0,none⟩),.pointer (some ⟨w.heap.size,1,none⟩),.pointer (some ⟨w.heap.size,2,none⟩),.pointer (some ⟨w.heap.size,3,none⟩)]∧Blk w8 (B6+1) 95 #[.pointer (some ⟨B5,0,none⟩),.pointer (some ⟨B5,1,none⟩),.pointer (some ⟨B5,2,none⟩),.pointer (some ⟨B5,3,none⟩)]∧Blk w8 w.heap.size 28 m.cs∧Below w.heap.size w w8∧w8.cell? p=some (.int .i64 (t:Int))):=⟨q6,q7,qh,qb,qp⟩
      clear hown8 hgrow8 hat8 hHeld q6 q7 qh qb qp kt8 hb8 c9
      refine hK.out _ _ HQ8.out (fun hHeld=>?_)
      clear hK K
      try simp only[Act.put,zS]
      refine tkv 21 (some 80) (.pointer (some ⟨B5,s,none⟩)) rfl rfl (fun w' hSw=>by (try dsimp only at hSw);go_simp) ?_
      try simp only[Act.put,zS]
      refine rdH [22] ?_
      refine AllReadyH.cons (o:={dst:=none,op:=Op.store 22 (Operand.tmp 80) (Operand.tmp 79),type:=0,pos:="history.go:73",after:=#[⟨21,.data⟩,⟨20,.data⟩,⟨20,.chain⟩,⟨0,.phase⟩,⟨1,.phase⟩,⟨2,.phase⟩,⟨3,.phase⟩,⟨4,.phase⟩,⟨5,.phase⟩,⟨6,.phase⟩,⟨7,.phase⟩,⟨8,.phase⟩,⟨9,.phase⟩,⟨10,.phase⟩,⟨11,.phase⟩,⟨12,.phase⟩,⟨13,.phase⟩,⟨14,.phase⟩,⟨15,.phase⟩,⟨16,.phase⟩,⟨17,.phase⟩,⟨18,.phase⟩,⟨19,.phase⟩,⟨20,.phase⟩],guard:=none}) rfl (fun K hK=>?_) ?_
      ·have y3:w8.cell? ⟨B5,s,none⟩=some (.slice (g.sort s).1.A (g.sort s).1.n (g.sort s).1.c):=(HB8.out.cell s).trans (cs_sort g s hs4)
       have f3:=HB8.out.frozen s
       go_simp
       have HPC9:Hid ((w8.setCell ⟨B5,s,none⟩ (.slice A8 ((g.sort s).1.n+1) c8)).cell? p=some (.int .i64 (t:Int))):=by obtain⟨n9,h91,h92⟩:=C9.out.here HCS.out;rw[HRF.out] at h91;cases h91;exact h92
       have LKC9:=zh (LK8.out.trans (Rk.set HB8.out (by decide) s (.slice A8 ((g.sort s).1.n+1) c8)))
       clear HB8 KT8 HQ8 OWN SL y3 f3 hHeld
       refine hK.out _ _ ⟨C9.out.b6,C9.out.b7,C9.out.bh,C9.out.below,HPC9.out⟩ (fun hHeld=>?_)
       clear hK K
       refine wpAnyH_done (by kernel_rfl) ?_ _
       refine OnlyN.normal ?_
       obtain⟨fz,rk,g9,c10⟩:=C9.out.put HCS.out HRF.out
       have y9:=HPC9.out
       have HV9:Hid (anewI (refs m.pl) s (t:Int)=((g.sort s).1.n:Int)):=by show _=_;rw[anew_new HRF.out HMEM.out,HGL.out]
       rw[HV9.out] at rk c10
       have HX:Hid (SpPost none (fun k X=>∃ g,NumI w m h B5 B6 (B6+1) (M+1) M k k k X g) (fun _=>False) k X .normal ⟨#[],[]⟩ ((w8.setCell ⟨B5,s,none⟩ (.slice A8 ((g.sort s).1.n+1) c8)).setCell p (.int .i64 ((g.sort s).1.n:Int)))):=.inl ⟨rfl,⟨g9,c10⟩,LKC9.out.trans rk⟩
       clear rk c10
       gi_wp2_with fail
       exact HX.out
      exact AllReadyH.nil
     exact AllReadyH.nil
    exact AllReadyH.nil
   exact AllReadyH.nil
  exact AllReadyH.nil
 rintro D W hD ⟨g,c⟩ hdef
 have hlen:(plcs h).length=(refs m.pl).length:=by
  have h1:=c.own.rd.lnk.len
  rw[c.pl,c.rf,List.length_append,List.length_map,List.length_take,List.length_drop] at h1
  omega
 rw[hlen] at c
 have HPG:Hid (g.pl=numP m.pl):=c.done
 have K5:=zh c.b5
 have KR:=zh c.br
 have HO:=zh c.own
 have BW:=zh c.below
 have HDL:Hid (w.heap.size≤D):=Nat.le_trans HLE.out hD
 have HDF:=zh hdef
 clear c hdef hD hlen
 obtain⟨z0,z1,z2,z3,z4,z5,z6,z7⟩:=c8 K5.out
 obtain⟨y0,y1,y2,y3,y4,y5,y6,y7⟩:=c8 KR.out
 have f0:=KR.out.frozen 0
 have f1:=KR.out.frozen 1
 have f2:=KR.out.frozen 2
 have f3:=KR.out.frozen 3
 have f4:=KR.out.frozen 4
 have f5:=KR.out.frozen 5
 have f6:=KR.out.frozen 6
 have f7:=KR.out.frozen 7
 unfold mkMark
 gi_wp2_with fail
 go_wp2_with fail
 clear z0 y0 f0 z1 y1 f1 z2 y2 f2 z3 y3 f3 z4 y4 f4 z5 y5 f5 z6 y6 f6 z7 y7 f7
 have HF0:=zh (own_step (HO.out) (KR.out) 0 (.slice g.tr.1.A g.tr.1.n g.tr.1.c))
 have HD0:=zh (def_step (KR.out) HDF.out 0 (.slice g.tr.1.A g.tr.1.n g.tr.1.c))
 have HF1:=zh (own_step (HF0.out.1) (HF0.out.2) 1 (.slice g.se.1.A g.se.1.n g.se.1.c))
 have HD1:=zh (def_step (HF0.out.2) HD0.out 1 (.slice g.se.1.A g.se.1.n g.se.1.c))
 have HF2:=zh (own_step (HF1.out.1) (HF1.out.2) 2 (.slice g.ob.1.A g.ob.1.n g.ob.1.c))
 have HD2:=zh (def_step (HF1.out.2) HD1.out 2 (.slice g.ob.1.A g.ob.1.n g.ob.1.c))
 have HF3:=zh (own_step (HF2.out.1) (HF2.out.2) 3 (.slice g.pr.1.A g.pr.1.n g.pr.1.c))
 have HD3:=zh (def_step (HF2.out.2) HD2.out 3 (.slice g.pr.1.A g.pr.1.n g.pr.1.c))
 have HF4:=zh (own_step (HF3.out.1) (HF3.out.2) 4 (.slice g.ev.1.A g.ev.1.n g.ev.1.c))
 have HD4:=zh (def_step (HF3.out.2) HD3.out 4 (.slice g.ev.1.A g.ev.1.n g.ev.1.c))
 have HF5:=zh (own_step (HF4.out.1) (HF4.out.2) 5 (.slice g.od.1.A g.od.1.n g.od.1.c))
 have HD5:=zh (def_step (HF4.out.2) HD4.out 5 (.slice g.od.1.A g.od.1.n g.od.1.c))
 have HF6:=zh (own_step (HF5.out.1) (HF5.out.2) 6 (.slice g.ma.1.A g.ma.1.n g.ma.1.c))
 have HD6:=zh (def_step (HF5.out.2) HD5.out 6 (.slice g.ma.1.A g.ma.1.n g.ma.1.c))
 have HF7:=zh (own_step (HF6.out.1) (HF6.out.2) 7 (.slice g.wa.1.A g.wa.1.n g.wa.1.c))
 have HD7:=zh (def_step (HF6.out.2) HD6.out 7 (.slice g.wa.1.A g.wa.1.n g.wa.1.c))
 have HBF:=zh ((((((((((((((((BW.out).setCell (p:=⟨w.heap.size+1,0,none⟩) (Nat.le_succ _) (.slice g.tr.1.A g.tr.1.n g.tr.1.c))).setCell (p:=⟨w.heap.size+1,1,none⟩) (Nat.le_succ _) (.slice g.se.1.A g.se.1.n g.se.1.c))).setCell (p:=⟨w.heap.size+1,2,none⟩) (Nat.le_succ _) (.slice g.ob.1.A g.ob.1.n g.ob.1.c))).setCell (p:=⟨w.heap.size+1,3,none⟩) (Nat.le_succ _) (.slice g.pr.1.A g.pr.1.n g.pr.1.c))).setCell (p:=⟨w.heap.size+1,4,none⟩) (Nat.le_succ _) (.slice g.ev.1.A g.ev.1.n g.ev.1.c))).setCell (p:=⟨w.heap.size+1,5,none⟩) (Nat.le_succ _) (.slice g.od.1.A g.od.1.n g.od.1.c))).setCell (p:=⟨w.heap.size+1,6,none⟩) (Nat.le_succ _) (.slice g.ma.1.A g.ma.1.n g.ma.1.c))).setCell (p:=⟨w.heap.size+1,7,none⟩) (Nat.le_succ _) (.slice g.wa.1.A g.wa.1.n g.wa.1.c))
 have kf:=HF7.out.2
 simp[zeroH] at kf
 have HKF:=zh kf
 have HOF:=zh HF7.out.1
 clear kf HF0 HF1 HF2 HF3 HF4 HF5 HF6 HF7
 generalize ((((((((W.setCell ⟨w.heap.size+1,0,none⟩ (.slice g.tr.1.A g.tr.1.n g.tr.1.c)).setCell ⟨w.heap.size+1,1,none⟩ (.slice g.se.1.A g.se.1.n g.se.1.c)).setCell ⟨w.heap.size+1,2,none⟩ (.slice g.ob.1.A g.ob.1.n g.ob.1.c)).setCell ⟨w.heap.size+1,3,none⟩ (.slice g.pr.1.A g.pr.1.n g.pr.1.c)).setCell ⟨w.heap.size+1,4,none⟩ (.slice g.ev.1.A g.ev.1.n g.ev.1.c)).setCell ⟨w.heap.size+1,5,none⟩ (.slice g.od.1.A g.od.1.n g.od.1.c)).setCell ⟨w.heap.size+1,6,none⟩ (.slice g.ma.1.A g.ma.1.n g.ma.1.c)).setCell ⟨w.heap.size+1,7,none⟩ (.slice g.wa.1.A g.wa.1.n g.wa.1.c))=wf at *
 have hmk:MarksAt w.heap.size (fun _=>False) [D] wf:=⟨by simp,fun E hE=>by
  rw[List.mem_singleton] at hE
  subst hE
  exact⟨HDL.out,id,HD7.out⟩⟩
 refine leaves_marks [D] _ hmk fun w6 hk=>?_
 have kf:=hk.blk HKF.out (by intro hq;rw[List.mem_singleton] at hq;exact Blk.ne_def HKF.out HD7.out hq)
 obtain⟨r0,r1,r2,r3,r4,r5,r6,r7⟩:=c8 kf
 exact⟨.tuple #[.agg #[.slice g.tr.1.A g.tr.1.n g.tr.1.c,.slice g.se.1.A g.se.1.n g.se.1.c,.slice g.ob.1.A g.ob.1.n g.ob.1.c,.slice g.pr.1.A g.pr.1.n g.pr.1.c,.slice g.ev.1.A g.ev.1.n g.ev.1.c,.slice g.od.1.A g.od.1.n g.od.1.c,.slice g.ma.1.A g.ma.1.n g.ma.1.c,.slice g.wa.1.A g.wa.1.n g.wa.1.c],.int .i64 0],by simp[results,Tryz.results23,go_sem,r0,r1,r2,r3,r4,r5,r6,r7],⟨g,by rw[HX.out],HOF.out.keepS hk fun q t cs hb hq=>by rw[List.mem_singleton] at hq;exact Blk.ne_def hb HD7.out hq,by rw[HSH.out,if_pos rfl];exact HPG.out,HBF.out.trans (hk.below HBF.out.size fun q hq hq2=>by rw[List.mem_singleton] at hq2;have:=HDL.out;omega)⟩⟩
end Go.Proofs.YtmkknbonmameoaaGreatDoor
namespace Go.Proofs.YtmkknbonmameoaaGreatDoor
open Go.RowKit Go.Shelf
def cutN (s:ByteArray):ByteArray:=s.extract 0 (min (s.size:Int) 40).toNat
theorem cutN_size (s:ByteArray):(cutN s).size≤40:=by
 unfold cutN
 simp only[ByteArray.size_extract]
 omega
def cutL (k:Nat) (ss:List ByteArray):List ByteArray:=(ss.take k).map cutN
theorem cutL_len (k:Nat) (ss:List ByteArray):(cutL k ss).length≤k:=by unfold cutL;rw[List.length_map,List.length_take];omega
structure CutI (w:World) (A:Option Addr) (n c:Nat) (ss:List ByteArray) (i:Nat) (X:World):Prop where
 own:X.ownsRow w.heap.size 9 1 (.slice A n c) n (strs ((ss.take i).map cutN++ss.drop i))
 below:Below w.heap.size w X
theorem CutI.next {w X:World} {g n c i:Nat} {ss:List ByteArray} (h:CutI w (some ⟨g,0,none⟩) n c ss i X) {s:ByteArray} (hs:ss[i]?=some s) (hg:w.heap.size≤g):CutI w (some ⟨g,0,none⟩) n c ss (i+1) (X.setCell ⟨g,i,none⟩ (.string (cutN s))):=by
 refine⟨?_,h.below.setCell (p:=⟨g,i,none⟩) hg _⟩
 have:=(h.own.stored i (.string (cutN s))).1
 have hi:=(List.getElem?_eq_some_iff.1 hs).1
 have hl:((ss.take i).map cutN).length=i:=by rw[List.length_map,List.length_take];omega
 have hd:ss.drop i=s :: ss.drop (i+1):=by
  rw[List.drop_eq_getElem_cons hi]
  congr 1
  rw[List.getElem?_eq_getElem hi] at hs
  injection hs
 have e:=set_app (a:=(ss.take i).map cutN) (b:=s :: ss.drop (i+1)) (k:=0) (v:=cutN s) hl
 rw[show i+0=i from rfl,List.set_cons_zero] at e
 have e2:(strs ((ss.take i).map cutN++ss.drop i)).set i (.string (cutN s))=strs ((ss.take (i+1)).map cutN++ss.drop (i+1)):=by
  unfold strs
  rw[← List.map_set (f:=Value.string),hd,e,List.take_add_one,hs]
  simp
 rwa [e2] at this
end Go.Proofs.YtmkknbonmameoaaGreatDoor
namespace Go.Proofs.YtmkknbonmameoaaGreatDoor.F15
open Go.RowKit Go.Shelf
def cutN (s:ByteArray):ByteArray:=s.extract 0 (min (s.size:Int) 40).toNat
theorem cutN_size (s:ByteArray):(cutN s).size≤40:=by
 unfold cutN
 simp only[ByteArray.size_extract]
 omega
def cutL (k:Nat) (ss:List ByteArray):List ByteArray:=(ss.take k).map cutN
theorem cutL_len (k:Nat) (ss:List ByteArray):(cutL k ss).length≤k:=by unfold cutL;rw[List.length_map,List.length_take];omega
structure CutI (w:World) (A:Option Addr) (n c:Nat) (ss:List ByteArray) (i:Nat) (X:World):Prop where
 own:X.ownsRow w.heap.size 9 1 (.slice A n c) n (strs ((ss.take i).map cutN++ss.drop i))
 below:Below w.heap.size w X
theorem CutI.next {w X:World} {g n c i:Nat} {ss:List ByteArray} (h:CutI w (some ⟨g,0,none⟩) n c ss i X) {s:ByteArray} (hs:ss[i]?=some s) (hg:w.heap.size≤g):CutI w (some ⟨g,0,none⟩) n c ss (i+1) (X.setCell ⟨g,i,none⟩ (.string (cutN s))):=by
 refine⟨?_,h.below.setCell (p:=⟨g,i,none⟩) hg _⟩
 have:=(h.own.stored i (.string (cutN s))).1
 have hi:=(List.getElem?_eq_some_iff.1 hs).1
 have hl:((ss.take i).map cutN).length=i:=by rw[List.length_map,List.length_take];omega
 have hd:ss.drop i=s :: ss.drop (i+1):=by
  rw[List.drop_eq_getElem_cons hi]
  congr 1
  rw[List.getElem?_eq_getElem hi] at hs
  injection hs
 have e:=set_app (a:=(ss.take i).map cutN) (b:=s :: ss.drop (i+1)) (k:=0) (v:=cutN s) hl
 rw[show i+0=i from rfl,List.set_cons_zero] at e
 have e2:(strs ((ss.take i).map cutN++ss.drop i)).set i (.string (cutN s))=strs ((ss.take (i+1)).map cutN++ss.drop (i+1)):=by
  unfold strs
  rw[← List.map_set (f:=Value.string),hd,e,List.take_add_one,hs]
  simp
 rwa [e2] at this
set_option maxHeartbeats 4000000 in
theorem cut15_any (A:Option Addr) (n c k:Nat) (ss:List ByteArray) (hk:k≤100) (hnc:n≤c) (hsz:∀ s∈ss,s.size≤9223372036854775807) (w:World) (hR:Reads w w.heap.size 1 A n (strs ss)) :
 Calls Tryz.prog 25 #[.slice A n c,.int .i64 k] w (CopyS (cutL k ss) w):=by
 have hl:=strs_len hR
 have hmin:min (n:Int) k=((min n k:Nat):Int):=by omega
 have hq:min n k≤n∧min n k≤100:=by omega
 have HC:=zh (clones_any A (min n k) c (ss.take (min n k)) (by omega) _ (strs_cut hR hq.1))
 have ek:ss.take (min n k)=ss.take k:=by
  rcases Nat.le_total n k with h | h
  ·rw[Nat.min_eq_left h,List.take_of_length_le (by omega),List.take_of_length_le (by omega)]
  rw[Nat.min_eq_right h]
 rw[ek] at HC
 have hsl:=fun W=>sliceS_h A n c (min n k) (by omega) W
 have HL:Hid ((ss.take k).length=min n k):=by show _=_;rw[List.length_take];omega
 have HSZ:Hid (∀ s∈ss.take k,s.size≤9223372036854775807):=fun s h=>hsz s (List.mem_of_mem_take h)
 have HCL:Hid (cutL k ss=(ss.take k).map cutN):=rfl
 have hq1:=hq.2
 generalize min n k=q at *
 generalize ss.take k=us at *
 generalize cutL k ss=vs at *
 clear hR hl ek hnc hsz hq
 go_enter Tryz.func25,Tryz.ntmps25
 go_wp2_with fail
 refine HC.out.mono ?_
 rintro e w1 ⟨A1,n1,c1,rfl,ho,b1⟩
 have hn1:us.length=n1:=by have:=ho.1;unfold strs at this;simp at this;omega
 have hn2:n1≤100:=by have:=HL.out;omega
 have HI:Hid (CutI w A1 n1 c1 us 0 w1):=⟨by simpa using ho,b1⟩
 have HN1:=zh hn1
 clear ho b1 HC hn1 hsl hmin HL
 go_wp2_with fail
 go_loopw [17] (fun v wr=>∃ i:Nat,i≤n1∧v=.int .i64 i∧Hid (CutI w A1 n1 c1 us i wr)) (fun v _=>n1 - (intOf v).toNat)
 case atStart=>exact⟨0,Nat.zero_le _,rfl,HI⟩
 clear HI
 obtain⟨i,hi1,rfl,HI⟩:=hrel
 by_cases hin:i<n1
 ·have hlt:(i:Int)<(n1:Int):=by omega
  obtain⟨g,hA,hg,hgl,hfz,u,hu,hc⟩:=own_at HI.out.own hin
  obtain⟨s,hs⟩:∃ s,us[i]?=some s:=⟨us[i]'(by rw[HN1.out];exact hin),List.getElem?_eq_getElem _⟩
  have e:u=.string s:=by
   unfold strs at hu
   rw[List.getElem?_map,List.getElem?_append_right (by rw[List.length_map,List.length_take];omega),List.length_map,List.length_take,Nat.min_eq_left (by rw[HN1.out];omega),Nat.sub_self,List.getElem?_drop,Nat.add_zero,hs] at hu
   simpa using hu.symm
  subst e
  subst hA
  have hss:=HSZ.out s (List.mem_of_getElem? hs)
  have HX:=zh (HI.out.next hs hg)
  have HCN:Hid (cutN s=s.extract 0 (min (s.size:Int) 40).toNat):=rfl
  clear hu hs hg hgl
  go_wp2_with fail
  go_roundw
  case rel=>exact⟨i+1,hin,by go_num,HX⟩
  case measure=>simp[intOf];omega
 obtain rfl:i=n1:=by omega
 go_wp2_with fail
 go_ret
 refine⟨A1,i,c1,rfl,?_,HI.out.below⟩
 have:=HI.out.own
 rw[List.take_of_length_le (by rw[HN1.out];exact Nat.le_refl _),List.drop_of_length_le (by rw[HN1.out];exact Nat.le_refl _),List.append_nil] at this
 rw[HCL.out]
 exact this
end Go.Proofs.YtmkknbonmameoaaGreatDoor.F15
