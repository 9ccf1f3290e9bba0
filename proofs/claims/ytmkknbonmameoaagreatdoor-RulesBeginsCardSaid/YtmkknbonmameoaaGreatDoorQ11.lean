import Derived.Lay
import Derived.WideKeyEntry
import Derived.DeepKeys4
import Derived.Maps.Own
import Derived.Maps.OwnSet
import Derived.Maps.OwnOps
import Derived.Maps.OwnIn
import Derived.Maps.RangeWalk
import Derived.Maps.Views
import Derived.Test.YtmkknbonmameoaaGreatDoorQ9
-- holds: YtmkknbonmameoaaGreatDoorHZc YtmkknbonmameoaaGreatDoorHZd
namespace Go.Proofs.YtmkknbonmameoaaGreatDoor
open Go.RowKit Go.Maps Go.WideElems Go.ChangeShapes Go.WideShapes
theorem setBlock_heapZ {w:World} {b:Nat} {es:Array MapEntry} {clock:Nat} {o':Obj} (h:w.heap[b]?=some (.map es clock)):(ChangeMaps.setBlock w b o').heap[b]?=some o':=Go.ChangeMaps.heap_setBlock_same h _
theorem setBlock_twiceZ (w:World) (b:Nat) (o o':Obj):ChangeMaps.setBlock (ChangeMaps.setBlock w b o) b o'=ChangeMaps.setBlock w b o':=by
 unfold ChangeMaps.setBlock
 simp
theorem setBlock_selfZ {w:World} {b:Nat} {o:Obj} (h:w.heap[b]?=some o):ChangeMaps.setBlock w b o=w:=by
 unfold ChangeMaps.setBlock
 cases w with
 | mk heap tape drawn os output =>
  congr 1
  apply Array.ext_getElem?
  intro i
  rw[Array.getElem?_setIfInBounds]
  split
  ·rename_i hi
   subst hi
   rw[if_pos (Array.getElem?_eq_some_iff.1 h).1]
   exact h.symm
  rfl
theorem setBlock_grownZ {w:World} {b:Nat} {es:Array MapEntry} {clock:Nat} {o':Obj} (h:w.heap[b]?=some (.map es clock)):w.grownBy (ChangeMaps.setBlock w b o') (some b) :=
 ⟨rfl,rfl,rfl,by simp[ChangeMaps.setBlock],fun i _ hi=>Go.ChangeMaps.heap_setBlock_other h _ (fun e=>hi (by rw[e]))⟩
theorem ok_valZ {α:Type} {a b:α} {w w':World} (h:Result.ok a w=Result.ok b w'):a=b:=by cases h;rfl
theorem ok_worldZ {α:Type} {a b:α} {w w':World} (h:Result.ok a w=Result.ok b w'):w=w':=by cases h;rfl
section
variable {H : Type} {P : Program} {w : World} {t k e : TypeId} {b n : Nat} {D : DataW H}
theorem bumpZ (K:WideMaps.KeyLaw P k) (ht:P.underlying t=some (.map k e)) (he:P.underlying e=some (.int .i64)) (hz:∀ u:World,(zeroValue e).run P u=.ok (.int .i64 0) u) (h:w.ownsMap P k (plainElem P e) b n D) (hn:n<maxLen)
 {key:Value} {kl:Lit} (hkey:keyOf P k key=some kl) :
 ∃ (c:Int) (v0:Value) (st:Nat) (w1:World),D.atKey kl (.lit (.int .i64 0))=.lit (.int .i64 c)∧(Lit.int .i64 c).wf=true∧(Instr.lookup t (.map (some b)) key false).run P w=.ok (.int .i64 c) w ∧
  (Instr.mapEntry t (.map (some b)) key).run P w=.ok (.tuple #[v0,.int .i64 st]) w1∧(Instr.lookup t (.map (some b)) key false).run P w1=.ok (.int .i64 c) w1∧w.grownBy w1 (some b) ∧
  ∀ c':Int,(Lit.int .i64 c').wf=true→∃ w2,(Instr.entryStore t (.map (some b)) (.int .i64 st) (.int .i64 c')).run P w1=.ok () w2∧w2.ownsMap P k (plainElem P e) b (n+1) (D.put kl (.lit (.int .i64 c')))∧w.grownBy w2 (some b):=by
 have h0:=h
 obtain⟨c,hl,hat,hwc⟩:=h.lookup_int (Keyed.of_law K) ht he (hz w) hkey
 obtain⟨es,clock,hb,F,hs,hD⟩:=h
 obtain⟨v0,st,es1,clock1,hme,hor,hst⟩:=entry_then_store K ht hz hb F hkey
 have hb1:=setBlock_heapZ (o':=.map es1 clock1) hb
 have hg1:=setBlock_grownZ (o':=.map es1 clock1) hb
 obtain⟨W1,hW1⟩:∃ W1,ChangeMaps.setBlock w b (.map es1 clock1)=W1:=⟨_,rfl⟩
 rw[hW1] at hb1 hg1 hme
 refine⟨c,v0,st,W1,hat,hwc,hl,hme,?_,hg1,fun c' hc'=>?_⟩
 ·rcases K.find w hkey es.toList F.keys with ⟨h1,h2⟩ | ⟨j,e0,h1,h2,h3⟩
  ·have hrun:(Instr.mapEntry t (.map (some b)) key).run P w=.ok (.tuple #[.int .i64 0,goInt clock]) (ChangeMaps.setBlock w b (.map (es.push ⟨key,.int .i64 0,clock⟩) (clock+1))):=by
    simp[Instr.mapEntry,run_underlying ht,MapKept.run_getObj_map hb,K.check w false hkey,h1,hz,MapKept.run_setObj_map _ hb,Result.andThen,ChangeMaps.setBlock]
   have hl0:(Instr.lookup t (.map (some b)) key false).run P w=.ok (.int .i64 0) w:=by
    simp[Instr.lookup,run_underlying ht,MapKept.run_getObj_map hb,K.check w _ hkey,h1,hz,Result.andThen]
   have hc0:Value.int .i64 c=.int .i64 0:=ok_valZ (hl.symm.trans hl0)
   have hw1:=ok_worldZ (hme.symm.trans hrun)
   clear hW1
   subst hw1
   rw[hc0]
   have hb2:=setBlock_heapZ (o':=.map (es.push ⟨key,.int .i64 0,clock⟩) (clock+1)) hb
   have hkeys:∀ x∈(es.push ⟨key,.int .i64 0,clock⟩).toList,∃ l,keyOf P k x.key=some l:=fun x hx=>by
    rw[Array.toList_push,List.mem_append,List.mem_singleton] at hx
    rcases hx with hx | rfl
    ·exact F.keys x hx
    exact⟨_,hkey⟩
   rcases K.find (ChangeMaps.setBlock w b (.map (es.push ⟨key,.int .i64 0,clock⟩) (clock+1))) hkey _ hkeys with ⟨g1,g2⟩ | ⟨j,e1,g1,g2,g3⟩
   ·exact absurd rfl (g2 ⟨key,.int .i64 0,clock⟩ (by simp))
   have hv:e1.val=.int .i64 0:=by
    have hm:=List.mem_of_getElem? g2
    rw[Array.toList_push,List.mem_append,List.mem_singleton] at hm
    rcases hm with hm | rfl
    ·exact absurd g3 (h2 e1 hm)
    rfl
   rw[Array.toList_push] at g1
   simp[Instr.lookup,run_underlying ht,MapKept.run_getObj_map hb2,K.check _ _ hkey,g1,hv,Result.andThen]
  have hj:es[j]?=some e0:=by simpa using h2
  have hsame:es.modify j (fun e=>{e with key:=key})=es:=by
   apply Array.ext'
   rw[Array.toList_modify,ChangeMaps.modify_eq_set _ _ _ _ h2,show ({e0 with key:=key}:MapEntry)=e0 by rw[← h3]]
   exact set_self _ _ _ h2
  have hrun:(Instr.mapEntry t (.map (some b)) key).run P w=.ok (.tuple #[e0.val,goInt e0.born]) (ChangeMaps.setBlock w b (.map es clock)):=by
   simp[Instr.mapEntry,run_underlying ht,MapKept.run_getObj_map hb,K.check w false hkey,h1,hj,h3,K.stays w hkey,hsame,MapKept.run_setObj_map _ hb,Result.andThen,ChangeMaps.setBlock]
  have hw1:=ok_worldZ (hme.symm.trans hrun)
  rw[setBlock_selfZ hb] at hw1
  clear hW1
  subst hw1
  exact hl
 obtain⟨es',clock',hs1,hs2⟩:=hst W1 (.int .i64 c') hb1
 obtain⟨w',hr,r1,r2⟩:=h0.update (Keyed.of_law K) ht hn hkey (plainElem_int he hc')
 have hr:=ok_worldZ (hs2.symm.trans hr)
 subst hr
 rw[← hW1,setBlock_twiceZ] at hs1
 rw[hW1] at hs1
 exact⟨_,hs1,r1,r2⟩
end
theorem ownsMap_at {P:Program} {H:Type} {W W':World} {kt:TypeId} {R:Value→Option (DataW H × List MemPlace)} {M k:Nat} {D:DataW H} (h:W.ownsMap P kt R M k D) (hb:W'.heap[M]?=W.heap[M]?):W'.ownsMap P kt R M k D:=by
 obtain⟨es,clock,h1,r⟩:=h
 exact⟨es,clock,hb.trans h1,r⟩
section
variable {α : Type}
structure Keys (kt:TypeId) (enc:α→Value) (key:α→Lit) (ok:α→Prop):Prop where
 keyed:Keyed Tryz.prog kt
 keyOf:∀ p,ok p→keyOf Tryz.prog kt (enc p)=some (key p)
 inj:∀ p q,enc p=enc q→p=q
 lit:∀ p,WideAt.IsKeyLit (key p)
theorem Keys.ne {kt:TypeId} {enc:α→Value} {key:α→Lit} {ok:α→Prop} (K:Keys kt enc key ok) {p q:α} (hp:ok p) (hq:ok q) (h:p≠q):key p≠key q:=fun e=>by
 have h1:=K.keyOf p hp
 have h2:=K.keyOf q hq
 rw[e] at h1
 exact h (K.inj _ _ (K.keyed.inj h1 h2))
variable [BEq α]
structure CntD (key:α→Lit) (ok:α→Prop) (D:DataW Unit) (ks:List α):Prop where
 isMap:IsMap D
 at_:∀ (q:α) (zd:DataW Unit),ok q→D.atKey (key q) zd=if ks.count q=0 then zd else .lit (.int .i64 ((ks.count q:Nat):Int))
theorem CntD.none_ {key:α→Lit} {ok:α→Prop}:CntD key ok (.map []) []:=⟨⟨[],rfl⟩,fun s zd _=>by rw[if_pos (by simp)];rfl⟩
theorem CntD.put [LawfulBEq α] {kt:TypeId} {enc:α→Value} {key:α→Lit} {ok:α→Prop} {D:DataW Unit} {ks:List α} (K:Keys kt enc key ok) (h:CntD key ok D ks) {p:α} (hp:ok p):CntD key ok (D.put (key p) (.lit (.int .i64 ((ks.count p:Nat)+1:Int)))) (ks++[p]):=by
 refine⟨h.isMap.put _ _,fun q zd hq=>?_⟩
 rw[List.count_append]
 by_cases e:q=p
 ·subst e
  rw[atKey_put_same h.isMap (K.lit q),if_neg (by simp)]
  simp
 have hpq:(p==q)=false:=by
  rw[Bool.eq_false_iff]
  intro h2
  exact e (eq_of_beq h2).symm
 rw[atKey_put_other (K.ne hq hp e),h.at_ q zd hq,List.count_singleton,hpq]
 simp
def CntM (kt:TypeId) (key:α→Lit) (ok:α→Prop) (M:Nat) (ks:List α) (W:World):Prop:=∃ D,W.ownsMap (H:=Unit) Tryz.prog kt (plainElem Tryz.prog 3) M ks.length D∧CntD key ok D ks
variable {kt t : TypeId} {enc : α → Value} {key : α → Lit} {ok : α → Prop} {M : Nat} {ks : List α} {W X : World} {p : α}
theorem CntM.lt (h:CntM kt key ok M ks W):M<W.heap.size:=by
 obtain⟨D,h1,_⟩:=h
 exact h1.lt
theorem CntM.keep {S:Nat→Prop} (h:CntM kt key ok M ks W) (hk:Keep S W X) (hs:S M):CntM kt key ok M ks X:=by
 have hl:=h.lt
 obtain⟨D,h1,h2⟩:=h
 exact⟨D,ownsMap_at h1 (hk.block M hl hs),h2⟩
theorem CntM.on (h:CntM kt key ok M ks W) (hb:Below W.heap.size W X):CntM kt key ok M ks X:=h.keep (Keep.of_all (fun _=>True) hb) trivial
theorem CntM.blk_ne (h:CntM kt key ok M ks W) {g:Nat} {t:TypeId} {cs:Array Value} (hb:Blk W g t cs):g≠M:=fun e=>by
 obtain⟨D,⟨es,clock,hm,_⟩,_⟩:=h
 unfold Blk at hb
 rw[e,hm] at hb
 cases hb
theorem CntM.new (W:World):CntM kt key ok W.heap.size ([]:List α) (W.alloc (.map #[] 0)):=⟨_,World.ownsMap_made _ _ _ _,CntD.none_⟩
theorem zeroIntZ (w:World):(zeroValue 3).run Tryz.prog w=.ok (.int .i64 0) w:=by kernel_rfl
set_option maxRecDepth 100000 in
theorem CntM.look (K:Keys kt enc key ok) (ht:Tryz.prog.underlying t=some (.map kt 3)) (h:CntM kt key ok M ks W) (hp:ok p):(Instr.lookup t (.map (some M)) (enc p) false).run Tryz.prog W=.ok (.int .i64 ((ks.count p:Nat):Int)) W:=by
 obtain⟨D,h1,h2⟩:=h
 obtain⟨c,hl,hat,_⟩:=h1.lookup_int K.keyed ht Tryz.underlying3 (zeroIntZ W) (K.keyOf p hp)
 rw[hl]
 rw[h2.at_ p _ hp] at hat
 split at hat
 ·rename_i h0
  injection hat with hat
  injection hat with _ hat
  rw[← hat,h0]
  rfl
 injection hat with hat
 injection hat with _ hat
 rw[← hat]
set_option maxRecDepth 100000 in
theorem CntM.bump [LawfulBEq α] (KL:WideMaps.KeyLaw Tryz.prog kt) (K:Keys kt enc key ok) (ht:Tryz.prog.underlying t=some (.map kt 3)) (h:CntM kt key ok M ks W) (hp:ok p) (hn:ks.length≤1000000000):∃ (c:Nat) (v0:Value) (st:Nat) (w1 w2:World),c=ks.count p∧c≤ks.length∧(Instr.lookup t (.map (some M)) (enc p) false).run Tryz.prog W=.ok (.int .i64 (c:Int)) W ∧
 (Instr.mapEntry t (.map (some M)) (enc p)).run Tryz.prog W=.ok (.tuple #[v0,.int .i64 st]) w1∧(Instr.lookup t (.map (some M)) (enc p) false).run Tryz.prog w1=.ok (.int .i64 (c:Int)) w1∧W.grownBy w1 (some M) ∧
 (Instr.entryStore t (.map (some M)) (.int .i64 st) (.int .i64 ((c:Int)+1))).run Tryz.prog w1=.ok () w2∧CntM kt key ok M (ks++[p]) w2∧W.grownBy w2 (some M):=by
 have hl0:=h.look K ht hp
 obtain⟨D,h1,h2⟩:=h
 obtain⟨c,v0,st,w1,hat,_,hl,hme,hl1,hg,hst⟩:=bumpZ KL ht Tryz.underlying3 zeroIntZ h1 (by unfold maxLen;omega) (K.keyOf p hp)
 have hc:Value.int .i64 c=.int .i64 ((ks.count p:Nat):Int):=ok_valZ (hl.symm.trans hl0)
 injection hc with _ hc
 subst hc
 have hle:ks.count p≤ks.length:=List.count_le_length
 obtain⟨w2,hs2,hm2,hg2⟩:=hst ((ks.count p:Nat)+1) (WalkArith.wf_i64 (by omega))
 refine⟨ks.count p,v0,st,w1,w2,rfl,hle,hl,hme,hl1,hg,hs2,⟨_,?_,h2.put K hp⟩,hg2⟩
 rw[List.length_append]
 exact hm2
end
theorem laidZ:laidOutB Tryz.prog=true:=by kernel_rfl
def encZ (p:Int × Int):Value:=.agg #[.int .i64 p.1,.int .i64 p.2]
def keyZ (p:Int × Int):Lit:=.string (keyBytes [.int .i64 p.1,.int .i64 p.2])
def okZ (p:Int × Int):Prop:=(Lit.int .i64 p.1).wf=true∧(Lit.int .i64 p.2).wf=true
theorem encZ_inj (p q:Int × Int) (h:encZ p=encZ q):p=q:=by
 unfold encZ at h
 injection h with h
 simp at h
 exact Prod.ext h.1 h.2
def encS (p:Int × Int × Int):Value:=.agg #[.int .i64 p.1,.int .i64 p.2.1,.int .i64 p.2.2]
def keyS (p:Int × Int × Int):Lit:=.string (keyBytes [.int .i64 p.1,.int .i64 p.2.1,.int .i64 p.2.2])
def okS (p:Int × Int × Int):Prop:=(Lit.int .i64 p.1).wf=true∧(Lit.int .i64 p.2.1).wf=true∧(Lit.int .i64 p.2.2).wf=true
theorem encS_inj (p q:Int × Int × Int) (h:encS p=encS q):p=q:=by
 unfold encS at h
 injection h with h
 simp at h
 exact Prod.ext h.1 (Prod.ext h.2.1 h.2.2)
def encI (p:Int):Value:=.int .i64 p
def keyI (p:Int):Lit:=.int .i64 p
def okI (p:Int):Prop:=(Lit.int .i64 p).wf=true
theorem encI_inj (p q:Int) (h:encI p=encI q):p=q:=by
 unfold encI at h
 injection h
theorem intKeys:Keys 3 encI keyI okI:=⟨int_keyed Tryz.underlying3,fun _ h=>keyOf_int_mk Tryz.underlying3 h,encI_inj,fun _=>trivial⟩
theorem writingLaw:WideMaps.KeyLaw Tryz.prog 110:=deep_law_laid laidZ (m:=2) (by omega) (of_decide_eq_true (by kernel_rfl)) (by kernel_rfl) (by kernel_rfl)
theorem lits_writing (m:Nat) (x y:Value):Tryz.prog.keyLits (m+1+1) 110 [x,y]=(Tryz.prog.keyLits (m+1) 3 [x]).bind fun a=>(Tryz.prog.keyLits (m+1) 3 [y]).map fun b=>a++b:=by
 conv=>lhs;unfold Program.keyLits
 simp only[Tryz.underlying110]
 rw[if_pos ⟨by show 2=_;kernel_rfl,by kernel_rfl⟩,List.mapM_cons,List.mapM_cons,List.mapM_nil]
 have c:Tryz.prog.cellsOf 3=1:=by kernel_rfl
 simp only[c,List.drop_zero,List.take_succ_cons,List.take_zero,List.drop_succ_cons,List.drop_zero]
 cases Tryz.prog.keyLits (m+1) 3 [x]<;>cases Tryz.prog.keyLits (m+1) 3 [y]<;>simp
set_option maxRecDepth 100000 in
theorem keyOf_writing (p:Int × Int) (h:okZ p):keyOf Tryz.prog 110 (encZ p)=some (keyZ p):=by
 have hk:Tryz.prog.keyType 110=true:=by kernel_rfl
 have hc:Tryz.prog.cellsOf 110=2:=by kernel_rfl
 obtain⟨m,hm⟩:∃ m,Tryz.prog.types.size=m+1:=⟨Tryz.prog.types.size - 1,by decide⟩
 unfold keyOf encZ
 simp only[Tryz.underlying110]
 rw[if_pos (by simp[hk,Value.formed,Tryz.underlying110,hc]),hm]
 simp only[Value.cells]
 rw[lits_writing]
 simp[Program.keyLits,Tryz.underlying3,h.1,h.2,keyZ]
theorem writingKeys:Keys 110 encZ keyZ okZ:=⟨Keyed.of_law writingLaw,keyOf_writing,encZ_inj,fun _=>trivial⟩
theorem pairLaw:WideMaps.KeyLaw Tryz.prog 159:=deep_law_laid laidZ (m:=2) (by omega) (of_decide_eq_true (by kernel_rfl)) (by kernel_rfl) (by kernel_rfl)
theorem lits_pair (m:Nat) (x y:Value):Tryz.prog.keyLits (m+1+1) 159 [x,y]=(Tryz.prog.keyLits (m+1) 3 [x]).bind fun a=>(Tryz.prog.keyLits (m+1) 3 [y]).map fun b=>a++b:=by
 conv=>lhs;unfold Program.keyLits
 simp only[Tryz.underlying159]
 rw[if_pos ⟨by show 2=_;kernel_rfl,by kernel_rfl⟩,List.mapM_cons,List.mapM_cons,List.mapM_nil]
 have c:Tryz.prog.cellsOf 3=1:=by kernel_rfl
 simp only[c,List.drop_zero,List.take_succ_cons,List.take_zero,List.drop_succ_cons,List.drop_zero]
 cases Tryz.prog.keyLits (m+1) 3 [x]<;>cases Tryz.prog.keyLits (m+1) 3 [y]<;>simp
set_option maxRecDepth 100000 in
theorem keyOf_pair (p:Int × Int) (h:okZ p):keyOf Tryz.prog 159 (encZ p)=some (keyZ p):=by
 have hk:Tryz.prog.keyType 159=true:=by kernel_rfl
 have hc:Tryz.prog.cellsOf 159=2:=by kernel_rfl
 obtain⟨m,hm⟩:∃ m,Tryz.prog.types.size=m+1:=⟨Tryz.prog.types.size - 1,by decide⟩
 unfold keyOf encZ
 simp only[Tryz.underlying159]
 rw[if_pos (by simp[hk,Value.formed,Tryz.underlying159,hc]),hm]
 simp only[Value.cells]
 rw[lits_pair]
 simp[Program.keyLits,Tryz.underlying3,h.1,h.2,keyZ]
theorem pairKeys:Keys 159 encZ keyZ okZ:=⟨Keyed.of_law pairLaw,keyOf_pair,encZ_inj,fun _=>trivial⟩
theorem seenLaw:WideMaps.KeyLaw Tryz.prog 64:=deep_law_laid laidZ (m:=3) (by omega) (of_decide_eq_true (by kernel_rfl)) (by kernel_rfl) (by kernel_rfl)
theorem lits_ver (m:Nat) (x y:Value):Tryz.prog.keyLits (m+1+1) 57 [x,y]=(Tryz.prog.keyLits (m+1) 3 [x]).bind fun a=>(Tryz.prog.keyLits (m+1) 3 [y]).map fun b=>a++b:=by
 conv=>lhs;unfold Program.keyLits
 simp only[Tryz.underlying57]
 rw[if_pos ⟨by show 2=_;kernel_rfl,by kernel_rfl⟩,List.mapM_cons,List.mapM_cons,List.mapM_nil]
 have c:Tryz.prog.cellsOf 3=1:=by kernel_rfl
 simp only[c,List.drop_zero,List.take_succ_cons,List.take_zero,List.drop_succ_cons,List.drop_zero]
 cases Tryz.prog.keyLits (m+1) 3 [x]<;>cases Tryz.prog.keyLits (m+1) 3 [y]<;>simp
theorem lits_seen (m:Nat) (x y z:Value):Tryz.prog.keyLits (m+1+1+1) 64 [x,y,z]=(Tryz.prog.keyLits (m+1+1) 3 [x]).bind fun a=>(Tryz.prog.keyLits (m+1+1) 57 [y,z]).map fun b=>a++b:=by
 conv=>lhs;unfold Program.keyLits
 simp only[Tryz.underlying64]
 rw[if_pos ⟨by show 3=_;kernel_rfl,by kernel_rfl⟩,List.mapM_cons,List.mapM_cons,List.mapM_nil]
 have c:Tryz.prog.cellsOf 3=1:=by kernel_rfl
 have c2:Tryz.prog.cellsOf 57=2:=by kernel_rfl
 simp only[c,c2,List.drop_zero,List.take_succ_cons,List.take_zero,List.drop_succ_cons,List.drop_zero]
 cases Tryz.prog.keyLits (m+1+1) 3 [x]<;>cases Tryz.prog.keyLits (m+1+1) 57 [y,z]<;>simp
set_option maxRecDepth 100000 in
theorem keyOf_seen (p:Int × Int × Int) (h:okS p):keyOf Tryz.prog 64 (encS p)=some (keyS p):=by
 have hk:Tryz.prog.keyType 64=true:=by kernel_rfl
 have hc:Tryz.prog.cellsOf 64=3:=by kernel_rfl
 obtain⟨m,hm⟩:∃ m,Tryz.prog.types.size=m+1+1:=⟨Tryz.prog.types.size - 2,by decide⟩
 unfold keyOf encS
 simp only[Tryz.underlying64]
 rw[if_pos (by simp[hk,Value.formed,Tryz.underlying64,hc]),hm]
 simp only[Value.cells]
 rw[lits_seen,lits_ver]
 simp[Program.keyLits,Tryz.underlying3,h.1,h.2.1,h.2.2,keyS]
theorem seenKeys:Keys 64 encS keyS okS:=⟨Keyed.of_law seenLaw,keyOf_seen,encS_inj,fun _=>trivial⟩
end Go.Proofs.YtmkknbonmameoaaGreatDoor
