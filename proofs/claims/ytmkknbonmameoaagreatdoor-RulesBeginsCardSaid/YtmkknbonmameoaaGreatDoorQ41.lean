import Derived.Deep.Slices
import Derived.Test.YtmkknbonmameoaaGreatDoorQ40
import Derived.Test.YtmkknbonmameoaaGreatDoorQ31
import Derived.Test.YtmkknbonmameoaaGreatDoorQ6
-- holds: YtmkknbonmameoaaGreatDoorHJza
namespace Go.Proofs.YtmkknbonmameoaaGreatDoor
open Go.ChangeShapes Go.WideShapes Go.ChangeAt Go.RowKit Go.Deep
theorem gWords:Tryz.prog.globalNamed "yardarm/level.words"=some 1:=by kernel_rfl
theorem gWordsType:(Tryz.prog.globals[1]?).map (·.type)=some 205:=by kernel_rfl
theorem gMost:Tryz.prog.globalNamed "yardarm/history.most"=some 0:=by kernel_rfl
theorem gMostType:(Tryz.prog.globals[0]?).map (·.type)=some 82:=by kernel_rfl
theorem cellsFour:Tryz.prog.cellsOf 205=4:=by kernel_rfl
theorem cellsFourI:Tryz.prog.cellsOf 82=4:=by kernel_rfl
def tabStr {H:Type} (ss:List ByteArray):DataW H:=.agg (ss.map fun s=>.lit (.string s.data.toList))
def tabInt {H:Type} (zs:List Int):DataW H:=.agg (zs.map fun z=>.lit (.int .i64 z))
theorem lit_str {H:Type} {s t:ByteArray} (h:(DataW.lit (.string s.data.toList):DataW H)=.lit (.string t.data.toList)):s=t:=by
 injection h with h
 injection h with h
 exact ByteArray.ext (Array.ext' h)
theorem lit_int {H:Type} {s t:Int} (h:(DataW.lit (.int .i64 s):DataW H)=.lit (.int .i64 t)):s=t:=by
 injection h with h
 injection h
set_option maxRecDepth 100000 in
theorem four_strs {H:Type} {enc:TypeId × Value→H} {w:World} {held:Bool} {fuel:Nat} {cs:List Value} {a b c d:ByteArray} {p:List MemPlace} (hc:cs.length=4)
 (h:DataW.trod enc Tryz.prog w 0 (fun _=>true) held fuel 205 cs=some (tabStr [a,b,c,d],p)):cs=[.string a,.string b,.string c,.string d]:=by
 obtain⟨xs,k,_,hx,_,hxl,hat⟩:=DataW.trod_array Tryz.underlying205 h
 match xs,hxl,cs,hc with
 | [y0,y1,y2,y3],_,[v0,v1,v2,v3],_ =>
  have g0:=hat 0 (by omega)
  have g1:=hat 1 (by omega)
  have g2:=hat 2 (by omega)
  have g3:=hat 3 (by omega)
  rw[cells_t.2.1] at g0 g1 g2 g3
  obtain⟨s0,e0,rfl,_⟩:=DataW.trod_string (x:=y0) Tryz.underlying9 (by simpa using g0)
  obtain⟨s1,e1,rfl,_⟩:=DataW.trod_string (x:=y1) Tryz.underlying9 (by simpa using g1)
  obtain⟨s2,e2,rfl,_⟩:=DataW.trod_string (x:=y2) Tryz.underlying9 (by simpa using g2)
  obtain⟨s3,e3,rfl,_⟩:=DataW.trod_string (x:=y3) Tryz.underlying9 (by simpa using g3)
  injection e0 with e0
  injection e1 with e1
  injection e2 with e2
  injection e3 with e3
  have hd:=congrArg Prod.fst hx
  unfold tabStr at hd
  injection hd with hd
  injection hd with d0 hd
  injection hd with d1 hd
  injection hd with d2 hd
  injection hd with d3 hd
  rw[e0,e1,e2,e3,lit_str d0,lit_str d1,lit_str d2,lit_str d3]
set_option maxRecDepth 100000 in
theorem four_ints {H:Type} {enc:TypeId × Value→H} {w:World} {held:Bool} {fuel:Nat} {cs:List Value} {a b c d:Int} {p:List MemPlace} (hc:cs.length=4)
 (h:DataW.trod enc Tryz.prog w 0 (fun _=>true) held fuel 82 cs=some (tabInt [a,b,c,d],p)):cs=[.int .i64 a,.int .i64 b,.int .i64 c,.int .i64 d]:=by
 obtain⟨xs,k,_,hx,_,hxl,hat⟩:=DataW.trod_array Tryz.underlying82 h
 match xs,hxl,cs,hc with
 | [y0,y1,y2,y3],_,[v0,v1,v2,v3],_ =>
  have g0:=hat 0 (by omega)
  have g1:=hat 1 (by omega)
  have g2:=hat 2 (by omega)
  have g3:=hat 3 (by omega)
  rw[cells_t.1] at g0 g1 g2 g3
  obtain⟨s0,e0,rfl,_⟩:=DataW.trod_int (x:=y0) Tryz.underlying3 (by simpa using g0)
  obtain⟨s1,e1,rfl,_⟩:=DataW.trod_int (x:=y1) Tryz.underlying3 (by simpa using g1)
  obtain⟨s2,e2,rfl,_⟩:=DataW.trod_int (x:=y2) Tryz.underlying3 (by simpa using g2)
  obtain⟨s3,e3,rfl,_⟩:=DataW.trod_int (x:=y3) Tryz.underlying3 (by simpa using g3)
  injection e0 with e0
  injection e1 with e1
  injection e2 with e2
  injection e3 with e3
  have hd:=congrArg Prod.fst hx
  unfold tabInt at hd
  injection hd with hd
  injection hd with d0 hd
  injection hd with d1 hd
  injection hd with d2 hd
  injection hd with d3 hd
  rw[e0,e1,e2,e3,lit_int d0,lit_int d1,lit_int d2,lit_int d3]
def laids:List (String × DataW Unit):=[("yardarm/level.words",Rows.laid_yardarm_level_words),("yardarm/history.most",Rows.laid_yardarm_history_most)]
theorem laids_eq:laids=[("yardarm/level.words",tabStr guW),("yardarm/history.most",tabInt [300,60,300,60])]:=by
 unfold laids
 rw[show (Rows.laid_yardarm_level_words:DataW Unit)=tabStr guW by kernel_rfl,show (Rows.laid_yardarm_history_most:DataW Unit)=tabInt [300,60,300,60] by kernel_rfl]
theorem tab_of {W:World} (h:laidMetH Tryz.prog laids W):Tabs W:=by
 rw[MakeChecks.laidMetH_plain _ _ _ (by kernel_rfl),laids_eq] at h
 obtain⟨ps,⟨g0,t0,cs0,f0,p0,q0,hg0,ht0,hv0,hd0,⟨g1,t1,cs1,f1,p1,q1,hg1,ht1,hv1,hd1,_⟩,_⟩,_⟩:=h
 obtain rfl:=Option.some.inj (gWords.symm.trans hg0)
 obtain rfl:=Option.some.inj (gWordsType.symm.trans ht0)
 obtain rfl:=Option.some.inj (gMost.symm.trans hg1)
 obtain rfl:=Option.some.inj (gMostType.symm.trans ht1)
 obtain⟨_,_,_,_,hl0,_⟩:=DataW.trod_array Tryz.underlying205 hd0
 obtain⟨_,_,_,_,hl1,_⟩:=DataW.trod_array Tryz.underlying82 hd1
 have e0:=four_strs (hl0.trans cellsFour) hd0
 have e1:=four_ints (hl1.trans cellsFourI) hd1
 have c0:∀ i,W.cell? ⟨1,i,none⟩=_:=fun i=>(World.var?_cell gWords hv0 i).trans (Array.getElem?_toList.symm.trans (congrArg (·[i]?) e0))
 have c1:∀ i,W.cell? ⟨0,i,none⟩=_:=fun i=>(World.var?_cell gMost hv1 i).trans (Array.getElem?_toList.symm.trans (congrArg (·[i]?) e1))
 have u:∀ k,k<4→W.cell? ⟨1,k,none⟩=some (.string (guAt k)):=fun k hk=>by
  rw[c0 k]
  have:k=0∨k=1∨k=2∨k=3:=by omega
  rcases this with rfl | rfl | rfl | rfl<;>rfl
 have v:∀ k,k<4→W.cell? ⟨0,k,none⟩=some (.int .i64 (([300,60,300,60]:List Int).getD k 0)):=fun k hk=>by
  rw[c1 k]
  have:k=0∨k=1∨k=2∨k=3:=by omega
  rcases this with rfl | rfl | rfl | rfl<;>rfl
 exact⟨u,v,hcell_lt (v 0 (by decide)),hcell_lt (u 0 (by decide))⟩
end Go.Proofs.YtmkknbonmameoaaGreatDoor
