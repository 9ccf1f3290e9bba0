import Derived.Test.YtmkknbonmameoaaGreatDoorQ5
import Derived.StillTailTactics
import Derived.Deep.RegionHeld3
import Derived.Test.YtmkknbonmameoaaGreatDoorQ16
import Derived.Test.YtmkknbonmameoaaGreatDoorQ19
import Derived.Test.YtmkknbonmameoaaGreatDoorQ6
import Derived.Test.YtmkknbonmameoaaGreatDoorQ17
import Derived.Test.YtmkknbonmameoaaGreatDoorQ15
-- holds: YtmkknbonmameoaaGreatDoorHIi YtmkknbonmameoaaGreatDoorHIj YtmkknbonmameoaaGreatDoorHIk YtmkknbonmameoaaGreatDoorHIl
namespace Go.Proofs.YtmkknbonmameoaaGreatDoor
open Go.RowKit Go.Shelf
theorem run_store_nilFunc {P:Program} {w:World} {a:Addr} {m:Mode}:(store a .nilFunc m).run P w=stored P w a .nilFunc m:=run_store P w a _ m rfl
attribute [local go_sem] run_store_nilFunc run_store_funcJ
set_option maxHeartbeats 1000000 in
theorem names_any (B:Nat) (w:World):Calls Tryz.prog 40 #[.pointer (some ⟨B,0,none⟩)] w fun e w'=>e=.returned (.agg #[.pointer (some ⟨B,0,none⟩),.pointer (some ⟨B,1,none⟩),.pointer (some ⟨B,2,none⟩),.pointer (some ⟨B,3,none⟩)])∧Below w.heap.size w w':=by
 go_enter Tryz.func40,Tryz.ntmps40
 go_wp2_with fail
 go_region
 go_wp2_with fail
 refine bodyPost_ret (v:=.agg #[.pointer (some ⟨B,0,none⟩),.pointer (some ⟨B,1,none⟩),.pointer (some ⟨B,2,none⟩),.pointer (some ⟨B,3,none⟩)]) (by simp[results,Tryz.results40,go_sem]) rfl ?_
 exact⟨rfl,((Below.refl _ _).alloc (Nat.le_refl _) _).drew⟩
theorem eqz (k:Int):(k==0)=decide (k=0):=by rw[Bool.eq_iff_iff];simp
set_option maxHeartbeats 2000000 in
theorem told_any (t k:Int) (w:World):Calls Tryz.prog 162 #[.agg #[.int .i64 t,.int .i64 k]] w fun e w'=>e=.returned (.bool (toldB t k))∧w'=w.alloc (.cells #[.int .i64 t,.int .i64 k] 57):=by
 by_cases h0:k=0
 ·have HD:Hid (toldB t k=(t==0)):=by show _=_;unfold toldB;rw[if_pos h0,eqz]
  have hb:(k==0)=true:=by simpa using h0
  clear h0
  go_enter Tryz.func162,Tryz.ntmps162
  go_wp2_with fail
  go_ret
  exact⟨by rw[HD.out];rfl,rfl⟩
 have hb:(k==0)=false:=by simpa using h0
 by_cases h1:k > 0
 ·have HD:Hid (toldB t k=decide (k≤999)):=by show _=_;unfold toldB;rw[if_neg h0,decide_eq_true (show 0<k from h1)];rfl
  clear h0
  go_enter Tryz.func162,Tryz.ntmps162
  go_wp2_with fail
  go_ret
  exact⟨by rw[HD.out];rfl,rfl⟩
 have HD:Hid (toldB t k=false):=by show _=_;unfold toldB;rw[if_neg h0,decide_eq_false (show ¬0<k from h1)];rfl
 clear h0
 go_enter Tryz.func162,Tryz.ntmps162
 go_wp2_with fail
 go_ret
 exact⟨by rw[HD.out];rfl,rfl⟩
set_option maxHeartbeats 1000000 in
theorem kinds_any (w:World):Calls Tryz.prog 126 #[] w fun e w'=>e=.returned (.agg #[.nilFunc,.func (.func 159) #[] #[],.func (.func 161) #[] #[],.func (.func 163) #[] #[],.func (.func 164) #[] #[],.func (.func 158) #[] #[],.func (.func 158) #[] #[]])∧Below w.heap.size w w':=by
 go_enter Tryz.func126,Tryz.ntmps126
 go_wp2_with fail
 refine bodyPost_ret (v:=.agg #[.nilFunc,.func (.func 159) #[] #[],.func (.func 161) #[] #[],.func (.func 163) #[] #[],.func (.func 164) #[] #[],.func (.func 158) #[] #[],.func (.func 158) #[] #[]]) (by simp[results,Tryz.results126,go_sem]) rfl ?_
 exact⟨rfl,(Below.refl _ _).alloc (Nat.le_refl _) _⟩
end Go.Proofs.YtmkknbonmameoaaGreatDoor
namespace Go.Proofs.YtmkknbonmameoaaGreatDoor
open Go.RowKit Go.Shelf
def KindIs (p:EvP × SH) (w:World) (cs:Array Value):Ending→World→Prop:=fun e w'=>e=.returned (.tuple #[.agg cs,.bool (mayE p.1)])∧Below w.heap.size w w'
theorem levz (l:Int):(levE l==0)=levB l:=by
 unfold levE
 cases levB l<;>rfl
set_option maxRecDepth 100000 in
set_option maxHeartbeats 8000000 in
theorem kind_end (p:EvP × SH) (hk:p.1.kd=5∨p.1.kd=6) (w:World):Calls Tryz.prog 158 #[.agg #[.int .i64 p.1.kd,.int .i64 p.1.t,.int .i64 p.1.s,.int .i64 p.1.lev,.int .i64 p.1.o,.int .i64 p.1.vt,.int .i64 p.1.vk,.int .i64 p.1.p,.slice p.2.A p.2.n p.2.c]] w (KindIs p w #[.int .i64 p.1.kd,.int .i64 p.1.t,.int .i64 0,.int .i64 0,.int .i64 0,.int .i64 0,.int .i64 0,.int .i64 0,.slice none 0 0]):=by
 have HM:Hid (mayE p.1=true):=by show _=_;unfold mayE;rcases hk with h | h<;>simp[h]
 clear hk
 go_enter Tryz.func158,Tryz.ntmps158
 go_wp2_with fail
 refine bodyPost_ret (v:=.tuple #[.agg #[.int .i64 p.1.kd,.int .i64 p.1.t,.int .i64 0,.int .i64 0,.int .i64 0,.int .i64 0,.int .i64 0,.int .i64 0,.slice none 0 0],.bool true]) (by simp[results,Tryz.results158,go_sem]) rfl ?_
 exact⟨by rw[HM.out],(((Below.refl _ _).alloc (Nat.le_refl _) _).alloc (by simp) _)⟩
set_option maxRecDepth 100000 in
set_option maxHeartbeats 8000000 in
theorem kind_begin (p:EvP × SH) (hk:p.1.kd=1) (w:World):Calls Tryz.prog 159 #[.agg #[.int .i64 p.1.kd,.int .i64 p.1.t,.int .i64 p.1.s,.int .i64 p.1.lev,.int .i64 p.1.o,.int .i64 p.1.vt,.int .i64 p.1.vk,.int .i64 p.1.p,.slice p.2.A p.2.n p.2.c]] w (KindIs p w #[.int .i64 p.1.kd,.int .i64 p.1.t,.int .i64 p.1.s,.int .i64 p.1.lev,.int .i64 0,.int .i64 0,.int .i64 0,.int .i64 0,.slice none 0 0]):=by
 have HM:Hid (mayE p.1=levB p.1.lev):=by show _=_;unfold mayE;rw[if_pos hk]
 have hlz:=levz p.1.lev
 clear hk
 go_enter Tryz.func159,Tryz.ntmps159
 go_wp2_with fail
 refine wp_region_noPanic ?_
 refine wp_region_held_drew (S:=fun W=>Blk W w.heap.size 60 #[.int .i64 p.1.kd,.int .i64 p.1.t,.int .i64 p.1.s,.int .i64 p.1.lev,.int .i64 p.1.o,.int .i64 p.1.vt,.int .i64 p.1.vk,.int .i64 p.1.p,.slice p.2.A p.2.n p.2.c]) (by kernel_rfl) (((Blk.new w 60 #[.int .i64 p.1.kd,.int .i64 p.1.t,.int .i64 p.1.s,.int .i64 p.1.lev,.int .i64 p.1.o,.int .i64 p.1.vt,.int .i64 p.1.vk,.int .i64 p.1.p,.slice p.2.A p.2.n p.2.c]).alloc _).drew) (fun hHeld=>?_)
 refine tkv 0 (some 4) (.pointer (some ⟨w.heap.size,0,none⟩)) rfl rfl (fun w' hSw=>by go_simp) ?_
 try simp only[Act.put,zS]
 refine tkv 1 (some 5) (.int .i64 p.1.kd) rfl rfl (fun w' hSw=>by (have c9:=Blk.cell (w:=w') hSw 0;go_simp)) ?_
 try simp only[Act.put,zS]
 refine tkv 2 (some 6) (.pointer (some ⟨w.heap.size,1,none⟩)) rfl rfl (fun w' hSw=>by go_simp) ?_
 try simp only[Act.put,zS]
 refine tkv 3 (some 7) (.int .i64 p.1.t) rfl rfl (fun w' hSw=>by (have c9:=Blk.cell (w:=w') hSw 1;go_simp)) ?_
 try simp only[Act.put,zS]
 refine tkv 4 (some 8) (.pointer (some ⟨w.heap.size,2,none⟩)) rfl rfl (fun w' hSw=>by go_simp) ?_
 try simp only[Act.put,zS]
 refine tkv 5 (some 9) (.int .i64 p.1.s) rfl rfl (fun w' hSw=>by (have c9:=Blk.cell (w:=w') hSw 2;go_simp)) ?_
 try simp only[Act.put,zS]
 refine tkv 6 (some 10) (.pointer (some ⟨w.heap.size,3,none⟩)) rfl rfl (fun w' hSw=>by go_simp) ?_
 try simp only[Act.put,zS]
 refine tkv 7 (some 11) (.int .i64 p.1.lev) rfl rfl (fun w' hSw=>by (have c9:=Blk.cell (w:=w') hSw 3;go_simp)) ?_
 try simp only[Act.put,zS]
 refine tkv 8 (some 12) (.agg #[.int .i64 p.1.kd,.int .i64 p.1.t,.int .i64 p.1.s,.int .i64 p.1.lev,.int .i64 0,.int .i64 0,.int .i64 0,.int .i64 0,.slice none 0 0]) rfl rfl (fun w' hSw=>by go_simp) ?_
 try simp only[Act.put,zS]
 refine tkv 9 (some 13) (.pointer (some ⟨w.heap.size,3,none⟩)) rfl rfl (fun w' hSw=>by go_simp) ?_
 try simp only[Act.put,zS]
 refine tkv 10 (some 14) (.int .i64 p.1.lev) rfl rfl (fun w' hSw=>by (have c9:=Blk.cell (w:=w') hSw 3;go_simp)) ?_
 try simp only[Act.put,zS]
 refine rdH [11] ?_
 refine AllReadyH.cons rfl (fun K hK=>?_) AllReadyH.nil
 go_simp
 refine (check_any p.1.lev _).mono ?_
 rintro e w1 ⟨rfl,rfl⟩
 go_simp
 refine hK.out _ _ (((Blk.new w 60 #[.int .i64 p.1.kd,.int .i64 p.1.t,.int .i64 p.1.s,.int .i64 p.1.lev,.int .i64 p.1.o,.int .i64 p.1.vt,.int .i64 p.1.vk,.int .i64 p.1.p,.slice p.2.A p.2.n p.2.c]).alloc _).drew) (fun hHeld=>?_)
 clear hK K
 try simp only[Act.put,zS]
 refine tkv 12 (some 16) (.bool (levB p.1.lev)) rfl rfl (fun w' hSw=>by go_simp) ?_
 try simp only[Act.put,zS]
 refine rdH [13] ?_
 refine AllReadyH.cons (o:={dst:=none,op:=Op.store 60 (Operand.tmp 2) (Operand.tmp 12),type:=0,pos:="rows.go:69",after:=#[⟨8,.data⟩,⟨11,.chain⟩,⟨0,.phase⟩,⟨1,.phase⟩,⟨2,.phase⟩,⟨3,.phase⟩,⟨4,.phase⟩,⟨5,.phase⟩,⟨6,.phase⟩,⟨7,.phase⟩,⟨8,.phase⟩,⟨9,.textOnly .lateStores⟩,⟨10,.textOnly .lateStores⟩,⟨11,.textOnly .lateStoresUnsure⟩,⟨12,.textOnly .lateStores⟩],guard:=none}) rfl (fun K hK=>?_) AllReadyH.nil
 go_simp
 refine hK.out _ _ (((Blk.new w 60 #[.int .i64 p.1.kd,.int .i64 p.1.t,.int .i64 p.1.s,.int .i64 p.1.lev,.int .i64 p.1.o,.int .i64 p.1.vt,.int .i64 p.1.vk,.int .i64 p.1.p,.slice p.2.A p.2.n p.2.c]).alloc _).drew) (fun hHeld=>?_)
 clear hK K
 try simp only[Act.put,zS]
 refine tkv 14 (some 3) (.bool (levB p.1.lev)) rfl rfl (fun w' hSw=>by go_simp) ?_
 try simp only[Act.put,zS]
 refine wpAnyH_done (by kernel_rfl) ?_ _
 refine NoPanic.normal ?_
 go_wp2_with fail
 refine bodyPost_ret (v:=.tuple #[.agg #[.int .i64 p.1.kd,.int .i64 p.1.t,.int .i64 p.1.s,.int .i64 p.1.lev,.int .i64 0,.int .i64 0,.int .i64 0,.int .i64 0,.slice none 0 0],.bool (levB p.1.lev)]) (by simp[results,Tryz.results159,go_sem]) rfl ?_
 exact⟨by rw[HM.out],(((Below.refl _ _).alloc (Nat.le_refl _) _).alloc (by simp) _).drew⟩
set_option maxRecDepth 100000 in
set_option maxHeartbeats 8000000 in
theorem kind_write (p:EvP × SH) (hk:p.1.kd=2) (w:World):Calls Tryz.prog 161 #[.agg #[.int .i64 p.1.kd,.int .i64 p.1.t,.int .i64 p.1.s,.int .i64 p.1.lev,.int .i64 p.1.o,.int .i64 p.1.vt,.int .i64 p.1.vk,.int .i64 p.1.p,.slice p.2.A p.2.n p.2.c]] w (KindIs p w #[.int .i64 p.1.kd,.int .i64 p.1.t,.int .i64 0,.int .i64 0,.int .i64 p.1.o,.int .i64 p.1.vt,.int .i64 p.1.vk,.int .i64 0,.slice none 0 0]):=by
 have HM:Hid (mayE p.1=((decide (p.1.vt=p.1.t)&&decide (0<p.1.vk))&&toldB p.1.vt p.1.vk)):=by show _=_;unfold mayE;rw[if_neg (by omega),if_pos hk]
 clear hk
 by_cases h1:p.1.vt=p.1.t
 ·have hb:(p.1.vt==p.1.t)=true:=by rw[h1];simp
  by_cases h2:p.1.vk > 0
  ·have HN:Hid (mayE p.1=toldB p.1.vt p.1.vk):=by show _=_;rw[HM.out,decide_eq_true h1,decide_eq_true (show 0<p.1.vk from h2)];rfl
   clear h1 HM
   go_enter Tryz.func161,Tryz.ntmps161
   go_wp2_with fail
   refine wp_region_noPanic ?_
   refine wp_region_held_drew (S:=fun W=>Blk W w.heap.size 60 #[.int .i64 p.1.kd,.int .i64 p.1.t,.int .i64 p.1.s,.int .i64 p.1.lev,.int .i64 p.1.o,.int .i64 p.1.vt,.int .i64 p.1.vk,.int .i64 p.1.p,.slice p.2.A p.2.n p.2.c]) (by kernel_rfl) (((Blk.new w 60 #[.int .i64 p.1.kd,.int .i64 p.1.t,.int .i64 p.1.s,.int .i64 p.1.lev,.int .i64 p.1.o,.int .i64 p.1.vt,.int .i64 p.1.vk,.int .i64 p.1.p,.slice p.2.A p.2.n p.2.c]).alloc _).drew) (fun hHeld=>?_)
   refine tkv 0 (some 17) (.pointer (some ⟨w.heap.size,0,none⟩)) rfl rfl (fun w' hSw=>by go_simp) ?_
   try simp only[Act.put,zS]
   refine tkv 1 (some 18) (.int .i64 p.1.kd) rfl rfl (fun w' hSw=>by (have c9:=Blk.cell (w:=w') hSw 0;go_simp)) ?_
   try simp only[Act.put,zS]
   refine tkv 2 (some 19) (.pointer (some ⟨w.heap.size,1,none⟩)) rfl rfl (fun w' hSw=>by go_simp) ?_
   try simp only[Act.put,zS]
   refine tkv 3 (some 20) (.int .i64 p.1.t) rfl rfl (fun w' hSw=>by (have c9:=Blk.cell (w:=w') hSw 1;go_simp)) ?_
   try simp only[Act.put,zS]
   refine tkv 4 (some 21) (.pointer (some ⟨w.heap.size,4,none⟩)) rfl rfl (fun w' hSw=>by go_simp) ?_
   try simp only[Act.put,zS]
   refine tkv 5 (some 22) (.int .i64 p.1.o) rfl rfl (fun w' hSw=>by (have c9:=Blk.cell (w:=w') hSw 4;go_simp)) ?_
   try simp only[Act.put,zS]
   refine tkv 6 (some 23) (.pointer (some ⟨w.heap.size,5,none⟩)) rfl rfl (fun w' hSw=>by go_simp) ?_
   try simp only[Act.put,zS]
   refine tkv 7 (some 24) (.agg #[.int .i64 p.1.vt,.int .i64 p.1.vk]) rfl rfl (fun w' hSw=>by (have c9:=Blk.cell (w:=w') hSw 5;have c8:=Blk.cell (w:=w') hSw 6;go_simp)) ?_
   try simp only[Act.put,zS]
   refine tkv 8 (some 25) (.agg #[.int .i64 p.1.kd,.int .i64 p.1.t,.int .i64 0,.int .i64 0,.int .i64 p.1.o,.int .i64 p.1.vt,.int .i64 p.1.vk,.int .i64 0,.slice none 0 0]) rfl rfl (fun w' hSw=>by go_simp) ?_
   try simp only[Act.put,zS]
   refine tkv 9 (some 26) (.bool true) rfl rfl (fun w' hSw=>by go_simp) ?_
   try simp only[Act.put,zS]
   refine tkv 10 (some 27) (.bool true) rfl rfl (fun w' hSw=>by go_simp) ?_
   try simp only[Act.put,zS]
   refine tkv 11 (some 28) (.pointer (some ⟨w.heap.size,5,none⟩)) rfl rfl (fun w' hSw=>by go_simp) ?_
   try simp only[Act.put,zS]
   refine tkv 12 (some 29) (.agg #[.int .i64 p.1.vt,.int .i64 p.1.vk]) rfl rfl (fun w' hSw=>by (have c9:=Blk.cell (w:=w') hSw 5;have c8:=Blk.cell (w:=w') hSw 6;go_simp)) ?_
   try simp only[Act.put,zS]
   refine rdH [13] ?_
   refine AllReadyH.cons rfl (fun K hK=>?_) AllReadyH.nil
   go_simp
   refine (told_any p.1.vt p.1.vk _).mono ?_
   rintro e w1 ⟨rfl,rfl⟩
   go_simp
   refine hK.out _ _ (((((Blk.new w 60 #[.int .i64 p.1.kd,.int .i64 p.1.t,.int .i64 p.1.s,.int .i64 p.1.lev,.int .i64 p.1.o,.int .i64 p.1.vt,.int .i64 p.1.vk,.int .i64 p.1.p,.slice p.2.A p.2.n p.2.c]).alloc _).drew).alloc _)) (fun hHeld=>?_)
   clear hK K
   try simp only[Act.put,zS]
   refine tkv 14 (some 31) (.bool (toldB p.1.vt p.1.vk)) rfl rfl (fun w' hSw=>by go_simp) ?_
   try simp only[Act.put,zS]
   refine rdH [15] ?_
   refine AllReadyH.cons (o:={dst:=none,op:=Op.store 60 (Operand.tmp 2) (Operand.tmp 25),type:=0,pos:="rows.go:73",after:=#[⟨8,.data⟩,⟨13,.chain⟩,⟨0,.phase⟩,⟨1,.phase⟩,⟨2,.phase⟩,⟨3,.phase⟩,⟨4,.phase⟩,⟨5,.phase⟩,⟨6,.phase⟩,⟨7,.phase⟩,⟨8,.phase⟩,⟨9,.textOnly .lateStores⟩,⟨10,.textOnly .lateStores⟩,⟨11,.textOnly .lateStores⟩,⟨12,.textOnly .lateStores⟩,⟨13,.textOnly .lateStoresUnsure⟩,⟨14,.textOnly .lateStores⟩],guard:=none}) rfl (fun K hK=>?_) AllReadyH.nil
   go_simp
   refine hK.out _ _ (((((Blk.new w 60 #[.int .i64 p.1.kd,.int .i64 p.1.t,.int .i64 p.1.s,.int .i64 p.1.lev,.int .i64 p.1.o,.int .i64 p.1.vt,.int .i64 p.1.vk,.int .i64 p.1.p,.slice p.2.A p.2.n p.2.c]).alloc _).drew).alloc _)) (fun hHeld=>?_)
   clear hK K
   try simp only[Act.put,zS]
   refine tkv 16 (some 3) (.bool (toldB p.1.vt p.1.vk)) rfl rfl (fun w' hSw=>by go_simp) ?_
   try simp only[Act.put,zS]
   refine wpAnyH_done (by kernel_rfl) ?_ _
   refine NoPanic.normal ?_
   go_wp2_with fail
   refine bodyPost_ret (v:=.tuple #[.agg #[.int .i64 p.1.kd,.int .i64 p.1.t,.int .i64 0,.int .i64 0,.int .i64 p.1.o,.int .i64 p.1.vt,.int .i64 p.1.vk,.int .i64 0,.slice none 0 0],.bool (toldB p.1.vt p.1.vk)]) (by simp[results,Tryz.results161,go_sem]) rfl ?_
   exact⟨by rw[HN.out],((((Below.refl _ _).alloc (Nat.le_refl _) _).alloc (by simp) _).drew).alloc (by simp;omega) _⟩
  have HN:Hid (mayE p.1=false):=by show _=_;rw[HM.out,decide_eq_false (show ¬0<p.1.vk from h2),Bool.and_false];rfl
  clear h1 HM
  go_enter Tryz.func161,Tryz.ntmps161
  go_wp2_with fail
  refine wp_region_noPanic ?_
  refine wp_region_held_drew (S:=fun W=>Blk W w.heap.size 60 #[.int .i64 p.1.kd,.int .i64 p.1.t,.int .i64 p.1.s,.int .i64 p.1.lev,.int .i64 p.1.o,.int .i64 p.1.vt,.int .i64 p.1.vk,.int .i64 p.1.p,.slice p.2.A p.2.n p.2.c]) (by kernel_rfl) (((Blk.new w 60 #[.int .i64 p.1.kd,.int .i64 p.1.t,.int .i64 p.1.s,.int .i64 p.1.lev,.int .i64 p.1.o,.int .i64 p.1.vt,.int .i64 p.1.vk,.int .i64 p.1.p,.slice p.2.A p.2.n p.2.c]).alloc _).drew) (fun hHeld=>?_)
  refine tkv 0 (some 17) (.pointer (some ⟨w.heap.size,0,none⟩)) rfl rfl (fun w' hSw=>by go_simp) ?_
  try simp only[Act.put,zS]
  refine tkv 1 (some 18) (.int .i64 p.1.kd) rfl rfl (fun w' hSw=>by (have c9:=Blk.cell (w:=w') hSw 0;go_simp)) ?_
  try simp only[Act.put,zS]
  refine tkv 2 (some 19) (.pointer (some ⟨w.heap.size,1,none⟩)) rfl rfl (fun w' hSw=>by go_simp) ?_
  try simp only[Act.put,zS]
  refine tkv 3 (some 20) (.int .i64 p.1.t) rfl rfl (fun w' hSw=>by (have c9:=Blk.cell (w:=w') hSw 1;go_simp)) ?_
  try simp only[Act.put,zS]
  refine tkv 4 (some 21) (.pointer (some ⟨w.heap.size,4,none⟩)) rfl rfl (fun w' hSw=>by go_simp) ?_
  try simp only[Act.put,zS]
  refine tkv 5 (some 22) (.int .i64 p.1.o) rfl rfl (fun w' hSw=>by (have c9:=Blk.cell (w:=w') hSw 4;go_simp)) ?_
  try simp only[Act.put,zS]
  refine tkv 6 (some 23) (.pointer (some ⟨w.heap.size,5,none⟩)) rfl rfl (fun w' hSw=>by go_simp) ?_
  try simp only[Act.put,zS]
  refine tkv 7 (some 24) (.agg #[.int .i64 p.1.vt,.int .i64 p.1.vk]) rfl rfl (fun w' hSw=>by (have c9:=Blk.cell (w:=w') hSw 5;have c8:=Blk.cell (w:=w') hSw 6;go_simp)) ?_
  try simp only[Act.put,zS]
  refine tkv 8 (some 25) (.agg #[.int .i64 p.1.kd,.int .i64 p.1.t,.int .i64 0,.int .i64 0,.int .i64 p.1.o,.int .i64 p.1.vt,.int .i64 p.1.vk,.int .i64 0,.slice none 0 0]) rfl rfl (fun w' hSw=>by go_simp) ?_
  try simp only[Act.put,zS]
  refine tkv 9 (some 26) (.bool false) rfl rfl (fun w' hSw=>by go_simp) ?_
  try simp only[Act.put,zS]
  refine tkv 10 (some 27) (.bool false) rfl rfl (fun w' hSw=>by go_simp) ?_
  try simp only[Act.put,zS]
  refine tku 11 (some 28) rfl rfl ?_
  refine tku 12 (some 29) rfl rfl ?_
  refine tku 13 (some 30) rfl rfl ?_
  try simp only[Act.put,zS]
  refine tkv 14 (some 31) (.bool false) rfl rfl (fun w' hSw=>by go_simp) ?_
  try simp only[Act.put,zS]
  refine rdH [15] ?_
  refine AllReadyH.cons (o:={dst:=none,op:=Op.store 60 (Operand.tmp 2) (Operand.tmp 25),type:=0,pos:="rows.go:73",after:=#[⟨8,.data⟩,⟨13,.chain⟩,⟨0,.phase⟩,⟨1,.phase⟩,⟨2,.phase⟩,⟨3,.phase⟩,⟨4,.phase⟩,⟨5,.phase⟩,⟨6,.phase⟩,⟨7,.phase⟩,⟨8,.phase⟩,⟨9,.textOnly .lateStores⟩,⟨10,.textOnly .lateStores⟩,⟨11,.textOnly .lateStores⟩,⟨12,.textOnly .lateStores⟩,⟨13,.textOnly .lateStoresUnsure⟩,⟨14,.textOnly .lateStores⟩],guard:=none}) rfl (fun K hK=>?_) AllReadyH.nil
  go_simp
  refine hK.out _ _ (((Blk.new w 60 #[.int .i64 p.1.kd,.int .i64 p.1.t,.int .i64 p.1.s,.int .i64 p.1.lev,.int .i64 p.1.o,.int .i64 p.1.vt,.int .i64 p.1.vk,.int .i64 p.1.p,.slice p.2.A p.2.n p.2.c]).alloc _).drew) (fun hHeld=>?_)
  clear hK K
  try simp only[Act.put,zS]
  refine tkv 16 (some 3) (.bool false) rfl rfl (fun w' hSw=>by go_simp) ?_
  try simp only[Act.put,zS]
  refine wpAnyH_done (by kernel_rfl) ?_ _
  refine NoPanic.normal ?_
  go_wp2_with fail
  refine bodyPost_ret (v:=.tuple #[.agg #[.int .i64 p.1.kd,.int .i64 p.1.t,.int .i64 0,.int .i64 0,.int .i64 p.1.o,.int .i64 p.1.vt,.int .i64 p.1.vk,.int .i64 0,.slice none 0 0],.bool false]) (by simp[results,Tryz.results161,go_sem]) rfl ?_
  exact⟨by rw[HN.out],(((Below.refl _ _).alloc (Nat.le_refl _) _).alloc (by simp) _).drew⟩
 have hb:(p.1.vt==p.1.t)=false:=by simpa using h1
 have HN:Hid (mayE p.1=false):=by show _=_;rw[HM.out,decide_eq_false h1];rfl
 clear h1 HM
 go_enter Tryz.func161,Tryz.ntmps161
 go_wp2_with fail
 refine wp_region_noPanic ?_
 refine wp_region_held_drew (S:=fun W=>Blk W w.heap.size 60 #[.int .i64 p.1.kd,.int .i64 p.1.t,.int .i64 p.1.s,.int .i64 p.1.lev,.int .i64 p.1.o,.int .i64 p.1.vt,.int .i64 p.1.vk,.int .i64 p.1.p,.slice p.2.A p.2.n p.2.c]) (by kernel_rfl) (((Blk.new w 60 #[.int .i64 p.1.kd,.int .i64 p.1.t,.int .i64 p.1.s,.int .i64 p.1.lev,.int .i64 p.1.o,.int .i64 p.1.vt,.int .i64 p.1.vk,.int .i64 p.1.p,.slice p.2.A p.2.n p.2.c]).alloc _).drew) (fun hHeld=>?_)
 refine tkv 0 (some 17) (.pointer (some ⟨w.heap.size,0,none⟩)) rfl rfl (fun w' hSw=>by go_simp) ?_
 try simp only[Act.put,zS]
 refine tkv 1 (some 18) (.int .i64 p.1.kd) rfl rfl (fun w' hSw=>by (have c9:=Blk.cell (w:=w') hSw 0;go_simp)) ?_
 try simp only[Act.put,zS]
 refine tkv 2 (some 19) (.pointer (some ⟨w.heap.size,1,none⟩)) rfl rfl (fun w' hSw=>by go_simp) ?_
 try simp only[Act.put,zS]
 refine tkv 3 (some 20) (.int .i64 p.1.t) rfl rfl (fun w' hSw=>by (have c9:=Blk.cell (w:=w') hSw 1;go_simp)) ?_
 try simp only[Act.put,zS]
 refine tkv 4 (some 21) (.pointer (some ⟨w.heap.size,4,none⟩)) rfl rfl (fun w' hSw=>by go_simp) ?_
 try simp only[Act.put,zS]
 refine tkv 5 (some 22) (.int .i64 p.1.o) rfl rfl (fun w' hSw=>by (have c9:=Blk.cell (w:=w') hSw 4;go_simp)) ?_
 try simp only[Act.put,zS]
 refine tkv 6 (some 23) (.pointer (some ⟨w.heap.size,5,none⟩)) rfl rfl (fun w' hSw=>by go_simp) ?_
 try simp only[Act.put,zS]
 refine tkv 7 (some 24) (.agg #[.int .i64 p.1.vt,.int .i64 p.1.vk]) rfl rfl (fun w' hSw=>by (have c9:=Blk.cell (w:=w') hSw 5;have c8:=Blk.cell (w:=w') hSw 6;go_simp)) ?_
 try simp only[Act.put,zS]
 refine tkv 8 (some 25) (.agg #[.int .i64 p.1.kd,.int .i64 p.1.t,.int .i64 0,.int .i64 0,.int .i64 p.1.o,.int .i64 p.1.vt,.int .i64 p.1.vk,.int .i64 0,.slice none 0 0]) rfl rfl (fun w' hSw=>by go_simp) ?_
 try simp only[Act.put,zS]
 refine tkv 9 (some 26) (.bool false) rfl rfl (fun w' hSw=>by go_simp) ?_
 try simp only[Act.put,zS]
 refine tkv 10 (some 27) (.bool false) rfl rfl (fun w' hSw=>by go_simp) ?_
 try simp only[Act.put,zS]
 refine tku 11 (some 28) rfl rfl ?_
 refine tku 12 (some 29) rfl rfl ?_
 refine tku 13 (some 30) rfl rfl ?_
 try simp only[Act.put,zS]
 refine tkv 14 (some 31) (.bool false) rfl rfl (fun w' hSw=>by go_simp) ?_
 try simp only[Act.put,zS]
 refine rdH [15] ?_
 refine AllReadyH.cons (o:={dst:=none,op:=Op.store 60 (Operand.tmp 2) (Operand.tmp 25),type:=0,pos:="rows.go:73",after:=#[⟨8,.data⟩,⟨13,.chain⟩,⟨0,.phase⟩,⟨1,.phase⟩,⟨2,.phase⟩,⟨3,.phase⟩,⟨4,.phase⟩,⟨5,.phase⟩,⟨6,.phase⟩,⟨7,.phase⟩,⟨8,.phase⟩,⟨9,.textOnly .lateStores⟩,⟨10,.textOnly .lateStores⟩,⟨11,.textOnly .lateStores⟩,⟨12,.textOnly .lateStores⟩,⟨13,.textOnly .lateStoresUnsure⟩,⟨14,.textOnly .lateStores⟩],guard:=none}) rfl (fun K hK=>?_) AllReadyH.nil
 go_simp
 refine hK.out _ _ (((Blk.new w 60 #[.int .i64 p.1.kd,.int .i64 p.1.t,.int .i64 p.1.s,.int .i64 p.1.lev,.int .i64 p.1.o,.int .i64 p.1.vt,.int .i64 p.1.vk,.int .i64 p.1.p,.slice p.2.A p.2.n p.2.c]).alloc _).drew) (fun hHeld=>?_)
 clear hK K
 try simp only[Act.put,zS]
 refine tkv 16 (some 3) (.bool false) rfl rfl (fun w' hSw=>by go_simp) ?_
 try simp only[Act.put,zS]
 refine wpAnyH_done (by kernel_rfl) ?_ _
 refine NoPanic.normal ?_
 go_wp2_with fail
 refine bodyPost_ret (v:=.tuple #[.agg #[.int .i64 p.1.kd,.int .i64 p.1.t,.int .i64 0,.int .i64 0,.int .i64 p.1.o,.int .i64 p.1.vt,.int .i64 p.1.vk,.int .i64 0,.slice none 0 0],.bool false]) (by simp[results,Tryz.results161,go_sem]) rfl ?_
 exact⟨by rw[HN.out],(((Below.refl _ _).alloc (Nat.le_refl _) _).alloc (by simp) _).drew⟩
set_option maxRecDepth 100000 in
set_option maxHeartbeats 8000000 in
theorem kind_read (p:EvP × SH) (hk:p.1.kd=3) (w:World):Calls Tryz.prog 163 #[.agg #[.int .i64 p.1.kd,.int .i64 p.1.t,.int .i64 p.1.s,.int .i64 p.1.lev,.int .i64 p.1.o,.int .i64 p.1.vt,.int .i64 p.1.vk,.int .i64 p.1.p,.slice p.2.A p.2.n p.2.c]] w (KindIs p w #[.int .i64 p.1.kd,.int .i64 p.1.t,.int .i64 0,.int .i64 0,.int .i64 p.1.o,.int .i64 p.1.vt,.int .i64 p.1.vk,.int .i64 0,.slice none 0 0]):=by
 have HM:Hid (mayE p.1=toldB p.1.vt p.1.vk):=by show _=_;unfold mayE;rw[if_neg (by omega),if_neg (by omega),if_pos hk]
 clear hk
 go_enter Tryz.func163,Tryz.ntmps163
 go_wp2_with fail
 refine wp_region_noPanic ?_
 refine wp_region_held_drew (S:=fun W=>Blk W w.heap.size 60 #[.int .i64 p.1.kd,.int .i64 p.1.t,.int .i64 p.1.s,.int .i64 p.1.lev,.int .i64 p.1.o,.int .i64 p.1.vt,.int .i64 p.1.vk,.int .i64 p.1.p,.slice p.2.A p.2.n p.2.c]) (by kernel_rfl) (((Blk.new w 60 #[.int .i64 p.1.kd,.int .i64 p.1.t,.int .i64 p.1.s,.int .i64 p.1.lev,.int .i64 p.1.o,.int .i64 p.1.vt,.int .i64 p.1.vk,.int .i64 p.1.p,.slice p.2.A p.2.n p.2.c]).alloc _).drew) (fun hHeld=>?_)
 refine tkv 0 (some 4) (.pointer (some ⟨w.heap.size,0,none⟩)) rfl rfl (fun w' hSw=>by go_simp) ?_
 try simp only[Act.put,zS]
 refine tkv 1 (some 5) (.int .i64 p.1.kd) rfl rfl (fun w' hSw=>by (have c9:=Blk.cell (w:=w') hSw 0;go_simp)) ?_
 try simp only[Act.put,zS]
 refine tkv 2 (some 6) (.pointer (some ⟨w.heap.size,1,none⟩)) rfl rfl (fun w' hSw=>by go_simp) ?_
 try simp only[Act.put,zS]
 refine tkv 3 (some 7) (.int .i64 p.1.t) rfl rfl (fun w' hSw=>by (have c9:=Blk.cell (w:=w') hSw 1;go_simp)) ?_
 try simp only[Act.put,zS]
 refine tkv 4 (some 8) (.pointer (some ⟨w.heap.size,4,none⟩)) rfl rfl (fun w' hSw=>by go_simp) ?_
 try simp only[Act.put,zS]
 refine tkv 5 (some 9) (.int .i64 p.1.o) rfl rfl (fun w' hSw=>by (have c9:=Blk.cell (w:=w') hSw 4;go_simp)) ?_
 try simp only[Act.put,zS]
 refine tkv 6 (some 10) (.pointer (some ⟨w.heap.size,5,none⟩)) rfl rfl (fun w' hSw=>by go_simp) ?_
 try simp only[Act.put,zS]
 refine tkv 7 (some 11) (.agg #[.int .i64 p.1.vt,.int .i64 p.1.vk]) rfl rfl (fun w' hSw=>by (have c9:=Blk.cell (w:=w') hSw 5;have c8:=Blk.cell (w:=w') hSw 6;go_simp)) ?_
 try simp only[Act.put,zS]
 refine tkv 8 (some 12) (.agg #[.int .i64 p.1.kd,.int .i64 p.1.t,.int .i64 0,.int .i64 0,.int .i64 p.1.o,.int .i64 p.1.vt,.int .i64 p.1.vk,.int .i64 0,.slice none 0 0]) rfl rfl (fun w' hSw=>by go_simp) ?_
 try simp only[Act.put,zS]
 refine tkv 9 (some 13) (.pointer (some ⟨w.heap.size,5,none⟩)) rfl rfl (fun w' hSw=>by go_simp) ?_
 try simp only[Act.put,zS]
 refine tkv 10 (some 14) (.agg #[.int .i64 p.1.vt,.int .i64 p.1.vk]) rfl rfl (fun w' hSw=>by (have c9:=Blk.cell (w:=w') hSw 5;have c8:=Blk.cell (w:=w') hSw 6;go_simp)) ?_
 try simp only[Act.put,zS]
 refine rdH [11] ?_
 refine AllReadyH.cons rfl (fun K hK=>?_) AllReadyH.nil
 go_simp
 refine (told_any p.1.vt p.1.vk _).mono ?_
 rintro e w1 ⟨rfl,rfl⟩
 go_simp
 refine hK.out _ _ (((((Blk.new w 60 #[.int .i64 p.1.kd,.int .i64 p.1.t,.int .i64 p.1.s,.int .i64 p.1.lev,.int .i64 p.1.o,.int .i64 p.1.vt,.int .i64 p.1.vk,.int .i64 p.1.p,.slice p.2.A p.2.n p.2.c]).alloc _).drew).alloc _)) (fun hHeld=>?_)
 clear hK K
 try simp only[Act.put,zS]
 refine rdH [12] ?_
 refine AllReadyH.cons (o:={dst:=none,op:=Op.store 60 (Operand.tmp 2) (Operand.tmp 12),type:=0,pos:="rows.go:76",after:=#[⟨8,.data⟩,⟨11,.chain⟩,⟨0,.phase⟩,⟨1,.phase⟩,⟨2,.phase⟩,⟨3,.phase⟩,⟨4,.phase⟩,⟨5,.phase⟩,⟨6,.phase⟩,⟨7,.phase⟩,⟨8,.phase⟩,⟨9,.textOnly .lateStores⟩,⟨10,.textOnly .lateStores⟩,⟨11,.textOnly .lateStoresUnsure⟩],guard:=none}) rfl (fun K hK=>?_) AllReadyH.nil
 go_simp
 refine hK.out _ _ (((((Blk.new w 60 #[.int .i64 p.1.kd,.int .i64 p.1.t,.int .i64 p.1.s,.int .i64 p.1.lev,.int .i64 p.1.o,.int .i64 p.1.vt,.int .i64 p.1.vk,.int .i64 p.1.p,.slice p.2.A p.2.n p.2.c]).alloc _).drew).alloc _)) (fun hHeld=>?_)
 clear hK K
 try simp only[Act.put,zS]
 refine tkv 13 (some 3) (.bool (toldB p.1.vt p.1.vk)) rfl rfl (fun w' hSw=>by go_simp) ?_
 try simp only[Act.put,zS]
 refine wpAnyH_done (by kernel_rfl) ?_ _
 refine NoPanic.normal ?_
 go_wp2_with fail
 refine bodyPost_ret (v:=.tuple #[.agg #[.int .i64 p.1.kd,.int .i64 p.1.t,.int .i64 0,.int .i64 0,.int .i64 p.1.o,.int .i64 p.1.vt,.int .i64 p.1.vk,.int .i64 0,.slice none 0 0],.bool (toldB p.1.vt p.1.vk)]) (by simp[results,Tryz.results163,go_sem]) rfl ?_
 exact⟨by rw[HM.out],((((Below.refl _ _).alloc (Nat.le_refl _) _).alloc (by simp) _).drew).alloc (by simp;omega) _⟩
set_option maxHeartbeats 2000000 in
theorem seen_told (s:SeenP) (b o:Nat) (w:World) (h1:w.cell? ⟨b,o+1,none⟩=some (.int .i64 s.t)) (h2:w.cell? ⟨b,o+1+1,none⟩=some (.int .i64 s.k)) :
 Calls Tryz.prog 165 #[.pointer (some ⟨b,o,none⟩)] w fun e w'=>e=.returned (.bool (toldB s.t s.k))∧Below w.heap.size w w':=by
 have HC:=zh (told_any s.t s.k w)
 go_enter Tryz.func165,Tryz.ntmps165
 go_wp2_with fail
 refine HC.out.mono ?_
 rintro e w1 ⟨rfl,rfl⟩
 go_wp2_with fail
 go_ret
 exact⟨rfl,(Below.refl _ _).alloc (Nat.le_refl _) _⟩
theorem eg_told:∀ args w,(callFunc 165 args).run Tryz.prog w=.ok (.enter 165 args) w:=enters_of Tryz.func165 (by kernel_rfl) rfl
theorem scan_told (A:Option Addr) (n c:Nat) (scan:List SeenP) (hn:n≤140737488355328) (w:World) (hR:Reads w w.heap.size 3 A n (scan.flatMap seCs)) :
 Calls Tryz.prog 134 #[.slice A n c,.func (.func 165) #[] #[]] w fun e w'=>e=.returned (.bool (scan.all fun s=>toldB s.t s.k))∧Below w.heap.size w w':=by
 have hl:=row_fit seCs_len (by omega) hR
 refine (each_se _ #[] eg_told A n c hl.2 (fun i X=>Below w.heap.size w X∧∀ s∈scan.take i,toldB s.t s.k=true) (fun X=>Below w.heap.size w X∧(scan.all fun s=>toldB s.t s.k)=false) (fun i X hi hj=>?_) hn w ⟨Below.refl _ _,by simp⟩).mono ?_
 ·have hs:scan[i]?=some scan[i]:=List.getElem?_eq_getElem (by omega)
  obtain⟨b,o,rfl,_,hc⟩:=row_cells seCs_len (by omega) (hR.below hj.1) hs
  rw[SH.ad_is rfl]
  refine (seen_told scan[i] b (o+i * 3) X (hc 1 _ rfl) (hc 2 _ rfl)).mono ?_
  rintro e Y ⟨rfl,hb⟩
  have hB:=hj.1.trans (hb.mono hj.1.size)
  cases ht:toldB scan[i].t scan[i].k
  ·refine .inr ⟨rfl,hB,?_⟩
   rw[Bool.eq_false_iff]
   intro h
   have:=List.all_eq_true.1 h _ (List.mem_of_getElem? hs)
   rw[ht] at this
   cases this
  refine .inl ⟨rfl,hB,fun s h=>?_⟩
  rw[List.take_add_one,hs] at h
  rcases List.mem_append.1 h with h | h
  ·exact hj.2 s h
  simp at h
  subst h
  exact ht
 rintro e X (⟨rfl,hb,h⟩ | ⟨rfl,hb,h⟩)
 ·rw[List.take_of_length_le (by omega)] at h
  exact⟨by rw[List.all_eq_true.2 h],hb⟩
 exact⟨by rw[h],hb⟩
set_option maxRecDepth 100000 in
set_option maxHeartbeats 8000000 in
theorem kind_scan (p:EvP × SH) (hk:p.1.kd=4) (hn:p.2.n≤140737488355328) (w:World) (hR:Reads w w.heap.size 3 p.2.A p.2.n (p.1.scan.flatMap seCs)):Calls Tryz.prog 164 #[.agg #[.int .i64 p.1.kd,.int .i64 p.1.t,.int .i64 p.1.s,.int .i64 p.1.lev,.int .i64 p.1.o,.int .i64 p.1.vt,.int .i64 p.1.vk,.int .i64 p.1.p,.slice p.2.A p.2.n p.2.c]] w (KindIs p w #[.int .i64 p.1.kd,.int .i64 p.1.t,.int .i64 0,.int .i64 0,.int .i64 0,.int .i64 0,.int .i64 0,.int .i64 p.1.p,.slice p.2.A p.2.n p.2.c]):=by
 have HM:Hid (mayE p.1=(decide (p.1.scan.length≤40)&&p.1.scan.all fun s=>toldB s.t s.k)):=by show _=_;unfold mayE;rw[if_neg (by omega),if_neg (by omega),if_neg (by omega),if_pos hk]
 have hl:=reads_len_s seCs_len (by omega) hR
 clear hk
 have hb2:Below w.heap.size w ((w.alloc (.cells #[.int .i64 p.1.kd,.int .i64 p.1.t,.int .i64 p.1.s,.int .i64 p.1.lev,.int .i64 p.1.o,.int .i64 p.1.vt,.int .i64 p.1.vk,.int .i64 p.1.p,.slice p.2.A p.2.n p.2.c] 60)).alloc (.cells #[.int .i64 0,.int .i64 0,.int .i64 0,.int .i64 0,.int .i64 0,.int .i64 0,.int .i64 0,.int .i64 0,.slice none 0 0] 60)):=(((Below.refl _ _).alloc (Nat.le_refl _) _).alloc (by simp) _)
 by_cases h4:(p.2.n:Int)≤40
 ·have HN:Hid (mayE p.1=p.1.scan.all fun s=>toldB s.t s.k):=by show _=_;rw[HM.out,decide_eq_true (by omega)];rfl
  have HC:=zh (scan_told p.2.A p.2.n p.2.c p.1.scan hn _ ((hR.below hb2).more hb2.size))
  have HB2:=zh hb2
  clear hR hl hb2 HM
  go_enter Tryz.func164,Tryz.ntmps164
  go_wp2_with fail
  refine HC.out.mono ?_
  rintro e w1 ⟨rfl,b1⟩
  obtain⟨ka,kz,b0,hs⟩:=itwo w #[.int .i64 p.1.kd,.int .i64 p.1.t,.int .i64 p.1.s,.int .i64 p.1.lev,.int .i64 p.1.o,.int .i64 p.1.vt,.int .i64 p.1.vk,.int .i64 p.1.p,.slice p.2.A p.2.n p.2.c] #[.int .i64 0,.int .i64 0,.int .i64 0,.int .i64 0,.int .i64 0,.int .i64 0,.int .i64 0,.int .i64 0,.slice none 0 0] 60 60
  have KA:=zh (ka.below b1 ka.lt)
  have KZ:=zh (kz.below b1 kz.lt)
  have HB:=zh (HB2.out.trans (b1.mono HB2.out.size))
  have c0:=KA.out.cell 0
  have c1:=KA.out.cell 1
  have c7:=KA.out.cell 7
  have c8:=KA.out.cell 8
  have y0:=KZ.out.cell 0
  have f0:=KZ.out.frozen 0
  have y1:=KZ.out.cell 1
  have f1:=KZ.out.frozen 1
  have y2:=KZ.out.cell 2
  have f2:=KZ.out.frozen 2
  have y3:=KZ.out.cell 3
  have f3:=KZ.out.frozen 3
  have y4:=KZ.out.cell 4
  have f4:=KZ.out.frozen 4
  have y5:=KZ.out.cell 5
  have f5:=KZ.out.frozen 5
  have y6:=KZ.out.cell 6
  have f6:=KZ.out.frozen 6
  have y7:=KZ.out.cell 7
  have f7:=KZ.out.frozen 7
  have y8:=KZ.out.cell 8
  have f8:=KZ.out.frozen 8
  clear ka kz b0 hs b1 HC HB2
  go_wp2_with fail
  have kf:=((((((((KZ.out.set_ 0 (.int .i64 p.1.kd)).set_ 1 (.int .i64 p.1.t)).set_ 2 (.int .i64 0)).set_ 3 (.int .i64 0)).set_ 4 (.int .i64 0)).set_ 5 (.int .i64 0)).set_ 6 (.int .i64 0)).set_ 7 (.int .i64 p.1.p)).set_ 8 (.slice p.2.A p.2.n p.2.c)
  simp at kf
  have r0:=kf.cell 0
  have r1:=kf.cell 1
  have r2:=kf.cell 2
  have r3:=kf.cell 3
  have r4:=kf.cell 4
  have r5:=kf.cell 5
  have r6:=kf.cell 6
  have r7:=kf.cell 7
  have r8:=kf.cell 8
  refine bodyPost_ret (v:=.tuple #[.agg #[.int .i64 p.1.kd,.int .i64 p.1.t,.int .i64 0,.int .i64 0,.int .i64 0,.int .i64 0,.int .i64 0,.int .i64 p.1.p,.slice p.2.A p.2.n p.2.c],.bool (p.1.scan.all fun s=>toldB s.t s.k)]) (by simp[results,Tryz.results164,go_sem,r0,r1,r2,r3,r4,r5,r6,r7,r8]) rfl ?_
  exact⟨by rw[HN.out],(((((((((HB.out.setCell (p:=⟨w.heap.size+1,0,none⟩) (Nat.le_succ _) _).setCell (p:=⟨w.heap.size+1,1,none⟩) (Nat.le_succ _) _).setCell (p:=⟨w.heap.size+1,2,none⟩) (Nat.le_succ _) _).setCell (p:=⟨w.heap.size+1,3,none⟩) (Nat.le_succ _) _).setCell (p:=⟨w.heap.size+1,4,none⟩) (Nat.le_succ _) _).setCell (p:=⟨w.heap.size+1,5,none⟩) (Nat.le_succ _) _).setCell (p:=⟨w.heap.size+1,6,none⟩) (Nat.le_succ _) _).setCell (p:=⟨w.heap.size+1,7,none⟩) (Nat.le_succ _) _).setCell (p:=⟨w.heap.size+1,8,none⟩) (Nat.le_succ _) _)⟩
 have HN:Hid (mayE p.1=false):=by show _=_;rw[HM.out,decide_eq_false (by omega)];rfl
 clear hR hl HM hb2
 go_enter Tryz.func164,Tryz.ntmps164
 go_wp2_with fail
 refine bodyPost_ret (v:=.tuple #[.agg #[.int .i64 p.1.kd,.int .i64 p.1.t,.int .i64 0,.int .i64 0,.int .i64 0,.int .i64 0,.int .i64 0,.int .i64 p.1.p,.slice p.2.A p.2.n p.2.c],.bool false]) (by simp[results,Tryz.results164,go_sem]) rfl ?_
 exact⟨by rw[HN.out],(((Below.refl _ _).alloc (Nat.le_refl _) _).alloc (by simp) _)⟩
def EvAt (b o:Nat) (p:EvP × SH) (W:World):Prop:=∀ j u,(evCs p)[j]?=some u→W.cell? ⟨b,o+j,none⟩=some u
theorem EvAt.on {b o B:Nat} {p:EvP × SH} {W X:World} (h:EvAt b o p W) (hb:Below B W X) (hB:b<B):EvAt b o p X:=fun j u hu=>(hb.cell (p:=⟨b,o+j,none⟩) hB).trans (h j u hu)
theorem fine_of {e:EvP} {k:Int} (hk:e.kd=k) (h1:1≤k∧k≤6):fineE e=(mayE e&&decide (e=bareE e)):=by
 unfold fineE
 rw[decide_eq_true (by omega),Bool.true_and]
theorem fine_not {e:EvP} (h1:¬(1≤e.kd∧e.kd≤6)):fineE e=false:=by
 unfold fineE
 rw[decide_eq_false h1,Bool.false_and]
set_option maxRecDepth 100000 in
set_option maxHeartbeats 16000000 in
theorem fine1_one (fn:FuncId) (q:EvP × SH) (b o Bk:Nat) (p:EvP × SH) (h16:1≤p.1.kd∧p.1.kd≤6) (hq:bareE p.1=q.1) (hn:p.2.n≤140737488355328) (hqn:q.2.n≤140737488355328) (w:World) (hcf:∀ (args:Array Value) (W:World),(callFunc fn args).run Tryz.prog W=.ok (.enter fn args) W) (hfn:∀ W:World,Blk W Bk 172 #[.nilFunc,.func (.func 159) #[] #[],.func (.func 161) #[] #[],.func (.func 163) #[] #[],.func (.func 164) #[] #[],.func (.func 158) #[] #[],.func (.func 158) #[] #[]]→W.cell? ⟨Bk,p.1.kd.toNat,none⟩=some (.func (.func fn) #[] #[]))
 (hcon:∀ W:World,Below w.heap.size w W→Calls Tryz.prog fn #[.agg #[.int .i64 p.1.kd,.int .i64 p.1.t,.int .i64 p.1.s,.int .i64 p.1.lev,.int .i64 p.1.o,.int .i64 p.1.vt,.int .i64 p.1.vk,.int .i64 p.1.p,.slice p.2.A p.2.n p.2.c]] W (KindIs p W #[.int .i64 q.1.kd,.int .i64 q.1.t,.int .i64 q.1.s,.int .i64 q.1.lev,.int .i64 q.1.o,.int .i64 q.1.vt,.int .i64 q.1.vk,.int .i64 q.1.p,.slice q.2.A q.2.n q.2.c])) (hqR:∀ W:World,Below w.heap.size w W→Reads W W.heap.size 3 q.2.A q.2.n (q.1.scan.flatMap seCs)) (hE:EvAt b o p w) (hb:b<w.heap.size) (hB:Blk w Bk 172 #[.nilFunc,.func (.func 159) #[] #[],.func (.func 161) #[] #[],.func (.func 163) #[] #[],.func (.func 164) #[] #[],.func (.func 158) #[] #[],.func (.func 158) #[] #[]]) (hR:Reads w w.heap.size 3 p.2.A p.2.n (p.1.scan.flatMap seCs)) :
 Calls Tryz.prog 127 #[.pointer (some ⟨b,o,none⟩),.pointer (some ⟨Bk,0,none⟩)] w fun e w'=>e=.returned (.bool (fineE p.1))∧Below w.heap.size w w':=by
 obtain⟨mb,hmb⟩:∃ mb,mayE p.1=mb:=⟨_,rfl⟩
 have c0:w.cell? ⟨b,o,none⟩=some (.int .i64 p.1.kd):=hE 0 _ rfl
 have HMB:=zh hmb
 have H16:=zh h16
 have HFN:=zh hfn
 have HCON:=zh hcon
 have HQR:=zh hqR
 have HE:=zh hE
 have HLT:=zh hb
 have HKL:=zh hB.lt
 have HKB:=zh hB
 have HSC:=zh hR
 have HBR:=zh hq
 have B0:Hid (Below w.heap.size w w):=Below.refl _ _
 have hx1:¬p.1.kd<1:=by omega
 have hx2:¬p.1.kd > 6:=by omega
 have hx3:¬p.1.kd<0:=by omega
 have hx4:p.1.kd<7:=by omega
 clear hmb hE hb hB hR h16 hfn hcon hqR hq
 go_enter Tryz.func127,Tryz.ntmps127
 go_wp2_with fail
 clear c0
 refine wp_region_noPanic ?_
 refine wp_region_held_drew (S:=fun W=>Below w.heap.size w W) (by kernel_rfl) B0.out.drew (fun hHeld=>?_)
 have BW:=zh B0.out.drew
 generalize w.drew=wd at *
 refine tkv 0 (some 19) (.pointer (some ⟨b,o,none⟩)) rfl rfl (fun w' hSw=>by (try dsimp only at hSw);go_simp) ?_
 try simp only[Act.put,zS]
 refine tkv 1 (some 20) (.pointer (some ⟨b,o,none⟩)) rfl rfl (fun w' hSw=>by (try dsimp only at hSw);go_simp) ?_
 try simp only[Act.put,zS]
 refine tkv 2 (some 21) (.pointer (some ⟨b,o,none⟩)) rfl rfl (fun w' hSw=>by (try dsimp only at hSw);go_simp) ?_
 try simp only[Act.put,zS]
 refine tkv 3 (some 22) (.int .i64 p.1.kd) rfl rfl (fun w' hSw=>by (have c0:=(HE.out.on hSw HLT.out) 0 _ rfl;try rw[Nat.add_zero] at c0;go_simp)) ?_
 try simp only[Act.put,zS]
 refine tkv 4 (some 23) (.pointer (some ⟨Bk,p.1.kd.toNat,none⟩)) rfl rfl (fun w' hSw=>by (try dsimp only at hSw);go_simp) ?_
 try simp only[Act.put,zS]
 refine tkv 5 (some 24) (.func (.func fn) #[] #[]) rfl rfl (fun w' hSw=>by (have c9:=HFN.out _ (HKB.out.below hSw HKL.out);go_simp)) ?_
 try simp only[Act.put,zS]
 refine tkv 6 (some 25) (.pointer (some ⟨b,o,none⟩)) rfl rfl (fun w' hSw=>by (try dsimp only at hSw);go_simp) ?_
 try simp only[Act.put,zS]
 refine tkv 7 (some 26) (.pointer (some ⟨b,o,none⟩)) rfl rfl (fun w' hSw=>by (try dsimp only at hSw);go_simp) ?_
 try simp only[Act.put,zS]
 refine tkv 8 (some 27) (.agg #[.int .i64 p.1.kd,.int .i64 p.1.t,.int .i64 p.1.s,.int .i64 p.1.lev,.int .i64 p.1.o,.int .i64 p.1.vt,.int .i64 p.1.vk,.int .i64 p.1.p,.slice p.2.A p.2.n p.2.c]) rfl rfl (fun w' hSw=>by (have c0:=(HE.out.on hSw HLT.out) 0 _ rfl;have c1:=(HE.out.on hSw HLT.out) 1 _ rfl;have c2:=(HE.out.on hSw HLT.out) 2 _ rfl;have c3:=(HE.out.on hSw HLT.out) 3 _ rfl;have c4:=(HE.out.on hSw HLT.out) 4 _ rfl;have c5:=(HE.out.on hSw HLT.out) 5 _ rfl;have c6:=(HE.out.on hSw HLT.out) 6 _ rfl;have c7:=(HE.out.on hSw HLT.out) 7 _ rfl;have c8:=(HE.out.on hSw HLT.out) 8 _ rfl;try rw[Nat.add_zero] at c0;go_simp)) ?_
 try simp only[Act.put,zS]
 refine rdH [9,13] ?_
 refine AllReadyH.cons rfl (fun K hK=>?_) ?_
 ·go_simp
  have HC:=HCON.out wd (BW.out)
  unfold KindIs at HC
  rw[HMB.out] at HC
  refine HC.mono ?_
  rintro e u1 ⟨rfl,b1⟩
  clear HC
  have B9:=zh ((BW.out).trans (b1.mono (BW.out).size))
  clear b1
  go_simp
  refine hK.out _ _ B9.out (fun hHeld=>?_)
  clear hK K
  try simp only[Act.put,zS]
  refine tkv 10 (some 18) (.tuple #[.agg #[.int .i64 q.1.kd,.int .i64 q.1.t,.int .i64 q.1.s,.int .i64 q.1.lev,.int .i64 q.1.o,.int .i64 q.1.vt,.int .i64 q.1.vk,.int .i64 q.1.p,.slice q.2.A q.2.n q.2.c],.bool mb]) rfl rfl (fun w' hSw=>by (try dsimp only at hSw);go_simp) ?_
  try simp only[Act.put,zS]
  refine tkv 11 (some 29) (.agg #[.int .i64 q.1.kd,.int .i64 q.1.t,.int .i64 q.1.s,.int .i64 q.1.lev,.int .i64 q.1.o,.int .i64 q.1.vt,.int .i64 q.1.vk,.int .i64 q.1.p,.slice q.2.A q.2.n q.2.c]) rfl rfl (fun w' hSw=>by (try dsimp only at hSw);go_simp) ?_
  try simp only[Act.put,zS]
  refine tkv 12 (some 30) (.bool mb) rfl rfl (fun w' hSw=>by (try dsimp only at hSw);go_simp) ?_
  try simp only[Act.put,zS]
  refine rdH [13] ?_
  refine AllReadyH.cons rfl (fun K hK=>?_) ?_
  ·go_simp
   refine hK.out _ _ ((B9.out).alloc (B9.out).size _) (fun hHeld=>?_)
   clear hK K
   try simp only[Act.put,zS]
   have B8:Hid (Below w.heap.size w (u1.alloc (.cells #[.int .i64 0,.int .i64 0,.int .i64 0,.int .i64 0,.int .i64 0,.int .i64 0,.int .i64 0,.int .i64 0,.slice none 0 0] 60))):=(B9.out).alloc (B9.out).size _
   have KG:Hid (Blk (u1.alloc (.cells #[.int .i64 0,.int .i64 0,.int .i64 0,.int .i64 0,.int .i64 0,.int .i64 0,.int .i64 0,.int .i64 0,.slice none 0 0] 60)) u1.heap.size 60 #[.int .i64 0,.int .i64 0,.int .i64 0,.int .i64 0,.int .i64 0,.int .i64 0,.int .i64 0,.int .i64 0,.slice none 0 0]):=Blk.new _ _ _
   have HGE:Hid (w.heap.size≤u1.heap.size):=(B9.out).size
   clear hHeld
   generalize u1.alloc (.cells #[.int .i64 0,.int .i64 0,.int .i64 0,.int .i64 0,.int .i64 0,.int .i64 0,.int .i64 0,.int .i64 0,.slice none 0 0] 60)=u2 at *
   generalize u1.heap.size=g at *
   have hHeld:Below w.heap.size w u2:=B8.out
   refine rdH [14] ?_
   refine AllReadyH.cons (o:={dst:=none,op:=Op.store 60 (Operand.tmp 4) (Operand.tmp 29),type:=0,pos:="rows.go:50",after:=#[⟨13,.data⟩,⟨11,.data⟩,⟨9,.chain⟩,⟨0,.phase⟩,⟨1,.phase⟩,⟨2,.phase⟩,⟨3,.phase⟩,⟨4,.phase⟩,⟨5,.phase⟩,⟨6,.phase⟩,⟨7,.phase⟩,⟨8,.phase⟩,⟨9,.phase⟩,⟨10,.phase⟩,⟨11,.phase⟩,⟨12,.textOnly .lateStores⟩,⟨13,.phase⟩],guard:=none}) rfl (fun K hK=>?_) ?_
   ·have y0:=KG.out.cell 0
    have f0:=KG.out.frozen 0
    have y1:=KG.out.cell 1
    have f1:=KG.out.frozen 1
    have y2:=KG.out.cell 2
    have f2:=KG.out.frozen 2
    have y3:=KG.out.cell 3
    have f3:=KG.out.frozen 3
    have y4:=KG.out.cell 4
    have f4:=KG.out.frozen 4
    have y5:=KG.out.cell 5
    have f5:=KG.out.frozen 5
    have y6:=KG.out.cell 6
    have f6:=KG.out.frozen 6
    have y7:=KG.out.cell 7
    have f7:=KG.out.frozen 7
    have y8:=KG.out.cell 8
    have f8:=KG.out.frozen 8
    go_simp
    clear hHeld
    refine hK.out _ _ ((((((((((((((((((B8.out).setCell (p:=⟨g,0,none⟩) HGE.out (.int .i64 q.1.kd))).setCell (p:=⟨g,1,none⟩) HGE.out (.int .i64 q.1.t))).setCell (p:=⟨g,2,none⟩) HGE.out (.int .i64 q.1.s))).setCell (p:=⟨g,3,none⟩) HGE.out (.int .i64 q.1.lev))).setCell (p:=⟨g,4,none⟩) HGE.out (.int .i64 q.1.o))).setCell (p:=⟨g,5,none⟩) HGE.out (.int .i64 q.1.vt))).setCell (p:=⟨g,6,none⟩) HGE.out (.int .i64 q.1.vk))).setCell (p:=⟨g,7,none⟩) HGE.out (.int .i64 q.1.p))).setCell (p:=⟨g,8,none⟩) HGE.out (.slice q.2.A q.2.n q.2.c)) (fun hHeld=>?_)
    clear hK K
    try simp only[Act.put,zS]
    have B7:=zh ((((((((((((((((((B8.out).setCell (p:=⟨g,0,none⟩) HGE.out (.int .i64 q.1.kd))).setCell (p:=⟨g,1,none⟩) HGE.out (.int .i64 q.1.t))).setCell (p:=⟨g,2,none⟩) HGE.out (.int .i64 q.1.s))).setCell (p:=⟨g,3,none⟩) HGE.out (.int .i64 q.1.lev))).setCell (p:=⟨g,4,none⟩) HGE.out (.int .i64 q.1.o))).setCell (p:=⟨g,5,none⟩) HGE.out (.int .i64 q.1.vt))).setCell (p:=⟨g,6,none⟩) HGE.out (.int .i64 q.1.vk))).setCell (p:=⟨g,7,none⟩) HGE.out (.int .i64 q.1.p))).setCell (p:=⟨g,8,none⟩) HGE.out (.slice q.2.A q.2.n q.2.c))
    have kf:=((((((((KG.out.set_ 0 (.int .i64 q.1.kd)).set_ 1 (.int .i64 q.1.t)).set_ 2 (.int .i64 q.1.s)).set_ 3 (.int .i64 q.1.lev)).set_ 4 (.int .i64 q.1.o)).set_ 5 (.int .i64 q.1.vt)).set_ 6 (.int .i64 q.1.vk)).set_ 7 (.int .i64 q.1.p)).set_ 8 (.slice q.2.A q.2.n q.2.c)
    simp at kf
    have KF:=zh kf
    clear kf hHeld KG y0 f0 y1 f1 y2 f2 y3 f3 y4 f4 y5 f5 y6 f6 y7 f7 y8 f8
    generalize (((((((((u2.setCell ⟨g,0,none⟩ (.int .i64 q.1.kd)).setCell ⟨g,1,none⟩ (.int .i64 q.1.t)).setCell ⟨g,2,none⟩ (.int .i64 q.1.s)).setCell ⟨g,3,none⟩ (.int .i64 q.1.lev)).setCell ⟨g,4,none⟩ (.int .i64 q.1.o)).setCell ⟨g,5,none⟩ (.int .i64 q.1.vt)).setCell ⟨g,6,none⟩ (.int .i64 q.1.vk)).setCell ⟨g,7,none⟩ (.int .i64 q.1.p)).setCell ⟨g,8,none⟩ (.slice q.2.A q.2.n q.2.c))=u3 at *
    have hHeld:Below w.heap.size w u3:=B7.out
    refine tkv 15 (some 5) (.bool mb) rfl rfl (fun w' hSw=>by (try dsimp only at hSw);go_simp) ?_
    try simp only[Act.put,zS]
    refine wpAnyH_done (by kernel_rfl) ?_ _
    refine NoPanic.normal ?_
    clear hHeld
    go_wp2_with fail
    cases mb
    ·have HN:Hid (fineE p.1=false):=by show _=_;rw[fine_of rfl H16.out,HMB.out];rfl
     refine wp_region_noPanic ?_
     refine wp_region_held_drew (S:=fun _=>True) (by kernel_rfl) trivial (fun hHeld=>?_)
     refine tkv 0 (some 31) (.bool false) rfl rfl (fun w' hSw=>by go_simp) ?_
     try simp only[Act.put,zS]
     refine tkv 1 (some 32) (.bool false) rfl rfl (fun w' hSw=>by go_simp) ?_
     try simp only[Act.put,zS]
     refine tku 2 (some 33) rfl rfl ?_
     refine tku 3 (some 34) rfl rfl ?_
     refine tku 4 (some 35) rfl rfl ?_
     refine tku 5 (some 36) rfl rfl ?_
     refine tku 6 (some 37) rfl rfl ?_
     try simp only[Act.put,zS]
     refine tkv 7 (some 38) (.bool false) rfl rfl (fun w' hSw=>by go_simp) ?_
     try simp only[Act.put,zS]
     refine tkv 8 (some 3) (.bool false) rfl rfl (fun w' hSw=>by go_simp) ?_
     try simp only[Act.put,zS]
     refine wpAnyH_done (by kernel_rfl) ?_ _
     refine NoPanic.normal ?_
     go_wp2_with fail
     go_ret
     exact⟨by rw[HN.out];rfl,B7.out.drew⟩
    have HN:Hid (fineE p.1=decide (p.1=bareE p.1)):=by show _=_;rw[fine_of rfl H16.out,HMB.out];rfl
    have HBQ:Hid (decide (p.1=q.1)=decide (p.1=bareE p.1)):=by show _=_;rw[HBR.out]
    have BD:=zh B7.out.drew
    have KD:=zh KF.out.drew
    refine wp_region_noPanic ?_
    refine wp_region_held_drew (S:=fun W=>Below w.heap.size w W∧Blk W g 60 #[.int .i64 q.1.kd,.int .i64 q.1.t,.int .i64 q.1.s,.int .i64 q.1.lev,.int .i64 q.1.o,.int .i64 q.1.vt,.int .i64 q.1.vk,.int .i64 q.1.p,.slice q.2.A q.2.n q.2.c]) (by kernel_rfl) ⟨B7.out.drew,KF.out.drew⟩ (fun hHeld=>?_)
    refine tkv 0 (some 31) (.bool true) rfl rfl (fun w' hSw=>by go_simp) ?_
    try simp only[Act.put,zS]
    refine tkv 1 (some 32) (.bool true) rfl rfl (fun w' hSw=>by go_simp) ?_
    try simp only[Act.put,zS]
    refine tkv 2 (some 33) (.pointer (some ⟨b,o,none⟩)) rfl rfl (fun w' hSw=>by go_simp) ?_
    try simp only[Act.put,zS]
    refine tkv 3 (some 34) (.pointer (some ⟨b,o,none⟩)) rfl rfl (fun w' hSw=>by go_simp) ?_
    try simp only[Act.put,zS]
    refine tkv 4 (some 35) (.agg #[.int .i64 p.1.kd,.int .i64 p.1.t,.int .i64 p.1.s,.int .i64 p.1.lev,.int .i64 p.1.o,.int .i64 p.1.vt,.int .i64 p.1.vk,.int .i64 p.1.p,.slice p.2.A p.2.n p.2.c]) rfl rfl (fun w' hSw=>by (have c0:=(HE.out.on hSw.1 HLT.out) 0 _ rfl;have c1:=(HE.out.on hSw.1 HLT.out) 1 _ rfl;have c2:=(HE.out.on hSw.1 HLT.out) 2 _ rfl;have c3:=(HE.out.on hSw.1 HLT.out) 3 _ rfl;have c4:=(HE.out.on hSw.1 HLT.out) 4 _ rfl;have c5:=(HE.out.on hSw.1 HLT.out) 5 _ rfl;have c6:=(HE.out.on hSw.1 HLT.out) 6 _ rfl;have c7:=(HE.out.on hSw.1 HLT.out) 7 _ rfl;have c8:=(HE.out.on hSw.1 HLT.out) 8 _ rfl;try rw[Nat.add_zero] at c0;go_simp)) ?_
    try simp only[Act.put,zS]
    refine tkv 5 (some 36) (.agg #[.int .i64 q.1.kd,.int .i64 q.1.t,.int .i64 q.1.s,.int .i64 q.1.lev,.int .i64 q.1.o,.int .i64 q.1.vt,.int .i64 q.1.vk,.int .i64 q.1.p,.slice q.2.A q.2.n q.2.c]) rfl rfl (fun w' hSw=>by (have c0:=(Blk.cell (w:=w') hSw.2 0);have c1:=(Blk.cell (w:=w') hSw.2 1);have c2:=(Blk.cell (w:=w') hSw.2 2);have c3:=(Blk.cell (w:=w') hSw.2 3);have c4:=(Blk.cell (w:=w') hSw.2 4);have c5:=(Blk.cell (w:=w') hSw.2 5);have c6:=(Blk.cell (w:=w') hSw.2 6);have c7:=(Blk.cell (w:=w') hSw.2 7);have c8:=(Blk.cell (w:=w') hSw.2 8);go_simp)) ?_
    try simp only[Act.put,zS]
    refine rdH [6] ?_
    refine AllReadyH.cons rfl (fun K hK=>?_) AllReadyH.nil
    go_simp
    have HC:=sameEvent_any p q hn hqn _ ((HSC.out.below BD.out).more BD.out.size) (HQR.out _ BD.out)
    rw[HBQ.out] at HC
    refine HC.mono ?_
    rintro e u4 ⟨rfl,b4⟩
    clear HC
    have B6:=zh (BD.out.trans (b4.mono BD.out.size))
    have KF6:=zh (KD.out.below b4 KD.out.lt)
    clear b4
    go_simp
    refine hK.out _ _ ⟨B6.out,KF6.out⟩ (fun hHeld=>?_)
    clear hK K
    try simp only[Act.put,zS]
    refine tkv 7 (some 38) (.bool (decide (p.1=bareE p.1))) rfl rfl (fun w' hSw=>by go_simp) ?_
    try simp only[Act.put,zS]
    refine tkv 8 (some 3) (.bool (decide (p.1=bareE p.1))) rfl rfl (fun w' hSw=>by go_simp) ?_
    try simp only[Act.put,zS]
    refine wpAnyH_done (by kernel_rfl) ?_ _
    refine NoPanic.normal ?_
    go_wp2_with fail
    go_ret
    exact⟨by rw[HN.out];rfl,B6.out⟩
   exact AllReadyH.nil
  exact AllReadyH.nil
 refine AllReadyH.cons rfl (fun K hK=>?_) ?_
 ·go_simp
  refine hK.out _ _ ((BW.out).alloc (BW.out).size _) (fun hHeld=>?_)
  clear hK K
  try simp only[Act.put,zS]
  have B8:Hid (Below w.heap.size w (wd.alloc (.cells #[.int .i64 0,.int .i64 0,.int .i64 0,.int .i64 0,.int .i64 0,.int .i64 0,.int .i64 0,.int .i64 0,.slice none 0 0] 60))):=(BW.out).alloc (BW.out).size _
  have KG:Hid (Blk (wd.alloc (.cells #[.int .i64 0,.int .i64 0,.int .i64 0,.int .i64 0,.int .i64 0,.int .i64 0,.int .i64 0,.int .i64 0,.slice none 0 0] 60)) wd.heap.size 60 #[.int .i64 0,.int .i64 0,.int .i64 0,.int .i64 0,.int .i64 0,.int .i64 0,.int .i64 0,.int .i64 0,.slice none 0 0]):=Blk.new _ _ _
  have HGE:Hid (w.heap.size≤wd.heap.size):=(BW.out).size
  clear hHeld
  generalize wd.alloc (.cells #[.int .i64 0,.int .i64 0,.int .i64 0,.int .i64 0,.int .i64 0,.int .i64 0,.int .i64 0,.int .i64 0,.slice none 0 0] 60)=u2 at *
  generalize wd.heap.size=g at *
  have hHeld:Below w.heap.size w u2:=B8.out
  refine rdH [9] ?_
  refine AllReadyH.cons rfl (fun K hK=>?_) ?_
  ·go_simp
   have HC:=HCON.out u2 (B8.out)
   unfold KindIs at HC
   rw[HMB.out] at HC
   refine HC.mono ?_
   rintro e u1 ⟨rfl,b1⟩
   clear HC
   have B9:=zh ((B8.out).trans (b1.mono (B8.out).size))
   have KG:=zh (KG.out.below b1 KG.out.lt)
   clear b1
   go_simp
   refine hK.out _ _ B9.out (fun hHeld=>?_)
   clear hK K
   try simp only[Act.put,zS]
   refine tkv 10 (some 18) (.tuple #[.agg #[.int .i64 q.1.kd,.int .i64 q.1.t,.int .i64 q.1.s,.int .i64 q.1.lev,.int .i64 q.1.o,.int .i64 q.1.vt,.int .i64 q.1.vk,.int .i64 q.1.p,.slice q.2.A q.2.n q.2.c],.bool mb]) rfl rfl (fun w' hSw=>by (try dsimp only at hSw);go_simp) ?_
   try simp only[Act.put,zS]
   refine tkv 11 (some 29) (.agg #[.int .i64 q.1.kd,.int .i64 q.1.t,.int .i64 q.1.s,.int .i64 q.1.lev,.int .i64 q.1.o,.int .i64 q.1.vt,.int .i64 q.1.vk,.int .i64 q.1.p,.slice q.2.A q.2.n q.2.c]) rfl rfl (fun w' hSw=>by (try dsimp only at hSw);go_simp) ?_
   try simp only[Act.put,zS]
   refine tkv 12 (some 30) (.bool mb) rfl rfl (fun w' hSw=>by (try dsimp only at hSw);go_simp) ?_
   try simp only[Act.put,zS]
   refine rdH [14] ?_
   refine AllReadyH.cons (o:={dst:=none,op:=Op.store 60 (Operand.tmp 4) (Operand.tmp 29),type:=0,pos:="rows.go:50",after:=#[⟨13,.data⟩,⟨11,.data⟩,⟨9,.chain⟩,⟨0,.phase⟩,⟨1,.phase⟩,⟨2,.phase⟩,⟨3,.phase⟩,⟨4,.phase⟩,⟨5,.phase⟩,⟨6,.phase⟩,⟨7,.phase⟩,⟨8,.phase⟩,⟨9,.phase⟩,⟨10,.phase⟩,⟨11,.phase⟩,⟨12,.textOnly .lateStores⟩,⟨13,.phase⟩],guard:=none}) rfl (fun K hK=>?_) ?_
   ·have y0:=KG.out.cell 0
    have f0:=KG.out.frozen 0
    have y1:=KG.out.cell 1
    have f1:=KG.out.frozen 1
    have y2:=KG.out.cell 2
    have f2:=KG.out.frozen 2
    have y3:=KG.out.cell 3
    have f3:=KG.out.frozen 3
    have y4:=KG.out.cell 4
    have f4:=KG.out.frozen 4
    have y5:=KG.out.cell 5
    have f5:=KG.out.frozen 5
    have y6:=KG.out.cell 6
    have f6:=KG.out.frozen 6
    have y7:=KG.out.cell 7
    have f7:=KG.out.frozen 7
    have y8:=KG.out.cell 8
    have f8:=KG.out.frozen 8
    go_simp
    clear hHeld
    refine hK.out _ _ ((((((((((((((((((B9.out).setCell (p:=⟨g,0,none⟩) HGE.out (.int .i64 q.1.kd))).setCell (p:=⟨g,1,none⟩) HGE.out (.int .i64 q.1.t))).setCell (p:=⟨g,2,none⟩) HGE.out (.int .i64 q.1.s))).setCell (p:=⟨g,3,none⟩) HGE.out (.int .i64 q.1.lev))).setCell (p:=⟨g,4,none⟩) HGE.out (.int .i64 q.1.o))).setCell (p:=⟨g,5,none⟩) HGE.out (.int .i64 q.1.vt))).setCell (p:=⟨g,6,none⟩) HGE.out (.int .i64 q.1.vk))).setCell (p:=⟨g,7,none⟩) HGE.out (.int .i64 q.1.p))).setCell (p:=⟨g,8,none⟩) HGE.out (.slice q.2.A q.2.n q.2.c)) (fun hHeld=>?_)
    clear hK K
    try simp only[Act.put,zS]
    have B7:=zh ((((((((((((((((((B9.out).setCell (p:=⟨g,0,none⟩) HGE.out (.int .i64 q.1.kd))).setCell (p:=⟨g,1,none⟩) HGE.out (.int .i64 q.1.t))).setCell (p:=⟨g,2,none⟩) HGE.out (.int .i64 q.1.s))).setCell (p:=⟨g,3,none⟩) HGE.out (.int .i64 q.1.lev))).setCell (p:=⟨g,4,none⟩) HGE.out (.int .i64 q.1.o))).setCell (p:=⟨g,5,none⟩) HGE.out (.int .i64 q.1.vt))).setCell (p:=⟨g,6,none⟩) HGE.out (.int .i64 q.1.vk))).setCell (p:=⟨g,7,none⟩) HGE.out (.int .i64 q.1.p))).setCell (p:=⟨g,8,none⟩) HGE.out (.slice q.2.A q.2.n q.2.c))
    have kf:=((((((((KG.out.set_ 0 (.int .i64 q.1.kd)).set_ 1 (.int .i64 q.1.t)).set_ 2 (.int .i64 q.1.s)).set_ 3 (.int .i64 q.1.lev)).set_ 4 (.int .i64 q.1.o)).set_ 5 (.int .i64 q.1.vt)).set_ 6 (.int .i64 q.1.vk)).set_ 7 (.int .i64 q.1.p)).set_ 8 (.slice q.2.A q.2.n q.2.c)
    simp at kf
    have KF:=zh kf
    clear kf hHeld KG y0 f0 y1 f1 y2 f2 y3 f3 y4 f4 y5 f5 y6 f6 y7 f7 y8 f8
    generalize (((((((((u1.setCell ⟨g,0,none⟩ (.int .i64 q.1.kd)).setCell ⟨g,1,none⟩ (.int .i64 q.1.t)).setCell ⟨g,2,none⟩ (.int .i64 q.1.s)).setCell ⟨g,3,none⟩ (.int .i64 q.1.lev)).setCell ⟨g,4,none⟩ (.int .i64 q.1.o)).setCell ⟨g,5,none⟩ (.int .i64 q.1.vt)).setCell ⟨g,6,none⟩ (.int .i64 q.1.vk)).setCell ⟨g,7,none⟩ (.int .i64 q.1.p)).setCell ⟨g,8,none⟩ (.slice q.2.A q.2.n q.2.c))=u3 at *
    have hHeld:Below w.heap.size w u3:=B7.out
    refine tkv 15 (some 5) (.bool mb) rfl rfl (fun w' hSw=>by (try dsimp only at hSw);go_simp) ?_
    try simp only[Act.put,zS]
    refine wpAnyH_done (by kernel_rfl) ?_ _
    refine NoPanic.normal ?_
    clear hHeld
    go_wp2_with fail
    cases mb
    ·have HN:Hid (fineE p.1=false):=by show _=_;rw[fine_of rfl H16.out,HMB.out];rfl
     refine wp_region_noPanic ?_
     refine wp_region_held_drew (S:=fun _=>True) (by kernel_rfl) trivial (fun hHeld=>?_)
     refine tkv 0 (some 31) (.bool false) rfl rfl (fun w' hSw=>by go_simp) ?_
     try simp only[Act.put,zS]
     refine tkv 1 (some 32) (.bool false) rfl rfl (fun w' hSw=>by go_simp) ?_
     try simp only[Act.put,zS]
     refine tku 2 (some 33) rfl rfl ?_
     refine tku 3 (some 34) rfl rfl ?_
     refine tku 4 (some 35) rfl rfl ?_
     refine tku 5 (some 36) rfl rfl ?_
     refine tku 6 (some 37) rfl rfl ?_
     try simp only[Act.put,zS]
     refine tkv 7 (some 38) (.bool false) rfl rfl (fun w' hSw=>by go_simp) ?_
     try simp only[Act.put,zS]
     refine tkv 8 (some 3) (.bool false) rfl rfl (fun w' hSw=>by go_simp) ?_
     try simp only[Act.put,zS]
     refine wpAnyH_done (by kernel_rfl) ?_ _
     refine NoPanic.normal ?_
     go_wp2_with fail
     go_ret
     exact⟨by rw[HN.out];rfl,B7.out.drew⟩
    have HN:Hid (fineE p.1=decide (p.1=bareE p.1)):=by show _=_;rw[fine_of rfl H16.out,HMB.out];rfl
    have HBQ:Hid (decide (p.1=q.1)=decide (p.1=bareE p.1)):=by show _=_;rw[HBR.out]
    have BD:=zh B7.out.drew
    have KD:=zh KF.out.drew
    refine wp_region_noPanic ?_
    refine wp_region_held_drew (S:=fun W=>Below w.heap.size w W∧Blk W g 60 #[.int .i64 q.1.kd,.int .i64 q.1.t,.int .i64 q.1.s,.int .i64 q.1.lev,.int .i64 q.1.o,.int .i64 q.1.vt,.int .i64 q.1.vk,.int .i64 q.1.p,.slice q.2.A q.2.n q.2.c]) (by kernel_rfl) ⟨B7.out.drew,KF.out.drew⟩ (fun hHeld=>?_)
    refine tkv 0 (some 31) (.bool true) rfl rfl (fun w' hSw=>by go_simp) ?_
    try simp only[Act.put,zS]
    refine tkv 1 (some 32) (.bool true) rfl rfl (fun w' hSw=>by go_simp) ?_
    try simp only[Act.put,zS]
    refine tkv 2 (some 33) (.pointer (some ⟨b,o,none⟩)) rfl rfl (fun w' hSw=>by go_simp) ?_
    try simp only[Act.put,zS]
    refine tkv 3 (some 34) (.pointer (some ⟨b,o,none⟩)) rfl rfl (fun w' hSw=>by go_simp) ?_
    try simp only[Act.put,zS]
    refine tkv 4 (some 35) (.agg #[.int .i64 p.1.kd,.int .i64 p.1.t,.int .i64 p.1.s,.int .i64 p.1.lev,.int .i64 p.1.o,.int .i64 p.1.vt,.int .i64 p.1.vk,.int .i64 p.1.p,.slice p.2.A p.2.n p.2.c]) rfl rfl (fun w' hSw=>by (have c0:=(HE.out.on hSw.1 HLT.out) 0 _ rfl;have c1:=(HE.out.on hSw.1 HLT.out) 1 _ rfl;have c2:=(HE.out.on hSw.1 HLT.out) 2 _ rfl;have c3:=(HE.out.on hSw.1 HLT.out) 3 _ rfl;have c4:=(HE.out.on hSw.1 HLT.out) 4 _ rfl;have c5:=(HE.out.on hSw.1 HLT.out) 5 _ rfl;have c6:=(HE.out.on hSw.1 HLT.out) 6 _ rfl;have c7:=(HE.out.on hSw.1 HLT.out) 7 _ rfl;have c8:=(HE.out.on hSw.1 HLT.out) 8 _ rfl;try rw[Nat.add_zero] at c0;go_simp)) ?_
    try simp only[Act.put,zS]
    refine tkv 5 (some 36) (.agg #[.int .i64 q.1.kd,.int .i64 q.1.t,.int .i64 q.1.s,.int .i64 q.1.lev,.int .i64 q.1.o,.int .i64 q.1.vt,.int .i64 q.1.vk,.int .i64 q.1.p,.slice q.2.A q.2.n q.2.c]) rfl rfl (fun w' hSw=>by (have c0:=(Blk.cell (w:=w') hSw.2 0);have c1:=(Blk.cell (w:=w') hSw.2 1);have c2:=(Blk.cell (w:=w') hSw.2 2);have c3:=(Blk.cell (w:=w') hSw.2 3);have c4:=(Blk.cell (w:=w') hSw.2 4);have c5:=(Blk.cell (w:=w') hSw.2 5);have c6:=(Blk.cell (w:=w') hSw.2 6);have c7:=(Blk.cell (w:=w') hSw.2 7);have c8:=(Blk.cell (w:=w') hSw.2 8);go_simp)) ?_
    try simp only[Act.put,zS]
    refine rdH [6] ?_
    refine AllReadyH.cons rfl (fun K hK=>?_) AllReadyH.nil
    go_simp
    have HC:=sameEvent_any p q hn hqn _ ((HSC.out.below BD.out).more BD.out.size) (HQR.out _ BD.out)
    rw[HBQ.out] at HC
    refine HC.mono ?_
    rintro e u4 ⟨rfl,b4⟩
    clear HC
    have B6:=zh (BD.out.trans (b4.mono BD.out.size))
    have KF6:=zh (KD.out.below b4 KD.out.lt)
    clear b4
    go_simp
    refine hK.out _ _ ⟨B6.out,KF6.out⟩ (fun hHeld=>?_)
    clear hK K
    try simp only[Act.put,zS]
    refine tkv 7 (some 38) (.bool (decide (p.1=bareE p.1))) rfl rfl (fun w' hSw=>by go_simp) ?_
    try simp only[Act.put,zS]
    refine tkv 8 (some 3) (.bool (decide (p.1=bareE p.1))) rfl rfl (fun w' hSw=>by go_simp) ?_
    try simp only[Act.put,zS]
    refine wpAnyH_done (by kernel_rfl) ?_ _
    refine NoPanic.normal ?_
    go_wp2_with fail
    go_ret
    exact⟨by rw[HN.out];rfl,B6.out⟩
   exact AllReadyH.nil
  exact AllReadyH.nil
 exact AllReadyH.nil
theorem fine1_1 (b o Bk:Nat) (p:EvP × SH) (hk:p.1.kd=1) (hn:p.2.n≤140737488355328) (w:World) (hE:EvAt b o p w) (hb:b<w.heap.size) (hB:Blk w Bk 172 #[.nilFunc,.func (.func 159) #[] #[],.func (.func 161) #[] #[],.func (.func 163) #[] #[],.func (.func 164) #[] #[],.func (.func 158) #[] #[],.func (.func 158) #[] #[]]) (hR:Reads w w.heap.size 3 p.2.A p.2.n (p.1.scan.flatMap seCs)) :
 Calls Tryz.prog 127 #[.pointer (some ⟨b,o,none⟩),.pointer (some ⟨Bk,0,none⟩)] w fun e w'=>e=.returned (.bool (fineE p.1))∧Below w.heap.size w w' :=
 fine1_one 159 ((⟨p.1.kd,p.1.t,p.1.s,p.1.lev,0,0,0,0,[]⟩,⟨none,0,0⟩):EvP × SH) b o Bk p (by omega) (by unfold bareE;simp[hk]) hn (Nat.zero_le _) w (fun _ _=>by kernel_rfl) (fun W h=>by rw[hk];exact h.cell 1) (fun W h=>kind_begin p hk W) (fun W h=>Reads.none_) hE hb hB hR
theorem fine1_2 (b o Bk:Nat) (p:EvP × SH) (hk:p.1.kd=2) (hn:p.2.n≤140737488355328) (w:World) (hE:EvAt b o p w) (hb:b<w.heap.size) (hB:Blk w Bk 172 #[.nilFunc,.func (.func 159) #[] #[],.func (.func 161) #[] #[],.func (.func 163) #[] #[],.func (.func 164) #[] #[],.func (.func 158) #[] #[],.func (.func 158) #[] #[]]) (hR:Reads w w.heap.size 3 p.2.A p.2.n (p.1.scan.flatMap seCs)) :
 Calls Tryz.prog 127 #[.pointer (some ⟨b,o,none⟩),.pointer (some ⟨Bk,0,none⟩)] w fun e w'=>e=.returned (.bool (fineE p.1))∧Below w.heap.size w w' :=
 fine1_one 161 ((⟨p.1.kd,p.1.t,0,0,p.1.o,p.1.vt,p.1.vk,0,[]⟩,⟨none,0,0⟩):EvP × SH) b o Bk p (by omega) (by unfold bareE;simp[hk]) hn (Nat.zero_le _) w (fun _ _=>by kernel_rfl) (fun W h=>by rw[hk];exact h.cell 2) (fun W h=>kind_write p hk W) (fun W h=>Reads.none_) hE hb hB hR
theorem fine1_3 (b o Bk:Nat) (p:EvP × SH) (hk:p.1.kd=3) (hn:p.2.n≤140737488355328) (w:World) (hE:EvAt b o p w) (hb:b<w.heap.size) (hB:Blk w Bk 172 #[.nilFunc,.func (.func 159) #[] #[],.func (.func 161) #[] #[],.func (.func 163) #[] #[],.func (.func 164) #[] #[],.func (.func 158) #[] #[],.func (.func 158) #[] #[]]) (hR:Reads w w.heap.size 3 p.2.A p.2.n (p.1.scan.flatMap seCs)) :
 Calls Tryz.prog 127 #[.pointer (some ⟨b,o,none⟩),.pointer (some ⟨Bk,0,none⟩)] w fun e w'=>e=.returned (.bool (fineE p.1))∧Below w.heap.size w w' :=
 fine1_one 163 ((⟨p.1.kd,p.1.t,0,0,p.1.o,p.1.vt,p.1.vk,0,[]⟩,⟨none,0,0⟩):EvP × SH) b o Bk p (by omega) (by unfold bareE;simp[hk]) hn (Nat.zero_le _) w (fun _ _=>by kernel_rfl) (fun W h=>by rw[hk];exact h.cell 3) (fun W h=>kind_read p hk W) (fun W h=>Reads.none_) hE hb hB hR
theorem fine1_4 (b o Bk:Nat) (p:EvP × SH) (hk:p.1.kd=4) (hn:p.2.n≤140737488355328) (w:World) (hE:EvAt b o p w) (hb:b<w.heap.size) (hB:Blk w Bk 172 #[.nilFunc,.func (.func 159) #[] #[],.func (.func 161) #[] #[],.func (.func 163) #[] #[],.func (.func 164) #[] #[],.func (.func 158) #[] #[],.func (.func 158) #[] #[]]) (hR:Reads w w.heap.size 3 p.2.A p.2.n (p.1.scan.flatMap seCs)) :
 Calls Tryz.prog 127 #[.pointer (some ⟨b,o,none⟩),.pointer (some ⟨Bk,0,none⟩)] w fun e w'=>e=.returned (.bool (fineE p.1))∧Below w.heap.size w w' :=
 fine1_one 164 ((⟨p.1.kd,p.1.t,0,0,0,0,0,p.1.p,p.1.scan⟩,p.2):EvP × SH) b o Bk p (by omega) (by unfold bareE;simp[hk]) hn hn w (fun _ _=>by kernel_rfl) (fun W h=>by rw[hk];exact h.cell 4) (fun W h=>kind_scan p hk hn W ((hR.below h).more h.size)) (fun W h=>(hR.below h).more h.size) hE hb hB hR
theorem fine1_5 (b o Bk:Nat) (p:EvP × SH) (hk:p.1.kd=5) (hn:p.2.n≤140737488355328) (w:World) (hE:EvAt b o p w) (hb:b<w.heap.size) (hB:Blk w Bk 172 #[.nilFunc,.func (.func 159) #[] #[],.func (.func 161) #[] #[],.func (.func 163) #[] #[],.func (.func 164) #[] #[],.func (.func 158) #[] #[],.func (.func 158) #[] #[]]) (hR:Reads w w.heap.size 3 p.2.A p.2.n (p.1.scan.flatMap seCs)) :
 Calls Tryz.prog 127 #[.pointer (some ⟨b,o,none⟩),.pointer (some ⟨Bk,0,none⟩)] w fun e w'=>e=.returned (.bool (fineE p.1))∧Below w.heap.size w w' :=
 fine1_one 158 ((⟨p.1.kd,p.1.t,0,0,0,0,0,0,[]⟩,⟨none,0,0⟩):EvP × SH) b o Bk p (by omega) (by unfold bareE;simp[hk]) hn (Nat.zero_le _) w (fun _ _=>by kernel_rfl) (fun W h=>by rw[hk];exact h.cell 5) (fun W h=>kind_end p (.inl hk) W) (fun W h=>Reads.none_) hE hb hB hR
theorem fine1_6 (b o Bk:Nat) (p:EvP × SH) (hk:p.1.kd=6) (hn:p.2.n≤140737488355328) (w:World) (hE:EvAt b o p w) (hb:b<w.heap.size) (hB:Blk w Bk 172 #[.nilFunc,.func (.func 159) #[] #[],.func (.func 161) #[] #[],.func (.func 163) #[] #[],.func (.func 164) #[] #[],.func (.func 158) #[] #[],.func (.func 158) #[] #[]]) (hR:Reads w w.heap.size 3 p.2.A p.2.n (p.1.scan.flatMap seCs)) :
 Calls Tryz.prog 127 #[.pointer (some ⟨b,o,none⟩),.pointer (some ⟨Bk,0,none⟩)] w fun e w'=>e=.returned (.bool (fineE p.1))∧Below w.heap.size w w' :=
 fine1_one 158 ((⟨p.1.kd,p.1.t,0,0,0,0,0,0,[]⟩,⟨none,0,0⟩):EvP × SH) b o Bk p (by omega) (by unfold bareE;simp[hk]) hn (Nat.zero_le _) w (fun _ _=>by kernel_rfl) (fun W h=>by rw[hk];exact h.cell 6) (fun W h=>kind_end p (.inr hk) W) (fun W h=>Reads.none_) hE hb hB hR
attribute [local go_sem] run_store_nilFunc run_store_funcJ
set_option maxHeartbeats 2000000 in
theorem fine1_any (b o Bk:Nat) (p:EvP × SH) (hn:p.2.n≤140737488355328) (w:World) (hE:EvAt b o p w) (hb:b<w.heap.size) (hB:Blk w Bk 172 #[.nilFunc,.func (.func 159) #[] #[],.func (.func 161) #[] #[],.func (.func 163) #[] #[],.func (.func 164) #[] #[],.func (.func 158) #[] #[],.func (.func 158) #[] #[]]) (hR:Reads w w.heap.size 3 p.2.A p.2.n (p.1.scan.flatMap seCs)) :
 Calls Tryz.prog 127 #[.pointer (some ⟨b,o,none⟩),.pointer (some ⟨Bk,0,none⟩)] w fun e w'=>e=.returned (.bool (fineE p.1))∧Below w.heap.size w w':=by
 by_cases h:1≤p.1.kd∧p.1.kd≤6
 ·have h6:p.1.kd=1∨p.1.kd=2∨p.1.kd=3∨p.1.kd=4∨p.1.kd=5∨p.1.kd=6:=by omega
  rcases h6 with hk | hk | hk | hk | hk | hk
  ·exact fine1_1 b o Bk p hk hn w hE hb hB hR
  ·exact fine1_2 b o Bk p hk hn w hE hb hB hR
  ·exact fine1_3 b o Bk p hk hn w hE hb hB hR
  ·exact fine1_4 b o Bk p hk hn w hE hb hB hR
  ·exact fine1_5 b o Bk p hk hn w hE hb hB hR
  exact fine1_6 b o Bk p hk hn w hE hb hB hR
 have HF:=zh (fine_not h)
 have c0:w.cell? ⟨b,o,none⟩=some (.int .i64 p.1.kd):=hE 0 _ rfl
 clear hE hB hR
 by_cases h1:p.1.kd<1
 ·clear h
  go_enter Tryz.func127,Tryz.ntmps127
  go_wp2_with fail
  go_ret
  exact⟨by rw[HF.out];rfl,Below.refl _ _⟩
 have h2:p.1.kd > 6:=by omega
 clear h
 go_enter Tryz.func127,Tryz.ntmps127
 go_wp2_with fail
 go_ret
 exact⟨by rw[HF.out];rfl,Below.refl _ _⟩
theorem eg_fine1:∀ args w,(callFunc 127 args).run Tryz.prog w=.ok (.enter 127 args) w:=enters_of Tryz.func127 (by kernel_rfl) rfl
theorem fine_evs (A:Option Addr) (n c:Nat) (Bk:Nat) (l:List (EvP × SH)) (hn:n≤140737488355328) (w:World) (hR:Reads w w.heap.size 9 A n (l.flatMap evCs)) (hsc:∀ p∈l,p.2.n≤140737488355328∧Reads w w.heap.size 3 p.2.A p.2.n (p.1.scan.flatMap seCs)) (hB:Blk w Bk 172 #[.nilFunc,.func (.func 159) #[] #[],.func (.func 161) #[] #[],.func (.func 163) #[] #[],.func (.func 164) #[] #[],.func (.func 158) #[] #[],.func (.func 158) #[] #[]]) :
 Calls Tryz.prog 77 #[.slice A n c,.func (.func 127) #[] #[.pointer (some ⟨Bk,0,none⟩)]] w fun e w'=>e=.returned (.bool (l.all fun p=>fineE p.1))∧Below w.heap.size w w':=by
 have hl:=row_fit evCs_len (by omega) hR
 refine (each_ev _ #[.pointer (some ⟨Bk,0,none⟩)] eg_fine1 A n c hl.2 (fun i X=>Below w.heap.size w X∧∀ p∈l.take i,fineE p.1=true) (fun X=>Below w.heap.size w X∧(l.all fun p=>fineE p.1)=false) (fun i X hi hj=>?_) hn w ⟨Below.refl _ _,by simp⟩).mono ?_
 ·obtain⟨p,hs⟩:∃ p,l[i]?=some p:=⟨l[i]'(by omega),List.getElem?_eq_getElem (by omega)⟩
  obtain⟨b,o,rfl,hbl,hc⟩:=row_cells evCs_len (by omega) (hR.below hj.1) hs
  rw[SH.ad_is rfl]
  refine (fine1_any b (o+i * 9) Bk p (hsc p (List.mem_of_getElem? hs)).1 X (fun j u hu=>by rw[Nat.add_assoc];exact hc j u hu) (Nat.lt_of_lt_of_le hbl hj.1.size) (hB.below hj.1 hB.lt) (((hsc p (List.mem_of_getElem? hs)).2.below hj.1).more hj.1.size)).mono ?_
  rintro e Y ⟨rfl,hb⟩
  have hB:=hj.1.trans (hb.mono hj.1.size)
  by_cases ht:fineE p.1=true
  ·refine .inl ⟨by rw[ht],hB,fun q h=>?_⟩
   rw[List.take_add_one,hs] at h
   rcases List.mem_append.1 h with h | h
   ·exact hj.2 q h
   simp at h
   subst h
   exact ht
  rw[Bool.not_eq_true] at ht
  refine .inr ⟨by rw[ht],hB,?_⟩
  rw[Bool.eq_false_iff]
  intro h
  have:=List.all_eq_true.1 h _ (List.mem_of_getElem? hs)
  rw[ht] at this
  cases this
 rintro e X (⟨rfl,hb,h⟩ | ⟨rfl,hb,h⟩)
 ·rw[List.take_of_length_le (by omega)] at h
  exact⟨by rw[List.all_eq_true.2 h],hb⟩
 exact⟨by rw[h],hb⟩
set_option maxHeartbeats 1000000 in
theorem fine2_at (b o:Nat) (A:Option Addr) (n c:Nat) (w:World) (h1:w.cell? ⟨b,o+1,none⟩=some (.slice A n c)) :
 Calls Tryz.prog 129 #[.pointer (some ⟨b,o,none⟩)] w fun e w'=>e=.returned (.bool (decide (n≤300)))∧Below w.heap.size w w':=by
 have HD:Hid (decide (n≤300)=decide ((n:Int)≤300)):=by show _=_;rw[decide_eq_decide];omega
 go_enter Tryz.func129,Tryz.ntmps129
 go_wp2_with fail
 go_ret
 exact⟨by rw[HD.out];rfl,Below.refl _ _⟩
theorem eg_fine2:∀ args w,(callFunc 129 args).run Tryz.prog w=.ok (.enter 129 args) w:=enters_of Tryz.func129 (by kernel_rfl) rfl
theorem fine_ods (A:Option Addr) (n c:Nat) (l:List (OrdP × SH)) (hn:n≤140737488355328) (w:World) (hR:Reads w w.heap.size 2 A n (l.flatMap odCs)) :
 Calls Tryz.prog 80 #[.slice A n c,.func (.func 129) #[] #[]] w fun e w'=>e=.returned (.bool (l.all fun p=>decide (p.2.n≤300)))∧Below w.heap.size w w':=by
 have hl:=row_fit odCs_len (by omega) hR
 refine (each_od _ #[] eg_fine2 A n c hl.2 (fun i X=>Below w.heap.size w X∧∀ p∈l.take i,decide (p.2.n≤300)=true) (fun X=>Below w.heap.size w X∧(l.all fun p=>decide (p.2.n≤300))=false) (fun i X hi hj=>?_) hn w ⟨Below.refl _ _,by simp⟩).mono ?_
 ·obtain⟨p,hs⟩:∃ p,l[i]?=some p:=⟨l[i]'(by omega),List.getElem?_eq_getElem (by omega)⟩
  obtain⟨b,o,rfl,hbl,hc⟩:=row_cells odCs_len (by omega) (hR.below hj.1) hs
  rw[SH.ad_is rfl]
  refine (fine2_at b (o+i * 2) p.2.A p.2.n p.2.c X (hc 1 _ rfl)).mono ?_
  rintro e Y ⟨rfl,hb⟩
  have hB:=hj.1.trans (hb.mono hj.1.size)
  by_cases ht:decide (p.2.n≤300)=true
  ·refine .inl ⟨by rw[ht],hB,fun q h=>?_⟩
   rw[List.take_add_one,hs] at h
   rcases List.mem_append.1 h with h | h
   ·exact hj.2 q h
   simp at h
   subst h
   exact ht
  rw[Bool.not_eq_true] at ht
  refine .inr ⟨by rw[ht],hB,?_⟩
  rw[Bool.eq_false_iff]
  intro h
  have:=List.all_eq_true.1 h _ (List.mem_of_getElem? hs)
  rw[ht] at this
  cases this
 rintro e X (⟨rfl,hb,h⟩ | ⟨rfl,hb,h⟩)
 ·rw[List.take_of_length_le (by omega)] at h
  exact⟨by rw[List.all_eq_true.2 h],hb⟩
 exact⟨by rw[h],hb⟩
set_option maxHeartbeats 1000000 in
theorem fine3_at (b o:Nat) (A:Option Addr) (n c:Nat) (w:World) (h1:w.cell? ⟨b,o+3,none⟩=some (.slice A n c)) :
 Calls Tryz.prog 130 #[.pointer (some ⟨b,o,none⟩)] w fun e w'=>e=.returned (.bool (decide (n≤300)))∧Below w.heap.size w w':=by
 have HD:Hid (decide (n≤300)=decide ((n:Int)≤300)):=by show _=_;rw[decide_eq_decide];omega
 go_enter Tryz.func130,Tryz.ntmps130
 go_wp2_with fail
 go_ret
 exact⟨by rw[HD.out];rfl,Below.refl _ _⟩
theorem eg_fine3:∀ args w,(callFunc 130 args).run Tryz.prog w=.ok (.enter 130 args) w:=enters_of Tryz.func130 (by kernel_rfl) rfl
theorem fine_mas (A:Option Addr) (n c:Nat) (l:List (MatP × SH)) (hn:n≤140737488355328) (w:World) (hR:Reads w w.heap.size 4 A n (l.flatMap maCs)) :
 Calls Tryz.prog 82 #[.slice A n c,.func (.func 130) #[] #[]] w fun e w'=>e=.returned (.bool (l.all fun p=>decide (p.2.n≤300)))∧Below w.heap.size w w':=by
 have hl:=row_fit maCs_len (by omega) hR
 refine (each_ma _ #[] eg_fine3 A n c hl.2 (fun i X=>Below w.heap.size w X∧∀ p∈l.take i,decide (p.2.n≤300)=true) (fun X=>Below w.heap.size w X∧(l.all fun p=>decide (p.2.n≤300))=false) (fun i X hi hj=>?_) hn w ⟨Below.refl _ _,by simp⟩).mono ?_
 ·obtain⟨p,hs⟩:∃ p,l[i]?=some p:=⟨l[i]'(by omega),List.getElem?_eq_getElem (by omega)⟩
  obtain⟨b,o,rfl,hbl,hc⟩:=row_cells maCs_len (by omega) (hR.below hj.1) hs
  rw[SH.ad_is rfl]
  refine (fine3_at b (o+i * 4) p.2.A p.2.n p.2.c X (hc 3 _ rfl)).mono ?_
  rintro e Y ⟨rfl,hb⟩
  have hB:=hj.1.trans (hb.mono hj.1.size)
  by_cases ht:decide (p.2.n≤300)=true
  ·refine .inl ⟨by rw[ht],hB,fun q h=>?_⟩
   rw[List.take_add_one,hs] at h
   rcases List.mem_append.1 h with h | h
   ·exact hj.2 q h
   simp at h
   subst h
   exact ht
  rw[Bool.not_eq_true] at ht
  refine .inr ⟨by rw[ht],hB,?_⟩
  rw[Bool.eq_false_iff]
  intro h
  have:=List.all_eq_true.1 h _ (List.mem_of_getElem? hs)
  rw[ht] at this
  cases this
 rintro e X (⟨rfl,hb,h⟩ | ⟨rfl,hb,h⟩)
 ·rw[List.take_of_length_le (by omega)] at h
  exact⟨by rw[List.all_eq_true.2 h],hb⟩
 exact⟨by rw[h],hb⟩
theorem wordz (g:Int):(wordsE g==0)=guB g:=by
 unfold wordsE
 cases guB g<;>rfl
set_option maxHeartbeats 1000000 in
theorem fine4_at (b o:Nat) (g:Int) (w:World) (hT:Tabs w) (h1:w.cell? ⟨b,o+1,none⟩=some (.int .i64 g)) :
 Calls Tryz.prog 131 #[.pointer (some ⟨b,o,none⟩)] w fun e w'=>e=.returned (.bool (guB g))∧Below w.heap.size w w':=by
 have HC:=zh (words_any g w hT)
 have HW:=zh (wordz g)
 clear hT
 go_enter Tryz.func131,Tryz.ntmps131
 go_wp2_with fail
 refine HC.out.mono ?_
 rintro e w1 ⟨rfl,b1⟩
 clear HC
 go_wp2_with fail
 go_ret
 exact⟨by rw[← HW.out];rfl,b1⟩
theorem eg_fine4:∀ args w,(callFunc 131 args).run Tryz.prog w=.ok (.enter 131 args) w:=enters_of Tryz.func131 (by kernel_rfl) rfl
theorem fine_was (A:Option Addr) (n c:Nat) (l:List (WantP)) (hn:n≤140737488355328) (w:World) (hR:Reads w w.heap.size 2 A n (l.flatMap waCs)) (hT:Tabs w) :
 Calls Tryz.prog 84 #[.slice A n c,.func (.func 131) #[] #[]] w fun e w'=>e=.returned (.bool (l.all fun p=>guB p.b))∧Below w.heap.size w w':=by
 have hl:=row_fit waCs_len (by omega) hR
 refine (each_wa _ #[] eg_fine4 A n c hl.2 (fun i X=>Below w.heap.size w X∧∀ p∈l.take i,guB p.b=true) (fun X=>Below w.heap.size w X∧(l.all fun p=>guB p.b)=false) (fun i X hi hj=>?_) hn w ⟨Below.refl _ _,by simp⟩).mono ?_
 ·obtain⟨p,hs⟩:∃ p,l[i]?=some p:=⟨l[i]'(by omega),List.getElem?_eq_getElem (by omega)⟩
  obtain⟨b,o,rfl,hbl,hc⟩:=row_cells waCs_len (by omega) (hR.below hj.1) hs
  rw[SH.ad_is rfl]
  refine (fine4_at b (o+i * 2) p.b X (hT.on hj.1 (Nat.le_refl _)) (hc 1 _ rfl)).mono ?_
  rintro e Y ⟨rfl,hb⟩
  have hB:=hj.1.trans (hb.mono hj.1.size)
  by_cases ht:guB p.b=true
  ·refine .inl ⟨by rw[ht],hB,fun q h=>?_⟩
   rw[List.take_add_one,hs] at h
   rcases List.mem_append.1 h with h | h
   ·exact hj.2 q h
   simp at h
   subst h
   exact ht
  rw[Bool.not_eq_true] at ht
  refine .inr ⟨by rw[ht],hB,?_⟩
  rw[Bool.eq_false_iff]
  intro h
  have:=List.all_eq_true.1 h _ (List.mem_of_getElem? hs)
  rw[ht] at this
  cases this
 rintro e X (⟨rfl,hb,h⟩ | ⟨rfl,hb,h⟩)
 ·rw[List.take_of_length_le (by omega)] at h
  exact⟨by rw[List.all_eq_true.2 h],hb⟩
 exact⟨by rw[h],hb⟩
def fineW (H:Hist):Bool:=limC H&&(fineH H&&limT H)
set_option maxRecDepth 100000 in
set_option maxHeartbeats 8000000 in
theorem fine11w_any (Bh:Nat) (m:HistM) (hS:Mid m) (w:World) (hT:Tabs w) (hm:HRd w w.heap.size m) (hB:Blk w Bh 28 m.cs) :
 Calls Tryz.prog 72 #[.pointer (some ⟨Bh,0,none⟩)] w fun e w'=>e=.returned (.bool (fineW m.pl))∧Below w.heap.size w w':=by
 have hlow:=hS.low
 have HC0:Hid (fineW m.pl=((decide (m.ev.1.n≤3000)&&(decide (m.od.1.n≤3000)&&(decide (m.ma.1.n≤3000)&&decide (m.wa.1.n≤3000))))&&(((m.ev.2.all fun p=>fineE p.1)&&m.wa.2.all fun p=>guB p.b)&&((m.od.2.all fun p=>decide (p.2.n≤300))&&m.ma.2.all fun p=>decide (p.2.n≤300))))):=by
  show _=_
  unfold fineW
  rw[hm.limC,hm.limT]
  unfold fineH HistM.pl
  simp only[List.all_map]
  rfl
 have z4:w.cell? ⟨Bh,4,none⟩=some (.slice m.ev.1.A m.ev.1.n m.ev.1.c):=hB.cell 4
 have z5:w.cell? ⟨Bh,5,none⟩=some (.slice m.od.1.A m.od.1.n m.od.1.c):=hB.cell 5
 have z6:w.cell? ⟨Bh,6,none⟩=some (.slice m.ma.1.A m.ma.1.n m.ma.1.c):=hB.cell 6
 have z7:w.cell? ⟨Bh,7,none⟩=some (.slice m.wa.1.A m.wa.1.n m.wa.1.c):=hB.cell 7
 have HL:=zh hlow
 have HT:=zh hT
 have HM:=zh hm
 have HB:=zh hB
 have BK:Hid (∀ w1 cs,Below w.heap.size w w1→Below w.heap.size w (w1.alloc (.cells cs 172))∧Blk (w1.alloc (.cells cs 172)) w1.heap.size 172 cs):=fun w1 cs h=>⟨h.alloc h.size _,Blk.new _ _ _⟩
 have BD:Hid (∀ n,Below w.heap.size w (w.drewN n)):=fun n=>below_drewN (Below.refl w.heap.size w) n
 clear hT hm hB hlow hS
 rcases Nat.lt_or_ge 3000 m.ev.1.n with b4 | a4
 ·have a4:¬m.ev.1.n≤3000:=by omega
  have g4:(m.ev.1.n:Int) > 3000:=by omega
  have HN:Hid (fineW m.pl=false):=by show _=_;rw[HC0.out,decide_eq_false a4];rfl
  clear a4 b4 HC0
  go_enter Tryz.func72,Tryz.ntmps72
  go_wp2_with fail
  go_quiet (fail)
  go_wp2_with fail
  go_ret
  exact⟨by rw[HN.out];rfl,BD.out _⟩
 have g4:¬(m.ev.1.n:Int) > 3000:=by omega
 have q:((m.od.1.n<m.ma.1.n∧m.ma.1.n<m.wa.1.n∧(m.wa.1.n:Int) > 3000)∨(m.od.1.n<m.ma.1.n∧¬m.ma.1.n<m.wa.1.n∧(m.ma.1.n:Int) > 3000)∨(¬m.od.1.n<m.ma.1.n∧m.od.1.n<m.wa.1.n∧(m.wa.1.n:Int) > 3000)∨(¬m.od.1.n<m.ma.1.n∧¬m.od.1.n<m.wa.1.n∧(m.od.1.n:Int) > 3000))
  ∨ ((m.od.1.n≤3000∧m.ma.1.n≤3000∧m.wa.1.n≤3000)∧((m.od.1.n<m.ma.1.n∧m.ma.1.n<m.wa.1.n)∨(m.od.1.n<m.ma.1.n∧¬m.ma.1.n<m.wa.1.n)∨(¬m.od.1.n<m.ma.1.n∧m.od.1.n<m.wa.1.n)∨(¬m.od.1.n<m.ma.1.n∧¬m.od.1.n<m.wa.1.n))):=by omega
 rcases q with q | ⟨⟨a5,a6,a7⟩,q⟩
 ·have HN:Hid (fineW m.pl=false):=by
   show _=_
   have:(decide (m.od.1.n≤3000)&&(decide (m.ma.1.n≤3000)&&decide (m.wa.1.n≤3000)))=false:=by
    rw[Bool.eq_false_iff]
    intro h
    simp only[Bool.and_eq_true,decide_eq_true_eq] at h
    omega
   rw[HC0.out,this,Bool.and_false,Bool.false_and]
  clear HC0 a4
  rcases q with ⟨q1,q2,g⟩ | ⟨q1,q2,g⟩ | ⟨q1,q2,g⟩ | ⟨q1,q2,g⟩
  all_goals
   go_enter Tryz.func72,Tryz.ntmps72
   go_wp2_with fail
   go_quiet (fail)
   go_wp2_with fail
   go_ret
   exact⟨by rw[HN.out];rfl,BD.out _⟩
 have HF:Hid (fineW m.pl=(((m.ev.2.all fun p=>fineE p.1)&&m.wa.2.all fun p=>guB p.b)&&((m.od.2.all fun p=>decide (p.2.n≤300))&&m.ma.2.all fun p=>decide (p.2.n≤300)))):=by
  show _=_
  rw[HC0.out,decide_eq_true a4,decide_eq_true a5,decide_eq_true a6,decide_eq_true a7]
  rfl
 have g5:¬(m.od.1.n:Int) > 3000:=by omega
 have g6:¬(m.ma.1.n:Int) > 3000:=by omega
 have g7:¬(m.wa.1.n:Int) > 3000:=by omega
 clear a4 a5 a6 a7 HC0 BD
 rcases q with ⟨q1,q2⟩ | ⟨q1,q2⟩ | ⟨q1,q2⟩ | ⟨q1,q2⟩
 all_goals
  go_enter Tryz.func72,Tryz.ntmps72
  go_wp2_with fail
  go_quiet (fail)
  go_wp2_with fail
  clear z4 z5 z6 z7 g4 g5 g6 g7 q1 q2
  refine (kinds_any _).mono ?_
  rintro e w1 ⟨rfl,b1⟩
  have B1:Hid (Below w.heap.size w w1):=(below_drewN (Below.refl w.heap.size w) _).trans b1
  obtain⟨hb2,hk2⟩:=BK.out w1 #[.nilFunc,.func (.func 159) #[] #[],.func (.func 161) #[] #[],.func (.func 163) #[] #[],.func (.func 164) #[] #[],.func (.func 158) #[] #[],.func (.func 158) #[] #[]] B1.out
  have B2:=zh hb2
  have z4:(w1.alloc (.cells #[.nilFunc,.func (.func 159) #[] #[],.func (.func 161) #[] #[],.func (.func 163) #[] #[],.func (.func 164) #[] #[],.func (.func 158) #[] #[],.func (.func 158) #[] #[]] 172)).cell? ⟨Bh,4,none⟩=some (.slice m.ev.1.A m.ev.1.n m.ev.1.c):=(HB.out.below B2.out HB.out.lt).cell 4
  have HC:=zh (fine_evs m.ev.1.A m.ev.1.n m.ev.1.c w1.heap.size m.ev.2 (by have:=HL.out.ev;omega) _ ((HM.out.ev.below B2.out).more B2.out.size) (fun p hp=>⟨by have:=HL.out.sc p hp;omega,((HM.out.sc p hp).below B2.out).more B2.out.size⟩) hk2)
  clear b1 hb2 hk2 B1 BK
  go_wp2_with fail
  refine HC.out.mono ?_
  rintro e w2 ⟨rfl,b2⟩
  have B3:=zh (B2.out.trans (b2.mono B2.out.size))
  clear b2 HC B2 z4
  generalize (m.ev.2.all fun p=>fineE p.1)=x at *
  cases x
  ·have HN:Hid (fineW m.pl=false):=by show _=_;rw[HF.out];rfl
   go_wp2_with fail
   go_ret
   exact⟨by rw[HN.out];rfl,B3.out⟩
  have z5:w2.cell? ⟨Bh,5,none⟩=some (.slice m.od.1.A m.od.1.n m.od.1.c):=(HB.out.below B3.out HB.out.lt).cell 5
  have HC:=zh (fine_ods m.od.1.A m.od.1.n m.od.1.c m.od.2 (by have:=HL.out.od;omega) _ ((HM.out.od.below B3.out).more B3.out.size))
  go_wp2_with fail
  refine HC.out.mono ?_
  rintro e w3 ⟨rfl,b3⟩
  have B4:=zh (B3.out.trans (b3.mono B3.out.size))
  clear b3 HC B3 z5
  generalize (m.od.2.all fun p=>decide (p.2.n≤300))=x at *
  cases x
  ·have HN:Hid (fineW m.pl=false):=by show _=_;rw[HF.out,Bool.false_and,Bool.and_false]
   go_wp2_with fail
   go_ret
   exact⟨by rw[HN.out];rfl,B4.out⟩
  have z6:w3.cell? ⟨Bh,6,none⟩=some (.slice m.ma.1.A m.ma.1.n m.ma.1.c):=(HB.out.below B4.out HB.out.lt).cell 6
  have HC:=zh (fine_mas m.ma.1.A m.ma.1.n m.ma.1.c m.ma.2 (by have:=HL.out.ma;omega) _ ((HM.out.ma.below B4.out).more B4.out.size))
  go_wp2_with fail
  refine HC.out.mono ?_
  rintro e w4 ⟨rfl,b3⟩
  have B5:=zh (B4.out.trans (b3.mono B4.out.size))
  clear b3 HC B4 z6
  generalize (m.ma.2.all fun p=>decide (p.2.n≤300))=x at *
  cases x
  ·have HN:Hid (fineW m.pl=false):=by show _=_;rw[HF.out,Bool.and_false,Bool.and_false]
   go_wp2_with fail
   go_ret
   exact⟨by rw[HN.out];rfl,B5.out⟩
  have HN:Hid (fineW m.pl=m.wa.2.all fun p=>guB p.b):=by show _=_;rw[HF.out,Bool.true_and,Bool.true_and,Bool.and_true]
  have z7:w4.cell? ⟨Bh,7,none⟩=some (.slice m.wa.1.A m.wa.1.n m.wa.1.c):=(HB.out.below B5.out HB.out.lt).cell 7
  have HC:=zh (fine_was m.wa.1.A m.wa.1.n m.wa.1.c m.wa.2 (by have:=HL.out.wa;omega) _ ((HM.out.wa.below B5.out).more B5.out.size) (HT.out.on B5.out (Nat.le_refl _)))
  go_wp2_with fail
  refine HC.out.mono ?_
  rintro e w5 ⟨rfl,b3⟩
  have B6:=zh (B5.out.trans (b3.mono B5.out.size))
  clear b3 HC B5 z7
  generalize (m.wa.2.all fun p=>guB p.b)=y at *
  go_wp2_with fail
  go_ret
  exact⟨by rw[HN.out];rfl,B6.out⟩
end Go.Proofs.YtmkknbonmameoaaGreatDoor
