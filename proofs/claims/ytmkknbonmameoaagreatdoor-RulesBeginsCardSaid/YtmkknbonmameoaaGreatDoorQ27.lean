import Derived.Test.YtmkknbonmameoaaGreatDoorQ5
import Derived.Test.YtmkknbonmameoaaGreatDoorQ10
import Derived.Test.YtmkknbonmameoaaGreatDoorQ25
import Derived.Test.YtmkknbonmameoaaGreatDoorQ26
import Derived.Test.YtmkknbonmameoaaGreatDoorQ24
import Derived.Test.YtmkknbonmameoaaGreatDoorQ19
-- holds: YtmkknbonmameoaaGreatDoorHZp YtmkknbonmameoaaGreatDoorHZq YtmkknbonmameoaaGreatDoorHZr
namespace Go.Proofs.YtmkknbonmameoaaGreatDoor
open Go.RowKit Go.Shelf
def RuleIs (r:Nat) (H:Hist) (w:World):Ending→World→Prop:=fun e w'=>Below w.heap.size w w'∧∃ (gf:FuncId) (lb:Array Value),e=.returned (.func (.func gf) #[] lb)∧(∀ args W,(callFunc gf args).run Tryz.prog W=.ok (.enter gf args) W)∧∀ d,FirstSeq d Tryz.prog gf lb (ruPlace H r) w.heap.size w'
theorem eg_placese:∀ args w,(callFunc 136 args).run Tryz.prog w=.ok (.enter 136 args) w:=enters_of Tryz.func136 (by kernel_rfl) rfl
theorem eg_begun1:∀ args w,(callFunc 92 args).run Tryz.prog w=.ok (.enter 92 args) w:=enters_of Tryz.func92 (by kernel_rfl) rfl
theorem eg_ended1:∀ args w,(callFunc 93 args).run Tryz.prog w=.ok (.enter 93 args) w:=enters_of Tryz.func93 (by kernel_rfl) rfl
theorem eg_counted1:∀ args w,(callFunc 94 args).run Tryz.prog w=.ok (.enter 94 args) w:=enters_of Tryz.func94 (by kernel_rfl) rfl
theorem HistM.ev_at {m:HistM} {k:Nat} {e:EvP × SH} (h:m.ev.2[k]?=some e):m.pl.ev[k]?=some e.1:=by show (m.ev.2.map (·.1))[k]?=_;rw[List.getElem?_map,h];rfl
theorem placeZ_ev {m:HistM} {w:World} {B r:Nat} (h:HRd w B m) (h1:1≤r) (h6:r≤6):(List.range m.ev.1.n).find? (ruBrk m.pl r)=ruPlace m.pl r:=by
 unfold ruPlace
 rw[manyZ_ev h1 h6,h.ev_len]
theorem ruEv1 (e:EvP) (l:List EvP):ruEv 1 e l=(ruBegun l e.t==decide (e.kd=1)):=rfl
theorem ruEv2 (e:EvP) (l:List EvP):ruEv 2 e l=ruOver l e.t:=rfl
theorem ruEv3 (e:EvP) (l:List EvP):ruEv 3 e l=(decide (e.kd=2)&&!decide (e.vk=((ruWs l e.t e.o).length:Int)+1)):=rfl
theorem ruEv4 (e:EvP) (l:List EvP):ruEv 4 e l=(ruSeen e).any fun s=>!ruThere l s:=rfl
theorem ruEv5 (e:EvP) (l:List EvP):ruEv 5 e l=(ruSeen e).any (ruOwn l e.t):=rfl
theorem ruEv6 (e:EvP) (l:List EvP):ruEv 6 e l=!decide ((ruSeen e).map (·.o)).Nodup:=rfl
theorem wfZ {x:Int} (h:0≤x∧x≤3000):(Lit.int .i64 x).wf=true:=WalkArith.wf_i64 (by omega)
set_option maxRecDepth 100000 in
set_option maxHeartbeats 8000000 in
theorem begunM_any (m:HistM) (wr:SH) (rows:List SH) (Bl:Nat) (w:World) (hI:InZ m.pl) (hF:Fair m) (hL:LookZ m wr rows Bl w.heap.size w):Calls Tryz.prog 46 #[.pointer (some ⟨Bl,0,none⟩)] w (RuleIs 1 m.pl w):=by
 have hmk:=boolZ_make m.tr.1.n hF.tr
 have l0:w.cell? ⟨Bl,0,none⟩=some (.slice m.tr.1.A m.tr.1.n m.tr.1.c):=hL.blk.cell 0
 have HRD:=zh hL.rd
 have b1:Below w.heap.size w (w.alloc (.cells (boolsZ (List.replicate m.tr.1.n false)).toArray 4)):=(Below.refl _ _).alloc (Nat.le_refl _) _
 have B2:Hid (Below w.heap.size w ((w.alloc (.cells (boolsZ (List.replicate m.tr.1.n false)).toArray 4)).alloc (.cells #[.slice (some ⟨w.heap.size,0,none⟩) m.tr.1.n m.tr.1.n] 106))):=b1.alloc (by simp) _
 have KM:Hid (Blk ((w.alloc (.cells (boolsZ (List.replicate m.tr.1.n false)).toArray 4)).alloc (.cells #[.slice (some ⟨w.heap.size,0,none⟩) m.tr.1.n m.tr.1.n] 106)) w.heap.size 4 (boolsZ (bsZ (fun u=>ruBegun (m.pl.ev.take 0) (u:Int)) m.tr.1.n)).toArray):=by
  have h9:=(Blk.new w 4 (boolsZ (List.replicate m.tr.1.n false)).toArray).alloc (.cells #[.slice (some ⟨w.heap.size,0,none⟩) m.tr.1.n m.tr.1.n] 106)
  have e9:bsZ (fun u=>ruBegun (m.pl.ev.take 0) (u:Int)) m.tr.1.n=List.replicate m.tr.1.n false:=(bsZ_none _).symm
  show Blk _ _ _ _
  rw[e9]
  exact h9
 have KB:Hid (Blk ((w.alloc (.cells (boolsZ (List.replicate m.tr.1.n false)).toArray 4)).alloc (.cells #[.slice (some ⟨w.heap.size,0,none⟩) m.tr.1.n m.tr.1.n] 106)) (w.heap.size+1) 106 #[.slice (some ⟨w.heap.size,0,none⟩) m.tr.1.n m.tr.1.n]):=by
  have h9:=Blk.new (w.alloc (.cells (boolsZ (List.replicate m.tr.1.n false)).toArray 4)) 106 #[.slice (some ⟨w.heap.size,0,none⟩) m.tr.1.n m.tr.1.n]
  rwa [World.size_alloc] at h9
 have HSZ:Hid (((w.alloc (.cells (boolsZ (List.replicate m.tr.1.n false)).toArray 4)).alloc (.cells #[.slice (some ⟨w.heap.size,0,none⟩) m.tr.1.n m.tr.1.n] 106)).heap.size=w.heap.size+2):=by show _=_;simp
 have l4:((w.alloc (.cells (boolsZ (List.replicate m.tr.1.n false)).toArray 4)).alloc (.cells #[.slice (some ⟨w.heap.size,0,none⟩) m.tr.1.n m.tr.1.n] 106)).cell? ⟨Bl,4,none⟩=some (.slice m.ev.1.A m.ev.1.n m.ev.1.c):=(hL.blk.below B2.out hL.lt).cell 4
 clear b1
 go_enter Tryz.func46,Tryz.ntmps46
 go_upto_region 2 with fail
 clear l0 hmk
 generalize ((w.alloc (.cells (boolsZ (List.replicate m.tr.1.n false)).toArray 4)).alloc (.cells #[.slice (some ⟨w.heap.size,0,none⟩) m.tr.1.n m.tr.1.n] 106))=W2 at *
 have HP:=zh (placese_first 92 eg_begun1 #[.pointer (some ⟨w.heap.size+1,0,none⟩)] (ruBrk m.pl 1)
  (fun k X=>Blk X (w.heap.size+1) 106 #[.slice (some ⟨w.heap.size,0,none⟩) m.tr.1.n m.tr.1.n]∧Blk X w.heap.size 4 (boolsZ (bsZ (fun u=>ruBegun (m.pl.ev.take k) (u:Int)) m.tr.1.n)).toArray)
  (fun j=>j=w.heap.size) w.heap.size m.ev.1.A m.ev.1.n m.ev.1.c m.ev.2 W2 hF.ev (HRD.out.ev.below B2.out) B2.out.size (fun j hj=>by have:=HSZ.out;omega) (fun k X Y h hb=>⟨h.1.below hb h.1.lt,h.2.below hb h.2.lt⟩)
  (fun k e X hk hq => by
   have hev:=HistM.ev_at hk
   have het:=hI.et e.1 (List.mem_of_getElem? hev)
   obtain⟨tn,htn⟩:∃ tn:Nat,e.1.t=(tn:Int):=⟨e.1.t.toNat,by omega⟩
   have hlt:tn<m.tr.1.n:=by have:=HRD.out.tr_len;omega
   refine (begun1_any e.1.kd e.1.t e.1.s e.1.lev e.1.o e.1.vt e.1.vk e.1.p e.2.A e.2.n e.2.c tn m.tr.1.n _ (ruBegun (m.pl.ev.take k) e.1.t) htn (by rw[htn];exact bsZ_get hlt) (bsZ_len _ _) (w.heap.size+1) w.heap.size X hq.1 hq.2).mono ?_
   rintro r X' ⟨h1,h2,h3⟩
   refine⟨by rw[h1,brkZ_ev (r:=1) (by omega) (by omega) (HistM.ev_at hk)];rw[ruEv1,Bool.beq_comm],⟨h3.blk hq.1 (by omega),?_⟩,h3.mono fun j _ h=>h⟩
   rwa [bsZ_set (g:=fun u=>ruBegun (m.pl.ev.take (k+1)) (u:Int)) (by rw[begZ_next hev,htn];simp) (fun u hu hne=>by rw[begZ_next hev,htn];have:¬(tn:Int)=(u:Int):=fun e=>hne (by omega);simp[this])] at h2) ⟨KB.out,KM.out⟩)
 clear hL
 go_wp2_with fail
 refine HP.out.mono ?_
 rintro e w3 ⟨b3,lb,rfl,hseq⟩
 have HQ:Hid (RuleIs 1 m.pl w (.returned (.func (.func 136) #[] lb)) w3):=by
  rw[placeZ_ev HRD.out (by omega) (by omega)] at hseq
  exact⟨B2.out.trans (b3.mono B2.out.size),_,lb,rfl,eg_placese,hseq⟩
 clear b3 hseq HP
 go_wp2_with fail
 go_ret
 exact HQ.out
set_option maxRecDepth 100000 in
set_option maxHeartbeats 8000000 in
theorem endedM_any (m:HistM) (wr:SH) (rows:List SH) (Bl:Nat) (w:World) (hI:InZ m.pl) (hF:Fair m) (hL:LookZ m wr rows Bl w.heap.size w):Calls Tryz.prog 47 #[.pointer (some ⟨Bl,0,none⟩)] w (RuleIs 2 m.pl w):=by
 have hmk:=boolZ_make m.tr.1.n hF.tr
 have l0:w.cell? ⟨Bl,0,none⟩=some (.slice m.tr.1.A m.tr.1.n m.tr.1.c):=hL.blk.cell 0
 have HRD:=zh hL.rd
 have b1:Below w.heap.size w (w.alloc (.cells (boolsZ (List.replicate m.tr.1.n false)).toArray 4)):=(Below.refl _ _).alloc (Nat.le_refl _) _
 have B2:Hid (Below w.heap.size w ((w.alloc (.cells (boolsZ (List.replicate m.tr.1.n false)).toArray 4)).alloc (.cells #[.slice (some ⟨w.heap.size,0,none⟩) m.tr.1.n m.tr.1.n] 106))):=b1.alloc (by simp) _
 have KM:Hid (Blk ((w.alloc (.cells (boolsZ (List.replicate m.tr.1.n false)).toArray 4)).alloc (.cells #[.slice (some ⟨w.heap.size,0,none⟩) m.tr.1.n m.tr.1.n] 106)) w.heap.size 4 (boolsZ (bsZ (fun u=>ruOver (m.pl.ev.take 0) (u:Int)) m.tr.1.n)).toArray):=by
  have h9:=(Blk.new w 4 (boolsZ (List.replicate m.tr.1.n false)).toArray).alloc (.cells #[.slice (some ⟨w.heap.size,0,none⟩) m.tr.1.n m.tr.1.n] 106)
  have e9:bsZ (fun u=>ruOver (m.pl.ev.take 0) (u:Int)) m.tr.1.n=List.replicate m.tr.1.n false:=(bsZ_none _).symm
  show Blk _ _ _ _
  rw[e9]
  exact h9
 have KB:Hid (Blk ((w.alloc (.cells (boolsZ (List.replicate m.tr.1.n false)).toArray 4)).alloc (.cells #[.slice (some ⟨w.heap.size,0,none⟩) m.tr.1.n m.tr.1.n] 106)) (w.heap.size+1) 106 #[.slice (some ⟨w.heap.size,0,none⟩) m.tr.1.n m.tr.1.n]):=by
  have h9:=Blk.new (w.alloc (.cells (boolsZ (List.replicate m.tr.1.n false)).toArray 4)) 106 #[.slice (some ⟨w.heap.size,0,none⟩) m.tr.1.n m.tr.1.n]
  rwa [World.size_alloc] at h9
 have HSZ:Hid (((w.alloc (.cells (boolsZ (List.replicate m.tr.1.n false)).toArray 4)).alloc (.cells #[.slice (some ⟨w.heap.size,0,none⟩) m.tr.1.n m.tr.1.n] 106)).heap.size=w.heap.size+2):=by show _=_;simp
 have l4:((w.alloc (.cells (boolsZ (List.replicate m.tr.1.n false)).toArray 4)).alloc (.cells #[.slice (some ⟨w.heap.size,0,none⟩) m.tr.1.n m.tr.1.n] 106)).cell? ⟨Bl,4,none⟩=some (.slice m.ev.1.A m.ev.1.n m.ev.1.c):=(hL.blk.below B2.out hL.lt).cell 4
 clear b1
 go_enter Tryz.func47,Tryz.ntmps47
 go_upto_region 2 with fail
 clear l0 hmk
 generalize ((w.alloc (.cells (boolsZ (List.replicate m.tr.1.n false)).toArray 4)).alloc (.cells #[.slice (some ⟨w.heap.size,0,none⟩) m.tr.1.n m.tr.1.n] 106))=W2 at *
 have HP:=zh (placese_first 93 eg_ended1 #[.pointer (some ⟨w.heap.size+1,0,none⟩)] (ruBrk m.pl 2)
  (fun k X=>Blk X (w.heap.size+1) 106 #[.slice (some ⟨w.heap.size,0,none⟩) m.tr.1.n m.tr.1.n]∧Blk X w.heap.size 4 (boolsZ (bsZ (fun u=>ruOver (m.pl.ev.take k) (u:Int)) m.tr.1.n)).toArray)
  (fun j=>j=w.heap.size) w.heap.size m.ev.1.A m.ev.1.n m.ev.1.c m.ev.2 W2 hF.ev (HRD.out.ev.below B2.out) B2.out.size (fun j hj=>by have:=HSZ.out;omega) (fun k X Y h hb=>⟨h.1.below hb h.1.lt,h.2.below hb h.2.lt⟩)
  (fun k e X hk hq => by
   have hev:=HistM.ev_at hk
   have het:=hI.et e.1 (List.mem_of_getElem? hev)
   obtain⟨tn,htn⟩:∃ tn:Nat,e.1.t=(tn:Int):=⟨e.1.t.toNat,by omega⟩
   have hlt:tn<m.tr.1.n:=by have:=HRD.out.tr_len;omega
   refine (ended1_any e.1.kd e.1.t e.1.s e.1.lev e.1.o e.1.vt e.1.vk e.1.p e.2.A e.2.n e.2.c tn m.tr.1.n _ (ruOver (m.pl.ev.take k) e.1.t) htn (by rw[htn];exact bsZ_get hlt) (bsZ_len _ _) (w.heap.size+1) w.heap.size X hq.1 hq.2).mono ?_
   rintro r X' ⟨h1,h2,h3⟩
   refine⟨by rw[h1,brkZ_ev (r:=2) (by omega) (by omega) (HistM.ev_at hk)];rw[ruEv2],⟨h3.blk hq.1 (by omega),?_⟩,h3.mono fun j _ h=>h⟩
   rwa [bsZ_set (g:=fun u=>ruOver (m.pl.ev.take (k+1)) (u:Int)) (by rw[ovrZ_next hev,htn];simp) (fun u hu hne=>by rw[ovrZ_next hev,htn];have:¬(tn:Int)=(u:Int):=fun e=>hne (by omega);simp[this])] at h2) ⟨KB.out,KM.out⟩)
 clear hL
 go_wp2_with fail
 refine HP.out.mono ?_
 rintro e w3 ⟨b3,lb,rfl,hseq⟩
 have HQ:Hid (RuleIs 2 m.pl w (.returned (.func (.func 136) #[] lb)) w3):=by
  rw[placeZ_ev HRD.out (by omega) (by omega)] at hseq
  exact⟨B2.out.trans (b3.mono B2.out.size),_,lb,rfl,eg_placese,hseq⟩
 clear b3 hseq HP
 go_wp2_with fail
 go_ret
 exact HQ.out
set_option maxRecDepth 100000 in
set_option maxHeartbeats 8000000 in
theorem countedM_any (m:HistM) (wr:SH) (rows:List SH) (Bl:Nat) (w:World) (hI:InZ m.pl) (hF:Fair m) (hL:LookZ m wr rows Bl w.heap.size w):Calls Tryz.prog 48 #[.pointer (some ⟨Bl,0,none⟩)] w (RuleIs 3 m.pl w):=by
 have hmm:=@run_makeMap Tryz.prog
 have HRD:=zh hL.rd
 have b1:Below w.heap.size w (w.alloc (.map #[] 0)):=(Below.refl _ _).alloc (Nat.le_refl _) _
 have b2:Below (w.alloc (.map #[] 0)).heap.size (w.alloc (.map #[] 0)) ((w.alloc (.map #[] 0)).alloc (.cells #[.map (some w.heap.size)] 142)):=(Below.refl _ _).alloc (Nat.le_refl _) _
 have B2:Hid (Below w.heap.size w ((w.alloc (.map #[] 0)).alloc (.cells #[.map (some w.heap.size)] 142))):=b1.trans (b2.mono b1.size)
 have KM:Hid (CntM 110 keyZ okZ w.heap.size (wsZ (m.pl.ev.take 0)) ((w.alloc (.map #[] 0)).alloc (.cells #[.map (some w.heap.size)] 142))):=(CntM.new w).on b2
 have KB:Hid (Blk ((w.alloc (.map #[] 0)).alloc (.cells #[.map (some w.heap.size)] 142)) (w.heap.size+1) 142 #[.map (some w.heap.size)]):=by
  have h9:=Blk.new (w.alloc (.map #[] 0)) 142 #[.map (some w.heap.size)]
  rwa [World.size_alloc] at h9
 have HSZ:Hid (((w.alloc (.map #[] 0)).alloc (.cells #[.map (some w.heap.size)] 142)).heap.size=w.heap.size+2):=by show _=_;simp
 have l4:((w.alloc (.map #[] 0)).alloc (.cells #[.map (some w.heap.size)] 142)).cell? ⟨Bl,4,none⟩=some (.slice m.ev.1.A m.ev.1.n m.ev.1.c):=(hL.blk.below B2.out hL.lt).cell 4
 clear b1 b2
 go_enter Tryz.func48,Tryz.ntmps48
 go_upto_region 2 with fail
 clear hmm
 generalize ((w.alloc (.map #[] 0)).alloc (.cells #[.map (some w.heap.size)] 142))=W2 at *
 have HP:=zh (placese_first 94 eg_counted1 #[.pointer (some ⟨w.heap.size+1,0,none⟩)] (ruBrk m.pl 3)
  (fun k X=>Blk X (w.heap.size+1) 142 #[.map (some w.heap.size)]∧CntM 110 keyZ okZ w.heap.size (wsZ (m.pl.ev.take k)) X)
  (fun j=>j=w.heap.size) w.heap.size m.ev.1.A m.ev.1.n m.ev.1.c m.ev.2 W2 hF.ev (HRD.out.ev.below B2.out) B2.out.size (fun j hj=>by have:=HSZ.out;omega) (fun k X Y h hb=>⟨h.1.below hb h.1.lt,h.2.on hb⟩)
  (fun k e X hk hq => by
   have hev:=HistM.ev_at hk
   have hln:(wsZ (m.pl.ev.take k)).length≤1000000:=by have h1:=wsZ_len (m.pl.ev.take k);have h2:=List.length_take_le' k m.pl.ev;have:=hI.ev;omega
   have hok:e.1.kd=2→okZ (e.1.t,e.1.o):=fun h2=>by have:=(hI.eo e.1 (List.mem_of_getElem? hev) h2).1;have:=hI.et e.1 (List.mem_of_getElem? hev);have:=hI.ob;have:=hI.tr;exact⟨wfZ (by simp only;omega),wfZ (by simp only;omega)⟩
   by_cases h2:e.1.kd=2
   ·refine (counted1_any e.1.kd e.1.t e.1.s e.1.lev e.1.o e.1.vt e.1.vk e.1.p e.2.A e.2.n e.2.c (wsZ (m.pl.ev.take k)) (w.heap.size+1) w.heap.size X (hok h2) hln hq.1 hq.2).mono ?_
    rintro r X' ⟨h3,h4,h5⟩
    refine⟨?_,⟨h5.blk hq.1 (by omega),?_⟩,h5.mono fun j _ h=>h⟩
    ·rw[h3,brkZ_ev (r:=3) (by omega) (by omega) hev]
     rw[ruEv3,wsZ_count]
    rw[wsZ_yes hev h2]
    rwa [if_pos h2] at h4
   ·refine (counted1_no e.1.kd e.1.t e.1.s e.1.lev e.1.o e.1.vt e.1.vk e.1.p e.2.A e.2.n e.2.c (w.heap.size+1) X h2).mono ?_
    rintro r X' ⟨h3,h5⟩
    refine⟨?_,⟨hq.1.below h5 hq.1.lt,?_⟩,Keep.of_all _ h5⟩
    ·rw[h3,brkZ_ev (r:=3) (by omega) (by omega) hev]
     rw[ruEv3,decide_eq_false h2]
     rfl
    ·rw[wsZ_no hev h2]
     exact hq.2.on h5) ⟨KB.out,KM.out⟩)
 clear hL
 go_wp2_with fail
 refine HP.out.mono ?_
 rintro e w3 ⟨b3,lb,rfl,hseq⟩
 have HQ:Hid (RuleIs 3 m.pl w (.returned (.func (.func 136) #[] lb)) w3):=by
  rw[placeZ_ev HRD.out (by omega) (by omega)] at hseq
  exact⟨B2.out.trans (b3.mono B2.out.size),_,lb,rfl,eg_placese,hseq⟩
 clear b3 hseq HP
 go_wp2_with fail
 go_ret
 exact HQ.out
set_option maxRecDepth 100000 in
set_option maxHeartbeats 8000000 in
theorem writtenM_any (m:HistM) (wr:SH) (rows:List SH) (Bl:Nat) (w:World) (hI:InZ m.pl) (hF:Fair m) (hL:LookZ m wr rows Bl w.heap.size w):Calls Tryz.prog 49 #[.pointer (some ⟨Bl,0,none⟩)] w (RuleIs 4 m.pl w):=by
 have hmm:=@run_makeMap Tryz.prog
 have HRD:=zh hL.rd
 have b1:Below w.heap.size w (w.alloc (.map #[] 0)):=(Below.refl _ _).alloc (Nat.le_refl _) _
 have b2:Below (w.alloc (.map #[] 0)).heap.size (w.alloc (.map #[] 0)) ((w.alloc (.map #[] 0)).alloc (.cells #[.map (some w.heap.size)] 143)):=(Below.refl _ _).alloc (Nat.le_refl _) _
 have B2:Hid (Below w.heap.size w ((w.alloc (.map #[] 0)).alloc (.cells #[.map (some w.heap.size)] 143))):=b1.trans (b2.mono b1.size)
 have KM:Hid (CntM 64 keyS okS w.heap.size (snZ (m.pl.ev.take 0)) ((w.alloc (.map #[] 0)).alloc (.cells #[.map (some w.heap.size)] 143))):=(CntM.new w).on b2
 have KB:Hid (Blk ((w.alloc (.map #[] 0)).alloc (.cells #[.map (some w.heap.size)] 143)) (w.heap.size+1) 143 #[.map (some w.heap.size)]):=by
  have h9:=Blk.new (w.alloc (.map #[] 0)) 143 #[.map (some w.heap.size)]
  rwa [World.size_alloc] at h9
 have HSZ:Hid (((w.alloc (.map #[] 0)).alloc (.cells #[.map (some w.heap.size)] 143)).heap.size=w.heap.size+2):=by show _=_;simp
 have l4:((w.alloc (.map #[] 0)).alloc (.cells #[.map (some w.heap.size)] 143)).cell? ⟨Bl,4,none⟩=some (.slice m.ev.1.A m.ev.1.n m.ev.1.c):=(hL.blk.below B2.out hL.lt).cell 4
 clear b1 b2
 go_enter Tryz.func49,Tryz.ntmps49
 go_upto_region 2 with fail
 clear hmm
 generalize ((w.alloc (.map #[] 0)).alloc (.cells #[.map (some w.heap.size)] 143))=W2 at *
 have HP:=zh (placese_first 95 eg_written1 #[.pointer (some ⟨w.heap.size+1,0,none⟩)] (ruBrk m.pl 4)
  (fun k X=>Blk X (w.heap.size+1) 143 #[.map (some w.heap.size)]∧CntM 64 keyS okS w.heap.size (snZ (m.pl.ev.take k)) X∧Below (w.heap.size) W2 X)
  (fun j=>j=w.heap.size) w.heap.size m.ev.1.A m.ev.1.n m.ev.1.c m.ev.2 W2 hF.ev (HRD.out.ev.below B2.out) B2.out.size (fun j hj=>by have:=HSZ.out;omega) (fun k X Y h hb=>⟨h.1.below hb h.1.lt,h.2.1.on hb,h.2.2.trans (hb.mono (Nat.le_trans (by have:=HSZ.out;omega) h.2.2.size))⟩)
  (fun k e X hk hq => by
   have hev:=HistM.ev_at hk
   have hln:(snZ (m.pl.ev.take k)).length≤1000000:=by have h1:=snZ_len (m.pl.ev.take k);have h2:=List.length_take_le' k m.pl.ev;have:=hI.ev;omega
   have hem:=List.mem_of_getElem? hev
   have hw:e.1.kd=2→okS (e.1.o,e.1.vt,e.1.vk):=fun h2=>by have h3:=hI.eo e.1 hem h2;have:=hI.ob;have:=hI.tr;exact⟨wfZ (by simp only;omega),wfZ (by simp only;omega),wfZ (by simp only;omega)⟩
   have hs:∀ s∈ruSeen e.1,okS (s.o,s.t,s.k):=fun s hs=>by have h3:=hI.sn e.1 hem s hs;have:=hI.ob;exact⟨wfZ (by simp only;omega),wfZ (by simp only;omega),wfZ (by simp only;omega)⟩
   have hrs:=(HRD.out.sc e (List.mem_of_getElem? hk))
   have hnn:e.2.n≤1000000:=by have h3:=reads_len_s seCs_len (by omega) hrs;have:=(hI.sc e.1 hem).1;omega
   have hRX:Reads X w.heap.size 3 e.2.A e.2.n (e.1.scan.flatMap seCs):=hrs.below (B2.out.trans (hq.2.2.mono (by have:=HSZ.out;omega)))
   refine (written1_any e.1 e.2 hnn (snZ (m.pl.ev.take k)) (w.heap.size+1) w.heap.size w.heap.size X hln hw hs hq.1 hq.2.1 hRX (Nat.le_refl _)).mono ?_
   rintro r X' ⟨h3,h4,h5⟩
   refine⟨?_,⟨h5.blk hq.1 (by omega),?_,hq.2.2.trans (h5.below (by have:=hq.2.2.size;have:=HSZ.out;omega) fun j hj=>by omega)⟩,h5.mono fun j _ h=>h⟩
   ·rw[h3,brkZ_ev (r:=4) (by omega) (by omega) hev]
    rw[ruEv4]
    congr 2
    by_cases h2:e.1.kd=2
    ·rw[seenZ_write (hI.sc e.1 hem).2 h2]
     rfl
    rw[if_neg h2]
    exact any_same fun s hs=>thZ_is (l:=m.pl.ev.take k) (hI.sn e.1 hem s hs).2.2.1
   ·by_cases h2:e.1.kd=2
    ·rw[snZ_yes hev h2]
     rwa [if_pos h2] at h4
    ·rw[snZ_no hev h2]
     rwa [if_neg h2] at h4) ⟨KB.out,KM.out,Below.refl _ _⟩)
 clear hL
 go_wp2_with fail
 refine HP.out.mono ?_
 rintro e w3 ⟨b3,lb,rfl,hseq⟩
 have HQ:Hid (RuleIs 4 m.pl w (.returned (.func (.func 136) #[] lb)) w3):=by
  rw[placeZ_ev HRD.out (by omega) (by omega)] at hseq
  exact⟨B2.out.trans (b3.mono B2.out.size),_,lb,rfl,eg_placese,hseq⟩
 clear b3 hseq HP
 go_wp2_with fail
 go_ret
 exact HQ.out
set_option maxRecDepth 100000 in
set_option maxHeartbeats 8000000 in
theorem ownM_any (m:HistM) (wr:SH) (rows:List SH) (Bl:Nat) (w:World) (hI:InZ m.pl) (hF:Fair m) (hL:LookZ m wr rows Bl w.heap.size w):Calls Tryz.prog 50 #[.pointer (some ⟨Bl,0,none⟩)] w (RuleIs 5 m.pl w):=by
 have hmm:=@run_makeMap Tryz.prog
 have HRD:=zh hL.rd
 have b1:Below w.heap.size w (w.alloc (.map #[] 0)):=(Below.refl _ _).alloc (Nat.le_refl _) _
 have b2:Below (w.alloc (.map #[] 0)).heap.size (w.alloc (.map #[] 0)) ((w.alloc (.map #[] 0)).alloc (.cells #[.map (some w.heap.size)] 147)):=(Below.refl _ _).alloc (Nat.le_refl _) _
 have B2:Hid (Below w.heap.size w ((w.alloc (.map #[] 0)).alloc (.cells #[.map (some w.heap.size)] 147))):=b1.trans (b2.mono b1.size)
 have KM:Hid (OwnM w.heap.size 0 (lasZ (m.pl.ev.take 0)) ((w.alloc (.map #[] 0)).alloc (.cells #[.map (some w.heap.size)] 147))):=(OwnM.new w).on b2
 have KB:Hid (Blk ((w.alloc (.map #[] 0)).alloc (.cells #[.map (some w.heap.size)] 147)) (w.heap.size+1) 147 #[.map (some w.heap.size)]):=by
  have h9:=Blk.new (w.alloc (.map #[] 0)) 147 #[.map (some w.heap.size)]
  rwa [World.size_alloc] at h9
 have HSZ:Hid (((w.alloc (.map #[] 0)).alloc (.cells #[.map (some w.heap.size)] 147)).heap.size=w.heap.size+2):=by show _=_;simp
 have l4:((w.alloc (.map #[] 0)).alloc (.cells #[.map (some w.heap.size)] 147)).cell? ⟨Bl,4,none⟩=some (.slice m.ev.1.A m.ev.1.n m.ev.1.c):=(hL.blk.below B2.out hL.lt).cell 4
 clear b1 b2
 go_enter Tryz.func50,Tryz.ntmps50
 go_upto_region 2 with fail
 clear hmm
 generalize ((w.alloc (.map #[] 0)).alloc (.cells #[.map (some w.heap.size)] 147))=W2 at *
 have HP:=zh (placese_first 99 eg_own1 #[.pointer (some ⟨w.heap.size+1,0,none⟩)] (ruBrk m.pl 5)
  (fun k X=>Blk X (w.heap.size+1) 147 #[.map (some w.heap.size)]∧(∃ nb,nb≤k∧OwnM w.heap.size nb (lasZ (m.pl.ev.take k)) X)∧Below (w.heap.size) W2 X)
  (fun j=>j=w.heap.size) w.heap.size m.ev.1.A m.ev.1.n m.ev.1.c m.ev.2 W2 hF.ev (HRD.out.ev.below B2.out) B2.out.size (fun j hj=>by have:=HSZ.out;omega) (fun k X Y h hb=>⟨h.1.below hb h.1.lt,(by obtain⟨nb,h1,h2⟩:=h.2.1;exact⟨nb,h1,h2.on hb⟩),h.2.2.trans (hb.mono (Nat.le_trans (by have:=HSZ.out;omega) h.2.2.size))⟩)
  (fun k e X hk hq => by
   have hev:=HistM.ev_at hk
   have hem:=List.mem_of_getElem? hev
   have hkl:=(List.getElem?_eq_some_iff.1 hev).1
   have het:=hI.et e.1 hem
   obtain⟨nb,hnb,hmq⟩:=hq.2.1
   have hs:∀ s∈ruSeen e.1,okZ (e.1.t,s.o):=fun s hs=>by have h3:=hI.sn e.1 hem s hs;have:=hI.ob;have:=hI.tr;exact⟨wfZ (by omega),wfZ (by simp only;omega)⟩
   have hrs:=(HRD.out.sc e (List.mem_of_getElem? hk))
   have hnn:e.2.n≤1000000:=by have h3:=reads_len_s seCs_len (by omega) hrs;have:=(hI.sc e.1 hem).1;omega
   have hRX:Reads X w.heap.size 3 e.2.A e.2.n (e.1.scan.flatMap seCs):=hrs.below (B2.out.trans (hq.2.2.mono (by have:=HSZ.out;omega)))
   by_cases h2:e.1.kd=2
   ·have hw:okZ (e.1.t,e.1.o):=by have h3:=hI.eo e.1 hem h2;have:=hI.ob;have:=hI.tr;exact⟨wfZ (by simp only;omega),wfZ (by simp only;omega)⟩
    refine (own1_any e.1 e.2 hnn (lasZ (m.pl.ev.take k)) (lasZ (m.pl.ev.take (k+1))) (w.heap.size+1) w.heap.size w.heap.size nb X (by have:=hI.ev;omega) (fun _=>hw) hs (fun q=>by rw[if_pos h2];exact lasZ_yes hev h2 q) hq.1 hmq hRX (Nat.le_refl _)).mono ?_
    rintro r X' ⟨h3,⟨nb2,hnb2,h4⟩,h5⟩
    refine⟨?_,⟨h5.blk hq.1 (by omega),⟨nb2,by omega,h4⟩,hq.2.2.trans (h5.below (by have:=hq.2.2.size;have:=HSZ.out;omega) fun j hj=>by omega)⟩,h5.mono fun j _ h=>h⟩
    rw[h3,brkZ_ev (r:=5) (by omega) (by omega) hev]
    rw[ruEv5,seenZ_write (hI.sc e.1 hem).2 h2]
    rfl
   ·refine (own1_any e.1 e.2 hnn (lasZ (m.pl.ev.take k)) (lasZ (m.pl.ev.take (k+1))) (w.heap.size+1) w.heap.size w.heap.size nb X (by have:=hI.ev;omega) (fun h=>absurd h h2) hs (fun q=>by rw[if_neg h2];exact lasZ_no hev h2 q) hq.1 hmq hRX (Nat.le_refl _)).mono ?_
    rintro r X' ⟨h3,⟨nb2,hnb2,h4⟩,h5⟩
    refine⟨?_,⟨h5.blk hq.1 (by omega),⟨nb2,by omega,h4⟩,hq.2.2.trans (h5.below (by have:=hq.2.2.size;have:=HSZ.out;omega) fun j hj=>by omega)⟩,h5.mono fun j _ h=>h⟩
    rw[h3,brkZ_ev (r:=5) (by omega) (by omega) hev]
    rw[ruEv5]
    congr 2
    have hfe:lasZ (m.pl.ev.take (k+1))=lasZ (m.pl.ev.take k):=funext fun q=>lasZ_no hev h2 q
    rw[hfe]
    exact any_same fun s _=>ownZ_is (l:=m.pl.ev.take k) (t:=e.1.t)) ⟨KB.out,⟨0,Nat.le_refl _,KM.out⟩,Below.refl _ _⟩)
 clear hL
 go_wp2_with fail
 refine HP.out.mono ?_
 rintro e w3 ⟨b3,lb,rfl,hseq⟩
 have HQ:Hid (RuleIs 5 m.pl w (.returned (.func (.func 136) #[] lb)) w3):=by
  rw[placeZ_ev HRD.out (by omega) (by omega)] at hseq
  exact⟨B2.out.trans (b3.mono B2.out.size),_,lb,rfl,eg_placese,hseq⟩
 clear b3 hseq HP
 go_wp2_with fail
 go_ret
 exact HQ.out
set_option maxRecDepth 100000 in
set_option maxHeartbeats 8000000 in
theorem scannedM_any (m:HistM) (wr:SH) (rows:List SH) (Bl:Nat) (w:World) (hI:InZ m.pl) (hF:Fair m) (hL:LookZ m wr rows Bl w.heap.size w):Calls Tryz.prog 51 #[.pointer (some ⟨Bl,0,none⟩)] w (RuleIs 6 m.pl w):=by
 have HRD:=zh hL.rd
 have l4:w.cell? ⟨Bl,4,none⟩=some (.slice m.ev.1.A m.ev.1.n m.ev.1.c):=hL.blk.cell 4
 have B2:Hid (Below w.heap.size w w):=Below.refl _ _
 have HP:=zh (placese_first 101 eg_scanned1 #[] (ruBrk m.pl 6)
  (fun _ X=>Below w.heap.size w X) (fun _=>False) w.heap.size m.ev.1.A m.ev.1.n m.ev.1.c m.ev.2 w hF.ev HRD.out.ev (Nat.le_refl _) (fun j hj=>hj.elim) (fun k X Y h hb=>h.trans (hb.mono h.size))
  (fun k e X hk hq => by
   have hev:=HistM.ev_at hk
   have hem:=List.mem_of_getElem? hev
   have hrs:=(HRD.out.sc e (List.mem_of_getElem? hk))
   have hnn:e.2.n≤1000000:=by have h3:=reads_len_s seCs_len (by omega) hrs;have:=(hI.sc e.1 hem).1;omega
   have hss:∀ s∈e.1.scan,0≤s.o∧s.o<300:=fun s hs=>by
    by_cases h4:e.1.kd=4
    ·have h3:=hI.sn e.1 hem s (by unfold ruSeen;rw[if_neg (by omega)];exact hs)
     have:=hI.ob
     omega
    rw[(hI.sc e.1 hem).2 h4] at hs
    cases hs
   refine (scanned1_any e.1 e.2 hnn X hss ((hrs.below hq).more hq.size)).mono ?_
   rintro r X' ⟨h1,h2⟩
   refine⟨?_,hq.trans (h2.mono hq.size),Keep.of_all _ h2⟩
   rw[h1,brkZ_ev (r:=6) (by omega) (by omega) hev]
   rw[ruEv6]
   congr 2
   unfold ruSeen
   by_cases h3:e.1.kd=3
   ·rw[if_pos h3,(hI.sc e.1 hem).2 (by omega)]
    simp
   ·rw[if_neg h3]) (Below.refl _ _))
 go_enter Tryz.func51,Tryz.ntmps51
 clear hL
 go_wp2_with fail
 refine HP.out.mono ?_
 rintro e w3 ⟨b3,lb,rfl,hseq⟩
 have HQ:Hid (RuleIs 6 m.pl w (.returned (.func (.func 136) #[] lb)) w3):=by
  rw[placeZ_ev HRD.out (by omega) (by omega)] at hseq
  exact⟨B2.out.trans (b3.mono B2.out.size),_,lb,rfl,eg_placese,hseq⟩
 clear b3 hseq HP
 go_wp2_with fail
 go_ret
 exact HQ.out
theorem run_store_funcZ {P:Program} {w:World} {a:Addr} {m:Mode} (fn:Fn) (first captured:Array Value):(store a (.func fn first captured) m).run P w=stored P w a (.func fn first captured) m:=run_store P w a _ m rfl
attribute [local go_sem] run_store_funcZ
theorem eg_placeso:∀ args w,(callFunc 139 args).run Tryz.prog w=.ok (.enter 139 args) w:=enters_of Tryz.func139 (by kernel_rfl) rfl
theorem eg_placesm:∀ args w,(callFunc 142 args).run Tryz.prog w=.ok (.enter 142 args) w:=enters_of Tryz.func142 (by kernel_rfl) rfl
theorem eg_placesw:∀ args w,(callFunc 143 args).run Tryz.prog w=.ok (.enter 143 args) w:=enters_of Tryz.func143 (by kernel_rfl) rfl
theorem eg_placesr:∀ args w,(callFunc 140 args).run Tryz.prog w=.ok (.enter 140 args) w:=enters_of Tryz.func140 (by kernel_rfl) rfl
theorem FirstSeq.less {n:Nat} {P:Program} {gf:Nat} {lb:Array Value} {f:Option Nat} {N N':Nat} {w1:World} (h:FirstSeq n P gf lb f N' w1) (hN:N≤N'):FirstSeq n P gf lb f N w1:=fun l Jx W hW hJ hY =>
 (h l Jx W hW hJ fun k X hf hk=>hY k X hf (hk.mono fun j _ hj=>by omega)).mono fun e X hX=>⟨hX.1,hX.2.imp (fun h=>⟨h.1,h.2.mono fun j _ hj=>by omega⟩) id⟩
theorem HistM.od_at {m:HistM} {k:Nat} {e:OrdP × SH} (h:m.od.2[k]?=some e):m.pl.od[k]?=some e.1:=by show (m.od.2.map (·.1))[k]?=_;rw[List.getElem?_map,h];rfl
theorem HistM.ma_at {m:HistM} {k:Nat} {e:MatP × SH} (h:m.ma.2[k]?=some e):m.pl.ma[k]?=some e.1:=by show (m.ma.2.map (·.1))[k]?=_;rw[List.getElem?_map,h];rfl
theorem manyZ_7 (H:Hist):ruMany H 7=H.od.length:=rfl
theorem manyZ_8 (H:Hist):ruMany H 8=H.ob.length:=rfl
theorem manyZ_9 (H:Hist):ruMany H 9=H.ma.length:=rfl
theorem manyZ_10 (H:Hist):ruMany H 10=H.wa.length:=rfl
theorem brkZ_7 (H:Hist) (i:Nat):ruBrk H 7 i=ruOrd H i:=rfl
theorem brkZ_8 (H:Hist) (i:Nat):ruBrk H 8 i=ruMis H (i:Int):=rfl
theorem brkZ_9 (H:Hist) (i:Nat):ruBrk H 9 i=ruMat H i:=rfl
theorem brkZ_10 (H:Hist) (i:Nat):ruBrk H 10 i=ruWan H i:=rfl
theorem memZ_any {α β:Type} [BEq β] [LawfulBEq β] [DecidableEq β] (l:List α) (f:α→β) (y:β):decide (y∈l.map f)=l.any fun p=>decide (f p=y):=by
 rw[Bool.eq_iff_iff]
 simp only[decide_eq_true_eq,List.mem_map,List.any_eq_true]
set_option maxRecDepth 100000 in
set_option maxHeartbeats 8000000 in
theorem orderedM_any (m:HistM) (wr:SH) (rows:List SH) (Bl:Nat) (w:World) (hI:InZ m.pl) (hF:Fair m) (hL:LookZ m wr rows Bl w.heap.size w):Calls Tryz.prog 52 #[.pointer (some ⟨Bl,0,none⟩)] w (RuleIs 7 m.pl w):=by
 have b1:Below w.heap.size w (w.alloc (.cells #[.pointer (some ⟨Bl,0,none⟩)] 76)):=(Below.refl _ _).alloc (Nat.le_refl _) _
 have HRD:=zh hL.rd
 have HL0:=zh hL
 have KP:=zh (Blk.new w 76 #[.pointer (some ⟨Bl,0,none⟩)])
 have B1:=zh b1
 have HS1:Hid ((w.alloc (.cells #[.pointer (some ⟨Bl,0,none⟩)] 76)).heap.size=w.heap.size+1):=by show _=_;simp
 clear b1 hL
 go_enter Tryz.func52,Tryz.ntmps52
 go_upto_region 1 with fail
 generalize w.alloc (.cells #[.pointer (some ⟨Bl,0,none⟩)] 76)=W1 at *
 have HC:=zh (againI_any W1)
 rw[HS1.out] at HC
 go_wp2_with fail
 refine HC.out.mono ?_
 rintro e w2 ⟨rfl,hbx,hmp,hb,hsz⟩
 have hb:=hb
 rw[show w.heap.size+1+1=w.heap.size+2 from rfl] at hbx ⊢
 have KP2:=zh (KP.out.below hb (by have:=HS1.out;omega))
 have B2:Hid (Below w.heap.size w w2):=B1.out.trans (hb.mono (by have:=HS1.out;omega))
 have KBX:=zh hbx
 have KMP:=zh hmp
 have HS2:Hid (w2.heap.size=w.heap.size+3):=hsz
 clear hbx hmp hb hsz HC KP B1
 have b3:Below w2.heap.size w2 (w2.alloc (.cells #[.func (.func 138) #[] #[.pointer (some ⟨w.heap.size+2,0,none⟩)]] 139)):=(Below.refl _ _).alloc (Nat.le_refl _) _
 have B3:Hid (Below w.heap.size w (w2.alloc (.cells #[.func (.func 138) #[] #[.pointer (some ⟨w.heap.size+2,0,none⟩)]] 139))):=B2.out.trans (b3.mono B2.out.size)
 have KT:Hid (ToldI (w.heap.size+3) (w.heap.size+2) (w.heap.size+1) [] (w2.alloc (.cells #[.func (.func 138) #[] #[.pointer (some ⟨w.heap.size+2,0,none⟩)]] 139))):=by
  have h9:=Blk.new w2 139 #[.func (.func 138) #[] #[.pointer (some ⟨w.heap.size+2,0,none⟩)]]
  rw[HS2.out] at h9
  exact⟨h9,KBX.out.below b3 KBX.out.lt,KMP.out.on b3⟩
 have KP3:=zh (KP2.out.below b3 KP2.out.lt)
 have KL3:Hid (LookZ m wr rows Bl w.heap.size (w2.alloc (.cells #[.func (.func 138) #[] #[.pointer (some ⟨w.heap.size+2,0,none⟩)]] 139))):=HL0.out.on B3.out
 have HSZ:Hid ((w2.alloc (.cells #[.func (.func 138) #[] #[.pointer (some ⟨w.heap.size+2,0,none⟩)]] 139)).heap.size=w.heap.size+4):=by show _=_;rw[World.size_alloc,HS2.out]
 clear b3 KBX KMP KP2 B2
 go_upto_region 2 with fail
 rw[HS2.out]
 generalize (w2.alloc (.cells #[.func (.func 138) #[] #[.pointer (some ⟨w.heap.size+2,0,none⟩)]] 139))=W3 at *
 have p0:=KP3.out.cell 0
 have l5:W3.cell? ⟨Bl,5,none⟩=some (.slice m.od.1.A m.od.1.n m.od.1.c):=KL3.out.blk.cell 5
 have HP:=zh (placeso_first 105 eg_ordered1 #[.pointer (some ⟨w.heap.size+3,0,none⟩),.pointer (some ⟨w.heap.size,0,none⟩)] (ruBrk m.pl 7)
  (fun k X=>ToldI (w.heap.size+3) (w.heap.size+2) (w.heap.size+1) ((m.pl.od.take k).map (fun p:OrdP=>p.o)) X∧Blk X w.heap.size 76 #[.pointer (some ⟨Bl,0,none⟩)]∧LookZ m wr rows Bl w.heap.size X∧Below w.heap.size W3 X)
  (fun j=>j=w.heap.size+1) w.heap.size m.od.1.A m.od.1.n m.od.1.c m.od.2 W3 hF.od (HRD.out.od.below B3.out) B3.out.size (fun j hj=>by have:=HSZ.out;omega) (fun k X Y h hb=>⟨h.1.on hb,h.2.1.below hb h.2.1.lt,h.2.2.1.on (hb.mono (Nat.le_trans B3.out.size h.2.2.2.size)),h.2.2.2.trans (hb.mono (Nat.le_trans B3.out.size h.2.2.2.size))⟩)
  (fun k e X hk hq => by
   have hev:=HistM.od_at hk
   have hem:=List.mem_of_getElem? hev
   have hoo:=hI.oo e.1 hem
   have htr:=hI.tr
   have hob:=hI.ob
   have hrs:=HRD.out.ot e (List.mem_of_getElem? hk)
   have hnn:e.2.n≤1000000:=by have h3:=ints_len hrs;omega
   have hkl:=(List.getElem?_eq_some_iff.1 hev).1
   refine (ordered1_any m wr rows Bl w.heap.size e.1 e.2 ((m.pl.od.take k).map fun p=>p.o) (w.heap.size+3) w.heap.size (w.heap.size+2) (w.heap.size+1) X htr (wfZ (by omega)) (by rw[List.length_map,List.length_take];have:=hI.od;omega) hnn hoo.1 (fun t ht=>by have:=hoo.2.2 t ht;omega) hq.1 hq.2.1 hq.2.2.1 (hrs.below (B3.out.trans hq.2.2.2)) (Nat.le_succ _)).mono ?_
   rintro r X' ⟨h1,h2,h3⟩
   refine⟨?_,⟨?_,h3.blk hq.2.1 (by omega),hq.2.2.1.keep h3 (Nat.le_succ _) (Nat.le_trans B3.out.size hq.2.2.2.size),hq.2.2.2.trans (h3.below (Nat.le_trans B3.out.size hq.2.2.2.size) fun j hj=>by omega)⟩,h3.mono fun j _ h=>h⟩
   ·rw[h1,brkZ_7,ord_at hev,memZ_any,ordZ_same (wr_nodupZ _)]
   ·rw[takeZ hev,List.map_append]
    exact h2) ⟨KT.out,KP3.out,KL3.out,Below.refl _ _⟩)
 go_wp2_with fail
 refine HP.out.mono ?_
 rintro e w9 ⟨b9,lb,rfl,hseq⟩
 have HQ:Hid (RuleIs 7 m.pl w (.returned (.func (.func 139) #[] lb)) w9):=by
  rw[show (List.range m.od.1.n).find? (ruBrk m.pl 7)=ruPlace m.pl 7 by unfold ruPlace;rw[manyZ_7,HRD.out.od_len]] at hseq
  exact⟨B3.out.trans (b9.mono B3.out.size),_,lb,rfl,eg_placeso,hseq⟩
 clear b9 hseq HP
 go_wp2_with fail
 go_ret
 exact HQ.out
set_option maxRecDepth 100000 in
set_option maxHeartbeats 8000000 in
theorem matchedM_any (m:HistM) (wr:SH) (rows:List SH) (Bl:Nat) (w:World) (hI:InZ m.pl) (hF:Fair m) (hL:LookZ m wr rows Bl w.heap.size w):Calls Tryz.prog 54 #[.pointer (some ⟨Bl,0,none⟩)] w (RuleIs 9 m.pl w):=by
 have b1:Below w.heap.size w (w.alloc (.cells #[.pointer (some ⟨Bl,0,none⟩)] 76)):=(Below.refl _ _).alloc (Nat.le_refl _) _
 have HRD:=zh hL.rd
 have HL0:=zh hL
 have KP:=zh (Blk.new w 76 #[.pointer (some ⟨Bl,0,none⟩)])
 have B1:=zh b1
 have HS1:Hid ((w.alloc (.cells #[.pointer (some ⟨Bl,0,none⟩)] 76)).heap.size=w.heap.size+1):=by show _=_;simp
 clear b1 hL
 go_enter Tryz.func54,Tryz.ntmps54
 go_upto_region 1 with fail
 generalize w.alloc (.cells #[.pointer (some ⟨Bl,0,none⟩)] 76)=W1 at *
 have HC:=zh (againP_any W1)
 rw[HS1.out] at HC
 go_wp2_with fail
 refine HC.out.mono ?_
 rintro e w2 ⟨rfl,hbx,hmp,hb,hsz⟩
 have hb:=hb
 rw[show w.heap.size+1+1=w.heap.size+2 from rfl] at hbx ⊢
 have KP2:=zh (KP.out.below hb (by have:=HS1.out;omega))
 have B2:Hid (Below w.heap.size w w2):=B1.out.trans (hb.mono (by have:=HS1.out;omega))
 have KBX:=zh hbx
 have KMP:=zh hmp
 have HS2:Hid (w2.heap.size=w.heap.size+3):=hsz
 clear hbx hmp hb hsz HC KP B1
 have b3:Below w2.heap.size w2 (w2.alloc (.cells #[.func (.func 141) #[] #[.pointer (some ⟨w.heap.size+2,0,none⟩)]] 156)):=(Below.refl _ _).alloc (Nat.le_refl _) _
 have B3:Hid (Below w.heap.size w (w2.alloc (.cells #[.func (.func 141) #[] #[.pointer (some ⟨w.heap.size+2,0,none⟩)]] 156))):=B2.out.trans (b3.mono B2.out.size)
 have KT:Hid (ToldP (w.heap.size+3) (w.heap.size+2) (w.heap.size+1) [] (w2.alloc (.cells #[.func (.func 141) #[] #[.pointer (some ⟨w.heap.size+2,0,none⟩)]] 156))):=by
  have h9:=Blk.new w2 156 #[.func (.func 141) #[] #[.pointer (some ⟨w.heap.size+2,0,none⟩)]]
  rw[HS2.out] at h9
  exact⟨h9,KBX.out.below b3 KBX.out.lt,KMP.out.on b3⟩
 have KP3:=zh (KP2.out.below b3 KP2.out.lt)
 have KL3:Hid (LookZ m wr rows Bl w.heap.size (w2.alloc (.cells #[.func (.func 141) #[] #[.pointer (some ⟨w.heap.size+2,0,none⟩)]] 156))):=HL0.out.on B3.out
 have HSZ:Hid ((w2.alloc (.cells #[.func (.func 141) #[] #[.pointer (some ⟨w.heap.size+2,0,none⟩)]] 156)).heap.size=w.heap.size+4):=by show _=_;rw[World.size_alloc,HS2.out]
 clear b3 KBX KMP KP2 B2
 go_upto_region 2 with fail
 rw[HS2.out]
 generalize (w2.alloc (.cells #[.func (.func 141) #[] #[.pointer (some ⟨w.heap.size+2,0,none⟩)]] 156))=W3 at *
 have p0:=KP3.out.cell 0
 have l5:W3.cell? ⟨Bl,6,none⟩=some (.slice m.ma.1.A m.ma.1.n m.ma.1.c):=KL3.out.blk.cell 6
 have HP:=zh (placesm_first 112 eg_matched1 #[.pointer (some ⟨w.heap.size+3,0,none⟩),.pointer (some ⟨w.heap.size,0,none⟩)] (ruBrk m.pl 9)
  (fun k X=>ToldP (w.heap.size+3) (w.heap.size+2) (w.heap.size+1) ((m.pl.ma.take k).map (fun p:MatP=>(p.p,p.o))) X∧Blk X w.heap.size 76 #[.pointer (some ⟨Bl,0,none⟩)]∧LookZ m wr rows Bl w.heap.size X∧Below w.heap.size W3 X)
  (fun j=>j=w.heap.size+1) w.heap.size m.ma.1.A m.ma.1.n m.ma.1.c m.ma.2 W3 hF.ma (HRD.out.ma.below B3.out) B3.out.size (fun j hj=>by have:=HSZ.out;omega) (fun k X Y h hb=>⟨h.1.on hb,h.2.1.below hb h.2.1.lt,h.2.2.1.on (hb.mono (Nat.le_trans B3.out.size h.2.2.2.size)),h.2.2.2.trans (hb.mono (Nat.le_trans B3.out.size h.2.2.2.size))⟩)
  (fun k e X hk hq => by
   have hev:=HistM.ma_at hk
   have hem:=List.mem_of_getElem? hev
   have hmo:=hI.mo e.1 hem
   have htr:=hI.tr
   have hob:=hI.ob
   have hpr:=hI.pr
   have hrs:=HRD.out.mt e (List.mem_of_getElem? hk)
   have hnn:e.2.n≤1000000:=by have h3:=ints_len hrs;omega
   refine (matched1_any m wr rows Bl w.heap.size e.1 e.2 ((m.pl.ma.take k).map fun p=>(p.p,p.o)) (w.heap.size+3) w.heap.size (w.heap.size+2) (w.heap.size+1) X htr ⟨wfZ (by simp only;omega),wfZ (by simp only;omega)⟩ (by rw[List.length_map,List.length_take];have:=hI.ma;omega) hnn hmo.1.2 (fun t ht=>by have:=hmo.2.2 t ht;omega) hq.1 hq.2.1 hq.2.2.1 (hrs.below (B3.out.trans hq.2.2.2)) (Nat.le_succ _)).mono ?_
   rintro r X' ⟨h1,h2,h3⟩
   refine⟨?_,⟨?_,h3.blk hq.2.1 (by omega),hq.2.2.1.keep h3 (Nat.le_succ _) (Nat.le_trans B3.out.size hq.2.2.2.size),hq.2.2.2.trans (h3.below (Nat.le_trans B3.out.size hq.2.2.2.size) fun j hj=>by omega)⟩,h3.mono fun j _ h=>h⟩
   ·rw[h1,brkZ_9,mat_at hev,memZ_any]
    congr 3
    refine any_same fun p _=>?_
    rw[Bool.eq_iff_iff]
    simp
   ·rw[takeZ hev,List.map_append]
    exact h2) ⟨KT.out,KP3.out,KL3.out,Below.refl _ _⟩)
 go_wp2_with fail
 refine HP.out.mono ?_
 rintro e w9 ⟨b9,lb,rfl,hseq⟩
 have HQ:Hid (RuleIs 9 m.pl w (.returned (.func (.func 142) #[] lb)) w9):=by
  rw[show (List.range m.ma.1.n).find? (ruBrk m.pl 9)=ruPlace m.pl 9 by unfold ruPlace;rw[manyZ_9,HRD.out.ma_len]] at hseq
  exact⟨B3.out.trans (b9.mono B3.out.size),_,lb,rfl,eg_placesm,hseq⟩
 clear b9 hseq HP
 go_wp2_with fail
 go_ret
 exact HQ.out
def wanF (l:List EvP) (u:Nat):Bool:=l.any fun e=>decide (e.kd=1)&&decide (e.s=(u:Int))
set_option maxRecDepth 100000 in
set_option maxHeartbeats 8000000 in
theorem wantedM_any (m:HistM) (wr:SH) (rows:List SH) (Bl:Nat) (w:World) (hI:InZ m.pl) (hF:Fair m) (hL:LookZ m wr rows Bl w.heap.size w):Calls Tryz.prog 55 #[.pointer (some ⟨Bl,0,none⟩)] w (RuleIs 10 m.pl w):=by
 have hmk:=boolZ_make m.se.1.n hF.se
 have l1:w.cell? ⟨Bl,1,none⟩=some (.slice m.se.1.A m.se.1.n m.se.1.c):=hL.blk.cell 1
 have HRD:=zh hL.rd
 have HL0:=zh hL
 have b1:Below w.heap.size w (w.alloc (.cells (boolsZ (List.replicate m.se.1.n false)).toArray 4)):=(Below.refl _ _).alloc (Nat.le_refl _) _
 have B2:Hid (Below w.heap.size w ((w.alloc (.cells (boolsZ (List.replicate m.se.1.n false)).toArray 4)).alloc (.cells #[.slice (some ⟨w.heap.size,0,none⟩) m.se.1.n m.se.1.n] 106))):=b1.alloc (by simp) _
 have KM:Hid (Blk ((w.alloc (.cells (boolsZ (List.replicate m.se.1.n false)).toArray 4)).alloc (.cells #[.slice (some ⟨w.heap.size,0,none⟩) m.se.1.n m.se.1.n] 106)) w.heap.size 4 (boolsZ (bsZ (wanF (m.pl.ev.take 0)) m.se.1.n)).toArray):=by
  have h9:=(Blk.new w 4 (boolsZ (List.replicate m.se.1.n false)).toArray).alloc (.cells #[.slice (some ⟨w.heap.size,0,none⟩) m.se.1.n m.se.1.n] 106)
  have e9:bsZ (wanF (m.pl.ev.take 0)) m.se.1.n=List.replicate m.se.1.n false:=(bsZ_none _).symm
  show Blk _ _ _ _
  rw[e9]
  exact h9
 have KB:Hid (Blk ((w.alloc (.cells (boolsZ (List.replicate m.se.1.n false)).toArray 4)).alloc (.cells #[.slice (some ⟨w.heap.size,0,none⟩) m.se.1.n m.se.1.n] 106)) (w.heap.size+1) 106 #[.slice (some ⟨w.heap.size,0,none⟩) m.se.1.n m.se.1.n]):=by
  have h9:=Blk.new (w.alloc (.cells (boolsZ (List.replicate m.se.1.n false)).toArray 4)) 106 #[.slice (some ⟨w.heap.size,0,none⟩) m.se.1.n m.se.1.n]
  rwa [World.size_alloc] at h9
 have HSZ:Hid (((w.alloc (.cells (boolsZ (List.replicate m.se.1.n false)).toArray 4)).alloc (.cells #[.slice (some ⟨w.heap.size,0,none⟩) m.se.1.n m.se.1.n] 106)).heap.size=w.heap.size+2):=by show _=_;simp
 have l4:((w.alloc (.cells (boolsZ (List.replicate m.se.1.n false)).toArray 4)).alloc (.cells #[.slice (some ⟨w.heap.size,0,none⟩) m.se.1.n m.se.1.n] 106)).cell? ⟨Bl,4,none⟩=some (.slice m.ev.1.A m.ev.1.n m.ev.1.c):=(hL.blk.below B2.out hL.lt).cell 4
 clear b1 hL
 go_enter Tryz.func55,Tryz.ntmps55
 go_upto_region 2 with fail
 clear l1 hmk
 generalize ((w.alloc (.cells (boolsZ (List.replicate m.se.1.n false)).toArray 4)).alloc (.cells #[.slice (some ⟨w.heap.size,0,none⟩) m.se.1.n m.se.1.n] 106))=W2 at *
 obtain⟨ne,hne⟩:∃ ne,m.ev.1.n=ne:=⟨_,rfl⟩
 rw[hne] at l4
 have HNE:=zh hne
 have hne9:ne≤1000000:=by rw[← hne];exact hF.ev
 clear hne
 go_wp2_with fail
 clear l4
 go_loopw [20] (fun v wx=>∃ i:Nat,v=.int .i64 i∧i≤ne∧Hid (Below w.heap.size w wx)∧Hid (Blk wx w.heap.size 4 (boolsZ (bsZ (wanF (m.pl.ev.take i)) m.se.1.n)).toArray)∧Hid (Blk wx (w.heap.size+1) 106 #[.slice (some ⟨w.heap.size,0,none⟩) m.se.1.n m.se.1.n])∧Hid (w.heap.size+2≤wx.heap.size)) (fun v _=>ne - (intOf v).toNat)
 case atStart=>exact⟨0,rfl,Nat.zero_le _,B2,KM,KB,Nat.le_of_eq HSZ.out.symm⟩
 clear B2 KM KB HSZ
 obtain⟨i,rfl,hin,B2,KM,KB,HSZ⟩:=hrel
 rename World=>wx
 by_cases hin2:i<ne
 ·have hlt:(i:Int)<(ne:Int):=by omega
  obtain⟨⟨e,hd⟩,he⟩:∃ e,m.ev.2[i]?=some e:=⟨m.ev.2[i]'(by have:=HRD.out.fit.ev.1;rw[this,HNE.out];exact hin2),List.getElem?_eq_getElem _⟩
  obtain⟨b,o,hA,_,hc⟩:=row_cells evCs_len (by omega) (HRD.out.ev.below B2.out) he
  rw[hA]
  have c0:wx.cell? ⟨b,o+i * 9,none⟩=some (.int .i64 e.kd):=by have h9:=hc 0 _ rfl;rwa [show o+(i * 9+0)=o+i * 9 by omega] at h9
  have c1:wx.cell? ⟨b,o+i * 9+1,none⟩=some (.int .i64 e.t):=by have h9:=hc 1 _ rfl;rwa [show o+(i * 9+1)=o+i * 9+1 by omega] at h9
  have c2:wx.cell? ⟨b,o+i * 9+2,none⟩=some (.int .i64 e.s):=by have h9:=hc 2 _ rfl;rwa [show o+(i * 9+2)=o+i * 9+2 by omega] at h9
  have c3:wx.cell? ⟨b,o+i * 9+3,none⟩=some (.int .i64 e.lev):=by have h9:=hc 3 _ rfl;rwa [show o+(i * 9+3)=o+i * 9+3 by omega] at h9
  have c4:wx.cell? ⟨b,o+i * 9+4,none⟩=some (.int .i64 e.o):=by have h9:=hc 4 _ rfl;rwa [show o+(i * 9+4)=o+i * 9+4 by omega] at h9
  have c5:wx.cell? ⟨b,o+i * 9+5,none⟩=some (.int .i64 e.vt):=by have h9:=hc 5 _ rfl;rwa [show o+(i * 9+5)=o+i * 9+5 by omega] at h9
  have c6:wx.cell? ⟨b,o+i * 9+6,none⟩=some (.int .i64 e.vk):=by have h9:=hc 6 _ rfl;rwa [show o+(i * 9+6)=o+i * 9+6 by omega] at h9
  have c7:wx.cell? ⟨b,o+i * 9+7,none⟩=some (.int .i64 e.p):=by have h9:=hc 7 _ rfl;rwa [show o+(i * 9+7)=o+i * 9+7 by omega] at h9
  have c8:wx.cell? ⟨b,o+i * 9+8,none⟩=some (.slice hd.A hd.n hd.c):=by have h9:=hc 8 _ rfl;rwa [show o+(i * 9+8)=o+i * 9+8 by omega] at h9
  have HEV:=zh (HistM.ev_at he)
  have hal:Below wx.heap.size wx (wx.alloc (.cells #[.int .i64 e.kd,.int .i64 e.t,.int .i64 e.s,.int .i64 e.lev,.int .i64 e.o,.int .i64 e.vt,.int .i64 e.vk,.int .i64 e.p,.slice hd.A hd.n hd.c] 60)):=(Below.refl _ _).alloc (Nat.le_refl _) _
  have KE:=zh (Blk.new wx 60 #[.int .i64 e.kd,.int .i64 e.t,.int .i64 e.s,.int .i64 e.lev,.int .i64 e.o,.int .i64 e.vt,.int .i64 e.vk,.int .i64 e.p,.slice hd.A hd.n hd.c])
  have B3:Hid (Below w.heap.size w (wx.alloc (.cells #[.int .i64 e.kd,.int .i64 e.t,.int .i64 e.s,.int .i64 e.lev,.int .i64 e.o,.int .i64 e.vt,.int .i64 e.vk,.int .i64 e.p,.slice hd.A hd.n hd.c] 60))):=B2.out.trans (hal.mono B2.out.size)
  have KM3:=zh (KM.out.below hal KM.out.lt)
  have KB3:=zh (KB.out.below hal KB.out.lt)
  have HSZ3:Hid (w.heap.size+2≤(wx.alloc (.cells #[.int .i64 e.kd,.int .i64 e.t,.int .i64 e.s,.int .i64 e.lev,.int .i64 e.o,.int .i64 e.vt,.int .i64 e.vk,.int .i64 e.p,.slice hd.A hd.n hd.c] 60)).heap.size):=Nat.le_trans HSZ.out hal.size
  clear hc he hal B2 KM KB
  go_upto_region 5 with fail
  clear c0 c1 c2 c3 c4 c5 c6 c7 c8
  have d0:=KE.out.cell 0
  have d2:=KE.out.cell 2
  obtain⟨KEB,hKEB⟩:∃ KEB,wx.heap.size=KEB:=⟨_,rfl⟩
  rw[hKEB] at KE d0 d2 HSZ ⊢
  generalize (wx.alloc (.cells #[.int .i64 e.kd,.int .i64 e.t,.int .i64 e.s,.int .i64 e.lev,.int .i64 e.o,.int .i64 e.vt,.int .i64 e.vk,.int .i64 e.p,.slice hd.A hd.n hd.c] 60))=X3 at *
  by_cases h1:e.kd=1
  ·have q1:(e.kd==1)=true:=by simpa using h1
   have hes:=hI.es e (List.mem_of_getElem? HEV.out) h1
   obtain⟨sn,hsn⟩:∃ sn:Nat,e.s=(sn:Int):=⟨e.s.toNat,by omega⟩
   have hsl:sn<m.se.1.n:=by have:m.pl.se.length=m.se.1.n:=strs_len HRD.out.se;omega
   have hlt2:(sn:Int)<(m.se.1.n:Int):=by omega
   rw[hsn] at d2
   have z0:=KB3.out.cell 0
   have f0:=KM3.out.frozen sn
   have y0:=KM3.out.bool_at (bsZ_get hsl)
   have B4:Hid (Below w.heap.size w (X3.setCell ⟨w.heap.size,sn,none⟩ (.bool true))):=B3.out.setCell (p:=⟨w.heap.size,sn,none⟩) (Nat.le_refl _) _
   have KB4:Hid (Blk (X3.setCell ⟨w.heap.size,sn,none⟩ (.bool true)) (w.heap.size+1) 106 #[.slice (some ⟨w.heap.size,0,none⟩) m.se.1.n m.se.1.n]):=KB3.out.far (p:=⟨w.heap.size,sn,none⟩) (by show w.heap.size+1≠w.heap.size;omega) _
   have KM4:Hid (Blk (X3.setCell ⟨w.heap.size,sn,none⟩ (.bool true)) w.heap.size 4 (boolsZ (bsZ (wanF (m.pl.ev.take (i+1))) m.se.1.n)).toArray):=by
    have h9:=KM3.out.boolZ (tn:=sn) true
    rwa [bsZ_set (g:=wanF (m.pl.ev.take (i+1))) (by unfold wanF;rw[wanZ_next HEV.out,h1,hsn];simp) (fun u hu hne=>by unfold wanF;rw[wanZ_next HEV.out,hsn];have:¬(sn:Int)=(u:Int):=fun e=>hne (by omega);simp[this])] at h9
   have HSZ4:Hid (w.heap.size+2≤(X3.setCell ⟨w.heap.size,sn,none⟩ (.bool true)).heap.size):=by show _≤_;rw[World.size_setCell];exact HSZ3.out
   clear B3 KB3 KM3 hsn hes h1 HSZ3
   go_wp2_with fail
   go_roundw
   case rel=>exact⟨i+1,by go_num,hin2,B4,KM4,KB4,HSZ4⟩
   case measure=>simp[intOf];omega
  have q1:(e.kd==1)=false:=by simpa using h1
  have KM4:Hid (Blk X3 w.heap.size 4 (boolsZ (bsZ (wanF (m.pl.ev.take (i+1))) m.se.1.n)).toArray):=by
   have h9:=KM3.out
   rwa [bsZ_ext (g:=wanF (m.pl.ev.take (i+1))) (fun u _=>by unfold wanF;rw[wanZ_next HEV.out];simp[h1])] at h9
  clear KM3 h1
  go_wp2_with fail
  go_roundw
  case rel=>exact⟨i+1,by go_num,hin2,B3,KM4,KB3,HSZ3⟩
  case measure=>simp[intOf];omega
 have hge:¬(i:Int)<(ne:Int):=by omega
 obtain rfl:i=ne:=by omega
 have KM0:Hid (Blk wx w.heap.size 4 (boolsZ (bsZ (wanF m.pl.ev) m.se.1.n)).toArray):=by
  have h9:=KM.out
  rwa [List.take_of_length_le (by rw[HRD.out.ev_len,HNE.out];exact Nat.le_refl _)] at h9
 have HC:=zh (againI_any wx)
 clear KM hin hin2
 go_wp2_with fail
 refine HC.out.mono ?_
 rintro e w2 ⟨rfl,hbx,hmp,hb,hsz⟩
 obtain⟨Bx,hBx⟩:∃ Bx,wx.heap.size+1=Bx:=⟨_,rfl⟩
 obtain⟨M,hM⟩:∃ M,wx.heap.size=M:=⟨_,rfl⟩
 rw[hBx] at hbx ⊢
 rw[hM] at hmp hbx
 have HMN:Hid (w.heap.size+2≤M):=by rw[← hM];exact HSZ.out
 have B4:Hid (Below w.heap.size w w2):=B2.out.trans (hb.mono B2.out.size)
 have KM4:=zh (KM0.out.below hb KM0.out.lt)
 have KB4:=zh (KB.out.below hb KB.out.lt)
 have KBX:=zh hbx
 have KMP:=zh hmp
 clear hbx hmp hb hsz HC KM0 KB B2 hBx hM HSZ
 have b3:Below w2.heap.size w2 (w2.alloc (.cells #[.func (.func 138) #[] #[.pointer (some ⟨Bx,0,none⟩)]] 139)):=(Below.refl _ _).alloc (Nat.le_refl _) _
 have B3:Hid (Below w.heap.size w (w2.alloc (.cells #[.func (.func 138) #[] #[.pointer (some ⟨Bx,0,none⟩)]] 139))):=B4.out.trans (b3.mono B4.out.size)
 have KT:Hid (ToldI w2.heap.size Bx M [] (w2.alloc (.cells #[.func (.func 138) #[] #[.pointer (some ⟨Bx,0,none⟩)]] 139))):=⟨Blk.new w2 _ _,KBX.out.below b3 KBX.out.lt,KMP.out.on b3⟩
 have KM5:=zh (KM4.out.below b3 KM4.out.lt)
 have KB5:=zh (KB4.out.below b3 KB4.out.lt)
 have l7:(w2.alloc (.cells #[.func (.func 138) #[] #[.pointer (some ⟨Bx,0,none⟩)]] 139)).cell? ⟨Bl,7,none⟩=some (.slice m.wa.1.A m.wa.1.n m.wa.1.c):=(HL0.out.blk.below B3.out HL0.out.lt).cell 7
 clear b3 KBX KMP KM4 KB4 B4
 have HMS:Hid (M<(w2.alloc (.cells #[.func (.func 138) #[] #[.pointer (some ⟨Bx,0,none⟩)]] 139)).heap.size):=KT.out.map.lt
 have HP:=zh (placesw_first 114 eg_wanted1 #[.pointer (some ⟨w2.heap.size,0,none⟩),.pointer (some ⟨w.heap.size+1,0,none⟩)] (ruBrk m.pl 10)
  (fun k X=>ToldI w2.heap.size Bx M ((m.pl.wa.take k).map fun p=>p.s) X∧Blk X (w.heap.size+1) 106 #[.slice (some ⟨w.heap.size,0,none⟩) m.se.1.n m.se.1.n]∧Blk X w.heap.size 4 (boolsZ (bsZ (wanF m.pl.ev) m.se.1.n)).toArray)
  (fun j=>j=M) w.heap.size m.wa.1.A m.wa.1.n m.wa.1.c m.wa.2 (w2.alloc (.cells #[.func (.func 138) #[] #[.pointer (some ⟨Bx,0,none⟩)]] 139)) hF.wa (HRD.out.wa.below B3.out) B3.out.size (fun j hj=>by have:=HMN.out;have:=HMS.out;omega) (fun k X Y h hb=>⟨h.1.on hb,h.2.1.below hb h.2.1.lt,h.2.2.below hb h.2.2.lt⟩)
  (fun k e X hk hq => by
   have hev:m.pl.wa[k]?=some e:=hk
   have hem:=List.mem_of_getElem? hev
   have hwo:=hI.wo e hem
   have hse:=hI.se
   obtain⟨sn,hsn⟩:∃ sn:Nat,e.s=(sn:Int):=⟨e.s.toNat,by omega⟩
   have hsl:sn<m.se.1.n:=by have:m.pl.se.length=m.se.1.n:=strs_len HRD.out.se;omega
   rw[hsn]
   refine (wanted1_any sn e.b ((m.pl.wa.take k).map fun p=>p.s) w2.heap.size (w.heap.size+1) Bx M w.heap.size m.se.1.n _ (wanF m.pl.ev sn) X (wfZ (by omega)) (by rw[List.length_map,List.length_take];have:=hI.wa;omega) (bsZ_get hsl) (bsZ_len _ _) hq.1 hq.2.1 hq.2.2).mono ?_
   rintro r X' ⟨h1,h2,h3⟩
   refine⟨?_,⟨?_,h3.blk hq.2.1 (by have:=HMN.out;omega),h3.blk hq.2.2 (by have:=HMN.out;omega)⟩,h3.mono fun j _ h=>h⟩
   ·rw[h1,brkZ_10,wan_at hev,memZ_any,hsn]
    rfl
   ·rw[takeZ hev,List.map_append]
    simp only[List.map_cons,List.map_nil]
    rw[hsn]
    exact h2) ⟨KT.out,KB5.out,KM5.out⟩)
 go_wp2_with fail
 refine HP.out.mono ?_
 rintro e w9 ⟨b9,lb,rfl,hseq⟩
 have HQ:Hid (RuleIs 10 m.pl w (.returned (.func (.func 143) #[] lb)) w9):=by
  rw[show (List.range m.wa.1.n).find? (ruBrk m.pl 10)=ruPlace m.pl 10 by unfold ruPlace;rw[manyZ_10,HRD.out.wa_len]] at hseq
  exact⟨B3.out.trans (b9.mono B3.out.size),_,lb,rfl,eg_placesw,hseq⟩
 clear b9 hseq HP
 go_wp2_with fail
 go_ret
 exact HQ.out
end Go.Proofs.YtmkknbonmameoaaGreatDoor
namespace Go.Proofs.YtmkknbonmameoaaGreatDoor
open Go.RowKit Go.Shelf
theorem slCs_one (x:SH):∀ u∈slCs x,u.oneCell'=true:=by intro u hu;unfold slCs at hu;simp at hu;subst hu;rfl
theorem rr_info:(Tryz.prog.info? 40).map (fun i=>(i.zero,i.size,i.bytes))=some (some (.slice none 0 0),1,24):=by kernel_rfl
set_option maxRecDepth 100000 in
set_option maxHeartbeats 2000000 in
theorem clone_rr (A:Option Addr) (n c:Nat) (l:List SH) (hn:n * 24≤140737488355328) (w:World) (hR:Reads w w.heap.size 1 A n (l.flatMap slCs)) :
 Calls Tryz.prog 107 #[.slice A n c] w (CopyT 40 1 n (l.flatMap slCs) w):=by
 obtain⟨i0,hi,hz0,hz1,hz2⟩:=info_parts rr_info
 cases A with
 | none =>
  have hq:∀ w:World,(binOp .eql 86 (.slice none n c) (.slice none 0 0)).run Tryz.prog w=.ok (.bool true) w:=fun w=>Lib.run_eql_slice_nil w _ _ none n c 0 0 Tryz.underlying86
  have h0:Hid (n=0):=by
   show n=0
   rcases Nat.eq_zero_or_pos n with h | h
   ·exact h
   obtain⟨b,o,e,_⟩:=row_plain (by omega) hR h
   cases e
  have hl:=zh (reads_len_s slCs_len (by omega) hR)
  go_enter Tryz.func107,Tryz.ntmps107
  go_wp2_with fail
  go_ret
  obtain rfl:n=0:=h0.out
  obtain rfl:l=[]:=List.eq_nil_of_length_eq_zero hl.out
  exact⟨none,0,rfl,World.ownsRow_nil _ _ _ _,Below.refl _ _⟩
 | some ad =>
  have hq:∀ w:World,(binOp .eql 86 (.slice (some ad) n c) (.slice none 0 0)).run Tryz.prog w=.ok (.bool false) w:=fun w=>Lib.run_eql_slice_nil w _ _ (some ad) n c 0 0 Tryz.underlying86
  go_enter Tryz.func107,Tryz.ntmps107
  go_wp2_with (at_builtin;refine wpList_append_any _ rfl (.tmp 5) (.tmp 6) 86 rfl w.heap.size 40 i0 _ 1 24 Tryz.underlying86 hi hz0 hz1 hz2 rfl (by decide) _ 0 [] rfl (own_newT w 40 1) w.heap.size (some ad) n _ (l.flatMap slCs) rfl (hR.alloc (Nat.le_refl _) _) (one_of slCs_one _) (by unfold maxLen;omega) (by omega) (by simp) ?_;intro v' w2 hown hgrow hat)
  rw[Nat.zero_add,List.nil_append] at hown
  have b2:Below w.heap.size w w2:=((Below.refl _ _).alloc (Nat.le_refl _) _).grown hgrow (by simp) (fun j hj=>by have e:some w.heap.size=some j:=hj;injection e with e;omega)
  obtain⟨A',c',rfl,h1,h2⟩:=own_form2 hown
  go_ret
  exact⟨A',c',rfl,hown,b2⟩
def lefS (H:Hist) (rows:List SH) (k:Nat):List SH:=(List.range rows.length).map fun (x:Nat)=>if (H.od.take k).any (fun r=>decide (r.o=(x:Int))) then (⟨none,0,0⟩:SH) else rows.getD x ⟨none,0,0⟩
theorem lefS_len (H:Hist) (rows:List SH) (k:Nat):(lefS H rows k).length=rows.length:=by simp[lefS]
theorem lefS_at {H:Hist} {rows:List SH} {k x:Nat} (hx:x<rows.length):(lefS H rows k)[x]?=some (if (H.od.take k).any (fun r=>decide (r.o=(x:Int))) then (⟨none,0,0⟩:SH) else rows.getD x ⟨none,0,0⟩):=by simp[lefS,hx]
theorem lefS_zero (H:Hist) (rows:List SH):lefS H rows 0=rows:=by
 refine List.ext_getElem? fun x=>?_
 by_cases hx:x<rows.length
 ·rw[lefS_at hx,List.take_zero,List.any_nil,List.getD_eq_getElem?_getD,List.getElem?_eq_getElem hx]
  rfl
 rw[List.getElem?_eq_none (by rw[lefS_len];omega),List.getElem?_eq_none (by omega)]
theorem lefS_next {H:Hist} {rows:List SH} {k xn:Nat} {r:OrdP} (hr:H.od[k]?=some r) (ho:r.o=(xn:Int)) (hx:xn<rows.length):(lefS H rows k).set xn ⟨none,0,0⟩=lefS H rows (k+1):=by
 refine List.ext_getElem? fun x=>?_
 by_cases hxl:x<rows.length
 ·rw[lefS_at hxl,List.getElem?_set,takeZ hr,List.any_append]
  by_cases e:xn=x
  ·subst e
   rw[if_pos rfl,if_pos (by rw[lefS_len];exact hx),if_pos (by simp[ho])]
  rw[if_neg e,lefS_at hxl]
  have:¬r.o=(x:Int):=fun h=>e (by omega)
  simp[this]
 rw[List.getElem?_eq_none (by rw[List.length_set,lefS_len];omega),List.getElem?_eq_none (by rw[lefS_len];omega)]
def LfI (N:Nat) (A:Option Addr) (n:Nat) (L:List SH) (X:World):Prop:=n=L.length∧(n=0∨∃ g cur,A=some ⟨g,0,none⟩∧N≤g∧Blk X g 40 cur∧cur.toList.take n=L.flatMap slCs)
section
variable {N n c : Nat} {A : Option Addr} {L : List SH} {X Y : World}
theorem LfI.of_own (h:X.ownsRow N 40 1 (.slice A n c) n (L.flatMap slCs)):LfI N A n L X:=by
 have hl:n=L.length:=by
  have:=h.1
  rw[fm_len slCs_len] at this
  omega
 refine⟨hl,?_⟩
 rcases h.2 with ⟨e1,e2⟩ | ⟨g,cap,cur,e1,hb,hk,h3,h4,h5,h6⟩
 ·injection e1 with e1 e3 e4
  exact .inl e3
 injection e1 with e1 e3 e4
 refine .inr ⟨g,cur,e1,hb,hk,?_⟩
 rw[← h6]
 congr 1
 omega
theorem LfI.on (h:LfI N A n L X) (hb:Below X.heap.size X Y):LfI N A n L Y:=⟨h.1,h.2.imp id fun ⟨g,cur,h1,h2,h3,h4⟩=>⟨g,cur,h1,h2,h3.below hb h3.lt,h4⟩⟩
theorem LfI.at_ (h:LfI N A n L X) {x:Nat} {r:SH} (hx:L[x]?=some r):∃ g,A=some ⟨g,0,none⟩∧N≤g∧g<X.heap.size∧X.cell? ⟨g,x,none⟩=some (.slice r.A r.n r.c)∧X.frozen? ⟨g,x,none⟩=false ∧
 ∀ v,L.set x v=L.set x v→LfI N A n (L.set x v) (X.setCell ⟨g,x,none⟩ (.slice v.A v.n v.c)):=by
 have hlt:=(List.getElem?_eq_some_iff.1 hx).1
 have hn:=h.1
 rcases h.2 with h0 | ⟨g,cur,h1,h2,h3,h4⟩
 ·omega
 have hcell:(L.flatMap slCs)[x]?=some (.slice r.A r.n r.c):=by
  have:=fm_at slCs_len hx (show (slCs r)[0]?=some (.slice r.A r.n r.c) from rfl)
  rwa [show x * 1+0=x by omega] at this
 have hcur:cur[x]?=some (.slice r.A r.n r.c):=by
  rw[← h4,List.getElem?_take_of_lt (by omega)] at hcell
  simpa using hcell
 refine⟨g,h1,h2,h3.lt,by rw[h3.cell];exact hcur,h3.frozen x,fun v _=>⟨by rw[List.length_set];exact hn,.inr ⟨g,_,h1,h2,h3.set_ x (.slice v.A v.n v.c),?_⟩⟩⟩
 rw[Array.toList_setIfInBounds,List.take_set,h4]
 have:=fm_set (j:=0) (x':=v) (u:=.slice v.A v.n v.c) slCs_len hx (by omega) rfl
 rwa [show x * 1+0=x by omega] at this
theorem LfI.reads (h:LfI N A n L X):Reads X X.heap.size 1 A n (L.flatMap slCs):=by
 refine⟨by rw[fm_len slCs_len,h.1],fun hn=>?_⟩
 rcases h.2 with h0 | ⟨g,cur,h1,h2,h3,h4⟩
 ·omega
 refine⟨_,h1,h3.lt,fun j u hu=>?_⟩
 rw[Go.WideShapes.add_plain,Nat.zero_add,h3.cell]
 rw[← h4] at hu
 have hj:=(List.getElem?_eq_some_iff.1 hu).1
 rw[List.getElem?_take_of_lt (by simp at hj;omega)] at hu
 simpa using hu
end
set_option maxRecDepth 100000 in
set_option maxHeartbeats 8000000 in
theorem missingM_any (m:HistM) (wr:SH) (rows:List SH) (Bl:Nat) (w:World) (hI:InZ m.pl) (hF:Fair m) (hL:LookZ m wr rows Bl w.heap.size w):Calls Tryz.prog 53 #[.pointer (some ⟨Bl,0,none⟩)] w (RuleIs 8 m.pl w):=by
 have HRD:=zh hL.rd
 have HL0:=zh hL
 have hrl:=hL.rows_len
 have hol:=hL.len
 have hob:=hI.ob
 have HLEN:Hid (rows.length=m.pl.ob.length∧rows.length≤300):=⟨hol,by omega⟩
 have HC:=zh (clone_rr wr.A wr.n wr.c rows (by omega) w hL.ws)
 have l8:w.cell? ⟨Bl,8,none⟩=some (.slice wr.A wr.n wr.c):=hL.blk.cell 8
 have HOD:=zh hF.od
 obtain⟨wn,hwn⟩:∃ wn,wr.n=wn:=⟨_,rfl⟩
 rw[hwn] at HC l8 hrl
 have HWN:Hid (rows.length=wn):=hrl
 clear hL hrl hol hob hwn
 go_enter Tryz.func53,Tryz.ntmps53
 go_wp2_with fail
 refine HC.out.mono ?_
 rintro e w1 ⟨A,c,rfl,ho,b1⟩
 have B1:=zh b1
 have KL:Hid (LfI w.heap.size A wn (lefS m.pl rows 0) w1):=by show LfI _ _ _ _ _;rw[lefS_zero];exact LfI.of_own ho
 clear ho b1 l8 HC
 have l5:w1.cell? ⟨Bl,5,none⟩=some (.slice m.od.1.A m.od.1.n m.od.1.c):=(HL0.out.blk.below B1.out HL0.out.lt).cell 5
 obtain⟨no,hno⟩:∃ no,m.od.1.n=no:=⟨_,rfl⟩
 rw[hno] at l5
 have HNO:=zh hno
 have hno9:no≤1000000:=by rw[← hno];exact HOD.out
 clear hno
 go_wp2_with fail
 clear l5
 go_loopw [17] (fun v wx=>∃ i:Nat,v=.int .i64 i∧i≤no∧Hid (Below w.heap.size w wx)∧Hid (LfI w.heap.size A wn (lefS m.pl rows i) wx)) (fun v _=>no - (intOf v).toNat)
 case atStart=>exact⟨0,rfl,Nat.zero_le _,B1,KL⟩
 clear B1 KL
 obtain⟨i,rfl,hin,B1,KL⟩:=hrel
 rename World=>wx
 by_cases hin2:i<no
 ·have hlt:(i:Int)<(no:Int):=by omega
  obtain⟨⟨e,hd⟩,he⟩:∃ e,m.od.2[i]?=some e:=⟨m.od.2[i]'(by have:=HRD.out.fit.od.1;rw[this,HNO.out];exact hin2),List.getElem?_eq_getElem _⟩
  obtain⟨b,o,hA,_,hc⟩:=row_cells odCs_len (by omega) (HRD.out.od.below B1.out) he
  rw[hA]
  have hev:=HistM.od_at he
  have hoo:=hI.oo e (List.mem_of_getElem? hev)
  obtain⟨xn,hxn⟩:∃ xn:Nat,e.o=(xn:Int):=⟨e.o.toNat,by omega⟩
  have hxl:xn<rows.length:=by have:=HLEN.out;omega
  have c0:wx.cell? ⟨b,o+i * 2,none⟩=some (.int .i64 (xn:Int)):=by have h9:=hc 0 _ rfl;rw[show o+(i * 2+0)=o+i * 2 by omega] at h9;rw[← hxn];exact h9
  have c1:wx.cell? ⟨b,o+i * 2+1,none⟩=some (.slice hd.A hd.n hd.c):=by have h9:=hc 1 _ rfl;rwa [show o+(i * 2+1)=o+i * 2+1 by omega] at h9
  have hal:Below wx.heap.size wx (wx.alloc (.cells #[.int .i64 (xn:Int),.slice hd.A hd.n hd.c] 66)):=(Below.refl _ _).alloc (Nat.le_refl _) _
  have KE:=zh (Blk.new wx 66 #[.int .i64 (xn:Int),.slice hd.A hd.n hd.c])
  have B3:Hid (Below w.heap.size w (wx.alloc (.cells #[.int .i64 (xn:Int),.slice hd.A hd.n hd.c] 66))):=B1.out.trans (hal.mono B1.out.size)
  obtain⟨g,hg,hNg,hgl,y0,f0,hst⟩:=(KL.out.on hal).at_ (lefS_at (H:=m.pl) (k:=i) hxl)
  have KL4:=zh (hst ⟨none,0,0⟩ rfl)
  have HNX:=zh (lefS_next hev hxn hxl)
  rw[HNX.out] at KL4
  rw[hg]
  have hltn:(xn:Int)<(wn:Int):=by have:=HWN.out;omega
  have B4:Hid (Below w.heap.size w ((wx.alloc (.cells #[.int .i64 (xn:Int),.slice hd.A hd.n hd.c] 66)).setCell ⟨g,xn,none⟩ (.slice none 0 0))):=B3.out.setCell (p:=⟨g,xn,none⟩) hNg _
  clear hc he hal hev hoo hxn hxl hst B1 KL hNg hgl B3
  go_upto_region 5 with fail
  clear c0 c1
  have d0:=KE.out.cell 0
  obtain⟨KEB,hKEB⟩:∃ KEB,wx.heap.size=KEB:=⟨_,rfl⟩
  rw[hKEB] at KE d0 ⊢
  generalize (wx.alloc (.cells #[.int .i64 (xn:Int),.slice hd.A hd.n hd.c] 66))=X3 at *
  go_wp2_with fail
  rw[← hg]
  go_roundw
  case rel=>exact⟨i+1,by go_num,hin2,B4,KL4⟩
  case measure=>simp[intOf];omega
 have hge:¬(i:Int)<(no:Int):=by omega
 obtain rfl:i=no:=by omega
 have HR:=zh KL.out.reads
 have HP:=zh (placesr_first 109 eg_missing1 #[] (ruBrk m.pl 8) (fun _ _=>True) (fun _=>False) wx.heap.size A wn c (lefS m.pl rows i) wx (by have:=HLEN.out;have:=HWN.out;omega) HR.out (Nat.le_refl _) (fun j hj=>hj.elim) (fun _ _ _ h _=>h)
  (fun k e X hk _ => by
   have hkl:k<rows.length:=by have:=(List.getElem?_eq_some_iff.1 hk).1;rwa [lefS_len] at this
   refine (missing1_any e.A e.n e.c X).mono ?_
   rintro r X' ⟨h1,h2⟩
   refine⟨?_,trivial,Keep.of_all _ h2⟩
   rw[h1,brkZ_8,misZ_is]
   obtain⟨r2,hr2⟩:∃ r2,rows[k]?=some r2:=⟨rows[k],List.getElem?_eq_getElem hkl⟩
   have hrow:=(HL0.out.row k r2 hr2).1
   rw[lefS_at hkl] at hk
   injection hk with hk
   have hod:m.pl.od.length=i:=by rw[HRD.out.od_len,HNO.out]
   unfold lefZ
   rw[hod,← hk]
   split
   ·rfl
   ·rw[← hrow,List.getD_eq_getElem?_getD,hr2]
    rfl) trivial)
 clear KL hin hin2
 go_wp2_with fail
 refine HP.out.mono ?_
 rintro e w9 ⟨b9,lb,rfl,hseq⟩
 have HQ:Hid (RuleIs 8 m.pl w (.returned (.func (.func 140) #[] lb)) w9):=by
  rw[show (List.range wn).find? (ruBrk m.pl 8)=ruPlace m.pl 8 by unfold ruPlace;rw[manyZ_8,← HLEN.out.1,HWN.out]] at hseq
  exact⟨B1.out.trans (b9.mono B1.out.size),_,lb,rfl,eg_placesr,fun d=>(hseq d).less B1.out.size⟩
 clear b9 hseq HP
 go_wp2_with fail
 go_ret
 exact HQ.out
end Go.Proofs.YtmkknbonmameoaaGreatDoor
