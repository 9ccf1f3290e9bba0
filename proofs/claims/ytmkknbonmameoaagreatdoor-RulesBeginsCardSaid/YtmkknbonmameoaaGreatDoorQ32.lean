import Derived.Test.YtmkknbonmameoaaGreatDoorQ5
import Derived.Test.YtmkknbonmameoaaGreatDoorQ30
import Derived.Test.YtmkknbonmameoaaGreatDoorQ31
import Derived.Test.YtmkknbonmameoaaGreatDoorQ16
import Derived.Test.YtmkknbonmameoaaGreatDoorQ28
import Derived.Deep.CutRange
import Derived.Deep.DeepCutAuto
import Derived.Test.YtmkknbonmameoaaGreatDoorQ17
-- holds: YtmkknbonmameoaaGreatDoorHJm YtmkknbonmameoaaGreatDoorHJo YtmkknbonmameoaaGreatDoorHJn YtmkknbonmameoaaGreatDoorHJp YtmkknbonmameoaaGreatDoorHJxa YtmkknbonmameoaaGreatDoorHAi YtmkknbonmameoaaGreatDoorHAk
namespace Go.Proofs.YtmkknbonmameoaaGreatDoor
open Go.RowKit Go.Shelf
def cutE (e:EvP):EvP:=⟨e.kd,e.t,e.s,e.lev,e.o,e.vt,e.vk,e.p,e.scan.take 41⟩
def cutO (r:OrdP):OrdP:=⟨r.o,r.ts.take 20⟩
def cutM (r:MatP):MatP:=⟨r.p,r.o,r.fi,r.ts.take 20⟩
def fewP (H:Hist):Hist:=⟨cutL 20 H.tr,cutL 10 H.se,cutL 20 H.ob,cutL 10 H.pr,(H.ev.take 80).map cutE,(H.od.take 20).map cutO,(H.ma.take 20).map cutM,H.wa.take 20⟩
theorem cutL_size {k:Nat} {l:List ByteArray}:∀ b∈cutL k l,b.size≤40:=by
 intro b hb
 unfold cutL at hb
 obtain⟨s,_,rfl⟩:=List.mem_map.1 hb
 exact cutN_size s
theorem few_small (H:Hist):Small (fewP H):=by
 have hl:=fun k l=>cutL_len k l
 refine⟨?_,?_,?_,?_,?_,?_,?_,?_,?_,?_,?_,?_⟩
 ·exact Nat.le_trans (hl 20 H.tr) (by omega)
 ·exact Nat.le_trans (hl 10 H.se) (by omega)
 ·exact Nat.le_trans (hl 20 H.ob) (by omega)
 ·exact Nat.le_trans (hl 10 H.pr) (by omega)
 ·show ((H.ev.take 80).map cutE).length≤200
  rw[List.length_map,List.length_take];omega
 ·show ((H.od.take 20).map cutO).length≤60
  rw[List.length_map,List.length_take];omega
 ·show ((H.ma.take 20).map cutM).length≤60
  rw[List.length_map,List.length_take];omega
 ·show (H.wa.take 20).length≤60
  rw[List.length_take];omega
 ·intro e he
  obtain⟨x,_,rfl⟩:=List.mem_map.1 (show e∈(H.ev.take 80).map cutE from he)
  show (x.scan.take 41).length≤60
  rw[List.length_take];omega
 ·intro e he
  obtain⟨x,_,rfl⟩:=List.mem_map.1 (show e∈(H.od.take 20).map cutO from he)
  show (x.ts.take 20).length≤60
  rw[List.length_take];omega
 ·intro e he
  obtain⟨x,_,rfl⟩:=List.mem_map.1 (show e∈(H.ma.take 20).map cutM from he)
  show (x.ts.take 20).length≤60
  rw[List.length_take];omega
 intro s hs b hb
 have:s=0∨s=1∨s=2∨s=3:=by omega
 have hx:∃ k l,b∈cutL k l:=by
  rcases this with rfl | rfl | rfl | rfl
  ·exact⟨20,H.tr,hb⟩
  ·exact⟨10,H.se,hb⟩
  ·exact⟨20,H.ob,hb⟩
  exact⟨10,H.pr,hb⟩
 obtain⟨k,l,hb⟩:=hx
 exact Nat.le_trans (cutL_size b hb) (by omega)
theorem few_ev (H:Hist):(fewP H).ev.length≤80:=by
 show ((H.ev.take 80).map cutE).length≤80
 rw[List.length_map,List.length_take];omega
theorem few_tr (H:Hist):(fewP H).tr.length≤20:=cutL_len 20 H.tr
structure FewS (m h:HistM) (i j k:Nat):Prop where
 tr:h.tr.2=cutL 20 m.tr.2
 se:h.se.2=cutL 10 m.se.2
 ob:h.ob.2=cutL 20 m.ob.2
 pr:h.pr.2=cutL 10 m.pr.2
 ev:h.ev.2.map (·.1)=(m.pl.ev.take i).map cutE
 od:h.od.2.map (·.1)=(m.pl.od.take j).map cutO
 ma:h.ma.2.map (·.1)=(m.pl.ma.take k).map cutM
 wa:h.wa.2=[]
 n:h.ev.1.n≤80∧h.od.1.n≤20∧h.ma.1.n≤20
theorem FewS.all {m h:HistM} {i j k:Nat} (c:FewS m h i j k) (hi:i=min m.pl.ev.length 80) (hj:j=min m.pl.od.length 20) (hk:k=min m.pl.ma.length 20) {hd:SH} :
 ({h with wa:=(hd,m.wa.2.take 20)}:HistM).pl=fewP m.pl:=by
 have e1:m.pl.ev.take i=m.pl.ev.take 80:=by rw[hi];rcases Nat.le_total m.pl.ev.length 80 with h1 | h1;rw[Nat.min_eq_left h1,List.take_of_length_le (Nat.le_refl _),List.take_of_length_le h1];rw[Nat.min_eq_right h1]
 have e2:m.pl.od.take j=m.pl.od.take 20:=by rw[hj];rcases Nat.le_total m.pl.od.length 20 with h1 | h1;rw[Nat.min_eq_left h1,List.take_of_length_le (Nat.le_refl _),List.take_of_length_le h1];rw[Nat.min_eq_right h1]
 have e3:m.pl.ma.take k=m.pl.ma.take 20:=by rw[hk];rcases Nat.le_total m.pl.ma.length 20 with h1 | h1;rw[Nat.min_eq_left h1,List.take_of_length_le (Nat.le_refl _),List.take_of_length_le h1];rw[Nat.min_eq_right h1]
 show (⟨h.tr.2,h.se.2,h.ob.2,h.pr.2,h.ev.2.map (·.1),h.od.2.map (·.1),h.ma.2.map (·.1),m.wa.2.take 20⟩:Hist)=_
 rw[c.tr,c.se,c.ob,c.pr,c.ev,c.od,c.ma,e1,e2,e3]
 rfl
section
variable {Bh B3 : Nat} {w X Y Z : World} {h : HistM} {scs its : List (List Value × SH)}
def addEv11 (h:HistM) (A:Option Addr) (c:Nat) (p:EvP × SH):HistM:=⟨h.tr,h.se,h.ob,h.pr,(⟨A,h.ev.1.n+1,c⟩,h.ev.2++[p]),h.od,h.ma,h.wa⟩
theorem CpI.add_ev (c:CpI Bh B3 w X h scs its) {e:EvP} {hd:SH} {A:Option Addr} {c':Nat} (hb:Below X.heap.size X Y)
 (hs:Y.ownsRow X.heap.size 64 3 (.slice hd.A hd.n hd.c) hd.n (e.scan.flatMap seCs)) (ho:Z.ownsRow w.heap.size 60 9 (.slice A (h.ev.1.n+1) c') (h.ev.1.n+1) (h.ev.2.flatMap evCs++evCs (e,hd))) (hg:Y.grownBy Z (Value.slice h.ev.1.A h.ev.1.n h.ev.1.c).ownBlock) :
 Blk Z B3 28 h.cs∧CpI Bh B3 w (Z.setCell ⟨B3,4,none⟩ (.slice A (h.ev.1.n+1) c')) (addEv11 h A c' (e,hd)) (scs++[(e.scan.flatMap seCs,hd)]) its:=by
 have d:=c.on hb
 have k1:KeepT 60 Y Z:=KeepT.grown d.ev hg
 have b3Z:=k1.blk d.b3 (by decide)
 have k2:=box_turn b3Z 4 (.slice A (h.ev.1.n+1) c')
 refine⟨b3Z,?_⟩
 constructor
 ·exact (d.below.grown hg d.below.size fun g hg2=>(own_in_block d.ev hg2).1).setCell (p:=⟨B3,4,none⟩) c.ne.2.2.1 _
 ·exact b3Z.set_ 4 _
 ·exact (k1.blk d.br (by decide)).far (p:=⟨B3,4,none⟩) (Ne.symm c.ne.2.1) _
 ·exact c.ne
 ·exact (d.nm.keepT k1 (by decide)).keepT k2 (by decide)
 ·have e2:(h.ev.2++[(e,hd)]).flatMap evCs=h.ev.2.flatMap evCs++evCs (e,hd):=by rw[List.flatMap_append,List.flatMap_cons,List.flatMap_nil,List.append_nil]
  show World.ownsRow _ _ _ _ _ _ ((h.ev.2++[(e,hd)]).flatMap evCs)
  rw[e2]
  exact k2.own ho (by decide)
 ·exact k2.own (k1.own d.od (by decide)) (by decide)
 ·exact k2.own (k1.own d.ma (by decide)) (by decide)
 ·exact k2.own (k1.own d.wa (by decide)) (by decide)
 ·exact ((c.sc.add hb c.below.size hs).keepT k1 (by decide)).keepT k2 (by decide)
 exact (d.it.keepT k1 (by decide)).keepT k2 (by decide)
def addOd (h:HistM) (A:Option Addr) (c:Nat) (p:OrdP × SH):HistM:=⟨h.tr,h.se,h.ob,h.pr,h.ev,(⟨A,h.od.1.n+1,c⟩,h.od.2++[p]),h.ma,h.wa⟩
theorem CpI.add_od (c:CpI Bh B3 w X h scs its) {e:OrdP} {hd:SH} {A:Option Addr} {c':Nat} (hb:Below X.heap.size X Y)
 (hs:Y.ownsRow X.heap.size 3 1 (.slice hd.A hd.n hd.c) hd.n (ints e.ts)) (ho:Z.ownsRow w.heap.size 66 2 (.slice A (h.od.1.n+1) c') (h.od.1.n+1) (h.od.2.flatMap odCs++odCs (e,hd))) (hg:Y.grownBy Z (Value.slice h.od.1.A h.od.1.n h.od.1.c).ownBlock) :
 Blk Z B3 28 h.cs∧CpI Bh B3 w (Z.setCell ⟨B3,5,none⟩ (.slice A (h.od.1.n+1) c')) (addOd h A c' (e,hd)) scs (its++[(ints e.ts,hd)]):=by
 have d:=c.on hb
 have k1:KeepT 66 Y Z:=KeepT.grown d.od hg
 have b3Z:=k1.blk d.b3 (by decide)
 have k2:=box_turn b3Z 5 (.slice A (h.od.1.n+1) c')
 refine⟨b3Z,?_⟩
 constructor
 ·exact (d.below.grown hg d.below.size fun g hg2=>(own_in_block d.od hg2).1).setCell (p:=⟨B3,5,none⟩) c.ne.2.2.1 _
 ·exact b3Z.set_ 5 _
 ·exact (k1.blk d.br (by decide)).far (p:=⟨B3,5,none⟩) (Ne.symm c.ne.2.1) _
 ·exact c.ne
 ·exact (d.nm.keepT k1 (by decide)).keepT k2 (by decide)
 ·exact k2.own (k1.own d.ev (by decide)) (by decide)
 ·have e2:(h.od.2++[(e,hd)]).flatMap odCs=h.od.2.flatMap odCs++odCs (e,hd):=by rw[List.flatMap_append,List.flatMap_cons,List.flatMap_nil,List.append_nil]
  show World.ownsRow _ _ _ _ _ _ ((h.od.2++[(e,hd)]).flatMap odCs)
  rw[e2]
  exact k2.own ho (by decide)
 ·exact k2.own (k1.own d.ma (by decide)) (by decide)
 ·exact k2.own (k1.own d.wa (by decide)) (by decide)
 ·exact (d.sc.keepT k1 (by decide)).keepT k2 (by decide)
 exact ((c.it.add hb c.below.size hs).keepT k1 (by decide)).keepT k2 (by decide)
def addMa (h:HistM) (A:Option Addr) (c:Nat) (p:MatP × SH):HistM:=⟨h.tr,h.se,h.ob,h.pr,h.ev,h.od,(⟨A,h.ma.1.n+1,c⟩,h.ma.2++[p]),h.wa⟩
theorem CpI.add_ma (c:CpI Bh B3 w X h scs its) {e:MatP} {hd:SH} {A:Option Addr} {c':Nat} (hb:Below X.heap.size X Y)
 (hs:Y.ownsRow X.heap.size 3 1 (.slice hd.A hd.n hd.c) hd.n (ints e.ts)) (ho:Z.ownsRow w.heap.size 69 4 (.slice A (h.ma.1.n+1) c') (h.ma.1.n+1) (h.ma.2.flatMap maCs++maCs (e,hd))) (hg:Y.grownBy Z (Value.slice h.ma.1.A h.ma.1.n h.ma.1.c).ownBlock) :
 Blk Z B3 28 h.cs∧CpI Bh B3 w (Z.setCell ⟨B3,6,none⟩ (.slice A (h.ma.1.n+1) c')) (addMa h A c' (e,hd)) scs (its++[(ints e.ts,hd)]):=by
 have d:=c.on hb
 have k1:KeepT 69 Y Z:=KeepT.grown d.ma hg
 have b3Z:=k1.blk d.b3 (by decide)
 have k2:=box_turn b3Z 6 (.slice A (h.ma.1.n+1) c')
 refine⟨b3Z,?_⟩
 constructor
 ·exact (d.below.grown hg d.below.size fun g hg2=>(own_in_block d.ma hg2).1).setCell (p:=⟨B3,6,none⟩) c.ne.2.2.1 _
 ·exact b3Z.set_ 6 _
 ·exact (k1.blk d.br (by decide)).far (p:=⟨B3,6,none⟩) (Ne.symm c.ne.2.1) _
 ·exact c.ne
 ·exact (d.nm.keepT k1 (by decide)).keepT k2 (by decide)
 ·exact k2.own (k1.own d.ev (by decide)) (by decide)
 ·exact k2.own (k1.own d.od (by decide)) (by decide)
 ·have e2:(h.ma.2++[(e,hd)]).flatMap maCs=h.ma.2.flatMap maCs++maCs (e,hd):=by rw[List.flatMap_append,List.flatMap_cons,List.flatMap_nil,List.append_nil]
  show World.ownsRow _ _ _ _ _ _ ((h.ma.2++[(e,hd)]).flatMap maCs)
  rw[e2]
  exact k2.own ho (by decide)
 ·exact k2.own (k1.own d.wa (by decide)) (by decide)
 ·exact (d.sc.keepT k1 (by decide)).keepT k2 (by decide)
 exact ((c.it.add hb c.below.size hs).keepT k1 (by decide)).keepT k2 (by decide)
def setWa (h:HistM) (A:Option Addr) (n c:Nat) (l:List WantP):HistM:=⟨h.tr,h.se,h.ob,h.pr,h.ev,h.od,h.ma,(⟨A,n,c⟩,l)⟩
theorem CpI.set_wa (c:CpI Bh B3 w X h scs its) {A:Option Addr} {n c':Nat} {l:List WantP} (hb:Below X.heap.size X Y)
 (ho:Y.ownsRow X.heap.size 72 2 (.slice A n c') n (l.flatMap waCs)) :
 Blk Y B3 28 h.cs∧CpI Bh B3 w (Y.setCell ⟨B3,7,none⟩ (.slice A n c')) (setWa h A n c' l) scs its:=by
 have d:=c.on hb
 have k2:=box_turn d.b3 7 (.slice A n c')
 refine⟨d.b3,?_⟩
 constructor
 ·exact d.below.setCell (p:=⟨B3,7,none⟩) c.ne.2.2.1 _
 ·exact d.b3.set_ 7 _
 ·exact d.br.far (p:=⟨B3,7,none⟩) (Ne.symm c.ne.2.1) _
 ·exact c.ne
 ·exact d.nm.keepT k2 (by decide)
 ·exact k2.own d.ev (by decide)
 ·exact k2.own d.od (by decide)
 ·exact k2.own d.ma (by decide)
 ·exact k2.own (own_mono ho c.below.size) (by decide)
 ·exact d.sc.keepT k2 (by decide)
 exact d.it.keepT k2 (by decide)
end
section
variable {m h : HistM} {i j k : Nat} {A : Option Addr} {c : Nat} {hd : SH}
theorem FewS.ev_next (s:FewS m h i j k) {e:EvP} (he:m.pl.ev[i]?=some e) (hn:h.ev.1.n<80):FewS m (addEv11 h A c (cutE e,hd)) (i+1) j k :=
 ⟨s.tr,s.se,s.ob,s.pr,by show (h.ev.2++[(cutE e,hd)]).map (·.1)=_;rw[List.map_append,s.ev,List.take_add_one,he,List.map_append];rfl,s.od,s.ma,s.wa,hn,s.n.2⟩
theorem FewS.od_next (s:FewS m h i j k) {e:OrdP} (he:m.pl.od[j]?=some e) (hn:h.od.1.n<20):FewS m (addOd h A c (cutO e,hd)) i (j+1) k :=
 ⟨s.tr,s.se,s.ob,s.pr,s.ev,by show (h.od.2++[(cutO e,hd)]).map (·.1)=_;rw[List.map_append,s.od,List.take_add_one,he,List.map_append];rfl,s.ma,s.wa,s.n.1,hn,s.n.2.2⟩
theorem FewS.ma_next (s:FewS m h i j k) {e:MatP} (he:m.pl.ma[k]?=some e) (hn:h.ma.1.n<20):FewS m (addMa h A c (cutM e,hd)) i j (k+1) :=
 ⟨s.tr,s.se,s.ob,s.pr,s.ev,s.od,by show (h.ma.2++[(cutM e,hd)]).map (·.1)=_;rw[List.map_append,s.ma,List.take_add_one,he,List.map_append];rfl,s.wa,s.n.1,s.n.2.1,hn⟩
end
theorem reads_cut_s {α:Type} {en:α→List Value} {s B n q:Nat} {W:World} {A:Option Addr} {l:List α} (hs:∀ x,(en x).length=s) (h:Reads W B s A n (l.flatMap en)) (hq:q≤n):Reads W B s A q ((l.take q).flatMap en):=by
 have:=reads_take h hq
 rwa [show (l.flatMap en).take (q * s)=(l.take q).flatMap en from ?_] at this
 have e:l.flatMap en=(l.take q).flatMap en++(l.drop q).flatMap en:=by rw[← List.flatMap_append,List.take_append_drop]
 rcases Nat.le_total l.length q with h1 | h1
 ·rw[List.take_of_length_le (l:=l) h1,List.take_of_length_le]
  rw[fm_len hs]
  exact Nat.mul_le_mul_right _ h1
 rw[e,List.take_append_of_le_length (by rw[fm_len hs,List.length_take,Nat.min_eq_left h1];exact Nat.le_refl _),List.take_of_length_le (by rw[fm_len hs,List.length_take,Nat.min_eq_left h1];exact Nat.le_refl _)]
theorem elem_se (W:World):(sizeOf (Tryz.prog.elem 58)).run Tryz.prog W=.ok 3 W:=by kernel_rfl
theorem cut_se (A:Option Addr) (len cap h:Nat) (hh:h≤cap) (W:World) :
 (Instr.slice 58 (.slice A len cap) none (some (.int .i64 (h:Int))) none).run Tryz.prog W=.ok (.slice A h cap) W:=by
 have e0:Value.slice (if cap=0 then A else A.map (·.add (0 * 3))) (h - 0) (cap - 0)=.slice A h cap:=by
  have:(if cap=0 then A else A.map (·.add (0 * 3)))=A:=by
   split
   ·rfl
   cases A<;>simp[Addr.add]
  rw[this,Nat.sub_zero,Nat.sub_zero]
 rw[run_slice_h W 58 A len cap (show Tryz.prog.underlying 58=some (.slice (Tryz.prog.elem 58)) by kernel_rfl) .i64 h (by omega) (by omega),elem_se]
 exact congrArg (fun v=>Result.ok v W) e0
theorem elem_in (W:World):(sizeOf (Tryz.prog.elem 40)).run Tryz.prog W=.ok 1 W:=by kernel_rfl
theorem cut_in (A:Option Addr) (len cap h:Nat) (hh:h≤cap) (W:World) :
 (Instr.slice 40 (.slice A len cap) none (some (.int .i64 (h:Int))) none).run Tryz.prog W=.ok (.slice A h cap) W:=by
 have e0:Value.slice (if cap=0 then A else A.map (·.add (0 * 1))) (h - 0) (cap - 0)=.slice A h cap:=by
  have:(if cap=0 then A else A.map (·.add (0 * 1)))=A:=by
   split
   ·rfl
   cases A<;>simp[Addr.add]
  rw[this,Nat.sub_zero,Nat.sub_zero]
 rw[run_slice_h W 40 A len cap (show Tryz.prog.underlying 40=some (.slice (Tryz.prog.elem 40)) by kernel_rfl) .i64 h (by omega) (by omega),elem_in]
 exact congrArg (fun v=>Result.ok v W) e0
theorem elem_wa (W:World):(sizeOf (Tryz.prog.elem 26)).run Tryz.prog W=.ok 2 W:=by kernel_rfl
theorem cut_wa (A:Option Addr) (len cap h:Nat) (hh:h≤cap) (W:World) :
 (Instr.slice 26 (.slice A len cap) none (some (.int .i64 (h:Int))) none).run Tryz.prog W=.ok (.slice A h cap) W:=by
 have e0:Value.slice (if cap=0 then A else A.map (·.add (0 * 2))) (h - 0) (cap - 0)=.slice A h cap:=by
  have:(if cap=0 then A else A.map (·.add (0 * 2)))=A:=by
   split
   ·rfl
   cases A<;>simp[Addr.add]
  rw[this,Nat.sub_zero,Nat.sub_zero]
 rw[run_slice_h W 26 A len cap (show Tryz.prog.underlying 26=some (.slice (Tryz.prog.elem 26)) by kernel_rfl) .i64 h (by omega) (by omega),elem_wa]
 exact congrArg (fun v=>Result.ok v W) e0
structure FwI (Bh B3:Nat) (w:World) (m h:HistM) (X:World) (i j k:Nat):Prop where
 cp:CpI Bh B3 w X h (h.ev.2.map scOf) (h.od.2.map toOf++h.ma.2.map tmOf)
 st:FewS m h i j k
 bh:Blk X Bh 28 m.cs
section
variable {Bh B3 : Nat} {w X Y Z : World} {m h : HistM} {i j k : Nat} {A : Option Addr} {c' : Nat} {hd : SH}
theorem FwI.on (c:FwI Bh B3 w m h X i j k) (hb:Below X.heap.size X Y):FwI Bh B3 w m h Y i j k:=⟨c.cp.on hb,c.st,c.bh.below hb c.bh.lt⟩
theorem FwI.to {i2 j2 k2:Nat} (c:FwI Bh B3 w m h X i j k) (e1:i2=i) (e2:j2=j) (e3:k2=k):FwI Bh B3 w m h X i2 j2 k2:=by subst e1;subst e2;subst e3;exact c
theorem FwI.ev (c:FwI Bh B3 w m h X i 0 0) {e:EvP} (he:m.pl.ev[i]?=some e) (hb:Below X.heap.size X Y)
 (hs:Y.ownsRow X.heap.size 64 3 (.slice hd.A hd.n hd.c) hd.n ((cutE e).scan.flatMap seCs)) (hl:i<80) (ho:Z.ownsRow w.heap.size 60 9 (.slice A (h.ev.1.n+1) c') (h.ev.1.n+1) (h.ev.2.flatMap evCs++evCs (cutE e,hd))) (hg:Y.grownBy Z (Value.slice h.ev.1.A h.ev.1.n h.ev.1.c).ownBlock) :
 Blk Z B3 28 h.cs∧FwI Bh B3 w m (addEv11 h A c' (cutE e,hd)) (Z.setCell ⟨B3,4,none⟩ (.slice A (h.ev.1.n+1) c')) (i+1) 0 0:=by
 obtain⟨h1,h2⟩:=c.cp.add_ev hb hs ho hg
 have k1:KeepT 60 Y Z:=KeepT.grown (c.cp.on hb).ev hg
 have hn:h.ev.1.n<80:=by
  have e1:=own_long evCs_len (by omega) c.cp.ev
  have e2:=congrArg List.length c.st.ev
  rw[List.length_map,List.length_map,List.length_take] at e2
  omega
 refine⟨h1,⟨?_,c.st.ev_next he hn,(k1.blk (c.bh.below hb c.bh.lt) (by decide)).far (p:=⟨B3,4,none⟩) (Ne.symm c.cp.ne.1) _⟩⟩
 show CpI _ _ _ _ _ _ _
 rw[← show (h.ev.2++[(cutE e,hd)]).map scOf=h.ev.2.map scOf++[((cutE e).scan.flatMap seCs,hd)] by rw[List.map_append];rfl] at h2
 exact h2
theorem FwI.od (c:FwI Bh B3 w m h X i j 0) {e:OrdP} (he:m.pl.od[j]?=some e) (hb:Below X.heap.size X Y)
 (hs:Y.ownsRow X.heap.size 3 1 (.slice hd.A hd.n hd.c) hd.n (ints (cutO e).ts)) (hl:j<20) (ho:Z.ownsRow w.heap.size 66 2 (.slice A (h.od.1.n+1) c') (h.od.1.n+1) (h.od.2.flatMap odCs++odCs (cutO e,hd))) (hg:Y.grownBy Z (Value.slice h.od.1.A h.od.1.n h.od.1.c).ownBlock) :
 Blk Z B3 28 h.cs∧FwI Bh B3 w m (addOd h A c' (cutO e,hd)) (Z.setCell ⟨B3,5,none⟩ (.slice A (h.od.1.n+1) c')) i (j+1) 0:=by
 obtain⟨h1,h2⟩:=c.cp.add_od hb hs ho hg
 have k1:KeepT 66 Y Z:=KeepT.grown (c.cp.on hb).od hg
 have hn:h.od.1.n<20:=by
  have e1:=own_long odCs_len (by omega) c.cp.od
  have e2:=congrArg List.length c.st.od
  rw[List.length_map,List.length_map,List.length_take] at e2
  omega
 refine⟨h1,⟨?_,c.st.od_next he hn,(k1.blk (c.bh.below hb c.bh.lt) (by decide)).far (p:=⟨B3,5,none⟩) (Ne.symm c.cp.ne.1) _⟩⟩
 show CpI _ _ _ _ _ _ _
 have e0:h.ma.2.map tmOf=[]:=by have:=c.st.ma;simp at this;rw[this];rfl
 rw[e0,List.append_nil,← show (h.od.2++[(cutO e,hd)]).map toOf=h.od.2.map toOf++[(ints (cutO e).ts,hd)] by rw[List.map_append];rfl] at h2
 show CpI _ _ _ _ _ _ ((h.od.2++[(cutO e,hd)]).map toOf++h.ma.2.map tmOf)
 rw[e0,List.append_nil]
 exact h2
theorem FwI.ma (c:FwI Bh B3 w m h X i j k) {e:MatP} (he:m.pl.ma[k]?=some e) (hb:Below X.heap.size X Y)
 (hs:Y.ownsRow X.heap.size 3 1 (.slice hd.A hd.n hd.c) hd.n (ints (cutM e).ts)) (hl:k<20) (ho:Z.ownsRow w.heap.size 69 4 (.slice A (h.ma.1.n+1) c') (h.ma.1.n+1) (h.ma.2.flatMap maCs++maCs (cutM e,hd))) (hg:Y.grownBy Z (Value.slice h.ma.1.A h.ma.1.n h.ma.1.c).ownBlock) :
 Blk Z B3 28 h.cs∧FwI Bh B3 w m (addMa h A c' (cutM e,hd)) (Z.setCell ⟨B3,6,none⟩ (.slice A (h.ma.1.n+1) c')) i j (k+1):=by
 obtain⟨h1,h2⟩:=c.cp.add_ma hb hs ho hg
 have k1:KeepT 69 Y Z:=KeepT.grown (c.cp.on hb).ma hg
 have hn:h.ma.1.n<20:=by
  have e1:=own_long maCs_len (by omega) c.cp.ma
  have e2:=congrArg List.length c.st.ma
  rw[List.length_map,List.length_map,List.length_take] at e2
  omega
 refine⟨h1,⟨?_,c.st.ma_next he hn,(k1.blk (c.bh.below hb c.bh.lt) (by decide)).far (p:=⟨B3,6,none⟩) (Ne.symm c.cp.ne.1) _⟩⟩
 show CpI _ _ _ _ _ _ _
 rw[List.append_assoc,← show (h.ma.2++[(cutM e,hd)]).map tmOf=h.ma.2.map tmOf++[(ints (cutM e).ts,hd)] by rw[List.map_append];rfl] at h2
 exact h2
end
def FewIs (H:Hist) (w:World) (e:Ending) (w':World):Prop:=∃ n:HistM,e=.returned (.agg #[.slice n.tr.1.A n.tr.1.n n.tr.1.c,.slice n.se.1.A n.se.1.n n.se.1.c,.slice n.ob.1.A n.ob.1.n n.ob.1.c,.slice n.pr.1.A n.pr.1.n n.pr.1.c,.slice n.ev.1.A n.ev.1.n n.ev.1.c,.slice n.od.1.A n.od.1.n n.od.1.c,.slice n.ma.1.A n.ma.1.n n.ma.1.c,.slice n.wa.1.A n.wa.1.n n.wa.1.c])∧HOwn w.heap.size w' n∧n.pl=H∧Below w.heap.size w w'
theorem own_lit (w:World) (t:TypeId) (s n:Nat) (xs:List Value) (cs:Array Value) (h:cs=xs.toArray) (hl:xs.length=n * s) (hn:n≤1000):(w.alloc (.cells cs t)).ownsRow w.heap.size t s (.slice (some ⟨w.heap.size,0,none⟩) n n) n xs:=by
 subst h
 refine⟨hl,.inr ⟨w.heap.size,n,xs.toArray,rfl,Nat.le_refl _,by show (w.heap.push _)[w.heap.size]?=_;simp,Nat.le_refl _,by unfold maxLen;omega,by simp[hl],?_⟩⟩
 rw[show xs.toArray.toList=xs from rfl,List.take_of_length_le (by omega)]
def tx:ByteArray:=⟨#[116]⟩
def sx:ByteArray:=⟨#[115]⟩
def ox:ByteArray:=⟨#[120]⟩
def e1S:EvP:=⟨1,0,0,1,0,0,0,0,[]⟩
def e2S:EvP:=⟨2,0,0,0,0,0,1,0,[]⟩
def e3S:EvP:=⟨5,0,0,0,0,0,0,0,[]⟩
def nilH:SH:=⟨none,0,0⟩
def evS:List (EvP × SH):=[(e1S,nilH),(e2S,nilH),(e3S,nilH)]
def smallH:Hist:=⟨[tx],[sx],[ox],[],[e1S,e2S,e3S],[],[],[]⟩
def smallM (g:Nat):HistM:=⟨(⟨some ⟨g,0,none⟩,1,1⟩,[tx]),(⟨some ⟨g+1,0,none⟩,1,1⟩,[sx]),(⟨some ⟨g+2,0,none⟩,1,1⟩,[ox]),nilS,(⟨some ⟨g+3,0,none⟩,3,3⟩,evS),(⟨none,0,0⟩,[]),(⟨none,0,0⟩,[]),(⟨none,0,0⟩,[])⟩
theorem small_pl (g:Nat):(smallM g).pl=smallH:=rfl
section
variable {t : TypeId} {s B g0 g1 g2 n0 n1 n2 c0 c1 c2 : Nat} {X : World} {x0 x1 x2 : List Value}
theorem rg3 (h0:X.ownsRow B t s (.slice (some ⟨g0,0,none⟩) n0 c0) n0 x0) (h1:X.ownsRow B t s (.slice (some ⟨g1,0,none⟩) n1 c1) n1 x1) (h2:X.ownsRow B t s (.slice (some ⟨g2,0,none⟩) n2 c2) n2 x2) (d01:g0≠g1) (d02:g0≠g2) (d12:g1≠g2) :
 RG t s B X [(x0,⟨some ⟨g0,0,none⟩,n0,c0⟩),(x1,⟨some ⟨g1,0,none⟩,n1,c1⟩),(x2,⟨some ⟨g2,0,none⟩,n2,c2⟩),([],⟨none,0,0⟩)]:=by
 constructor
 ·intro i p hp
  match i with
  | 0=>simp at hp;subst hp;exact h0
  | 1=>simp at hp;subst hp;exact h1
  | 2=>simp at hp;subst hp;exact h2
  | 3=>simp at hp;subst hp;exact World.ownsRow_nil _ _ _ _
  | k+4=>simp at hp
 intro i j p q hp hq hij g hg hg2
 have key:∀ (i:Nat) (p:List Value × SH),[(x0,(⟨some ⟨g0,0,none⟩,n0,c0⟩:SH)),(x1,⟨some ⟨g1,0,none⟩,n1,c1⟩),(x2,⟨some ⟨g2,0,none⟩,n2,c2⟩),([],⟨none,0,0⟩)][i]?=some p→(Value.slice p.2.A p.2.n p.2.c).ownBlock=some g→(i=0∧g=g0)∨(i=1∧g=g1)∨(i=2∧g=g2):=by
  intro i p hp hg
  match i with
  | 0=>simp at hp;subst hp;injection hg with hg;exact .inl ⟨rfl,hg.symm⟩
  | 1=>simp at hp;subst hp;injection hg with hg;exact .inr (.inl ⟨rfl,hg.symm⟩)
  | 2=>simp at hp;subst hp;injection hg with hg;exact .inr (.inr ⟨rfl,hg.symm⟩)
  | 3=>simp at hp;subst hp;cases hg
  | k+4=>simp at hp
 have k1:=key i p hp hg
 have k2:=key j q hq hg2
 omega
theorem rg_nils (k:Nat):RG t s B X (List.replicate k ([],⟨none,0,0⟩)):=by
 have all:∀ (i:Nat) (p:List Value × SH),(List.replicate k (([],⟨none,0,0⟩):List Value × SH))[i]?=some p→p=([],⟨none,0,0⟩):=by
  intro i p hp
  have:=List.mem_of_getElem? hp
  exact List.eq_of_mem_replicate this
 exact⟨fun i p hp=>by rw[all i p hp];exact World.ownsRow_nil _ _ _ _,fun i j p q hp hq hij g hg=>by rw[all i p hp] at hg;cases hg⟩
end
def SmallIs (w:World) (e:Ending) (w':World):Prop:=∃ g:Nat,e=.returned (.agg #[.slice (some ⟨g,0,none⟩) 1 1,.slice (some ⟨g+1,0,none⟩) 1 1,.slice (some ⟨g+2,0,none⟩) 1 1,.slice none 0 0,.slice (some ⟨g+3,0,none⟩) 3 3,.slice none 0 0,.slice none 0 0,.slice none 0 0])∧HOwn w.heap.size w' (smallM g)∧Below w.heap.size w w'
theorem small_laid (w W1 W2 W3 W4 W5:World) (h1:W1=w.alloc (.cells #[.slice (some ⟨w.heap.size+1,0,none⟩) 1 1,.slice (some ⟨w.heap.size+1+1,0,none⟩) 1 1,.slice (some ⟨w.heap.size+1+1+1,0,none⟩) 1 1,.slice none 0 0,.slice (some ⟨w.heap.size+1+1+1+1,0,none⟩) 3 3,.slice none 0 0,.slice none 0 0,.slice none 0 0] 28)) (h2:W2=W1.alloc (.cells #[.string ⟨#[116]⟩] 9)) (h3:W3=W2.alloc (.cells #[.string ⟨#[115]⟩] 9)) (h4:W4=W3.alloc (.cells #[.string ⟨#[120]⟩] 9)) (h5:W5=W4.alloc (.cells #[.int .i64 1,.int .i64 0,.int .i64 0,.int .i64 1,.int .i64 0,.int .i64 0,.int .i64 0,.int .i64 0,.slice none 0 0,.int .i64 2,.int .i64 0,.int .i64 0,.int .i64 0,.int .i64 0,.int .i64 0,.int .i64 1,.int .i64 0,.slice none 0 0,.int .i64 5,.int .i64 0,.int .i64 0,.int .i64 0,.int .i64 0,.int .i64 0,.int .i64 0,.int .i64 0,.slice none 0 0] 60)) :
 HOwn w.heap.size W5 (smallM (w.heap.size+1))∧Below w.heap.size w W5∧Blk W5 w.heap.size 28 #[.slice (some ⟨w.heap.size+1,0,none⟩) 1 1,.slice (some ⟨w.heap.size+1+1,0,none⟩) 1 1,.slice (some ⟨w.heap.size+1+1+1,0,none⟩) 1 1,.slice none 0 0,.slice (some ⟨w.heap.size+1+1+1+1,0,none⟩) 3 3,.slice none 0 0,.slice none 0 0,.slice none 0 0]:=by
 obtain⟨k1,b1,s1⟩:=ibox w #[.slice (some ⟨w.heap.size+1,0,none⟩) 1 1,.slice (some ⟨w.heap.size+1+1,0,none⟩) 1 1,.slice (some ⟨w.heap.size+1+1+1,0,none⟩) 1 1,.slice none 0 0,.slice (some ⟨w.heap.size+1+1+1+1,0,none⟩) 3 3,.slice none 0 0,.slice none 0 0,.slice none 0 0] 28
 rw[← h1] at k1 b1 s1
 have o0:=own_lit W1 9 1 1 (strs [tx]) #[.string ⟨#[116]⟩] rfl rfl (by omega)
 obtain⟨-,b2,s2⟩:=ibox W1 #[.string ⟨#[116]⟩] 9
 rw[← h2] at o0 b2 s2
 rw[s1] at o0
 rw[s1] at s2
 have o1:=own_lit W2 9 1 1 (strs [sx]) #[.string ⟨#[115]⟩] rfl rfl (by omega)
 obtain⟨-,b3,s3⟩:=ibox W2 #[.string ⟨#[115]⟩] 9
 rw[← h3] at o1 b3 s3
 rw[s2] at o1
 rw[s2] at s3
 have o2:=own_lit W3 9 1 1 (strs [ox]) #[.string ⟨#[120]⟩] rfl rfl (by omega)
 obtain⟨-,b4,s4⟩:=ibox W3 #[.string ⟨#[120]⟩] 9
 rw[← h4] at o2 b4 s4
 rw[s3] at o2
 rw[s3] at s4
 have o3:=own_lit W4 60 9 3 (evS.flatMap evCs) #[.int .i64 1,.int .i64 0,.int .i64 0,.int .i64 1,.int .i64 0,.int .i64 0,.int .i64 0,.int .i64 0,.slice none 0 0,.int .i64 2,.int .i64 0,.int .i64 0,.int .i64 0,.int .i64 0,.int .i64 0,.int .i64 1,.int .i64 0,.slice none 0 0,.int .i64 5,.int .i64 0,.int .i64 0,.int .i64 0,.int .i64 0,.int .i64 0,.int .i64 0,.int .i64 0,.slice none 0 0] rfl rfl (by omega)
 obtain⟨-,b5,s5⟩:=ibox W4 #[.int .i64 1,.int .i64 0,.int .i64 0,.int .i64 1,.int .i64 0,.int .i64 0,.int .i64 0,.int .i64 0,.slice none 0 0,.int .i64 2,.int .i64 0,.int .i64 0,.int .i64 0,.int .i64 0,.int .i64 0,.int .i64 1,.int .i64 0,.slice none 0 0,.int .i64 5,.int .i64 0,.int .i64 0,.int .i64 0,.int .i64 0,.int .i64 0,.int .i64 0,.int .i64 0,.slice none 0 0] 60
 rw[← h5] at o3 b5 s5
 rw[s4] at o3
 rw[s4] at s5
 have hz1:W1.heap.size=w.heap.size+1:=s1
 have hz2:W2.heap.size=w.heap.size+2:=s2
 have hz3:W3.heap.size=w.heap.size+3:=s3
 have hz4:W4.heap.size=w.heap.size+4:=s4
 have c3:Below W2.heap.size W2 W5:=b3.trans ((b4.trans (b5.mono (by omega))).mono (by omega))
 have c4:Below W3.heap.size W3 W5:=b4.trans (b5.mono (by omega))
 have p0:=own_on (own_mono (base':=w.heap.size) o0 (by omega)) c3
 have p1:=own_on (own_mono (base':=w.heap.size) o1 (by omega)) c4
 have p2:=own_on (own_mono (base':=w.heap.size) o2 (by omega)) b5
 have p3:=own_mono (base':=w.heap.size) o3 (by omega)
 refine⟨⟨rg3 p0 p1 p2 (by omega) (by omega) (by omega),p3,World.ownsRow_nil _ _ _ _,World.ownsRow_nil _ _ _ _,World.ownsRow_nil _ _ _ _,rg_nils 3,RG.nil⟩,b1.trans (((b2.trans (c3.mono (by omega))).mono (by omega))),k1.below (b2.trans (c3.mono (by omega))) k1.lt⟩
theorem few_store {Bh g:Nat} {A0 A1 A2 A3:Option Addr} {n0 n1 n2 n3 c0 c1 c2 c3:Nat} {w X:World} {m:HistM} (c:C0 Bh w m X) (hg:Blk X g 28 zeroH) (hn:g≠Bh∧g≠Bh+1∧w.heap.size≤g) (hB:w.heap.size≤Bh)
 (nm:RG 9 1 w.heap.size X [(strs (cutL 20 m.tr.2),⟨A0,n0,c0⟩),(strs (cutL 10 m.se.2),⟨A1,n1,c1⟩),(strs (cutL 20 m.ob.2),⟨A2,n2,c2⟩),(strs (cutL 10 m.pr.2),⟨A3,n3,c3⟩)]) :
 FwI Bh g w m ⟨(⟨A0,n0,c0⟩,cutL 20 m.tr.2),(⟨A1,n1,c1⟩,cutL 10 m.se.2),(⟨A2,n2,c2⟩,cutL 20 m.ob.2),(⟨A3,n3,c3⟩,cutL 10 m.pr.2),(⟨none,0,0⟩,[]),(⟨none,0,0⟩,[]),(⟨none,0,0⟩,[]),(⟨none,0,0⟩,[])⟩
  ((((((((X.setCell ⟨g,0,none⟩ (.slice A0 n0 c0)).setCell ⟨g,1,none⟩ (.slice A1 n1 c1)).setCell ⟨g,2,none⟩ (.slice A2 n2 c2)).setCell ⟨g,3,none⟩ (.slice A3 n3 c3)).setCell ⟨g,4,none⟩ (.slice none 0 0)).setCell ⟨g,5,none⟩ (.slice none 0 0)).setCell ⟨g,6,none⟩ (.slice none 0 0)).setCell ⟨g,7,none⟩ (.slice none 0 0)) 0 0 0:=by
 obtain⟨h1,h2,h3⟩:=fill8 hg (.slice A0 n0 c0) (.slice A1 n1 c1) (.slice A2 n2 c2) (.slice A3 n3 c3) (.slice none 0 0) (.slice none 0 0) (.slice none 0 0) (.slice none 0 0)
 have kt:KeepT 28 X _:=h2 (fun j=>∀ cs,¬Blk X j 28 cs) (fun h=>h _ hg)
 have kg:=h2 (fun j=>j≠g) (fun h=>h rfl)
 exact⟨⟨h3 w c.bb hn.2.2,h1,Keep.blk kg c.kr (Ne.symm hn.2.1),⟨hn.1,hn.2.1,hn.2.2,hB⟩,nm.keepT kt (by decide),World.ownsRow_nil _ _ _ _,World.ownsRow_nil _ _ _ _,World.ownsRow_nil _ _ _ _,World.ownsRow_nil _ _ _ _,RG.nil,RG.nil⟩,
  ⟨rfl,rfl,rfl,rfl,rfl,rfl,rfl,rfl,Nat.zero_le _,Nat.zero_le _,Nat.zero_le _⟩,Keep.blk kg c.kh (Ne.symm hn.1)⟩
theorem lit_small {H:Hist} (h:(decide (H.tr.length≤60)&&decide (H.se.length≤60)&&decide (H.ob.length≤60)&&decide (H.pr.length≤60)&&decide (H.ev.length≤200)&&decide (H.od=[])&&decide (H.ma=[])&&decide (H.wa=[])&&H.ev.all (fun e=>decide (e.scan=[]))&&(H.tr++H.se++H.ob++H.pr).all fun b=>decide (b.size≤100))=true):Small H:=by
 simp only[Bool.and_eq_true,decide_eq_true_eq,List.all_eq_true,List.mem_append] at h
 obtain⟨⟨⟨⟨⟨⟨⟨⟨⟨h0,h1⟩,h2⟩,h3⟩,h4⟩,h5⟩,h6⟩,h7⟩,h8⟩,h9⟩:=h
 refine⟨h0,h1,h2,h3,h4,by rw[h5];simp,by rw[h6];simp,by rw[h7];simp,fun e he=>by rw[h8 e he];simp,fun r hr=>by rw[h5] at hr;simp at hr,fun r hr=>by rw[h6] at hr;simp at hr,fun s hs b hb=>h9 b ?_⟩
 have:s=0∨s=1∨s=2∨s=3:=by omega
 rcases this with rfl | rfl | rfl | rfl
 ·exact .inl (.inl (.inl hb))
 ·exact .inl (.inl (.inr hb))
 ·exact .inl (.inr hb)
 exact .inr hb
theorem small_small:Small smallH:=lit_small (by decide +kernel)
structure HBx (w X:World) (Bx:Nat) (h:HistM):Prop where
 blk:Blk X Bx 28 h.cs
 own:HOwn w.heap.size X h
section
variable {w X Y : World} {Bx B : Nat} {h m : HistM} {H : Hist} {e : EvP}
theorem HBx.on (c:HBx w X Bx h) (hb:Below X.heap.size X Y):HBx w Y Bx h:=⟨c.blk.below hb c.blk.lt,c.own.on hb⟩
theorem HBx.rd (c:HBx w X Bx h):HRd X X.heap.size h:=c.own.rd
theorem HBx.new (ho:HOwn B X h) (hB:w.heap.size≤B) (cs:Array Value) (hc:cs=h.cs):HBx w (X.alloc (.cells cs 28)) X.heap.size h:=by
 subst hc
 exact⟨Blk.new _ _ _,(ho.on ((Below.refl _ _).alloc (Nat.le_refl _) _)).mono hB⟩
theorem HArg.on (a:HArg w m) (hb:Below w.heap.size w X):HArg X m:=⟨a.rd.on_ hb,a.tr,a.se,a.ob,a.pr,a.ev,a.od,a.ma,a.wa,a.sc,a.ot,a.mt,a.z0,a.z1,a.z2,a.z3⟩
theorem HOwn.caps (ho:HOwn B X h):(h.tr.1.n≤h.tr.1.c)∧(h.se.1.n≤h.se.1.c)∧(h.ob.1.n≤h.ob.1.c)∧h.pr.1.n≤h.pr.1.c:=by
 have key:∀ (k:Nat) (p:List Value × SH),(h.nms)[k]?=some p→p.2.n≤p.2.c:=fun k p hp=>by
  obtain⟨A,c,e,h1,_⟩:=own_form2 (ho.nm.own k p hp)
  injection e with _ _ e3
  rw[e3]
  exact h1
 exact⟨key 0 _ rfl,key 1 _ rfl,key 2 _ rfl,key 3 _ rfl⟩
theorem own_cap {t:TypeId} {s n c:Nat} {A:Option Addr} {xs:List Value} (ho:X.ownsRow B t s (.slice A n c) n xs):n≤c:=by
 obtain⟨A2,c2,e,h1,_⟩:=own_form2 ho
 injection e with _ _ e3
 rw[e3]
 exact h1
theorem ev_at (r:HRd X B h) {i:Nat} (he:h.pl.ev[i]?=some e):∃ (b o:Nat) (hd:SH),h.ev.1.A=some ⟨b,o,none⟩∧b<B∧h.ev.2[i]?=some (e,hd)∧(∀ j u,(evCs (e,hd))[j]?=some u→X.cell? ⟨b,o+i * 9+j,none⟩=some u)∧e.scan.length=hd.n:=by
 have he2:(h.ev.2.map (·.1))[i]?=some e:=he
 rw[List.getElem?_map] at he2
 obtain⟨p,hp,hpe⟩:=Option.map_eq_some_iff.1 he2
 obtain⟨b,o,hA,hb,hc⟩:=row_cells evCs_len (by omega) r.ev hp
 obtain⟨p1,p2⟩:=p
 simp only at hpe
 subst hpe
 exact⟨b,o,p2,hA,hb,hp,fun j u hu=>by rw[Nat.add_assoc];exact hc j u hu,(r.fit.sc _ (List.mem_of_getElem? hp)).1⟩
theorem num_small (hS:Small H) (hs:shapedB H=true):Small (numP H):=by
 have hl:∀ s,s<4→((numP H).names s).length≤60:=fun s h4=>by
  rw[num_names h4]
  unfold namedN
  rw[List.length_map]
  have:=spk_small hs hS s (refs H).length
  rwa [List.take_length] at this
 refine⟨hl 0 (by omega),hl 1 (by omega),hl 2 (by omega),hl 3 (by omega),?_,?_,?_,?_,?_,?_,?_,?_⟩
 ·show (H.ev.map _).length≤200
  rw[List.length_map];exact hS.ev
 ·show (H.od.map _).length≤60
  rw[List.length_map];exact hS.od
 ·show (H.ma.map _).length≤60
  rw[List.length_map];exact hS.ma
 ·show (H.wa.map _).length≤60
  rw[List.length_map];exact hS.wa
 ·intro e he
  obtain⟨x,hx,rfl⟩:=List.mem_map.1 (show e∈H.ev.map (reE (anewI (refs H))) from he)
  have h9:(reE (anewI (refs H)) x).scan.length=x.scan.length:=by
   unfold reE
   (repeat' split)<;>simp
  rw[h9]
  exact hS.sc x hx
 ·intro e he
  obtain⟨x,hx,rfl⟩:=List.mem_map.1 (show e∈H.od.map (reO (anewI (refs H))) from he)
  show (x.ts.map _).length≤60
  rw[List.length_map];exact hS.ot x hx
 ·intro e he
  obtain⟨x,hx,rfl⟩:=List.mem_map.1 (show e∈H.ma.map (reM (anewI (refs H))) from he)
  show (x.ts.map _).length≤60
  rw[List.length_map];exact hS.mt x hx
 intro s h4 b hb
 rw[num_names h4] at hb
 obtain⟨n,hn,rfl⟩:=List.mem_map.1 hb
 have hin:=shaped_in hs (mem_spk.1 hn)
 exact hS.tx s h4 _ (List.mem_of_getElem? (get_of (by rw[← many_len];exact hin)))
end
end Go.Proofs.YtmkknbonmameoaaGreatDoor
namespace Go.Proofs.YtmkknbonmameoaaGreatDoor.F15
open Go.RowKit Go.Shelf
def cutE (e:EvP):EvP:=⟨e.kd,e.t,e.s,e.lev,e.o,e.vt,e.vk,e.p,e.scan.take 12⟩
def cutO (r:OrdP):OrdP:=⟨r.o,r.ts.take 14⟩
def cutM (r:MatP):MatP:=⟨r.p,r.o,r.fi,r.ts.take 14⟩
def fewP (H:Hist):Hist:=⟨cutL 12 H.tr,cutL 8 H.se,cutL 10 H.ob,cutL 6 H.pr,(H.ev.take 70).map cutE,(H.od.take 14).map cutO,(H.ma.take 20).map cutM,H.wa.take 12⟩
theorem cutL_size {k:Nat} {l:List ByteArray}:∀ b∈cutL k l,b.size≤40:=by
 intro b hb
 unfold cutL at hb
 obtain⟨s,_,rfl⟩:=List.mem_map.1 hb
 exact cutN_size s
theorem few_small (H:Hist):Small (fewP H):=by
 have hl:=fun k l=>cutL_len k l
 refine⟨?_,?_,?_,?_,?_,?_,?_,?_,?_,?_,?_,?_⟩
 ·exact Nat.le_trans (hl 12 H.tr) (by omega)
 ·exact Nat.le_trans (hl 8 H.se) (by omega)
 ·exact Nat.le_trans (hl 10 H.ob) (by omega)
 ·exact Nat.le_trans (hl 6 H.pr) (by omega)
 ·show ((H.ev.take 70).map cutE).length≤200
  rw[List.length_map,List.length_take];omega
 ·show ((H.od.take 14).map cutO).length≤60
  rw[List.length_map,List.length_take];omega
 ·show ((H.ma.take 20).map cutM).length≤60
  rw[List.length_map,List.length_take];omega
 ·show (H.wa.take 12).length≤60
  rw[List.length_take];omega
 ·intro e he
  obtain⟨x,_,rfl⟩:=List.mem_map.1 (show e∈(H.ev.take 70).map cutE from he)
  show (x.scan.take 12).length≤60
  rw[List.length_take];omega
 ·intro e he
  obtain⟨x,_,rfl⟩:=List.mem_map.1 (show e∈(H.od.take 14).map cutO from he)
  show (x.ts.take 14).length≤60
  rw[List.length_take];omega
 ·intro e he
  obtain⟨x,_,rfl⟩:=List.mem_map.1 (show e∈(H.ma.take 20).map cutM from he)
  show (x.ts.take 14).length≤60
  rw[List.length_take];omega
 intro s hs b hb
 have:s=0∨s=1∨s=2∨s=3:=by omega
 have hx:∃ k l,b∈cutL k l:=by
  rcases this with rfl | rfl | rfl | rfl
  ·exact⟨12,H.tr,hb⟩
  ·exact⟨8,H.se,hb⟩
  ·exact⟨10,H.ob,hb⟩
  exact⟨6,H.pr,hb⟩
 obtain⟨k,l,hb⟩:=hx
 exact Nat.le_trans (cutL_size b hb) (by omega)
theorem few_ev (H:Hist):(fewP H).ev.length≤70:=by
 show ((H.ev.take 70).map cutE).length≤70
 rw[List.length_map,List.length_take];omega
theorem few_tr (H:Hist):(fewP H).tr.length≤12:=cutL_len 12 H.tr
structure FewS (m h:HistM) (i j k:Nat):Prop where
 tr:h.tr.2=cutL 12 m.tr.2
 se:h.se.2=cutL 8 m.se.2
 ob:h.ob.2=cutL 10 m.ob.2
 pr:h.pr.2=cutL 6 m.pr.2
 ev:h.ev.2.map (·.1)=(m.pl.ev.take i).map cutE
 od:h.od.2.map (·.1)=(m.pl.od.take j).map cutO
 ma:h.ma.2.map (·.1)=(m.pl.ma.take k).map cutM
 wa:h.wa.2=[]
 n:h.ev.1.n≤70∧h.od.1.n≤14∧h.ma.1.n≤20
theorem FewS.all {m h:HistM} {i j k:Nat} (c:FewS m h i j k) (hi:i=min m.pl.ev.length 70) (hj:j=min m.pl.od.length 14) (hk:k=min m.pl.ma.length 20) {hd:SH} :
 ({h with wa:=(hd,m.wa.2.take 12)}:HistM).pl=fewP m.pl:=by
 have e1:m.pl.ev.take i=m.pl.ev.take 70:=by rw[hi];rcases Nat.le_total m.pl.ev.length 70 with h1 | h1;rw[Nat.min_eq_left h1,List.take_of_length_le (Nat.le_refl _),List.take_of_length_le h1];rw[Nat.min_eq_right h1]
 have e2:m.pl.od.take j=m.pl.od.take 14:=by rw[hj];rcases Nat.le_total m.pl.od.length 14 with h1 | h1;rw[Nat.min_eq_left h1,List.take_of_length_le (Nat.le_refl _),List.take_of_length_le h1];rw[Nat.min_eq_right h1]
 have e3:m.pl.ma.take k=m.pl.ma.take 20:=by rw[hk];rcases Nat.le_total m.pl.ma.length 20 with h1 | h1;rw[Nat.min_eq_left h1,List.take_of_length_le (Nat.le_refl _),List.take_of_length_le h1];rw[Nat.min_eq_right h1]
 show (⟨h.tr.2,h.se.2,h.ob.2,h.pr.2,h.ev.2.map (·.1),h.od.2.map (·.1),h.ma.2.map (·.1),m.wa.2.take 12⟩:Hist)=_
 rw[c.tr,c.se,c.ob,c.pr,c.ev,c.od,c.ma,e1,e2,e3]
 rfl
section
variable {Bh B3 : Nat} {w X Y Z : World} {h : HistM} {scs its : List (List Value × SH)}
def addEv11 (h:HistM) (A:Option Addr) (c:Nat) (p:EvP × SH):HistM:=⟨h.tr,h.se,h.ob,h.pr,(⟨A,h.ev.1.n+1,c⟩,h.ev.2++[p]),h.od,h.ma,h.wa⟩
theorem CpI.add_ev (c:CpI Bh B3 w X h scs its) {e:EvP} {hd:SH} {A:Option Addr} {c':Nat} (hb:Below X.heap.size X Y)
 (hs:Y.ownsRow X.heap.size 64 3 (.slice hd.A hd.n hd.c) hd.n (e.scan.flatMap seCs)) (ho:Z.ownsRow w.heap.size 60 9 (.slice A (h.ev.1.n+1) c') (h.ev.1.n+1) (h.ev.2.flatMap evCs++evCs (e,hd))) (hg:Y.grownBy Z (Value.slice h.ev.1.A h.ev.1.n h.ev.1.c).ownBlock) :
 Blk Z B3 28 h.cs∧CpI Bh B3 w (Z.setCell ⟨B3,4,none⟩ (.slice A (h.ev.1.n+1) c')) (addEv11 h A c' (e,hd)) (scs++[(e.scan.flatMap seCs,hd)]) its:=by
 have d:=c.on hb
 have k1:KeepT 60 Y Z:=KeepT.grown d.ev hg
 have b3Z:=k1.blk d.b3 (by decide)
 have k2:=box_turn b3Z 4 (.slice A (h.ev.1.n+1) c')
 refine⟨b3Z,?_⟩
 constructor
 ·exact (d.below.grown hg d.below.size fun g hg2=>(own_in_block d.ev hg2).1).setCell (p:=⟨B3,4,none⟩) c.ne.2.2.1 _
 ·exact b3Z.set_ 4 _
 ·exact (k1.blk d.br (by decide)).far (p:=⟨B3,4,none⟩) (Ne.symm c.ne.2.1) _
 ·exact c.ne
 ·exact (d.nm.keepT k1 (by decide)).keepT k2 (by decide)
 ·have e2:(h.ev.2++[(e,hd)]).flatMap evCs=h.ev.2.flatMap evCs++evCs (e,hd):=by rw[List.flatMap_append,List.flatMap_cons,List.flatMap_nil,List.append_nil]
  show World.ownsRow _ _ _ _ _ _ ((h.ev.2++[(e,hd)]).flatMap evCs)
  rw[e2]
  exact k2.own ho (by decide)
 ·exact k2.own (k1.own d.od (by decide)) (by decide)
 ·exact k2.own (k1.own d.ma (by decide)) (by decide)
 ·exact k2.own (k1.own d.wa (by decide)) (by decide)
 ·exact ((c.sc.add hb c.below.size hs).keepT k1 (by decide)).keepT k2 (by decide)
 exact (d.it.keepT k1 (by decide)).keepT k2 (by decide)
def addOd (h:HistM) (A:Option Addr) (c:Nat) (p:OrdP × SH):HistM:=⟨h.tr,h.se,h.ob,h.pr,h.ev,(⟨A,h.od.1.n+1,c⟩,h.od.2++[p]),h.ma,h.wa⟩
theorem CpI.add_od (c:CpI Bh B3 w X h scs its) {e:OrdP} {hd:SH} {A:Option Addr} {c':Nat} (hb:Below X.heap.size X Y)
 (hs:Y.ownsRow X.heap.size 3 1 (.slice hd.A hd.n hd.c) hd.n (ints e.ts)) (ho:Z.ownsRow w.heap.size 66 2 (.slice A (h.od.1.n+1) c') (h.od.1.n+1) (h.od.2.flatMap odCs++odCs (e,hd))) (hg:Y.grownBy Z (Value.slice h.od.1.A h.od.1.n h.od.1.c).ownBlock) :
 Blk Z B3 28 h.cs∧CpI Bh B3 w (Z.setCell ⟨B3,5,none⟩ (.slice A (h.od.1.n+1) c')) (addOd h A c' (e,hd)) scs (its++[(ints e.ts,hd)]):=by
 have d:=c.on hb
 have k1:KeepT 66 Y Z:=KeepT.grown d.od hg
 have b3Z:=k1.blk d.b3 (by decide)
 have k2:=box_turn b3Z 5 (.slice A (h.od.1.n+1) c')
 refine⟨b3Z,?_⟩
 constructor
 ·exact (d.below.grown hg d.below.size fun g hg2=>(own_in_block d.od hg2).1).setCell (p:=⟨B3,5,none⟩) c.ne.2.2.1 _
 ·exact b3Z.set_ 5 _
 ·exact (k1.blk d.br (by decide)).far (p:=⟨B3,5,none⟩) (Ne.symm c.ne.2.1) _
 ·exact c.ne
 ·exact (d.nm.keepT k1 (by decide)).keepT k2 (by decide)
 ·exact k2.own (k1.own d.ev (by decide)) (by decide)
 ·have e2:(h.od.2++[(e,hd)]).flatMap odCs=h.od.2.flatMap odCs++odCs (e,hd):=by rw[List.flatMap_append,List.flatMap_cons,List.flatMap_nil,List.append_nil]
  show World.ownsRow _ _ _ _ _ _ ((h.od.2++[(e,hd)]).flatMap odCs)
  rw[e2]
  exact k2.own ho (by decide)
 ·exact k2.own (k1.own d.ma (by decide)) (by decide)
 ·exact k2.own (k1.own d.wa (by decide)) (by decide)
 ·exact (d.sc.keepT k1 (by decide)).keepT k2 (by decide)
 exact ((c.it.add hb c.below.size hs).keepT k1 (by decide)).keepT k2 (by decide)
def addMa (h:HistM) (A:Option Addr) (c:Nat) (p:MatP × SH):HistM:=⟨h.tr,h.se,h.ob,h.pr,h.ev,h.od,(⟨A,h.ma.1.n+1,c⟩,h.ma.2++[p]),h.wa⟩
theorem CpI.add_ma (c:CpI Bh B3 w X h scs its) {e:MatP} {hd:SH} {A:Option Addr} {c':Nat} (hb:Below X.heap.size X Y)
 (hs:Y.ownsRow X.heap.size 3 1 (.slice hd.A hd.n hd.c) hd.n (ints e.ts)) (ho:Z.ownsRow w.heap.size 69 4 (.slice A (h.ma.1.n+1) c') (h.ma.1.n+1) (h.ma.2.flatMap maCs++maCs (e,hd))) (hg:Y.grownBy Z (Value.slice h.ma.1.A h.ma.1.n h.ma.1.c).ownBlock) :
 Blk Z B3 28 h.cs∧CpI Bh B3 w (Z.setCell ⟨B3,6,none⟩ (.slice A (h.ma.1.n+1) c')) (addMa h A c' (e,hd)) scs (its++[(ints e.ts,hd)]):=by
 have d:=c.on hb
 have k1:KeepT 69 Y Z:=KeepT.grown d.ma hg
 have b3Z:=k1.blk d.b3 (by decide)
 have k2:=box_turn b3Z 6 (.slice A (h.ma.1.n+1) c')
 refine⟨b3Z,?_⟩
 constructor
 ·exact (d.below.grown hg d.below.size fun g hg2=>(own_in_block d.ma hg2).1).setCell (p:=⟨B3,6,none⟩) c.ne.2.2.1 _
 ·exact b3Z.set_ 6 _
 ·exact (k1.blk d.br (by decide)).far (p:=⟨B3,6,none⟩) (Ne.symm c.ne.2.1) _
 ·exact c.ne
 ·exact (d.nm.keepT k1 (by decide)).keepT k2 (by decide)
 ·exact k2.own (k1.own d.ev (by decide)) (by decide)
 ·exact k2.own (k1.own d.od (by decide)) (by decide)
 ·have e2:(h.ma.2++[(e,hd)]).flatMap maCs=h.ma.2.flatMap maCs++maCs (e,hd):=by rw[List.flatMap_append,List.flatMap_cons,List.flatMap_nil,List.append_nil]
  show World.ownsRow _ _ _ _ _ _ ((h.ma.2++[(e,hd)]).flatMap maCs)
  rw[e2]
  exact k2.own ho (by decide)
 ·exact k2.own (k1.own d.wa (by decide)) (by decide)
 ·exact (d.sc.keepT k1 (by decide)).keepT k2 (by decide)
 exact ((c.it.add hb c.below.size hs).keepT k1 (by decide)).keepT k2 (by decide)
def setWa (h:HistM) (A:Option Addr) (n c:Nat) (l:List WantP):HistM:=⟨h.tr,h.se,h.ob,h.pr,h.ev,h.od,h.ma,(⟨A,n,c⟩,l)⟩
theorem CpI.set_wa (c:CpI Bh B3 w X h scs its) {A:Option Addr} {n c':Nat} {l:List WantP} (hb:Below X.heap.size X Y)
 (ho:Y.ownsRow X.heap.size 72 2 (.slice A n c') n (l.flatMap waCs)) :
 Blk Y B3 28 h.cs∧CpI Bh B3 w (Y.setCell ⟨B3,7,none⟩ (.slice A n c')) (setWa h A n c' l) scs its:=by
 have d:=c.on hb
 have k2:=box_turn d.b3 7 (.slice A n c')
 refine⟨d.b3,?_⟩
 constructor
 ·exact d.below.setCell (p:=⟨B3,7,none⟩) c.ne.2.2.1 _
 ·exact d.b3.set_ 7 _
 ·exact d.br.far (p:=⟨B3,7,none⟩) (Ne.symm c.ne.2.1) _
 ·exact c.ne
 ·exact d.nm.keepT k2 (by decide)
 ·exact k2.own d.ev (by decide)
 ·exact k2.own d.od (by decide)
 ·exact k2.own d.ma (by decide)
 ·exact k2.own (own_mono ho c.below.size) (by decide)
 ·exact d.sc.keepT k2 (by decide)
 exact d.it.keepT k2 (by decide)
end
section
variable {m h : HistM} {i j k : Nat} {A : Option Addr} {c : Nat} {hd : SH}
theorem FewS.ev_next (s:FewS m h i j k) {e:EvP} (he:m.pl.ev[i]?=some e) (hn:h.ev.1.n<70):FewS m (addEv11 h A c (cutE e,hd)) (i+1) j k :=
 ⟨s.tr,s.se,s.ob,s.pr,by show (h.ev.2++[(cutE e,hd)]).map (·.1)=_;rw[List.map_append,s.ev,List.take_add_one,he,List.map_append];rfl,s.od,s.ma,s.wa,hn,s.n.2⟩
theorem FewS.od_next (s:FewS m h i j k) {e:OrdP} (he:m.pl.od[j]?=some e) (hn:h.od.1.n<14):FewS m (addOd h A c (cutO e,hd)) i (j+1) k :=
 ⟨s.tr,s.se,s.ob,s.pr,s.ev,by show (h.od.2++[(cutO e,hd)]).map (·.1)=_;rw[List.map_append,s.od,List.take_add_one,he,List.map_append];rfl,s.ma,s.wa,s.n.1,hn,s.n.2.2⟩
theorem FewS.ma_next (s:FewS m h i j k) {e:MatP} (he:m.pl.ma[k]?=some e) (hn:h.ma.1.n<20):FewS m (addMa h A c (cutM e,hd)) i j (k+1) :=
 ⟨s.tr,s.se,s.ob,s.pr,s.ev,s.od,by show (h.ma.2++[(cutM e,hd)]).map (·.1)=_;rw[List.map_append,s.ma,List.take_add_one,he,List.map_append];rfl,s.wa,s.n.1,s.n.2.1,hn⟩
end
theorem reads_cut_s {α:Type} {en:α→List Value} {s B n q:Nat} {W:World} {A:Option Addr} {l:List α} (hs:∀ x,(en x).length=s) (h:Reads W B s A n (l.flatMap en)) (hq:q≤n):Reads W B s A q ((l.take q).flatMap en):=by
 have:=reads_take h hq
 rwa [show (l.flatMap en).take (q * s)=(l.take q).flatMap en from ?_] at this
 have e:l.flatMap en=(l.take q).flatMap en++(l.drop q).flatMap en:=by rw[← List.flatMap_append,List.take_append_drop]
 rcases Nat.le_total l.length q with h1 | h1
 ·rw[List.take_of_length_le (l:=l) h1,List.take_of_length_le]
  rw[fm_len hs]
  exact Nat.mul_le_mul_right _ h1
 rw[e,List.take_append_of_le_length (by rw[fm_len hs,List.length_take,Nat.min_eq_left h1];exact Nat.le_refl _),List.take_of_length_le (by rw[fm_len hs,List.length_take,Nat.min_eq_left h1];exact Nat.le_refl _)]
theorem elem_se (W:World):(sizeOf (Tryz.prog.elem 58)).run Tryz.prog W=.ok 3 W:=by kernel_rfl
theorem cut_se (A:Option Addr) (len cap h:Nat) (hh:h≤cap) (W:World) :
 (Instr.slice 58 (.slice A len cap) none (some (.int .i64 (h:Int))) none).run Tryz.prog W=.ok (.slice A h cap) W:=by
 have e0:Value.slice (if cap=0 then A else A.map (·.add (0 * 3))) (h - 0) (cap - 0)=.slice A h cap:=by
  have:(if cap=0 then A else A.map (·.add (0 * 3)))=A:=by
   split
   ·rfl
   cases A<;>simp[Addr.add]
  rw[this,Nat.sub_zero,Nat.sub_zero]
 rw[run_slice_h W 58 A len cap (show Tryz.prog.underlying 58=some (.slice (Tryz.prog.elem 58)) by kernel_rfl) .i64 h (by omega) (by omega),elem_se]
 exact congrArg (fun v=>Result.ok v W) e0
theorem elem_in (W:World):(sizeOf (Tryz.prog.elem 40)).run Tryz.prog W=.ok 1 W:=by kernel_rfl
theorem cut_in (A:Option Addr) (len cap h:Nat) (hh:h≤cap) (W:World) :
 (Instr.slice 40 (.slice A len cap) none (some (.int .i64 (h:Int))) none).run Tryz.prog W=.ok (.slice A h cap) W:=by
 have e0:Value.slice (if cap=0 then A else A.map (·.add (0 * 1))) (h - 0) (cap - 0)=.slice A h cap:=by
  have:(if cap=0 then A else A.map (·.add (0 * 1)))=A:=by
   split
   ·rfl
   cases A<;>simp[Addr.add]
  rw[this,Nat.sub_zero,Nat.sub_zero]
 rw[run_slice_h W 40 A len cap (show Tryz.prog.underlying 40=some (.slice (Tryz.prog.elem 40)) by kernel_rfl) .i64 h (by omega) (by omega),elem_in]
 exact congrArg (fun v=>Result.ok v W) e0
theorem elem_wa (W:World):(sizeOf (Tryz.prog.elem 26)).run Tryz.prog W=.ok 2 W:=by kernel_rfl
theorem cut_wa (A:Option Addr) (len cap h:Nat) (hh:h≤cap) (W:World) :
 (Instr.slice 26 (.slice A len cap) none (some (.int .i64 (h:Int))) none).run Tryz.prog W=.ok (.slice A h cap) W:=by
 have e0:Value.slice (if cap=0 then A else A.map (·.add (0 * 2))) (h - 0) (cap - 0)=.slice A h cap:=by
  have:(if cap=0 then A else A.map (·.add (0 * 2)))=A:=by
   split
   ·rfl
   cases A<;>simp[Addr.add]
  rw[this,Nat.sub_zero,Nat.sub_zero]
 rw[run_slice_h W 26 A len cap (show Tryz.prog.underlying 26=some (.slice (Tryz.prog.elem 26)) by kernel_rfl) .i64 h (by omega) (by omega),elem_wa]
 exact congrArg (fun v=>Result.ok v W) e0
structure FwI (Bh B3:Nat) (w:World) (m h:HistM) (X:World) (i j k:Nat):Prop where
 cp:CpI Bh B3 w X h (h.ev.2.map scOf) (h.od.2.map toOf++h.ma.2.map tmOf)
 st:FewS m h i j k
 bh:Blk X Bh 28 m.cs
section
variable {Bh B3 : Nat} {w X Y Z : World} {m h : HistM} {i j k : Nat} {A : Option Addr} {c' : Nat} {hd : SH}
theorem FwI.on (c:FwI Bh B3 w m h X i j k) (hb:Below X.heap.size X Y):FwI Bh B3 w m h Y i j k:=⟨c.cp.on hb,c.st,c.bh.below hb c.bh.lt⟩
theorem FwI.to {i2 j2 k2:Nat} (c:FwI Bh B3 w m h X i j k) (e1:i2=i) (e2:j2=j) (e3:k2=k):FwI Bh B3 w m h X i2 j2 k2:=by subst e1;subst e2;subst e3;exact c
theorem FwI.ev (c:FwI Bh B3 w m h X i 0 0) {e:EvP} (he:m.pl.ev[i]?=some e) (hb:Below X.heap.size X Y)
 (hs:Y.ownsRow X.heap.size 64 3 (.slice hd.A hd.n hd.c) hd.n ((cutE e).scan.flatMap seCs)) (hl:i<70) (ho:Z.ownsRow w.heap.size 60 9 (.slice A (h.ev.1.n+1) c') (h.ev.1.n+1) (h.ev.2.flatMap evCs++evCs (cutE e,hd))) (hg:Y.grownBy Z (Value.slice h.ev.1.A h.ev.1.n h.ev.1.c).ownBlock) :
 Blk Z B3 28 h.cs∧FwI Bh B3 w m (addEv11 h A c' (cutE e,hd)) (Z.setCell ⟨B3,4,none⟩ (.slice A (h.ev.1.n+1) c')) (i+1) 0 0:=by
 obtain⟨h1,h2⟩:=c.cp.add_ev hb hs ho hg
 have k1:KeepT 60 Y Z:=KeepT.grown (c.cp.on hb).ev hg
 have hn:h.ev.1.n<70:=by
  have e1:=own_long evCs_len (by omega) c.cp.ev
  have e2:=congrArg List.length c.st.ev
  rw[List.length_map,List.length_map,List.length_take] at e2
  omega
 refine⟨h1,⟨?_,c.st.ev_next he hn,(k1.blk (c.bh.below hb c.bh.lt) (by decide)).far (p:=⟨B3,4,none⟩) (Ne.symm c.cp.ne.1) _⟩⟩
 show CpI _ _ _ _ _ _ _
 rw[← show (h.ev.2++[(cutE e,hd)]).map scOf=h.ev.2.map scOf++[((cutE e).scan.flatMap seCs,hd)] by rw[List.map_append];rfl] at h2
 exact h2
theorem FwI.od (c:FwI Bh B3 w m h X i j 0) {e:OrdP} (he:m.pl.od[j]?=some e) (hb:Below X.heap.size X Y)
 (hs:Y.ownsRow X.heap.size 3 1 (.slice hd.A hd.n hd.c) hd.n (ints (cutO e).ts)) (hl:j<14) (ho:Z.ownsRow w.heap.size 66 2 (.slice A (h.od.1.n+1) c') (h.od.1.n+1) (h.od.2.flatMap odCs++odCs (cutO e,hd))) (hg:Y.grownBy Z (Value.slice h.od.1.A h.od.1.n h.od.1.c).ownBlock) :
 Blk Z B3 28 h.cs∧FwI Bh B3 w m (addOd h A c' (cutO e,hd)) (Z.setCell ⟨B3,5,none⟩ (.slice A (h.od.1.n+1) c')) i (j+1) 0:=by
 obtain⟨h1,h2⟩:=c.cp.add_od hb hs ho hg
 have k1:KeepT 66 Y Z:=KeepT.grown (c.cp.on hb).od hg
 have hn:h.od.1.n<14:=by
  have e1:=own_long odCs_len (by omega) c.cp.od
  have e2:=congrArg List.length c.st.od
  rw[List.length_map,List.length_map,List.length_take] at e2
  omega
 refine⟨h1,⟨?_,c.st.od_next he hn,(k1.blk (c.bh.below hb c.bh.lt) (by decide)).far (p:=⟨B3,5,none⟩) (Ne.symm c.cp.ne.1) _⟩⟩
 show CpI _ _ _ _ _ _ _
 have e0:h.ma.2.map tmOf=[]:=by have:=c.st.ma;simp at this;rw[this];rfl
 rw[e0,List.append_nil,← show (h.od.2++[(cutO e,hd)]).map toOf=h.od.2.map toOf++[(ints (cutO e).ts,hd)] by rw[List.map_append];rfl] at h2
 show CpI _ _ _ _ _ _ ((h.od.2++[(cutO e,hd)]).map toOf++h.ma.2.map tmOf)
 rw[e0,List.append_nil]
 exact h2
theorem FwI.ma (c:FwI Bh B3 w m h X i j k) {e:MatP} (he:m.pl.ma[k]?=some e) (hb:Below X.heap.size X Y)
 (hs:Y.ownsRow X.heap.size 3 1 (.slice hd.A hd.n hd.c) hd.n (ints (cutM e).ts)) (hl:k<20) (ho:Z.ownsRow w.heap.size 69 4 (.slice A (h.ma.1.n+1) c') (h.ma.1.n+1) (h.ma.2.flatMap maCs++maCs (cutM e,hd))) (hg:Y.grownBy Z (Value.slice h.ma.1.A h.ma.1.n h.ma.1.c).ownBlock) :
 Blk Z B3 28 h.cs∧FwI Bh B3 w m (addMa h A c' (cutM e,hd)) (Z.setCell ⟨B3,6,none⟩ (.slice A (h.ma.1.n+1) c')) i j (k+1):=by
 obtain⟨h1,h2⟩:=c.cp.add_ma hb hs ho hg
 have k1:KeepT 69 Y Z:=KeepT.grown (c.cp.on hb).ma hg
 have hn:h.ma.1.n<20:=by
  have e1:=own_long maCs_len (by omega) c.cp.ma
  have e2:=congrArg List.length c.st.ma
  rw[List.length_map,List.length_map,List.length_take] at e2
  omega
 refine⟨h1,⟨?_,c.st.ma_next he hn,(k1.blk (c.bh.below hb c.bh.lt) (by decide)).far (p:=⟨B3,6,none⟩) (Ne.symm c.cp.ne.1) _⟩⟩
 show CpI _ _ _ _ _ _ _
 rw[List.append_assoc,← show (h.ma.2++[(cutM e,hd)]).map tmOf=h.ma.2.map tmOf++[(ints (cutM e).ts,hd)] by rw[List.map_append];rfl] at h2
 exact h2
end
def FewIs (H:Hist) (w:World) (e:Ending) (w':World):Prop:=∃ n:HistM,e=.returned (.agg #[.slice n.tr.1.A n.tr.1.n n.tr.1.c,.slice n.se.1.A n.se.1.n n.se.1.c,.slice n.ob.1.A n.ob.1.n n.ob.1.c,.slice n.pr.1.A n.pr.1.n n.pr.1.c,.slice n.ev.1.A n.ev.1.n n.ev.1.c,.slice n.od.1.A n.od.1.n n.od.1.c,.slice n.ma.1.A n.ma.1.n n.ma.1.c,.slice n.wa.1.A n.wa.1.n n.wa.1.c])∧HOwn w.heap.size w' n∧n.pl=H∧Below w.heap.size w w'
end Go.Proofs.YtmkknbonmameoaaGreatDoor.F15
namespace Go.Proofs.YtmkknbonmameoaaGreatDoor
open Go.RowKit Go.Shelf
set_option maxRecDepth 100000 in
set_option maxHeartbeats 16000000 in
theorem small15_any (w:World):Calls Tryz.prog 24 #[] w (SmallIs w):=by
 have HL:=zh (small_laid w _ _ _ _ _ rfl rfl rfl rfl rfl)
 go_enter Tryz.func24,Tryz.ntmps24
 go_wp2_with fail
 generalize (((((w.alloc (.cells #[.slice (some ⟨w.heap.size+1,0,none⟩) 1 1,.slice (some ⟨w.heap.size+1+1,0,none⟩) 1 1,.slice (some ⟨w.heap.size+1+1+1,0,none⟩) 1 1,.slice none 0 0,.slice (some ⟨w.heap.size+1+1+1+1,0,none⟩) 3 3,.slice none 0 0,.slice none 0 0,.slice none 0 0] 28)).alloc (.cells #[.string ⟨#[116]⟩] 9)).alloc (.cells #[.string ⟨#[115]⟩] 9)).alloc (.cells #[.string ⟨#[120]⟩] 9)).alloc (.cells #[.int .i64 1,.int .i64 0,.int .i64 0,.int .i64 1,.int .i64 0,.int .i64 0,.int .i64 0,.int .i64 0,.slice none 0 0,.int .i64 2,.int .i64 0,.int .i64 0,.int .i64 0,.int .i64 0,.int .i64 0,.int .i64 1,.int .i64 0,.slice none 0 0,.int .i64 5,.int .i64 0,.int .i64 0,.int .i64 0,.int .i64 0,.int .i64 0,.int .i64 0,.int .i64 0,.slice none 0 0] 60))=wf at *
 obtain⟨r0,r1,r2,r3,r4,r5,r6,r7⟩:=c8 HL.out.2.2
 exact bodyPost_ret (v:=.agg #[.slice (some ⟨w.heap.size+1,0,none⟩) 1 1,.slice (some ⟨w.heap.size+1+1,0,none⟩) 1 1,.slice (some ⟨w.heap.size+1+1+1,0,none⟩) 1 1,.slice none 0 0,.slice (some ⟨w.heap.size+1+1+1+1,0,none⟩) 3 3,.slice none 0 0,.slice none 0 0,.slice none 0 0]) (by simp[results,Tryz.results24,go_sem,r0,r1,r2,r3,r4,r5,r6,r7]) rfl ⟨w.heap.size+1,rfl,HL.out.1,HL.out.2.1⟩
end Go.Proofs.YtmkknbonmameoaaGreatDoor
