import Derived.Test.YtmkknbonmameoaaGreatDoorQ5
import Derived.StillTailTactics
import Derived.Deep.LoopGhost
import Derived.Sort.OwnSortedInts
import Derived.Test.YtmkknbonmameoaaGreatDoorQ32
import Derived.Test.YtmkknbonmameoaaGreatDoorQ27
import Derived.Test.YtmkknbonmameoaaGreatDoorQ16
import Derived.Test.YtmkknbonmameoaaGreatDoorQ17
-- holds: YtmkknbonmameoaaGreatDoorHJxb YtmkknbonmameoaaGreatDoorHZs YtmkknbonmameoaaGreatDoorHZt
namespace Go.Proofs.YtmkknbonmameoaaGreatDoor
open Go.RowKit Go.Shelf
theorem less_int11 (a b:Int) (w:World):Calls Tryz.prog 43 #[.int .i64 a,.int .i64 b] w fun e w'=>e=.returned (.bool (decide (a<b)))∧Below w.heap.size w w':=by
 have hn:∀ (x:Int) (w:World),Calls Tryz.prog 89 #[.int .i64 x] w fun e w'=>e=.returned (.bool false)∧w=w':=by
  intro x w
  go_enter Tryz.func89,Tryz.ntmps89
  go_wp2_with fail
  go_ret
  exact⟨by simp,rfl⟩
 have H:=zh hn
 clear hn
 go_enter Tryz.func43,Tryz.ntmps43
 go_wp2_with fail
 refine (H.out a w).mono ?_
 rintro e w1 ⟨rfl,rfl⟩
 go_wp2_with fail
 go_ret
 exact⟨rfl,Below.refl _ _⟩
set_option maxRecDepth 100000 in
set_option maxHeartbeats 2000000 in
theorem sorted_int11 (A:Option Addr) (n c:Nat) (zs:List Int) (hn:n≤1000000) (hz:zs.Pairwise (· < ·)) (w:World) (hR:Reads w w.heap.size 1 A n (ints zs)) :
 Calls Tryz.prog 22 #[.slice A n c] w fun e w'=>e=.returned (.bool true)∧Below w.heap.size w w':=by
 have HR:=zh hR
 have HL:=zh (ints_len hR)
 have HZ:=zh hz
 clear hR hz
 go_enter Tryz.func22,Tryz.ntmps22
 go_wp2_with fail
 go_loopg [3] n (fun gg i wr=>∃ z:Int,z=(n:Int) - 1 - ((n - gg:Nat):Int)∧gg≤n∧i=.int .i64 z∧Hid (Below w.heap.size w wr))
 case atStart=>exact⟨_,by omega,Nat.le_refl _,rfl,Below.refl _ _⟩
 obtain⟨z,hzz,hgn,rfl,bk⟩:=hrel
 by_cases hpos:0<z
 ·obtain⟨k,hk⟩:∃ k:Nat,z=((k+1:Nat):Int):=⟨(z - 1).toNat,by omega⟩
  subst hk
  have hkn:k+1<n:=by omega
  obtain⟨q,hq⟩:∃ q,zs[k+1]?=some q:=⟨zs[k+1]'(by rw[HL.out];omega),List.getElem?_eq_getElem _⟩
  obtain⟨p,hp⟩:∃ p,zs[k]?=some p:=⟨zs[k]'(by rw[HL.out];omega),List.getElem?_eq_getElem _⟩
  have hord:decide (q<p)=false:=by
   obtain⟨i1,e1⟩:=List.getElem?_eq_some_iff.1 hq
   obtain⟨i2,e2⟩:=List.getElem?_eq_some_iff.1 hp
   have:=List.pairwise_iff_getElem.1 HZ.out k (k+1) i2 i1 (by omega)
   rw[e1,e2] at this
   exact decide_eq_false (by omega)
  obtain⟨b,o,rfl,hb,g0⟩:=int_at (HR.out.below bk.out) hq
  obtain⟨b2,o2,hA2,hb2,x0⟩:=int_at (HR.out.below bk.out) hp
  injection hA2 with hA2
  injection hA2 with e1 e2 _
  subst e1;subst e2
  have HG:=zh hzz
  have HO:=zh hord
  clear hq hp hzz hord
  have hs1:IntKind.i64.wrap (k:Int)=(k:Int):=by rw[IntKind.wrap_i64];omega
  have hi1:(0:Int)≤(k:Int)+1:=by omega
  have ht1:((k:Int)+1).toNat=k+1:=by omega
  have hi2:(k:Int)+1<(n:Int):=by omega
  have hi3:(0:Int)≤(k:Int):=by omega
  have hi4:(k:Int)<(n:Int):=by omega
  go_wp2_with fail
  go_still_tail 9,(by kernel_rfl)
  change wpList _ _ _ _ _ wr.drew
  have HB:Hid (Below w.heap.size w wr.drew):=bk.out.drew
  clear bk g0 x0 hs1 ht1
  generalize wr.drew=wd at *
  go_wp2_with fail
  refine (less_int11 q p _).mono ?_
  rintro e w2 ⟨rfl,b2⟩
  rw[HO.out]
  have HB2:Hid (Below w.heap.size w w2):=HB.out.trans (b2.mono HB.out.size)
  clear b2
  go_wp2_with fail
  go_roundg (gk - 1)
  case measure=>have:=HG.out;omega
  case rel=>exact⟨k,by have:=HG.out;omega,by omega,by go_num,HB2⟩
 go_wp2_with fail
 go_ret
 exact⟨rfl,bk.out⟩
open Go.Sort in
section
variable {H : Hist}
end
theorem GotI.all {w X Y:World} {xs ys:List Int} {v v':Value} (h:GotI w xs v X) (hown:Y.ownsRow w.heap.size 3 1 v' (xs.length+ys.length) (ints xs++ints ys)) (hg:X.grownBy Y v.ownBlock):GotI w (xs++ys) v' Y :=
 ⟨by rw[List.length_append,ints_append];exact hown,h.below.grown hg h.below.size fun k hk=>own_block11 h.own k hk⟩
end Go.Proofs.YtmkknbonmameoaaGreatDoor
namespace Go.Proofs.YtmkknbonmameoaaGreatDoor
open Go.RowKit Go.Shelf
section
variable {H : Hist} {e : EvP} {k : Nat} {l : List EvP} {C : Int → Bool} {ks : List (Int × Int)} {p : Int × Int} {x t : Int}
def wcZ (C:Int→Bool) (l:List EvP):List (Int × Int):=(l.filter fun e=>decide (e.kd=2)&&C e.t).map fun e=>(e.t,e.o)
theorem wcZ_yes (h:l[k]?=some e) (hk:e.kd=2) (hc:C e.t=true):wcZ C (l.take (k+1))=wcZ C (l.take k)++[(e.t,e.o)]:=by
 unfold wcZ
 rw[takeZ h,List.filter_append,List.map_append]
 simp[hk,hc]
theorem wcZ_no (h:l[k]?=some e) (hn:¬(e.kd=2∧C e.t=true)):wcZ C (l.take (k+1))=wcZ C (l.take k):=by
 unfold wcZ
 rw[takeZ h,List.filter_append,List.map_append]
 by_cases h2:e.kd=2
 ·have:C e.t=false:=by rw[Bool.eq_false_iff];exact fun h=>hn ⟨h2,h⟩
  simp[this]
 simp[h2]
theorem wcZ_len (C:Int→Bool) (l:List EvP):(wcZ C l).length≤l.length:=by
 unfold wcZ
 rw[List.length_map]
 exact List.length_filter_le _ _
def lsZ (ks:List (Int × Int)) (x:Int):List Int:=firstsF [] ((ks.filter fun p=>decide (p.2=x)).map (·.1))
theorem mem_lsZ:t∈lsZ ks x↔(t,x)∈ks:=by
 unfold lsZ
 rw[mem_firstsF]
 simp only[List.mem_map,List.mem_filter,decide_eq_true_eq,List.not_mem_nil,false_or]
 constructor
 ·rintro⟨⟨a,b⟩,⟨h1,h2⟩,h3⟩
  simp only at h2 h3
  rw[← h2,← h3]
  exact h1
 intro h
 exact⟨(t,x),⟨h,rfl⟩,rfl⟩
theorem lsZ_nodup:(lsZ ks x).Nodup:=firstsF_nodup (by simp)
theorem lsZ_other (h:p.2≠x):lsZ (ks++[p]) x=lsZ ks x:=by
 unfold lsZ
 rw[List.filter_append]
 simp[h]
theorem lsZ_snoc:lsZ (ks++[p]) p.2=addI (lsZ ks p.2) p.1:=by
 unfold lsZ
 rw[List.filter_append,List.map_append,firstsF_append]
 simp[firstsF]
theorem lsZ_old (h:p∈ks):lsZ (ks++[p]) x=lsZ ks x:=by
 by_cases hx:p.2=x
 ·subst hx
  rw[lsZ_snoc,addI_in (mem_lsZ.2 h)]
 exact lsZ_other hx
theorem lsZ_new (h:p ∉ ks):lsZ (ks++[p]) p.2=lsZ ks p.2++[p.1]:=by rw[lsZ_snoc,addI_out fun hm=>h (mem_lsZ.1 hm)]
theorem lsZ_len (ks:List (Int × Int)) (x:Int):(lsZ ks x).length≤ks.length:=by
 have h1:∀ (r l:List Int),(firstsF l r).length≤l.length+r.length:=by
  intro r
  induction r with
  | nil=>intro l;simp[firstsF]
  | cons n r ih =>
   intro l
   rw[firstsF_cons]
   have h2:=ih (addI l n)
   have h3:(addI l n).length≤l.length+1:=by unfold addI;split<;>simp
   rw[List.length_cons]
   omega
 unfold lsZ
 have h2:=h1 ((ks.filter fun p=>decide (p.2=x)).map (·.1)) []
 have h3:=List.length_filter_le (fun p:Int × Int=>decide (p.2=x)) ks
 rw[List.length_map] at h2
 simp only[List.length_nil] at h2
 omega
def cmZ (H:Hist) (t:Int):Bool:=hasB H t 5
def cmF (l:List EvP) (u:Nat):Bool:=l.any fun e=>decide (e.t=(u:Int))&&decide (e.kd=5)
theorem cmF_next (h:l[k]?=some e) (u:Nat):cmF (l.take (k+1)) u=(cmF (l.take k) u || (decide (e.t=(u:Int))&&decide (e.kd=5))):=by
 unfold cmF
 rw[takeZ h,List.any_append]
 simp
theorem writersZ (hI:InZ H) (x:Int):(lsZ (wcZ (cmZ H) H.ev) x).mergeSort (fun a b=>decide (a≤b))=ruWriters H x:=by
 have hp:((lsZ (wcZ (cmZ H) H.ev) x).mergeSort fun a b=>decide (a≤b)).Perm (ruWriters H x):=by
  refine (List.perm_ext_iff_of_nodup ((List.mergeSort_perm _ _).nodup_iff.2 lsZ_nodup) (wr_nodupZ x)).2 fun u=>?_
  rw[List.mem_mergeSort,mem_lsZ,writers_in]
  unfold wcZ cmZ ruW
  simp only[List.mem_map,List.mem_filter,Bool.and_eq_true,decide_eq_true_eq,List.any_eq_true,Prod.mk.injEq]
  constructor
  ·rintro⟨e,⟨he,h2,h5⟩,h3,h4⟩
   have:=hI.et e he
   exact⟨by omega,⟨e,he,h2,h3,h4⟩,by rw[← h3];exact h5⟩
  rintro⟨_,⟨e,he,h2,h3,h4⟩,h5⟩
  exact⟨e,⟨he,h2,by rw[h3];exact h5⟩,h3,h4⟩
 have hup:((lsZ (wcZ (cmZ H) H.ev) x).mergeSort fun a b=>decide (a≤b)).Pairwise (·≤·):=by
  have:=List.pairwise_mergeSort (le:=fun x y:Int=>decide (x≤y)) (by simp;omega) (by simp;omega) (lsZ (wcZ (cmZ H) H.ev) x)
  exact this.imp fun h=>by simpa using h
 exact hp.eq_of_pairwise (fun a b _ _ h1 h2=>Int.le_antisymm h1 h2) hup ((writers_up x).imp fun h=>Int.le_of_lt h)
end
theorem madeZ_rows (n:Nat):madeCells (Value.slice none 0 0).cells (n * 1)=((List.replicate n (⟨none,0,0⟩:SH)).flatMap slCs).toArray:=by
 apply Array.ext
 ·rw[size_madeCells,List.size_toArray,fm_len slCs_len,List.length_replicate]
 intro j h1 h2
 have hz:(Value.slice none 0 0).cells=#[.slice none 0 0]:=by simp[Value.cells]
 have hj:j<n:=by rw[size_madeCells] at h1;omega
 have h3:((List.replicate n (⟨none,0,0⟩:SH)).flatMap slCs)[j * 1+0]?=some (.slice none 0 0):=fm_at slCs_len (by rw[List.getElem?_replicate,if_pos hj]) rfl
 rw[Nat.mul_one,Nat.add_zero] at h3
 have h4:=(List.getElem?_eq_some_iff.1 h3).2
 refine Eq.trans ?_ (show (Value.slice none 0 0)=_ from h4.symm)
 simp only[madeCells,hz,Array.getElem_map,Array.getElem_range]
 simp[Nat.mod_one]
theorem rowsZ_make (n:Nat) (hn:n≤1000000) (W:World) :
 (Instr.makeSlice 86 (.int .i64 (n:Int)) (.int .i64 (n:Int))).run Tryz.prog W=.ok (.slice (some ⟨W.heap.size,0,none⟩) n n) (W.alloc (.cells ((List.replicate n (⟨none,0,0⟩:SH)).flatMap slCs).toArray 40)):=by
 obtain⟨i0,hi,hz0,hz1,hz2⟩:=info_parts rr_info
 have hr:=run_make (P:=Tryz.prog) W 86 40 i0 _ Tryz.underlying86 hi hz0 .i64 .i64 n n (by omega) (by omega) (by rw[hz2];omega) (by omega)
 simp only[Int.toNat_natCast] at hr
 rw[hz1,madeZ_rows] at hr
 exact hr
theorem blk_headZ {X:World} {Wb x:Nat} {hs:List SH} {r:SH} (h:Blk X Wb 40 (hs.flatMap slCs).toArray) (hx:hs[x]?=some r):X.cell? ⟨Wb,x,none⟩=some (.slice r.A r.n r.c):=by
 have:=fm_at slCs_len hx (show (slCs r)[0]?=some (.slice r.A r.n r.c) from rfl)
 rw[show x * 1+0=x by omega] at this
 rw[h.cell,List.getElem?_toArray]
 exact this
theorem blk_headZ_set {X:World} {Wb x:Nat} {hs:List SH} {r:SH} (h:Blk X Wb 40 (hs.flatMap slCs).toArray) (hx:hs[x]?=some r) (v:SH):Blk (X.setCell ⟨Wb,x,none⟩ (.slice v.A v.n v.c)) Wb 40 ((hs.set x v).flatMap slCs).toArray:=by
 have h9:=h.set_ x (.slice v.A v.n v.c)
 have:=fm_set (j:=0) (x':=v) (u:=.slice v.A v.n v.c) slCs_len hx (by omega) rfl
 rw[show x * 1+0=x by omega] at this
 rwa [List.setIfInBounds_toArray,this] at h9
open Go.Sort in
theorem sortZ_any {B n c:Nat} {A:Option Addr} {xs:List Int} {W:World} (ho:W.ownsRow B 3 1 (.slice A n c) n (ints xs)) (hn:xs.length=n) (hl:n≤100000) :
 Calls Tryz.prog 57 #[.slice A n c] W fun e W'=>e=.returned (.tuple #[])∧W'.ownsRow B 3 1 (.slice A n c) n (ints (xs.mergeSort fun x y=>decide (x≤y)))∧W.grownBy W' (Value.slice A n c).ownBlock:=by
 subst hn
 have hl2:(xs.mergeSort fun x y=>decide (x≤y)).length=xs.length:=List.length_mergeSort _
 rcases ho.2 with ⟨h0,h1⟩ | ⟨g,cap,cur,hv,hB,hg,hnc,hcm,hsz,ht⟩
 ·injection h0 with hA hn0 hc0
  subst hA
  have hx:xs=[]:=List.length_eq_zero_iff.1 h1
  subst hx
  refine (Tryz.slices_Sort_int_none none c W).mono ?_
  rintro e W' ⟨rfl,rfl⟩
  refine⟨rfl,?_,⟨rfl,rfl,rfl,Nat.le_refl _,fun _ _ _=>rfl⟩⟩
  rw[List.mergeSort_nil]
  exact ho
 injection hv with hA _ hc
 subst hA;subst hc
 rw[Nat.mul_one] at ht
 refine (Tryz.slices_Sort_int g 0 c xs W (holds_of_blockI hg ht) (Array.getElem?_eq_some_iff.1 hg).1 (by omega)).mono ?_
 rintro e W' ⟨rfl,n,os,rfl⟩
 exact⟨rfl,ownsRow_sortedI hl2 hB hg hnc hcm hsz,grownBy_sortedI _⟩
section
variable {t u : TypeId} {s B C i j : Nat} {X Y : World} {ps : List (List Value × SH)} {xs : List Value} {hd hd' : SH}
theorem RG.putZ (h:RG t s B X ps) (hi:ps[i]?=some (xs,hd)) {ys:List Value} {m:Nat} {A':Option Addr} {c':Nat} (ho:Y.ownsRow B t s (.slice A' m c') m ys) (hg:X.grownBy Y (Value.slice hd.A hd.n hd.c).ownBlock)
 (hat:(Value.slice A' m c').ownBlock=(Value.slice hd.A hd.n hd.c).ownBlock∨(Value.slice A' m c').ownBlock=some X.heap.size):RG t s B Y (ps.set i (ys,⟨A',m,c'⟩)):=by
 have hlt:=(List.getElem?_eq_some_iff.1 hi).1
 have at_:∀ {k:Nat} {p:List Value × SH},(ps.set i (ys,(⟨A',m,c'⟩:SH)))[k]?=some p→(k=i∧p=(ys,⟨A',m,c'⟩))∨(k≠i∧ps[k]?=some p):=by
  intro k p hp
  by_cases e:i=k
  ·subst e
   rw[List.getElem?_set_self hlt] at hp
   injection hp with hp
   exact .inl ⟨rfl,hp.symm⟩
  rw[List.getElem?_set_ne e] at hp
  exact .inr ⟨fun e2=>e e2.symm,hp⟩
 have other:∀ {k:Nat} {p:List Value × SH},k≠i→ps[k]?=some p→∀ g,(Value.slice p.2.A p.2.n p.2.c).ownBlock=some g→(Value.slice A' m c').ownBlock≠some g:=by
  intro k p hk hp g hg e
  rcases hat with hat | hat
  ·rw[hat] at e
   exact h.nd k i p (xs,hd) hp hi hk g hg e
  rw[hat] at e
  injection e with e
  have:=(own_in_block (h.own k p hp) hg).2
  omega
 constructor
 ·intro k p hp
  rcases at_ hp with ⟨_,rfl⟩ | ⟨hk,hp⟩
  ·exact ho
  exact ((Keep.refl (fun j=>(Value.slice hd.A hd.n hd.c).ownBlock≠some j) X).grown hg fun g hg=>.inr fun h=>h hg).own (h.own k p hp) fun g hg2 e=>h.nd k i p (xs,hd) hp hi hk g hg2 e
 intro k l p q hp hq hkl g hg hg2
 rcases at_ hp with ⟨e1,rfl⟩ | ⟨e1,hp⟩
 ·rcases at_ hq with ⟨e2,rfl⟩ | ⟨e2,hq⟩
  ·omega
  exact other e2 hq g hg2 hg
 rcases at_ hq with ⟨e2,rfl⟩ | ⟨e2,hq⟩
 ·exact other e1 hp g hg hg2
 exact h.nd k l p q hp hq hkl g hg hg2
theorem RG.keepM {M:Nat} (h:RG t s B X ps) (hk:Keep (fun j=>j≠M) X Y) (hM:∀ {g:Nat} {t:TypeId} {cs:Array Value},Blk X g t cs→g≠M):RG t s B Y ps :=
 ⟨fun i p hp=>hk.own (h.own i p hp) fun g hg=>by obtain⟨_,_,cur,hb⟩:=own_in (h.own i p hp) hg;exact hM hb,h.nd⟩
end
end Go.Proofs.YtmkknbonmameoaaGreatDoor
namespace Go.Proofs.YtmkknbonmameoaaGreatDoor
open Go.RowKit Go.Shelf
theorem intsZ_one (l:List Int):∀ u∈ints l,u.oneCell'=true:=by
 intro u hu
 unfold ints at hu
 obtain⟨x,_,rfl⟩:=List.mem_map.1 hu
 rfl
structure LkI (m:HistM) (w:World) (hs:List SH) (f:Nat→Bool) (X:World):Prop where
 bh:Blk X w.heap.size 28 m.cs
 wb:Blk X (w.heap.size+1) 40 (hs.flatMap slCs).toArray
 bl:Blk X (w.heap.size+2) 88 #[.slice m.tr.1.A m.tr.1.n m.tr.1.c,.slice m.se.1.A m.se.1.n m.se.1.c,.slice m.ob.1.A m.ob.1.n m.ob.1.c,.slice m.pr.1.A m.pr.1.n m.pr.1.c,.slice m.ev.1.A m.ev.1.n m.ev.1.c,.slice m.od.1.A m.od.1.n m.od.1.c,.slice m.ma.1.A m.ma.1.n m.ma.1.c,.slice m.wa.1.A m.wa.1.n m.wa.1.c,.slice (some ⟨w.heap.size+1,0,none⟩) m.ob.1.n m.ob.1.n]
 cb:Blk X (w.heap.size+3) 4 (boolsZ (bsZ f m.tr.1.n)).toArray
 below:Below w.heap.size w X
 sz:w.heap.size+4≤X.heap.size
structure WlI (m:HistM) (w:World) (ks:List (Int × Int)) (ps:List (List Value × SH)) (Bx M:Nat) (X:World):Prop where
 lk:LkI m w (ps.map (·.2)) (cmF m.pl.ev) X
 rg:RG 3 1 (w.heap.size+4) X ps
 row:ps.length=m.ob.1.n∧∀ (x:Nat) (p:List Value × SH),ps[x]?=some p→p.1=ints (lsZ ks (x:Int))
 box:Blk X Bx 142 #[.map (some M)]
 map:CntM 110 keyZ okZ M ks X
 mlo:w.heap.size+4≤M
section
variable {m : HistM} {w X Y : World} {hs : List SH} {f g : Nat → Bool} {ks : List (Int × Int)} {ps : List (List Value × SH)} {Bx M : Nat}
theorem LkI.on (h:LkI m w hs f X) (hb:Below X.heap.size X Y):LkI m w hs f Y:=⟨h.bh.below hb h.bh.lt,h.wb.below hb h.wb.lt,h.bl.below hb h.bl.lt,h.cb.below hb h.cb.lt,h.below.trans (hb.mono h.below.size),Nat.le_trans h.sz hb.size⟩
theorem LkI.cset (h:LkI m w hs f X) {tn:Nat} (v:Bool) (hn:g tn=v∧∀ u,u<m.tr.1.n→u≠tn→g u=f u):LkI m w hs g (X.setCell ⟨w.heap.size+3,tn,none⟩ (.bool v)):=by
 refine⟨h.bh.far (p:=⟨w.heap.size+3,tn,none⟩) (by show w.heap.size≠w.heap.size+3;omega) _,h.wb.far (p:=⟨w.heap.size+3,tn,none⟩) (by show w.heap.size+1≠w.heap.size+3;omega) _,h.bl.far (p:=⟨w.heap.size+3,tn,none⟩) (by show w.heap.size+2≠w.heap.size+3;omega) _,?_,h.below.setCell (p:=⟨w.heap.size+3,tn,none⟩) (by show w.heap.size≤w.heap.size+3;omega) _,by rw[World.size_setCell];exact h.sz⟩
 have h9:=h.cb.boolZ (tn:=tn) v
 rwa [bsZ_set hn.1 hn.2] at h9
theorem LkI.keepM (h:LkI m w hs f X) (hk:Keep (fun j=>j≠M) X Y) (hM:w.heap.size+4≤M):LkI m w hs f Y :=
 ⟨hk.blk h.bh (by omega),hk.blk h.wb (by omega),hk.blk h.bl (by omega),hk.blk h.cb (by omega),h.below.trans (hk.below h.below.size fun j hj=>by omega),Nat.le_trans h.sz hk.size⟩
theorem LkI.keepT {t:TypeId} (h:LkI m w hs f X) (hk:KeepT t X Y) (h1:28≠t) (h2:40≠t) (h3:88≠t) (h4:4≠t) (hb:Below w.heap.size w Y) (hs4:w.heap.size+4≤Y.heap.size):LkI m w hs f Y :=
 ⟨hk.blk h.bh h1,hk.blk h.wb h2,hk.blk h.bl h3,hk.blk h.cb h4,hb,hs4⟩
theorem LkI.wset (h:LkI m w hs f X) {x:Nat} {r:SH} (hx:hs[x]?=some r) (v:SH):LkI m w (hs.set x v) f (X.setCell ⟨w.heap.size+1,x,none⟩ (.slice v.A v.n v.c)) :=
 ⟨h.bh.far (p:=⟨w.heap.size+1,x,none⟩) (by show w.heap.size≠w.heap.size+1;omega) _,blk_headZ_set h.wb hx v,h.bl.far (p:=⟨w.heap.size+1,x,none⟩) (by show w.heap.size+2≠w.heap.size+1;omega) _,h.cb.far (p:=⟨w.heap.size+1,x,none⟩) (by show w.heap.size+3≠w.heap.size+1;omega) _,h.below.setCell (p:=⟨w.heap.size+1,x,none⟩) (by show w.heap.size≤w.heap.size+1;omega) _,by rw[World.size_setCell];exact h.sz⟩
theorem WlI.on (h:WlI m w ks ps Bx M X) (hb:Below X.heap.size X Y):WlI m w ks ps Bx M Y:=⟨h.lk.on hb,h.rg.on hb,h.row,h.box.below hb h.box.lt,h.map.on hb,h.mlo⟩
theorem WlI.asked {p:Int × Int} (h:WlI m w ks ps Bx M X) (hk:Keep (fun j=>j≠M) X Y) (hm:CntM 110 keyZ okZ M (ks++[p]) Y) (hp:p∈ks):WlI m w (ks++[p]) ps Bx M Y :=
 ⟨h.lk.keepM hk h.mlo,h.rg.keepM hk fun hb=>h.map.blk_ne hb,⟨h.row.1,fun x q hq=>by rw[lsZ_old hp];exact h.row.2 x q hq⟩,hk.blk h.box (h.map.blk_ne h.box),hm,h.mlo⟩
structure WmI (m:HistM) (w:World) (ks ks2:List (Int × Int)) (ps:List (List Value × SH)) (Bx M:Nat) (X:World):Prop where
 lk:LkI m w (ps.map (·.2)) (cmF m.pl.ev) X
 rg:RG 3 1 (w.heap.size+4) X ps
 row:ps.length=m.ob.1.n∧∀ (x:Nat) (p:List Value × SH),ps[x]?=some p→p.1=ints (lsZ ks (x:Int))
 box:Blk X Bx 142 #[.map (some M)]
 map:CntM 110 keyZ okZ M ks2 X
 mlo:w.heap.size+4≤M
theorem WmI.on {ks2:List (Int × Int)} (h:WmI m w ks ks2 ps Bx M X) (hb:Below X.heap.size X Y):WmI m w ks ks2 ps Bx M Y:=⟨h.lk.on hb,h.rg.on hb,h.row,h.box.below hb h.box.lt,h.map.on hb,h.mlo⟩
theorem WlI.wants {p:Int × Int} (h:WlI m w ks ps Bx M X) (hk:Keep (fun j=>j≠M) X Y) (hm:CntM 110 keyZ okZ M (ks++[p]) Y):WmI m w ks (ks++[p]) ps Bx M Y :=
 ⟨h.lk.keepM hk h.mlo,h.rg.keepM hk fun hb=>h.map.blk_ne hb,h.row,hk.blk h.box (h.map.blk_ne h.box),hm,h.mlo⟩
theorem WmI.more {on:Nat} {t:Int} {xs:List Value} {hr:SH} {A6:Option Addr} {c6:Nat} (h:WmI m w ks (ks++[(t,(on:Int))]) ps Bx M X) (l6:LkI m w (ps.map (·.2)) (cmF m.pl.ev) Y) (b6:Blk Y Bx 142 #[.map (some M)]) (m6:CntM 110 keyZ okZ M (ks++[(t,(on:Int))]) Y)
 (hps:ps[on]?=some (xs,hr)) (hnew:(t,(on:Int)) ∉ ks) (ho:Y.ownsRow (w.heap.size+4) 3 1 (.slice A6 (hr.n+1) c6) (hr.n+1) (xs++ints [t])) (hg:X.grownBy Y (Value.slice hr.A hr.n hr.c).ownBlock)
 (hat:(Value.slice A6 (hr.n+1) c6).ownBlock=(Value.slice hr.A hr.n hr.c).ownBlock∨(Value.slice A6 (hr.n+1) c6).ownBlock=some X.heap.size) :
 WlI m w (ks++[(t,(on:Int))]) (ps.set on (xs++ints [t],⟨A6,hr.n+1,c6⟩)) Bx M (Y.setCell ⟨w.heap.size+1,on,none⟩ (.slice A6 (hr.n+1) c6)):=by
 have hlt:=(List.getElem?_eq_some_iff.1 hps).1
 have hx:(ps.map (·.2))[on]?=some hr:=by rw[List.getElem?_map,hps];rfl
 have hset:(ps.set on (xs++ints [t],(⟨A6,hr.n+1,c6⟩:SH))).map (·.2)=(ps.map (·.2)).set on ⟨A6,hr.n+1,c6⟩:=by rw[List.map_set]
 have kt:KeepT 40 Y (Y.setCell ⟨w.heap.size+1,on,none⟩ (.slice A6 (hr.n+1) c6)):=KeepT.set l6.wb on _
 refine⟨by rw[hset];exact l6.wset hx ⟨A6,hr.n+1,c6⟩,(h.rg.grow hps ho hg hat).keepT kt (by decide),⟨by rw[List.length_set];exact h.row.1,fun x q hq=>?_⟩,kt.blk b6 (by decide),m6.keep kt (fun cs hb=>m6.blk_ne hb rfl),h.mlo⟩
 by_cases e:on=x
 ·subst e
  rw[List.getElem?_set_self hlt] at hq
  injection hq with hq
  have hrw:xs=ints (lsZ ks (on:Int)):=h.row.2 on _ hps
  have:=lsZ_new hnew
  simp only at this
  rw[← hq]
  show xs++ints [t]=_
  rw[hrw,this]
  unfold ints
  rw[List.map_append]
 rw[List.getElem?_set_ne e] at hq
 rw[lsZ_other (by simp only;omega)]
 exact h.row.2 x q hq
end
def LookIs (m:HistM) (N0:Nat) (w:World):Ending→World→Prop:=fun e w'=>∃ (Bl:Nat) (wr:SH) (rows:List SH),e=.returned (.pointer (some ⟨Bl,0,none⟩))∧(∀ Y:World,Keep (fun j=>j<N0∨w.heap.size≤j) w' Y→LookZ m wr rows Bl Y.heap.size Y)∧Below w.heap.size w w'
set_option maxRecDepth 100000 in
set_option maxHeartbeats 16000000 in
theorem lookAt_any (m:HistM) (N0:Nat) (w:World) (hI:InZ m.pl) (hF:Fair m) (hN0:N0≤w.heap.size) (hR0:HRd w N0 m) :
 Calls Tryz.prog 30 #[.agg #[.slice m.tr.1.A m.tr.1.n m.tr.1.c,.slice m.se.1.A m.se.1.n m.se.1.c,.slice m.ob.1.A m.ob.1.n m.ob.1.c,.slice m.pr.1.A m.pr.1.n m.pr.1.c,.slice m.ev.1.A m.ev.1.n m.ev.1.c,.slice m.od.1.A m.od.1.n m.od.1.c,.slice m.ma.1.A m.ma.1.n m.ma.1.c,.slice m.wa.1.A m.wa.1.n m.wa.1.c]] w (LookIs m N0 w):=by
 have hR:=hR0.more hN0
 have HR0:=zh hR0
 obtain⟨i0,hi,hz0,hz1,hz2⟩:=info_parts int_info11
 have b0:Below w.heap.size w (w.alloc (.cells #[.slice m.tr.1.A m.tr.1.n m.tr.1.c,.slice m.se.1.A m.se.1.n m.se.1.c,.slice m.ob.1.A m.ob.1.n m.ob.1.c,.slice m.pr.1.A m.pr.1.n m.pr.1.c,.slice m.ev.1.A m.ev.1.n m.ev.1.c,.slice m.od.1.A m.od.1.n m.od.1.c,.slice m.ma.1.A m.ma.1.n m.ma.1.c,.slice m.wa.1.A m.wa.1.n m.wa.1.c] 28)):=(Below.refl _ _).alloc (Nat.le_refl _) _
 have KH:Hid (Blk (w.alloc (.cells #[.slice m.tr.1.A m.tr.1.n m.tr.1.c,.slice m.se.1.A m.se.1.n m.se.1.c,.slice m.ob.1.A m.ob.1.n m.ob.1.c,.slice m.pr.1.A m.pr.1.n m.pr.1.c,.slice m.ev.1.A m.ev.1.n m.ev.1.c,.slice m.od.1.A m.od.1.n m.od.1.c,.slice m.ma.1.A m.ma.1.n m.ma.1.c,.slice m.wa.1.A m.wa.1.n m.wa.1.c] 28)) w.heap.size 28 m.cs):=Blk.new _ _ _
 have B0:=zh b0
 have HS0:Hid ((w.alloc (.cells #[.slice m.tr.1.A m.tr.1.n m.tr.1.c,.slice m.se.1.A m.se.1.n m.se.1.c,.slice m.ob.1.A m.ob.1.n m.ob.1.c,.slice m.pr.1.A m.pr.1.n m.pr.1.c,.slice m.ev.1.A m.ev.1.n m.ev.1.c,.slice m.od.1.A m.od.1.n m.od.1.c,.slice m.ma.1.A m.ma.1.n m.ma.1.c,.slice m.wa.1.A m.wa.1.n m.wa.1.c] 28)).heap.size=w.heap.size+1):=by show _=_;simp
 have HRD:=zh hR
 have hmk:=rowsZ_make m.ob.1.n hF.ob
 have HMB:=zh (boolZ_make m.tr.1.n hF.tr)
 have HFE:=zh hF.ev
 clear b0 hR hR0
 go_enter Tryz.func30,Tryz.ntmps30
 go_upto_region 1 with fail
 generalize w.alloc (.cells #[.slice m.tr.1.A m.tr.1.n m.tr.1.c,.slice m.se.1.A m.se.1.n m.se.1.c,.slice m.ob.1.A m.ob.1.n m.ob.1.c,.slice m.pr.1.A m.pr.1.n m.pr.1.c,.slice m.ev.1.A m.ev.1.n m.ev.1.c,.slice m.od.1.A m.od.1.n m.od.1.c,.slice m.ma.1.A m.ma.1.n m.ma.1.c,.slice m.wa.1.A m.wa.1.n m.wa.1.c] 28)=W0 at *
 refine wp_region_noPanic ?_
 refine wp_region_K (S:=(fun W=>Blk W w.heap.size 28 m.cs)) 99 (by kernel_rfl) (Blk.drew KH.out) (fun hHeld=>?_)
 have KH:=zh KH.out.drew
 have B0:=zh B0.out.drew
 have HS0:Hid (W0.drew.heap.size=w.heap.size+1):=HS0.out
 generalize W0.drew=wd at *
 refine kv 0 (some 12) (.agg #[.slice m.tr.1.A m.tr.1.n m.tr.1.c,.slice m.se.1.A m.se.1.n m.se.1.c,.slice m.ob.1.A m.ob.1.n m.ob.1.c,.slice m.pr.1.A m.pr.1.n m.pr.1.c,.slice m.ev.1.A m.ev.1.n m.ev.1.c,.slice m.od.1.A m.od.1.n m.od.1.c,.slice m.ma.1.A m.ma.1.n m.ma.1.c,.slice m.wa.1.A m.wa.1.n m.wa.1.c]) rfl rfl (fun w' hSw=>by have c0:w'.cell? ⟨w.heap.size,0,none⟩=some (.slice m.tr.1.A m.tr.1.n m.tr.1.c):=Blk.cell (w:=w') hSw 0;have c1:w'.cell? ⟨w.heap.size,1,none⟩=some (.slice m.se.1.A m.se.1.n m.se.1.c):=Blk.cell (w:=w') hSw 1;have c2:w'.cell? ⟨w.heap.size,2,none⟩=some (.slice m.ob.1.A m.ob.1.n m.ob.1.c):=Blk.cell (w:=w') hSw 2;have c3:w'.cell? ⟨w.heap.size,3,none⟩=some (.slice m.pr.1.A m.pr.1.n m.pr.1.c):=Blk.cell (w:=w') hSw 3;have c4:w'.cell? ⟨w.heap.size,4,none⟩=some (.slice m.ev.1.A m.ev.1.n m.ev.1.c):=Blk.cell (w:=w') hSw 4;have c5:w'.cell? ⟨w.heap.size,5,none⟩=some (.slice m.od.1.A m.od.1.n m.od.1.c):=Blk.cell (w:=w') hSw 5;have c6:w'.cell? ⟨w.heap.size,6,none⟩=some (.slice m.ma.1.A m.ma.1.n m.ma.1.c):=Blk.cell (w:=w') hSw 6;have c7:w'.cell? ⟨w.heap.size,7,none⟩=some (.slice m.wa.1.A m.wa.1.n m.wa.1.c):=Blk.cell (w:=w') hSw 7;go_simp) ?_
 try simp only[Act.put,zK]
 refine ka 1 (some 13) (.pointer (some ⟨w.heap.size,2,none⟩)) rfl rfl (fun w'=>by go_simp) ?_
 try simp only[Act.put,zK]
 refine kv 2 (some 14) (.slice m.ob.1.A m.ob.1.n m.ob.1.c) rfl rfl (fun w' hSw=>by have c9:w'.cell? ⟨w.heap.size,2,none⟩=some (.slice m.ob.1.A m.ob.1.n m.ob.1.c):=Blk.cell (w:=w') hSw 2;go_simp) ?_
 try simp only[Act.put,zK]
 refine ka 3 (some 15) (.int .i64 (m.ob.1.n:Int)) rfl rfl (fun w'=>by go_simp) ?_
 try simp only[Act.put,zK]
 refine kr [4] ?_
 refine kc rfl (fun K hK=>?_) kn
 go_simp
 refine hK.out _ _ (Blk.alloc KH.out _) (fun hHeld=>?_)
 clear hK K
 try simp only[Act.put,zK]
 have hal:Below wd.heap.size wd (wd.alloc (.cells ((List.replicate m.ob.1.n (⟨none,0,0⟩:SH)).flatMap slCs).toArray 40)):=(Below.refl _ _).alloc (Nat.le_refl _) _
 have B0:=zh (B0.out.trans (hal.mono B0.out.size))
 have KH:=zh (KH.out.below hal KH.out.lt)
 have KW:=zh (Blk.new wd 40 ((List.replicate m.ob.1.n (⟨none,0,0⟩:SH)).flatMap slCs).toArray)
 rw[HS0.out] at KW
 have HS1:Hid ((wd.alloc (.cells ((List.replicate m.ob.1.n (⟨none,0,0⟩:SH)).flatMap slCs).toArray 40)).heap.size=w.heap.size+2):=by show _=_;rw[World.size_alloc,HS0.out]
 rw[HS0.out]
 clear hal hHeld
 generalize wd.alloc (.cells ((List.replicate m.ob.1.n (⟨none,0,0⟩:SH)).flatMap slCs).toArray 40)=u1 at *
 have hHeld:=KH.out
 refine ka 5 (some 17) (.agg #[.slice m.tr.1.A m.tr.1.n m.tr.1.c,.slice m.se.1.A m.se.1.n m.se.1.c,.slice m.ob.1.A m.ob.1.n m.ob.1.c,.slice m.pr.1.A m.pr.1.n m.pr.1.c,.slice m.ev.1.A m.ev.1.n m.ev.1.c,.slice m.od.1.A m.od.1.n m.od.1.c,.slice m.ma.1.A m.ma.1.n m.ma.1.c,.slice m.wa.1.A m.wa.1.n m.wa.1.c,.slice (some ⟨w.heap.size+1,0,none⟩) m.ob.1.n m.ob.1.n]) rfl rfl (fun w'=>by go_simp) ?_
 try simp only[Act.put,zK]
 refine kr [6] ?_
 refine kc rfl (fun K hK=>?_) kn
 go_simp
 refine hK.out _ _ (Blk.alloc KH.out _) (fun hHeld=>?_)
 clear hK K
 try simp only[Act.put,zK]
 have hal:Below u1.heap.size u1 (u1.alloc (.cells #[.slice m.tr.1.A m.tr.1.n m.tr.1.c,.slice m.se.1.A m.se.1.n m.se.1.c,.slice m.ob.1.A m.ob.1.n m.ob.1.c,.slice m.pr.1.A m.pr.1.n m.pr.1.c,.slice m.ev.1.A m.ev.1.n m.ev.1.c,.slice m.od.1.A m.od.1.n m.od.1.c,.slice m.ma.1.A m.ma.1.n m.ma.1.c,.slice m.wa.1.A m.wa.1.n m.wa.1.c,.slice (some ⟨w.heap.size+1,0,none⟩) m.ob.1.n m.ob.1.n] 88)):=(Below.refl _ _).alloc (Nat.le_refl _) _
 have B0:=zh (B0.out.trans (hal.mono B0.out.size))
 have KH:=zh (KH.out.below hal KH.out.lt)
 have KW:=zh (KW.out.below hal KW.out.lt)
 have KL:=zh (Blk.new u1 88 #[.slice m.tr.1.A m.tr.1.n m.tr.1.c,.slice m.se.1.A m.se.1.n m.se.1.c,.slice m.ob.1.A m.ob.1.n m.ob.1.c,.slice m.pr.1.A m.pr.1.n m.pr.1.c,.slice m.ev.1.A m.ev.1.n m.ev.1.c,.slice m.od.1.A m.od.1.n m.od.1.c,.slice m.ma.1.A m.ma.1.n m.ma.1.c,.slice m.wa.1.A m.wa.1.n m.wa.1.c,.slice (some ⟨w.heap.size+1,0,none⟩) m.ob.1.n m.ob.1.n])
 rw[HS1.out] at KL
 have HS2:Hid ((u1.alloc (.cells #[.slice m.tr.1.A m.tr.1.n m.tr.1.c,.slice m.se.1.A m.se.1.n m.se.1.c,.slice m.ob.1.A m.ob.1.n m.ob.1.c,.slice m.pr.1.A m.pr.1.n m.pr.1.c,.slice m.ev.1.A m.ev.1.n m.ev.1.c,.slice m.od.1.A m.od.1.n m.od.1.c,.slice m.ma.1.A m.ma.1.n m.ma.1.c,.slice m.wa.1.A m.wa.1.n m.wa.1.c,.slice (some ⟨w.heap.size+1,0,none⟩) m.ob.1.n m.ob.1.n] 88)).heap.size=w.heap.size+3):=by show _=_;rw[World.size_alloc,HS1.out]
 rw[HS1.out]
 clear hal hHeld
 generalize u1.alloc (.cells #[.slice m.tr.1.A m.tr.1.n m.tr.1.c,.slice m.se.1.A m.se.1.n m.se.1.c,.slice m.ob.1.A m.ob.1.n m.ob.1.c,.slice m.pr.1.A m.pr.1.n m.pr.1.c,.slice m.ev.1.A m.ev.1.n m.ev.1.c,.slice m.od.1.A m.od.1.n m.od.1.c,.slice m.ma.1.A m.ma.1.n m.ma.1.c,.slice m.wa.1.A m.wa.1.n m.wa.1.c,.slice (some ⟨w.heap.size+1,0,none⟩) m.ob.1.n m.ob.1.n] 88)=u2 at *
 have hHeld:=KH.out
 refine ka 7 (some 3) (.pointer (some ⟨w.heap.size+2,0,none⟩)) rfl rfl (fun w'=>by go_simp) ?_
 try simp only[Act.put,zK]
 refine kd (by kernel_rfl) ?_ _
 refine NoPanic.normal ?_
 have LK0:Hid (Below w.heap.size w u2∧Blk u2 w.heap.size 28 m.cs∧Blk u2 (w.heap.size+1) 40 ((List.replicate m.ob.1.n (⟨none,0,0⟩:SH)).flatMap slCs).toArray∧Blk u2 (w.heap.size+2) 88 #[.slice m.tr.1.A m.tr.1.n m.tr.1.c,.slice m.se.1.A m.se.1.n m.se.1.c,.slice m.ob.1.A m.ob.1.n m.ob.1.c,.slice m.pr.1.A m.pr.1.n m.pr.1.c,.slice m.ev.1.A m.ev.1.n m.ev.1.c,.slice m.od.1.A m.od.1.n m.od.1.c,.slice m.ma.1.A m.ma.1.n m.ma.1.c,.slice m.wa.1.A m.wa.1.n m.wa.1.c,.slice (some ⟨w.heap.size+1,0,none⟩) m.ob.1.n m.ob.1.n]∧u2.heap.size=w.heap.size+3):=⟨B0.out,KH.out,KW.out,KL.out,HS2.out⟩
 clear hHeld hmk B0 KH KW KL HS0 HS1 HS2
 have hmb:=HMB.out
 have h0:u2.cell? ⟨w.heap.size,0,none⟩=some (.slice m.tr.1.A m.tr.1.n m.tr.1.c):=LK0.out.2.1.cell 0
 have hal:Below u2.heap.size u2 (u2.alloc (.cells (boolsZ (List.replicate m.tr.1.n false)).toArray 4)):=(Below.refl _ _).alloc (Nat.le_refl _) _
 have LK:Hid (LkI m w (List.replicate m.ob.1.n (⟨none,0,0⟩:SH)) (cmF (m.pl.ev.take 0)) (u2.alloc (.cells (boolsZ (List.replicate m.tr.1.n false)).toArray 4))):=by
  refine⟨LK0.out.2.1.below hal LK0.out.2.1.lt,LK0.out.2.2.1.below hal LK0.out.2.2.1.lt,LK0.out.2.2.2.1.below hal LK0.out.2.2.2.1.lt,?_,LK0.out.1.trans (hal.mono LK0.out.1.size),by rw[World.size_alloc,LK0.out.2.2.2.2];exact Nat.le_refl _⟩
  have h9:=Blk.new u2 4 (boolsZ (List.replicate m.tr.1.n false)).toArray
  rw[LK0.out.2.2.2.2] at h9
  have e9:bsZ (cmF (m.pl.ev.take 0)) m.tr.1.n=List.replicate m.tr.1.n false:=(bsZ_none _).symm
  rw[e9]
  exact h9
 have HU3:Hid (u2.heap.size=w.heap.size+3):=LK0.out.2.2.2.2
 clear hal LK0
 go_upto_region 3 with fail
 rw[HU3.out]
 clear h0 hmb
 generalize u2.alloc (.cells (boolsZ (List.replicate m.tr.1.n false)).toArray 4)=W2 at *
 obtain⟨ne,hne⟩:∃ ne,m.ev.1.n=ne:=⟨_,rfl⟩
 have HNE:=zh hne
 have hne9:ne≤1000000:=by rw[← hne];exact HFE.out
 have h4:W2.cell? ⟨w.heap.size,4,none⟩=some (.slice m.ev.1.A ne m.ev.1.c):=by rw[← hne];exact LK.out.bh.cell 4
 clear hne
 go_wp2_with fail
 clear h4
 go_loopw [26] (fun v wx=>∃ i:Nat,v=.int .i64 i∧i≤ne∧Hid (LkI m w (List.replicate m.ob.1.n (⟨none,0,0⟩:SH)) (cmF (m.pl.ev.take i)) wx)) (fun v _=>ne - (intOf v).toNat)
 case atStart=>exact⟨0,rfl,Nat.zero_le _,LK⟩
 clear LK
 obtain⟨i,rfl,hin,LK⟩:=hrel
 rename World=>wx
 by_cases hin2:i<ne
 ·have hlt:(i:Int)<(ne:Int):=by omega
  obtain⟨⟨e,hd⟩,he⟩:∃ e,m.ev.2[i]?=some e:=⟨m.ev.2[i]'(by have:=HRD.out.fit.ev.1;rw[this,HNE.out];exact hin2),List.getElem?_eq_getElem _⟩
  have hev:m.pl.ev[i]?=some e:=HistM.ev_at he
  have HEV:=zh hev
  have het:=hI.et e (List.mem_of_getElem? hev)
  obtain⟨tn,htn⟩:∃ tn:Nat,e.t=(tn:Int):=⟨e.t.toNat,by omega⟩
  have HTE:=zh htn
  have htl:tn<m.tr.1.n:=by have:=HRD.out.tr_len;omega
  have HTN:Hid (tn<m.tr.1.n):=htl
  have hlt2:(tn:Int)<(m.tr.1.n:Int):=by omega
  obtain⟨b,o,hA,_,hc⟩:=row_cells evCs_len (by omega) (HRD.out.ev.below LK.out.below) he
  rw[hA]
  have c0:wx.cell? ⟨b,o+i * 9,none⟩=some (.int .i64 e.kd):=by have h9:=hc 0 _ rfl;rw[show o+(i * 9+0)=o+i * 9 by omega] at h9;exact h9
  have c1:wx.cell? ⟨b,o+i * 9+1,none⟩=some (.int .i64 (tn:Int)):=by have h9:=hc 1 _ rfl;rw[show o+(i * 9+1)=o+i * 9+1 by omega] at h9;rw[← htn];exact h9
  have c2:wx.cell? ⟨b,o+i * 9+2,none⟩=some (.int .i64 e.s):=by have h9:=hc 2 _ rfl;rw[show o+(i * 9+2)=o+i * 9+2 by omega] at h9;exact h9
  have c3:wx.cell? ⟨b,o+i * 9+3,none⟩=some (.int .i64 e.lev):=by have h9:=hc 3 _ rfl;rw[show o+(i * 9+3)=o+i * 9+3 by omega] at h9;exact h9
  have c4:wx.cell? ⟨b,o+i * 9+4,none⟩=some (.int .i64 e.o):=by have h9:=hc 4 _ rfl;rw[show o+(i * 9+4)=o+i * 9+4 by omega] at h9;exact h9
  have c5:wx.cell? ⟨b,o+i * 9+5,none⟩=some (.int .i64 e.vt):=by have h9:=hc 5 _ rfl;rw[show o+(i * 9+5)=o+i * 9+5 by omega] at h9;exact h9
  have c6:wx.cell? ⟨b,o+i * 9+6,none⟩=some (.int .i64 e.vk):=by have h9:=hc 6 _ rfl;rw[show o+(i * 9+6)=o+i * 9+6 by omega] at h9;exact h9
  have c7:wx.cell? ⟨b,o+i * 9+7,none⟩=some (.int .i64 e.p):=by have h9:=hc 7 _ rfl;rw[show o+(i * 9+7)=o+i * 9+7 by omega] at h9;exact h9
  have c8:wx.cell? ⟨b,o+i * 9+8,none⟩=some (.slice hd.A hd.n hd.c):=by have h9:=hc 8 _ rfl;rw[show o+(i * 9+8)=o+i * 9+8 by omega] at h9;exact h9
  have hal:Below wx.heap.size wx (wx.alloc (.cells #[.int .i64 e.kd,.int .i64 (tn:Int),.int .i64 e.s,.int .i64 e.lev,.int .i64 e.o,.int .i64 e.vt,.int .i64 e.vk,.int .i64 e.p,.slice hd.A hd.n hd.c] 60)):=(Below.refl _ _).alloc (Nat.le_refl _) _
  have KE:=zh (Blk.new wx 60 #[.int .i64 e.kd,.int .i64 (tn:Int),.int .i64 e.s,.int .i64 e.lev,.int .i64 e.o,.int .i64 e.vt,.int .i64 e.vk,.int .i64 e.p,.slice hd.A hd.n hd.c])
  have LK:=zh (LK.out.on hal)
  clear hc he hal hev het htn
  go_upto_region 6 with fail
  clear c0 c1 c2 c3 c4 c5 c6 c7 c8
  obtain⟨Be,hBe⟩:∃ Be,wx.heap.size=Be:=⟨_,rfl⟩
  rw[hBe] at KE ⊢
  clear hBe
  generalize wx.alloc (.cells #[.int .i64 e.kd,.int .i64 (tn:Int),.int .i64 e.s,.int .i64 e.lev,.int .i64 e.o,.int .i64 e.vt,.int .i64 e.vk,.int .i64 e.p,.slice hd.A hd.n hd.c] 60)=X3 at *
  cases ha:cmF (m.pl.ev.take i) tn
  ·have hA:Hid (∀ w':World,Blk w' (w.heap.size+3) 4 (boolsZ (bsZ (cmF (m.pl.ev.take i)) m.tr.1.n)).toArray→w'.cell? ⟨w.heap.size+3,tn,none⟩=some (.bool false)):=fun w' h=>by rw[h.bool_at (bsZ_get HTN.out),ha]
   by_cases h5:e.kd=5
   ·have q5:(e.kd==5)=true:=by simpa using h5
    have HNX:Hid (cmF (m.pl.ev.take (i+1)) tn=true∧∀ u,u<m.tr.1.n→u≠tn→cmF (m.pl.ev.take (i+1)) u=cmF (m.pl.ev.take i) u):=⟨by rw[cmF_next HEV.out,ha,HTE.out];simp[h5],fun u _ hu=>by rw[cmF_next HEV.out,HTE.out];have:¬(tn:Int)=(u:Int):=fun e=>hu (by omega);simp[this]⟩
    clear h5 ha
    refine wp_region_noPanic ?_
    refine wp_region_K (S:=(fun W=>Blk W Be 60 #[.int .i64 e.kd,.int .i64 (tn:Int),.int .i64 e.s,.int .i64 e.lev,.int .i64 e.o,.int .i64 e.vt,.int .i64 e.vk,.int .i64 e.p,.slice hd.A hd.n hd.c]∧Blk W (w.heap.size+3) 4 (boolsZ (bsZ (cmF (m.pl.ev.take i)) m.tr.1.n)).toArray)) 14 (by kernel_rfl) ⟨KE.out.drew,Blk.drew LK.out.cb⟩ (fun hHeld=>?_)
    have LK:=zh (LK.out.on (Below.refl _ _).drew)
    have KE:=zh KE.out.drew
    generalize X3.drew=wd at *
    refine ka 0 (some 30) (.slice (some ⟨w.heap.size+3,0,none⟩) m.tr.1.n m.tr.1.n) rfl rfl (fun w'=>by go_simp) ?_
    try simp only[Act.put,zK]
    refine ka 1 (some 31) (.pointer (some ⟨Be,1,none⟩)) rfl rfl (fun w'=>by go_simp) ?_
    try simp only[Act.put,zK]
    refine kv 2 (some 32) (.int .i64 (tn:Int)) rfl rfl (fun w' hSw=>by have c9:w'.cell? ⟨Be,1,none⟩=some (.int .i64 (tn:Int)):=Blk.cell (w:=w') hSw.1 1;go_simp) ?_
    try simp only[Act.put,zK]
    refine ka 3 (some 33) (.slice (some ⟨w.heap.size+3,0,none⟩) m.tr.1.n m.tr.1.n) rfl rfl (fun w'=>by go_simp) ?_
    try simp only[Act.put,zK]
    refine ka 4 (some 34) (.pointer (some ⟨Be,1,none⟩)) rfl rfl (fun w'=>by go_simp) ?_
    try simp only[Act.put,zK]
    refine kv 5 (some 35) (.int .i64 (tn:Int)) rfl rfl (fun w' hSw=>by have c9:w'.cell? ⟨Be,1,none⟩=some (.int .i64 (tn:Int)):=Blk.cell (w:=w') hSw.1 1;go_simp) ?_
    try simp only[Act.put,zK]
    refine ka 6 (some 36) (.pointer (some ⟨w.heap.size+3,tn,none⟩)) rfl rfl (fun w'=>by go_simp) ?_
    try simp only[Act.put,zK]
    refine kv 7 (some 37) (.bool false) rfl rfl (fun w' hSw=>by have c9:w'.cell? ⟨w.heap.size+3,tn,none⟩=some (.bool false):=hA.out w' hSw.2;go_simp) ?_
    try simp only[Act.put,zK]
    refine ka 8 (some 38) (.bool false) rfl rfl (fun w'=>by go_simp) ?_
    try simp only[Act.put,zK]
    refine ka 9 (some 39) (.pointer (some ⟨Be,0,none⟩)) rfl rfl (fun w'=>by go_simp) ?_
    try simp only[Act.put,zK]
    refine kv 10 (some 40) (.int .i64 e.kd) rfl rfl (fun w' hSw=>by have c9:w'.cell? ⟨Be,0,none⟩=some (.int .i64 e.kd):=Blk.cell (w:=w') hSw.1 0;go_simp) ?_
    try simp only[Act.put,zK]
    refine ka 11 (some 41) (.bool true) rfl rfl (fun w'=>by go_simp) ?_
    try simp only[Act.put,zK]
    refine ka 12 (some 42) (.bool true) rfl rfl (fun w'=>by go_simp) ?_
    try simp only[Act.put,zK]
    refine ka 13 (some 43) (.pointer (some ⟨w.heap.size+3,tn,none⟩)) rfl rfl (fun w'=>by go_simp) ?_
    try simp only[Act.put,zK]
    refine kr [14] ?_
    refine kz (o:={dst:=none,op:=Op.store 4 (Operand.tmp 43) (Operand.tmp 42),type:=0,pos:="look.go:32",after:=#[⟨13,.data⟩,⟨12,.data⟩,⟨8,.chain⟩,⟨0,.phase⟩,⟨1,.phase⟩,⟨2,.phase⟩,⟨3,.phase⟩,⟨4,.phase⟩,⟨5,.phase⟩,⟨6,.phase⟩,⟨7,.phase⟩,⟨8,.phase⟩,⟨9,.phase⟩,⟨10,.phase⟩,⟨11,.phase⟩,⟨12,.phase⟩],guard:=none}) rfl (fun K hK=>?_)
    have y0:=LK.out.cb.bool_at (bsZ_get HTN.out)
    have f0:=LK.out.cb.frozen tn
    go_simp
    have LK:=zh (LK.out.cset (tn:=tn) true HNX.out)
    clear y0 f0 hHeld
    refine hK.out _ _ ?_
    clear hK K
    try simp only[Act.put]
    refine kd (by kernel_rfl) ?_ _
    refine NoPanic.normal ?_
    clear KE hA
    go_wp2_with fail
    go_roundw
    case rel=>exact⟨i+1,by go_num,hin2,LK⟩
    case measure=>simp[intOf];omega
   have q5:(e.kd==5)=false:=by simpa using h5
   have HNX:Hid (cmF (m.pl.ev.take (i+1)) tn=false∧∀ u,u<m.tr.1.n→u≠tn→cmF (m.pl.ev.take (i+1)) u=cmF (m.pl.ev.take i) u):=⟨by rw[cmF_next HEV.out,ha,HTE.out];simp[h5],fun u _ hu=>by rw[cmF_next HEV.out,HTE.out];have:¬(tn:Int)=(u:Int):=fun e=>hu (by omega);simp[this]⟩
   clear h5 ha
   refine wp_region_noPanic ?_
   refine wp_region_K (S:=(fun W=>Blk W Be 60 #[.int .i64 e.kd,.int .i64 (tn:Int),.int .i64 e.s,.int .i64 e.lev,.int .i64 e.o,.int .i64 e.vt,.int .i64 e.vk,.int .i64 e.p,.slice hd.A hd.n hd.c]∧Blk W (w.heap.size+3) 4 (boolsZ (bsZ (cmF (m.pl.ev.take i)) m.tr.1.n)).toArray)) 14 (by kernel_rfl) ⟨KE.out.drew,Blk.drew LK.out.cb⟩ (fun hHeld=>?_)
   have LK:=zh (LK.out.on (Below.refl _ _).drew)
   have KE:=zh KE.out.drew
   generalize X3.drew=wd at *
   refine ka 0 (some 30) (.slice (some ⟨w.heap.size+3,0,none⟩) m.tr.1.n m.tr.1.n) rfl rfl (fun w'=>by go_simp) ?_
   try simp only[Act.put,zK]
   refine ka 1 (some 31) (.pointer (some ⟨Be,1,none⟩)) rfl rfl (fun w'=>by go_simp) ?_
   try simp only[Act.put,zK]
   refine kv 2 (some 32) (.int .i64 (tn:Int)) rfl rfl (fun w' hSw=>by have c9:w'.cell? ⟨Be,1,none⟩=some (.int .i64 (tn:Int)):=Blk.cell (w:=w') hSw.1 1;go_simp) ?_
   try simp only[Act.put,zK]
   refine ka 3 (some 33) (.slice (some ⟨w.heap.size+3,0,none⟩) m.tr.1.n m.tr.1.n) rfl rfl (fun w'=>by go_simp) ?_
   try simp only[Act.put,zK]
   refine ka 4 (some 34) (.pointer (some ⟨Be,1,none⟩)) rfl rfl (fun w'=>by go_simp) ?_
   try simp only[Act.put,zK]
   refine kv 5 (some 35) (.int .i64 (tn:Int)) rfl rfl (fun w' hSw=>by have c9:w'.cell? ⟨Be,1,none⟩=some (.int .i64 (tn:Int)):=Blk.cell (w:=w') hSw.1 1;go_simp) ?_
   try simp only[Act.put,zK]
   refine ka 6 (some 36) (.pointer (some ⟨w.heap.size+3,tn,none⟩)) rfl rfl (fun w'=>by go_simp) ?_
   try simp only[Act.put,zK]
   refine kv 7 (some 37) (.bool false) rfl rfl (fun w' hSw=>by have c9:w'.cell? ⟨w.heap.size+3,tn,none⟩=some (.bool false):=hA.out w' hSw.2;go_simp) ?_
   try simp only[Act.put,zK]
   refine ka 8 (some 38) (.bool false) rfl rfl (fun w'=>by go_simp) ?_
   try simp only[Act.put,zK]
   refine ka 9 (some 39) (.pointer (some ⟨Be,0,none⟩)) rfl rfl (fun w'=>by go_simp) ?_
   try simp only[Act.put,zK]
   refine kv 10 (some 40) (.int .i64 e.kd) rfl rfl (fun w' hSw=>by have c9:w'.cell? ⟨Be,0,none⟩=some (.int .i64 e.kd):=Blk.cell (w:=w') hSw.1 0;go_simp) ?_
   try simp only[Act.put,zK]
   refine ka 11 (some 41) (.bool false) rfl rfl (fun w'=>by go_simp) ?_
   try simp only[Act.put,zK]
   refine ka 12 (some 42) (.bool false) rfl rfl (fun w'=>by go_simp) ?_
   try simp only[Act.put,zK]
   refine ka 13 (some 43) (.pointer (some ⟨w.heap.size+3,tn,none⟩)) rfl rfl (fun w'=>by go_simp) ?_
   try simp only[Act.put,zK]
   refine kr [14] ?_
   refine kz (o:={dst:=none,op:=Op.store 4 (Operand.tmp 43) (Operand.tmp 42),type:=0,pos:="look.go:32",after:=#[⟨13,.data⟩,⟨12,.data⟩,⟨8,.chain⟩,⟨0,.phase⟩,⟨1,.phase⟩,⟨2,.phase⟩,⟨3,.phase⟩,⟨4,.phase⟩,⟨5,.phase⟩,⟨6,.phase⟩,⟨7,.phase⟩,⟨8,.phase⟩,⟨9,.phase⟩,⟨10,.phase⟩,⟨11,.phase⟩,⟨12,.phase⟩],guard:=none}) rfl (fun K hK=>?_)
   have y0:=LK.out.cb.bool_at (bsZ_get HTN.out)
   have f0:=LK.out.cb.frozen tn
   go_simp
   have LK:=zh (LK.out.cset (tn:=tn) false HNX.out)
   clear y0 f0 hHeld
   refine hK.out _ _ ?_
   clear hK K
   try simp only[Act.put]
   refine kd (by kernel_rfl) ?_ _
   refine NoPanic.normal ?_
   clear KE hA
   go_wp2_with fail
   go_roundw
   case rel=>exact⟨i+1,by go_num,hin2,LK⟩
   case measure=>simp[intOf];omega
  have hA:Hid (∀ w':World,Blk w' (w.heap.size+3) 4 (boolsZ (bsZ (cmF (m.pl.ev.take i)) m.tr.1.n)).toArray→w'.cell? ⟨w.heap.size+3,tn,none⟩=some (.bool true)):=fun w' h=>by rw[h.bool_at (bsZ_get HTN.out),ha]
  have HNX:Hid (cmF (m.pl.ev.take (i+1)) tn=true∧∀ u,u<m.tr.1.n→u≠tn→cmF (m.pl.ev.take (i+1)) u=cmF (m.pl.ev.take i) u):=⟨by rw[cmF_next HEV.out,ha,HTE.out];simp,fun u _ hu=>by rw[cmF_next HEV.out,HTE.out];have:¬(tn:Int)=(u:Int):=fun e=>hu (by omega);simp[this]⟩
  clear ha
  refine wp_region_noPanic ?_
  refine wp_region_K (S:=(fun W=>Blk W Be 60 #[.int .i64 e.kd,.int .i64 (tn:Int),.int .i64 e.s,.int .i64 e.lev,.int .i64 e.o,.int .i64 e.vt,.int .i64 e.vk,.int .i64 e.p,.slice hd.A hd.n hd.c]∧Blk W (w.heap.size+3) 4 (boolsZ (bsZ (cmF (m.pl.ev.take i)) m.tr.1.n)).toArray)) 14 (by kernel_rfl) ⟨KE.out.drew,Blk.drew LK.out.cb⟩ (fun hHeld=>?_)
  have LK:=zh (LK.out.on (Below.refl _ _).drew)
  have KE:=zh KE.out.drew
  generalize X3.drew=wd at *
  refine ka 0 (some 30) (.slice (some ⟨w.heap.size+3,0,none⟩) m.tr.1.n m.tr.1.n) rfl rfl (fun w'=>by go_simp) ?_
  try simp only[Act.put,zK]
  refine ka 1 (some 31) (.pointer (some ⟨Be,1,none⟩)) rfl rfl (fun w'=>by go_simp) ?_
  try simp only[Act.put,zK]
  refine kv 2 (some 32) (.int .i64 (tn:Int)) rfl rfl (fun w' hSw=>by have c9:w'.cell? ⟨Be,1,none⟩=some (.int .i64 (tn:Int)):=Blk.cell (w:=w') hSw.1 1;go_simp) ?_
  try simp only[Act.put,zK]
  refine ka 3 (some 33) (.slice (some ⟨w.heap.size+3,0,none⟩) m.tr.1.n m.tr.1.n) rfl rfl (fun w'=>by go_simp) ?_
  try simp only[Act.put,zK]
  refine ka 4 (some 34) (.pointer (some ⟨Be,1,none⟩)) rfl rfl (fun w'=>by go_simp) ?_
  try simp only[Act.put,zK]
  refine kv 5 (some 35) (.int .i64 (tn:Int)) rfl rfl (fun w' hSw=>by have c9:w'.cell? ⟨Be,1,none⟩=some (.int .i64 (tn:Int)):=Blk.cell (w:=w') hSw.1 1;go_simp) ?_
  try simp only[Act.put,zK]
  refine ka 6 (some 36) (.pointer (some ⟨w.heap.size+3,tn,none⟩)) rfl rfl (fun w'=>by go_simp) ?_
  try simp only[Act.put,zK]
  refine kv 7 (some 37) (.bool true) rfl rfl (fun w' hSw=>by have c9:w'.cell? ⟨w.heap.size+3,tn,none⟩=some (.bool true):=hA.out w' hSw.2;go_simp) ?_
  try simp only[Act.put,zK]
  refine ka 8 (some 38) (.bool true) rfl rfl (fun w'=>by go_simp) ?_
  try simp only[Act.put,zK]
  refine ku 9 (some 39) rfl rfl ?_
  try simp only[Act.put,zK]
  refine ku 10 (some 40) rfl rfl ?_
  try simp only[Act.put,zK]
  refine ku 11 (some 41) rfl rfl ?_
  try simp only[Act.put,zK]
  refine ka 12 (some 42) (.bool true) rfl rfl (fun w'=>by go_simp) ?_
  try simp only[Act.put,zK]
  refine ka 13 (some 43) (.pointer (some ⟨w.heap.size+3,tn,none⟩)) rfl rfl (fun w'=>by go_simp) ?_
  try simp only[Act.put,zK]
  refine kr [14] ?_
  refine kz (o:={dst:=none,op:=Op.store 4 (Operand.tmp 43) (Operand.tmp 42),type:=0,pos:="look.go:32",after:=#[⟨13,.data⟩,⟨12,.data⟩,⟨8,.chain⟩,⟨0,.phase⟩,⟨1,.phase⟩,⟨2,.phase⟩,⟨3,.phase⟩,⟨4,.phase⟩,⟨5,.phase⟩,⟨6,.phase⟩,⟨7,.phase⟩,⟨8,.phase⟩,⟨9,.phase⟩,⟨10,.phase⟩,⟨11,.phase⟩,⟨12,.phase⟩],guard:=none}) rfl (fun K hK=>?_)
  have y0:=LK.out.cb.bool_at (bsZ_get HTN.out)
  have f0:=LK.out.cb.frozen tn
  go_simp
  have LK:=zh (LK.out.cset (tn:=tn) true HNX.out)
  clear y0 f0 hHeld
  refine hK.out _ _ ?_
  clear hK K
  try simp only[Act.put]
  refine kd (by kernel_rfl) ?_ _
  refine NoPanic.normal ?_
  clear KE hA
  go_wp2_with fail
  go_roundw
  case rel=>exact⟨i+1,by go_num,hin2,LK⟩
  case measure=>simp[intOf];omega
 have hge:¬(i:Int)<(ne:Int):=by omega
 obtain rfl:i=ne:=by omega
 have LK:Hid (LkI m w (List.replicate m.ob.1.n (⟨none,0,0⟩:SH)) (cmF m.pl.ev) wx):=by have h9:=LK.out;rwa [List.take_of_length_le (by rw[HRD.out.ev_len,HNE.out];exact Nat.le_refl _)] at h9
 have HC:=zh (againW_any wx)
 clear hin hin2
 go_wp2_with fail
 refine HC.out.mono ?_
 rintro e w2 ⟨rfl,hbx,hmp,hb,hsz⟩
 obtain⟨Bx,hBx⟩:∃ Bx,wx.heap.size+1=Bx:=⟨_,rfl⟩
 obtain⟨M,hM⟩:∃ M,wx.heap.size=M:=⟨_,rfl⟩
 rw[hBx] at hbx ⊢
 rw[hM] at hmp hbx
 have WL:Hid (WlI m w (wcZ (cmZ m.pl) (m.pl.ev.take 0)) (List.replicate m.ob.1.n (([]:List Value),(⟨none,0,0⟩:SH))) Bx M w2):=by
  refine⟨by rw[List.map_replicate];exact LK.out.on hb,⟨fun i p hp=>?_,fun i j p q hp hq hij g hg=>?_⟩,⟨List.length_replicate,fun x p hp=>?_⟩,hbx,hmp,by rw[← hM];exact LK.out.sz⟩
  ·obtain rfl:=(List.eq_of_mem_replicate (List.mem_of_getElem? hp)).symm
   exact World.ownsRow_nil _ _ _ _
  ·obtain rfl:=(List.eq_of_mem_replicate (List.mem_of_getElem? hp)).symm
   cases hg
  obtain rfl:=(List.eq_of_mem_replicate (List.mem_of_getElem? hp)).symm
  rfl
 clear hbx hmp hb hsz HC LK hBx hM
 have h4:w2.cell? ⟨w.heap.size,4,none⟩=some (.slice m.ev.1.A i m.ev.1.c):=by rw[← HNE.out];exact WL.out.lk.bh.cell 4
 obtain⟨ne,hne⟩:∃ ne,i=ne:=⟨_,rfl⟩
 rw[hne] at HNE hne9 h4 ⊢
 clear hne hge
 go_wp2_with fail
 clear h4
 go_loopw [49] (fun v wx=>∃ (i:Nat) (ks:List (Int × Int)) (ps:List (List Value × SH)),v=.int .i64 i∧i≤ne∧Hid (ks=wcZ (cmZ m.pl) (m.pl.ev.take i))∧Hid (WlI m w ks ps Bx M wx)) (fun v _=>ne - (intOf v).toNat)
 case atStart=>exact⟨0,_,_,rfl,Nat.zero_le _,rfl,WL⟩
 clear WL
 obtain⟨i,ks,ps,rfl,hin,HKS,WL⟩:=hrel
 rename World=>wx
 by_cases hin2:i<ne
 ·have hlt:(i:Int)<(ne:Int):=by omega
  obtain⟨⟨e,hd⟩,he⟩:∃ e,m.ev.2[i]?=some e:=⟨m.ev.2[i]'(by have:=HRD.out.fit.ev.1;rw[this,HNE.out];exact hin2),List.getElem?_eq_getElem _⟩
  have hev:m.pl.ev[i]?=some e:=HistM.ev_at he
  have HEV:=zh hev
  have het:=hI.et e (List.mem_of_getElem? hev)
  obtain⟨tn,htn⟩:∃ tn:Nat,e.t=(tn:Int):=⟨e.t.toNat,by omega⟩
  have HTE:=zh htn
  have htl:tn<m.tr.1.n:=by have:=HRD.out.tr_len;omega
  have HTN:Hid (tn<m.tr.1.n):=htl
  have hlt2:(tn:Int)<(m.tr.1.n:Int):=by omega
  obtain⟨b,o,hA,_,hc⟩:=row_cells evCs_len (by omega) (HRD.out.ev.below WL.out.lk.below) he
  rw[hA]
  have c0:wx.cell? ⟨b,o+i * 9,none⟩=some (.int .i64 e.kd):=by have h9:=hc 0 _ rfl;rw[show o+(i * 9+0)=o+i * 9 by omega] at h9;exact h9
  have c1:wx.cell? ⟨b,o+i * 9+1,none⟩=some (.int .i64 (tn:Int)):=by have h9:=hc 1 _ rfl;rw[show o+(i * 9+1)=o+i * 9+1 by omega] at h9;rw[← htn];exact h9
  have c2:wx.cell? ⟨b,o+i * 9+2,none⟩=some (.int .i64 e.s):=by have h9:=hc 2 _ rfl;rw[show o+(i * 9+2)=o+i * 9+2 by omega] at h9;exact h9
  have c3:wx.cell? ⟨b,o+i * 9+3,none⟩=some (.int .i64 e.lev):=by have h9:=hc 3 _ rfl;rw[show o+(i * 9+3)=o+i * 9+3 by omega] at h9;exact h9
  have c4:wx.cell? ⟨b,o+i * 9+4,none⟩=some (.int .i64 e.o):=by have h9:=hc 4 _ rfl;rw[show o+(i * 9+4)=o+i * 9+4 by omega] at h9;exact h9
  have c5:wx.cell? ⟨b,o+i * 9+5,none⟩=some (.int .i64 e.vt):=by have h9:=hc 5 _ rfl;rw[show o+(i * 9+5)=o+i * 9+5 by omega] at h9;exact h9
  have c6:wx.cell? ⟨b,o+i * 9+6,none⟩=some (.int .i64 e.vk):=by have h9:=hc 6 _ rfl;rw[show o+(i * 9+6)=o+i * 9+6 by omega] at h9;exact h9
  have c7:wx.cell? ⟨b,o+i * 9+7,none⟩=some (.int .i64 e.p):=by have h9:=hc 7 _ rfl;rw[show o+(i * 9+7)=o+i * 9+7 by omega] at h9;exact h9
  have c8:wx.cell? ⟨b,o+i * 9+8,none⟩=some (.slice hd.A hd.n hd.c):=by have h9:=hc 8 _ rfl;rw[show o+(i * 9+8)=o+i * 9+8 by omega] at h9;exact h9
  have hal:Below wx.heap.size wx (wx.alloc (.cells #[.int .i64 e.kd,.int .i64 (tn:Int),.int .i64 e.s,.int .i64 e.lev,.int .i64 e.o,.int .i64 e.vt,.int .i64 e.vk,.int .i64 e.p,.slice hd.A hd.n hd.c] 60)):=(Below.refl _ _).alloc (Nat.le_refl _) _
  have KE:=zh (Blk.new wx 60 #[.int .i64 e.kd,.int .i64 (tn:Int),.int .i64 e.s,.int .i64 e.lev,.int .i64 e.o,.int .i64 e.vt,.int .i64 e.vk,.int .i64 e.p,.slice hd.A hd.n hd.c])
  have HWS:Hid (w.heap.size+4≤wx.heap.size):=WL.out.lk.sz
  have WL:=zh (WL.out.on hal)
  clear hc he hal hev het htn
  go_upto_region 12 with fail
  clear c0 c1 c2 c3 c4 c5 c6 c7 c8
  obtain⟨Be,hBe⟩:∃ Be,wx.heap.size=Be:=⟨_,rfl⟩
  have HBE:Hid (w.heap.size+4≤Be∧M≠Be):=by have h1:=WL.out.map.blk_ne KE.out;rw[hBe] at h1;refine⟨?_,fun h=>h1 h.symm⟩;rw[← hBe];exact HWS.out
  rw[hBe] at KE ⊢
  clear hBe
  generalize wx.alloc (.cells #[.int .i64 e.kd,.int .i64 (tn:Int),.int .i64 e.s,.int .i64 e.lev,.int .i64 e.o,.int .i64 e.vt,.int .i64 e.vk,.int .i64 e.p,.slice hd.A hd.n hd.c] 60)=X4 at *
  have x0:=KE.out.cell 0
  have x1:=KE.out.cell 1
  have y0:=WL.out.lk.cb.bool_at (bsZ_get HTN.out)
  by_cases h2:e.kd=2
  ·have q2:(e.kd==2)=true:=by simpa using h2
   have HCM:Hid (cmF m.pl.ev tn=cmZ m.pl e.t):=by show _=_;rw[HTE.out];rfl
   cases hcm:cmF m.pl.ev tn
   ·rw[hcm] at y0
    have HKS2:Hid (ks=wcZ (cmZ m.pl) (m.pl.ev.take (i+1))):=by show _=_;rw[wcZ_no HEV.out (fun h=>by rw[← HCM.out,hcm] at h;cases h.2)];exact HKS.out
    clear hcm h2
    go_wp2_with fail
    go_roundw
    case rel=>exact⟨i+1,_,_,by go_num,hin2,HKS2,WL⟩
    case measure=>simp[intOf];omega
   rw[hcm] at y0
   have hoo:=(hI.eo e (List.mem_of_getElem? HEV.out) h2).1
   obtain⟨on,hon⟩:∃ on:Nat,e.o=(on:Int):=⟨e.o.toNat,by omega⟩
   have HON:=zh hon
   have HKN:Hid (ks++[((tn:Int),(on:Int))]=wcZ (cmZ m.pl) (m.pl.ev.take (i+1))):=by show _=_;rw[wcZ_yes HEV.out h2 (by rw[← HCM.out];exact hcm),HKS.out,HTE.out,HON.out]
   have hkl:ks.length≤1000000:=by rw[HKS.out];have h8:=wcZ_len (cmZ m.pl) (m.pl.ev.take i);have h9:=List.length_take_le' i m.pl.ev;have:=hI.ev;omega
   have hol:on<m.ob.1.n:=by have:=HRD.out.ob_len;omega
   have hlt3:(on:Int)<(m.ob.1.n:Int):=by omega
   have hokp:okZ ((tn:Int),(on:Int)):=⟨wfZ (by simp only;have:=hI.tr;have:=HRD.out.tr_len;have:=HTN.out;omega),wfZ (by simp only;have:=hI.ob;omega)⟩
   rw[hon,h2] at KE
   rw[h2] at x0
   have x4:=KE.out.cell 4
   have HCW:=zh (againW1_any (tn:Int) (on:Int) ks Bx M X4 hokp hkl WL.out.box WL.out.map)
   have HOL:Hid (on<m.ob.1.n):=hol
   obtain⟨tb,htb⟩:∃ tb,decide (((tn:Int),(on:Int))∈ks)=tb:=⟨_,rfl⟩
   rw[htb] at HCW
   have HTB:=zh htb
   clear htb hcm hoo hon hol hokp q2 h2
   cases tb
   ·go_wp2_with fail
    refine HCW.out.mono ?_
    rintro r w3 ⟨rfl,hm3,hk3⟩
    have WL:=zh (WL.out.wants hk3 hm3)
    have KE:=zh (hk3.blk KE.out (Ne.symm HBE.out.2))
    have HRW:Hid (((tn:Int),(on:Int)) ∉ ks):=of_decide_eq_false HTB.out
    obtain⟨⟨xs,hr⟩,hps⟩:∃ p,ps[on]?=some p:=⟨ps[on]'(by rw[WL.out.row.1];exact HOL.out),List.getElem?_eq_getElem _⟩
    have HPS:=zh hps
    have hrn:hr.n≤1000000:=by have h7:=WL.out.rg.own on _ hps;have h8:xs.length=hr.n * 1:=h7.1;rw[show xs=ints (lsZ ks (on:Int)) from WL.out.row.2 on _ hps,ints_length] at h8;have h9:=lsZ_len ks (on:Int);omega
    have hHR:Hid (∀ w':World,Blk w' (w.heap.size+1) 40 ((ps.map (·.2)).flatMap slCs).toArray→w'.cell? ⟨w.heap.size+1,on,none⟩=some (.slice hr.A hr.n hr.c)):=fun w' h=>blk_headZ h (by rw[List.getElem?_map,HPS.out];rfl)
    clear hm3 hk3 HCW x0 x1 x4 y0 hps
    go_wp2_with fail
    generalize w3=X5 at *
    refine wp_region_noPanic ?_
    refine wp_region_K (S:=(fun W=>Blk W Be 60 #[.int .i64 2,.int .i64 (tn:Int),.int .i64 e.s,.int .i64 e.lev,.int .i64 (on:Int),.int .i64 e.vt,.int .i64 e.vk,.int .i64 e.p,.slice hd.A hd.n hd.c]∧Blk W (w.heap.size+2) 88 #[.slice m.tr.1.A m.tr.1.n m.tr.1.c,.slice m.se.1.A m.se.1.n m.se.1.c,.slice m.ob.1.A m.ob.1.n m.ob.1.c,.slice m.pr.1.A m.pr.1.n m.pr.1.c,.slice m.ev.1.A m.ev.1.n m.ev.1.c,.slice m.od.1.A m.od.1.n m.od.1.c,.slice m.ma.1.A m.ma.1.n m.ma.1.c,.slice m.wa.1.A m.wa.1.n m.wa.1.c,.slice (some ⟨w.heap.size+1,0,none⟩) m.ob.1.n m.ob.1.n]∧Blk W (w.heap.size+1) 40 ((ps.map (·.2)).flatMap slCs).toArray)) 19 (by kernel_rfl) ⟨KE.out.drew,Blk.drew WL.out.lk.bl,Blk.drew WL.out.lk.wb⟩ (fun hHeld=>?_)
    have WL:=zh (WL.out.on (Below.refl _ _).drew)
    have KE:=zh KE.out.drew
    generalize X5.drew=wd at *
    refine ka 0 (some 73) (.pointer (some ⟨w.heap.size+2,0,none⟩)) rfl rfl (fun w'=>by go_simp) ?_
    try simp only[Act.put,zK]
    refine ka 1 (some 74) (.pointer (some ⟨w.heap.size+2,0,none⟩)) rfl rfl (fun w'=>by go_simp) ?_
    try simp only[Act.put,zK]
    refine ka 2 (some 75) (.pointer (some ⟨w.heap.size+2,8,none⟩)) rfl rfl (fun w'=>by go_simp) ?_
    try simp only[Act.put,zK]
    refine kv 3 (some 76) (.slice (some ⟨w.heap.size+1,0,none⟩) m.ob.1.n m.ob.1.n) rfl rfl (fun w' hSw=>by have c9:w'.cell? ⟨w.heap.size+2,8,none⟩=some (.slice (some ⟨w.heap.size+1,0,none⟩) m.ob.1.n m.ob.1.n):=Blk.cell (w:=w') hSw.2.1 8;go_simp) ?_
    try simp only[Act.put,zK]
    refine ka 4 (some 77) (.pointer (some ⟨Be,4,none⟩)) rfl rfl (fun w'=>by go_simp) ?_
    try simp only[Act.put,zK]
    refine kv 5 (some 78) (.int .i64 (on:Int)) rfl rfl (fun w' hSw=>by have c9:w'.cell? ⟨Be,4,none⟩=some (.int .i64 (on:Int)):=Blk.cell (w:=w') hSw.1 4;go_simp) ?_
    try simp only[Act.put,zK]
    refine ka 6 (some 79) (.pointer (some ⟨w.heap.size+2,0,none⟩)) rfl rfl (fun w'=>by go_simp) ?_
    try simp only[Act.put,zK]
    refine ka 7 (some 80) (.pointer (some ⟨w.heap.size+2,0,none⟩)) rfl rfl (fun w'=>by go_simp) ?_
    try simp only[Act.put,zK]
    refine ka 8 (some 81) (.pointer (some ⟨w.heap.size+2,8,none⟩)) rfl rfl (fun w'=>by go_simp) ?_
    try simp only[Act.put,zK]
    refine kv 9 (some 82) (.slice (some ⟨w.heap.size+1,0,none⟩) m.ob.1.n m.ob.1.n) rfl rfl (fun w' hSw=>by have c9:w'.cell? ⟨w.heap.size+2,8,none⟩=some (.slice (some ⟨w.heap.size+1,0,none⟩) m.ob.1.n m.ob.1.n):=Blk.cell (w:=w') hSw.2.1 8;go_simp) ?_
    try simp only[Act.put,zK]
    refine ka 10 (some 83) (.pointer (some ⟨Be,4,none⟩)) rfl rfl (fun w'=>by go_simp) ?_
    try simp only[Act.put,zK]
    refine kv 11 (some 84) (.int .i64 (on:Int)) rfl rfl (fun w' hSw=>by have c9:w'.cell? ⟨Be,4,none⟩=some (.int .i64 (on:Int)):=Blk.cell (w:=w') hSw.1 4;go_simp) ?_
    try simp only[Act.put,zK]
    refine ka 12 (some 85) (.pointer (some ⟨w.heap.size+1,on,none⟩)) rfl rfl (fun w'=>by go_simp) ?_
    try simp only[Act.put,zK]
    refine kv 13 (some 86) (.slice hr.A hr.n hr.c) rfl rfl (fun w' hSw=>by have c9:w'.cell? ⟨w.heap.size+1,on,none⟩=some (.slice hr.A hr.n hr.c):=hHR.out w' hSw.2.2;go_simp) ?_
    try simp only[Act.put,zK]
    refine ka 14 (some 87) (.pointer (some ⟨Be,1,none⟩)) rfl rfl (fun w'=>by go_simp) ?_
    try simp only[Act.put,zK]
    refine kv 15 (some 88) (.int .i64 (tn:Int)) rfl rfl (fun w' hSw=>by have c9:w'.cell? ⟨Be,1,none⟩=some (.int .i64 (tn:Int)):=Blk.cell (w:=w') hSw.1 1;go_simp) ?_
    try simp only[Act.put,zK]
    refine kr [16] ?_
    refine kc rfl (fun K hK=>?_) kn
    go_simp
    have hal:Below wd.heap.size wd (wd.alloc (.cells #[.int .i64 (tn:Int)] 3)):=(Below.refl _ _).alloc (Nat.le_refl _) _
    have WL:=zh (WL.out.on hal)
    have KE:=zh (KE.out.below hal KE.out.lt)
    have SL:=zh (int_lit wd [(tn:Int)] 3 #[.int .i64 (tn:Int)] rfl)
    clear hal hHeld
    refine hK.out _ _ ⟨KE.out,WL.out.lk.bl,WL.out.lk.wb⟩ (fun hHeld=>?_)
    clear hK K
    try simp only[Act.put,zK]
    generalize wd.alloc (.cells #[.int .i64 (tn:Int)] 3)=ua at *
    generalize wd.heap.size=XS at *
    refine kr [17] ?_
    refine kc (o:={dst:=some 90,op:=Op.call {callee:=Callee.builtin Builtin.append,args:=#[Operand.tmp 86,Operand.tmp 89],argTypes:=#[40,40]},type:=40,pos:="look.go:37",after:=#[⟨13,.data⟩,⟨16,.data⟩],guard:=none}) rfl (fun K hK=>?_) kn
    have OWN:=zh (WL.out.rg.own on _ HPS.out)
    refine step_append_any _ rfl (.tmp 86) (.tmp 89) 40 rfl (w.heap.size+4) 3 i0 _ 1 8 Tryz.underlying40 hi hz0 hz1 hz2 rfl (by decide) (.slice hr.A hr.n hr.c) hr.n _ rfl OWN.out _ (some ⟨XS,0,none⟩) 1 _ (ints [(tn:Int)]) rfl SL.out (intsZ_one _) (by unfold maxLen;omega) (by omega) WL.out.lk.sz ?_
    intro v' w6 hown6 hgrow6 hat6;obtain⟨A6,c6,rfl,-,-⟩:=own_form2 hown6
    have KT6:=KeepT.grown OWN.out hgrow6
    have KE:=zh (KT6.blk KE.out (by decide))
    have LK6:=zh (WL.out.lk.keepT KT6 (by decide) (by decide) (by decide) (by decide) (WL.out.lk.below.grown hgrow6 WL.out.lk.below.size fun g hg=>by have:=(own_in_block OWN.out hg).1;omega) (Nat.le_trans WL.out.lk.sz hgrow6.size))
    have HB6:=zh (KT6.blk WL.out.box (by decide))
    have HM6:=zh (WL.out.map.keep KT6 (fun cs hb=>WL.out.map.blk_ne hb rfl))
    have HO6:=zh hown6
    have HG6:=zh hgrow6
    have HA6:=zh hat6
    clear hown6 hgrow6 hat6 hHeld KT6
    refine hK.out _ _ ⟨KE.out,LK6.out.bl,LK6.out.wb⟩ (fun hHeld=>?_)
    clear hK K
    try simp only[Act.put,zK]
    refine ka 18 (some 91) (.pointer (some ⟨w.heap.size+1,on,none⟩)) rfl rfl (fun w'=>by go_simp) ?_
    try simp only[Act.put,zK]
    refine kr [19] ?_
    refine kz (o:={dst:=none,op:=Op.store 40 (Operand.tmp 91) (Operand.tmp 90),type:=0,pos:="look.go:37",after:=#[⟨18,.data⟩,⟨17,.data⟩,⟨17,.chain⟩,⟨0,.phase⟩,⟨1,.phase⟩,⟨2,.phase⟩,⟨3,.phase⟩,⟨4,.phase⟩,⟨5,.phase⟩,⟨6,.phase⟩,⟨7,.phase⟩,⟨8,.phase⟩,⟨9,.phase⟩,⟨10,.phase⟩,⟨11,.phase⟩,⟨12,.phase⟩,⟨13,.phase⟩,⟨14,.phase⟩,⟨15,.phase⟩,⟨16,.phase⟩,⟨17,.phase⟩],guard:=none}) rfl (fun K hK=>?_)
    have y0:=hHR.out w6 LK6.out.wb
    have f0:=LK6.out.wb.frozen on
    go_simp
    have WLF:=zh (WL.out.more LK6.out HB6.out HM6.out HPS.out HRW.out HO6.out HG6.out HA6.out)
    clear y0 f0 hHeld LK6 HB6 HM6 HO6 HG6 HA6 OWN SL WL KE hHR
    refine hK.out _ _ ?_
    clear hK K
    try simp only[Act.put]
    refine kd (by kernel_rfl) ?_ _
    refine NoPanic.normal ?_
    have HKS2:Hid (ks++[((tn:Int),(on:Int))]=wcZ (cmZ m.pl) (m.pl.ev.take (i+1))):=HKN
    go_wp2_with fail
    go_roundw
    case rel=>exact⟨i+1,_,_,by go_num,hin2,HKS2,WLF⟩
    case measure=>simp[intOf];omega
   go_wp2_with fail
   refine HCW.out.mono ?_
   rintro r w3 ⟨rfl,hm3,hk3⟩
   have WL:=zh (WL.out.asked hk3 hm3 (of_decide_eq_true HTB.out))
   have HKS2:=HKN
   clear hm3 hk3 HCW KE x0 x1 x4 y0
   go_wp2_with fail
   go_roundw
   case rel=>exact⟨i+1,_,_,by go_num,hin2,HKS2,WL⟩
   case measure=>simp[intOf];omega
  have q2:(e.kd==2)=false:=by simpa using h2
  have HKS2:Hid (ks=wcZ (cmZ m.pl) (m.pl.ev.take (i+1))):=by show _=_;rw[wcZ_no HEV.out (fun h=>h2 h.1)];exact HKS.out
  clear h2
  go_wp2_with fail
  go_roundw
  case rel=>exact⟨i+1,_,_,by go_num,hin2,HKS2,WL⟩
  case measure=>simp[intOf];omega
 have hge:¬(i:Int)<(ne:Int):=by omega
 obtain rfl:i=ne:=by omega
 have HKA:Hid (ks=wcZ (cmZ m.pl) m.pl.ev):=by show _=_;rw[HKS.out,List.take_of_length_le (by rw[HRD.out.ev_len,HNE.out];exact Nat.le_refl _)]
 have SR:Hid (LkI m w (ps.map (·.2)) (cmF m.pl.ev) wx∧RG 3 1 (w.heap.size+4) wx ps∧ps.length=m.ob.1.n∧∀ (x:Nat) (p:List Value × SH),ps[x]?=some p→p.1=ints (if x<0 then ruWriters m.pl (x:Int) else lsZ ks (x:Int))):=⟨WL.out.lk,WL.out.rg,WL.out.row.1,fun x p hp=>by rw[if_neg (Nat.not_lt_zero _)];exact WL.out.row.2 x p hp⟩
 have hob9:m.ob.1.n≤1000000:=by have:=hI.ob;have:=HRD.out.ob_len;omega
 have l8:wx.cell? ⟨w.heap.size+2,8,none⟩=some (.slice (some ⟨w.heap.size+1,0,none⟩) m.ob.1.n m.ob.1.n):=WL.out.lk.bl.cell 8
 clear WL hin hin2 HKS hge
 go_wp2_with fail
 clear l8
 go_loopw [98] (fun v wx=>∃ (i:Nat) (ps:List (List Value × SH)),v=.int .i64 i∧i≤m.ob.1.n∧Hid (LkI m w (ps.map (·.2)) (cmF m.pl.ev) wx∧RG 3 1 (w.heap.size+4) wx ps∧ps.length=m.ob.1.n∧∀ (x:Nat) (p:List Value × SH),ps[x]?=some p→p.1=ints (if x<i then ruWriters m.pl (x:Int) else lsZ ks (x:Int)))) (fun v _=>m.ob.1.n - (intOf v).toNat)
 case atStart=>exact⟨0,ps,rfl,Nat.zero_le _,SR⟩
 clear SR
 obtain⟨j,ps,rfl,hjn,SR⟩:=hrel
 rename World=>wx
 by_cases hj2:j<m.ob.1.n
 ·have hlt:(j:Int)<(m.ob.1.n:Int):=by omega
  obtain⟨⟨xs,hr⟩,hps⟩:∃ p,ps[j]?=some p:=⟨ps[j]'(by rw[SR.out.2.2.1];exact hj2),List.getElem?_eq_getElem _⟩
  have hxs:=SR.out.2.2.2 j _ hps
  rw[if_neg (Nat.lt_irrefl _)] at hxs
  simp only at hxs
  have hown:=SR.out.2.1.own j _ hps
  simp only at hown
  rw[hxs] at hown
  have hrl:(lsZ ks (j:Int)).length=hr.n:=by have h8:=hown.1;rw[ints_length] at h8;omega
  have hkl:ks.length≤3000:=by rw[HKA.out];exact Nat.le_trans (wcZ_len _ _) hI.ev
  have hll:=lsZ_len ks (j:Int)
  have HSO:=zh (sortZ_any hown hrl (by omega))
  have c0:wx.cell? ⟨w.heap.size+1,j,none⟩=some (.slice hr.A hr.n hr.c):=blk_headZ SR.out.1.wb (by rw[List.getElem?_map,hps];rfl)
  have HPS:=zh hps
  have HOWN:=zh hown
  clear hown hps hxs hrl hkl hll
  go_wp2_with fail
  refine HSO.out.mono ?_
  rintro r w3 ⟨rfl,ho3,hg3⟩
  have SR2:Hid (LkI m w ((ps.set j (ints (ruWriters m.pl (j:Int)),hr)).map (·.2)) (cmF m.pl.ev) w3∧RG 3 1 (w.heap.size+4) w3 (ps.set j (ints (ruWriters m.pl (j:Int)),hr))∧(ps.set j (ints (ruWriters m.pl (j:Int)),hr)).length=m.ob.1.n∧∀ (x:Nat) (p:List Value × SH),(ps.set j (ints (ruWriters m.pl (j:Int)),hr))[x]?=some p→p.1=ints (if x<j+1 then ruWriters m.pl (x:Int) else lsZ ks (x:Int))):=by
   rw[HKA.out,writersZ hI] at ho3
   have kt:=KeepT.grown HOWN.out hg3
   have hmap:(ps.set j (ints (ruWriters m.pl (j:Int)),hr)).map (·.2)=ps.map (·.2):=by
    rw[List.map_set]
    refine List.ext_getElem? fun x=>?_
    rw[List.getElem?_set]
    split
    ·rename_i e
     subst e
     split
     ·rw[List.getElem?_map,HPS.out];rfl
     rename_i h;rw[List.getElem?_eq_none (by omega)]
    rfl
   refine⟨?_,SR.out.2.1.putZ HPS.out ho3 hg3 (.inl rfl),by rw[List.length_set];exact SR.out.2.2.1,fun x p hp=>?_⟩
   ·rw[hmap]
    exact SR.out.1.keepT kt (by decide) (by decide) (by decide) (by decide) (SR.out.1.below.grown hg3 SR.out.1.below.size fun g hg=>by have:=(own_in_block HOWN.out hg).1;omega) (Nat.le_trans SR.out.1.sz hg3.size)
   by_cases e:j=x
   ·subst e
    rw[List.getElem?_set_self (List.getElem?_eq_some_iff.1 HPS.out).1] at hp
    injection hp with hp
    rw[← hp,if_pos (Nat.lt_succ_self _)]
   rw[List.getElem?_set_ne e] at hp
   rw[SR.out.2.2.2 x p hp]
   by_cases hx:x<j
   ·rw[if_pos hx,if_pos (by omega)]
   rw[if_neg hx,if_neg (by omega)]
  clear ho3 hg3 HSO SR c0 HOWN HPS
  go_wp2_with fail
  go_roundw
  case rel=>exact⟨j+1,_,by go_num,hj2,SR2⟩
  case measure=>simp[intOf];omega
 have hge:¬(j:Int)<(m.ob.1.n:Int):=by omega
 obtain rfl:j=m.ob.1.n:=by omega
 have HQ:Hid (∀ Y:World,Keep (fun j=>j<N0∨w.heap.size≤j) wx Y→LookZ m ⟨some ⟨w.heap.size+1,0,none⟩,m.ob.1.n,m.ob.1.n⟩ (ps.map (·.2)) (w.heap.size+2) Y.heap.size Y):=by
  intro Y hk
  have hbl:=hk.blk SR.out.1.bl (.inr (by omega))
  have hwb:=hk.blk SR.out.1.wb (.inr (by omega))
  refine⟨hbl,hbl.lt,((HR0.out.on (SR.out.1.below.mono hN0)).keep hk (Nat.le_trans hN0 SR.out.1.below.size) fun k hk=>.inl hk).more (Nat.le_trans hN0 (Nat.le_trans SR.out.1.below.size hk.size)),⟨by rw[fm_len slCs_len,List.length_map,SR.out.2.2.1],fun _=>⟨_,rfl,hwb.lt,fun k u hu=>?_⟩⟩,by rw[List.length_map,SR.out.2.2.1,HRD.out.ob_len],fun x r hx=>?_⟩
  ·rw[Go.WideShapes.add_plain,Nat.zero_add,hwb.cell,List.getElem?_toArray]
   exact hu
  rw[List.getElem?_map] at hx
  obtain⟨p,hp,rfl⟩:=Option.map_eq_some_iff.1 hx
  have hxl:x<m.ob.1.n:=by rw[← SR.out.2.2.1];exact (List.getElem?_eq_some_iff.1 hp).1
  have h7:=SR.out.2.2.2 x p hp
  rw[if_pos hxl] at h7
  have h80:=SR.out.2.1.own x p hp
  have h8:=hk.own h80 fun g hg=>.inr (by have:=(own_in_block h80 hg).1;omega)
  rw[h7] at h8
  refine⟨?_,Reads.of_own h8⟩
  have h9:=h8.1
  rw[ints_length] at h9
  omega
 have HB:=zh SR.out.1.below
 clear SR
 go_wp2_with fail
 go_ret
 exact⟨_,_,_,rfl,HQ.out,HB.out⟩
end Go.Proofs.YtmkknbonmameoaaGreatDoor
