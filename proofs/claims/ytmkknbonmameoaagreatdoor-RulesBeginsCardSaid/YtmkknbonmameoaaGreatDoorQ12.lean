import Derived.Test.YtmkknbonmameoaaGreatDoorQ5
import Derived.Sort.CutIn
import Derived.Maps.OwnOps
import Derived.Maps.OwnIn
import Derived.Test.YtmkknbonmameoaaGreatDoorQ11
import Derived.Test.YtmkknbonmameoaaGreatDoorQ8
import Derived.Test.YtmkknbonmameoaaGreatDoorQ9
-- holds: YtmkknbonmameoaaGreatDoorHZf YtmkknbonmameoaaGreatDoorHZg
namespace Go.Proofs.YtmkknbonmameoaaGreatDoor
open Go.RowKit Go.Shelf
open Go.Maps (Keyed IsMap atKey_put_same atKey_put_other int_keyed keyOf_int_mk)
set_option maxRecDepth 100000 in
set_option maxHeartbeats 4000000 in
theorem againW1_any (p1 p2:Int) (ks:List (Int × Int)) (Bm M:Nat) (W:World) (hp:okZ (p1,p2)) (hn:ks.length≤1000000) (hB:Blk W Bm 142 #[.map (some M)]) (hM:CntM 110 keyZ okZ M ks W) :
 Calls Tryz.prog 115 #[.agg #[.int .i64 p1,.int .i64 p2],.pointer (some ⟨Bm,0,none⟩)] W fun e W'=>e=.returned (.bool (decide ((p1,p2)∈ks)))∧CntM 110 keyZ okZ M (ks++[(p1,p2)]) W'∧Keep (fun j=>j≠M) W W':=by
 have b0:Below W.heap.size W (W.alloc (.cells #[.int .i64 p1,.int .i64 p2] 110)):=(Below.refl _ _).alloc (Nat.le_refl _) _
 have KX:=zh (Blk.new W 110 #[.int .i64 p1,.int .i64 p2])
 have KB:=zh (hB.below b0 hB.lt)
 have KM:=zh (hM.on b0)
 have HNE:Hid (Bm≠M∧W.heap.size≠M):=⟨hM.blk_ne hB,by have:=hM.lt;omega⟩
 have K0:Hid (Keep (fun j=>j≠M) W (W.alloc (.cells #[.int .i64 p1,.int .i64 p2] 110))):=Keep.of_all _ b0
 clear hB hM b0
 go_enter Tryz.func115,Tryz.ntmps115
 go_upto_region 1 with fail
 obtain⟨X,hX⟩:∃ X,W.heap.size=X:=⟨_,rfl⟩
 rw[hX] at KX HNE ⊢
 generalize W.alloc (.cells #[.int .i64 p1,.int .i64 p2] 110)=W0 at *
 have KD:=zh (KM.out.on (Below.refl _ W0).drew)
 obtain⟨c,v0,st,wq,w2,hc,hcl,hl,hme,hl1,hgq,hst,hm2,hg2⟩:=KD.out.bump writingLaw writingKeys Tryz.underlying142 hp (by omega)
 simp only[encZ] at hl hme hl1
 have HM2:=zh hm2
 have KX2:=zh ((KX.out.drew).grown hg2 (by intro h;injection h with h;exact HNE.out.2 h))
 have KB2:=zh ((KB.out.drew).grown hg2 (by intro h;injection h with h;exact HNE.out.1 h))
 have KK:=zh ((K0.out.drew).grown hg2 (fun g hg=>.inr fun h=>h (by injection hg with hg;exact hg.symm)))
 have hlk:=hm2.look writingKeys Tryz.underlying142 hp
 rw[List.count_append,List.count_singleton_self,← hc] at hlk
 simp only[encZ] at hlk
 rw[show ((c+1:Nat):Int)=(c:Int)+1 by omega] at hlk
 have hc0:(c:Int)≤1000000:=by omega
 have hc1:0≤(c:Int):=by omega
 have y0:=KX.out.cell 0
 have y1:=KX.out.cell 1
 have z0:=KB.out.cell 0
 have u0:=KX2.out.cell 0
 have u1:=KX2.out.cell 1
 have v1:=KB2.out.cell 0
 have HC:Hid (c=ks.count (p1,p2)):=hc
 clear hc hm2 hg2 hgq KM KD KX KB KX2 KB2 hX hcl
 rcases Nat.eq_zero_or_pos c with h0 | h0
 ·have hgt:¬((c:Int)+1 > 1):=by omega
  have HR:Hid (decide ((p1,p2)∈ks)=false):=decide_eq_false (fun h=>by have:=List.count_pos_iff.2 h;have:=HC.out;omega)
  clear h0
  go_region
  all_goals
   go_wp2_with fail
   go_ret
   exact⟨by rw[HR.out];rfl,HM2.out,KK.out⟩
 have hgt:((c:Int)+1 > 1):=by omega
 have HR:Hid (decide ((p1,p2)∈ks)=true):=decide_eq_true (List.count_pos_iff.1 (by have:=HC.out;omega))
 clear h0
 go_region
 all_goals
  go_wp2_with fail
  go_ret
  exact⟨by rw[HR.out];rfl,HM2.out,KK.out⟩
set_option maxRecDepth 100000 in
set_option maxHeartbeats 4000000 in
theorem againP1_any (p1 p2:Int) (ks:List (Int × Int)) (Bm M:Nat) (W:World) (hp:okZ (p1,p2)) (hn:ks.length≤1000000) (hB:Blk W Bm 186 #[.map (some M)]) (hM:CntM 159 keyZ okZ M ks W) :
 Calls Tryz.prog 141 #[.agg #[.int .i64 p1,.int .i64 p2],.pointer (some ⟨Bm,0,none⟩)] W fun e W'=>e=.returned (.bool (decide ((p1,p2)∈ks)))∧CntM 159 keyZ okZ M (ks++[(p1,p2)]) W'∧Keep (fun j=>j≠M) W W':=by
 have b0:Below W.heap.size W (W.alloc (.cells #[.int .i64 p1,.int .i64 p2] 159)):=(Below.refl _ _).alloc (Nat.le_refl _) _
 have KX:=zh (Blk.new W 159 #[.int .i64 p1,.int .i64 p2])
 have KB:=zh (hB.below b0 hB.lt)
 have KM:=zh (hM.on b0)
 have HNE:Hid (Bm≠M∧W.heap.size≠M):=⟨hM.blk_ne hB,by have:=hM.lt;omega⟩
 have K0:Hid (Keep (fun j=>j≠M) W (W.alloc (.cells #[.int .i64 p1,.int .i64 p2] 159))):=Keep.of_all _ b0
 clear hB hM b0
 go_enter Tryz.func141,Tryz.ntmps141
 go_upto_region 1 with fail
 obtain⟨X,hX⟩:∃ X,W.heap.size=X:=⟨_,rfl⟩
 rw[hX] at KX HNE ⊢
 generalize W.alloc (.cells #[.int .i64 p1,.int .i64 p2] 159)=W0 at *
 have KD:=zh (KM.out.on (Below.refl _ W0).drew)
 obtain⟨c,v0,st,wq,w2,hc,hcl,hl,hme,hl1,hgq,hst,hm2,hg2⟩:=KD.out.bump pairLaw pairKeys Tryz.underlying186 hp (by omega)
 simp only[encZ] at hl hme hl1
 have HM2:=zh hm2
 have KX2:=zh ((KX.out.drew).grown hg2 (by intro h;injection h with h;exact HNE.out.2 h))
 have KB2:=zh ((KB.out.drew).grown hg2 (by intro h;injection h with h;exact HNE.out.1 h))
 have KK:=zh ((K0.out.drew).grown hg2 (fun g hg=>.inr fun h=>h (by injection hg with hg;exact hg.symm)))
 have hlk:=hm2.look pairKeys Tryz.underlying186 hp
 rw[List.count_append,List.count_singleton_self,← hc] at hlk
 simp only[encZ] at hlk
 rw[show ((c+1:Nat):Int)=(c:Int)+1 by omega] at hlk
 have hc0:(c:Int)≤1000000:=by omega
 have hc1:0≤(c:Int):=by omega
 have y0:=KX.out.cell 0
 have y1:=KX.out.cell 1
 have z0:=KB.out.cell 0
 have u0:=KX2.out.cell 0
 have u1:=KX2.out.cell 1
 have v1:=KB2.out.cell 0
 have HC:Hid (c=ks.count (p1,p2)):=hc
 clear hc hm2 hg2 hgq KM KD KX KB KX2 KB2 hX hcl
 rcases Nat.eq_zero_or_pos c with h0 | h0
 ·have hgt:¬((c:Int)+1 > 1):=by omega
  have HR:Hid (decide ((p1,p2)∈ks)=false):=decide_eq_false (fun h=>by have:=List.count_pos_iff.2 h;have:=HC.out;omega)
  clear h0
  go_region
  all_goals
   go_wp2_with fail
   go_ret
   exact⟨by rw[HR.out];rfl,HM2.out,KK.out⟩
 have hgt:((c:Int)+1 > 1):=by omega
 have HR:Hid (decide ((p1,p2)∈ks)=true):=decide_eq_true (List.count_pos_iff.1 (by have:=HC.out;omega))
 clear h0
 go_region
 all_goals
  go_wp2_with fail
  go_ret
  exact⟨by rw[HR.out];rfl,HM2.out,KK.out⟩
set_option maxRecDepth 100000 in
set_option maxHeartbeats 4000000 in
theorem againI1_any (p:Int) (ks:List Int) (Bm M:Nat) (W:World) (hp:okI p) (hn:ks.length≤1000000) (hB:Blk W Bm 185 #[.map (some M)]) (hM:CntM 3 keyI okI M ks W) :
 Calls Tryz.prog 138 #[.int .i64 p,.pointer (some ⟨Bm,0,none⟩)] W fun e W'=>e=.returned (.bool (decide (p∈ks)))∧CntM 3 keyI okI M (ks++[p]) W'∧Keep (fun j=>j≠M) W W':=by
 have HNE:Hid (Bm≠M):=hM.blk_ne hB
 have KB:=zh hB
 have hlk:=hM.look intKeys Tryz.underlying185 hp
 simp only[encI] at hlk
 obtain⟨D,hD,hC⟩:=hM
 obtain⟨c,hc⟩:∃ c,ks.count p=c:=⟨_,rfl⟩
 rw[hc] at hlk
 have hcl:c≤ks.length:=by rw[← hc];exact List.count_le_length
 have HD:=zh hD
 have HC:=zh hC
 have HCC:=zh hc
 have z0:=hB.cell 0
 have hc0:(c:Int)≤1000000:=by omega
 have hc1:0≤(c:Int):=by omega
 have HN:Hid (ks.length≤1000000):=hn
 clear hc hcl hB hD hC hn
 go_enter Tryz.func138,Tryz.ntmps138
 go_upto_region 2 with (at_mapUpdate;refine wpList_mapUpdate_own _ rfl _ _ _ 185 rfl 3 3 (int_keyed Tryz.underlying3) Tryz.underlying185 _ M ks.length D rfl HD.out (by have:=HN.out;unfold maxLen;omega) _ _ (.int .i64 p) rfl rfl (keyOf_int_mk Tryz.underlying3 hp) (.lit (.int .i64 ((c:Int)+1))) [] (plainElem_int Tryz.underlying3 (WalkArith.wf_i64 (by omega))) ?_;intro w7 hown hgrow)
 have HM2:Hid (CntM 3 keyI okI M (ks++[p]) w7):=by
  have h9:=HC.out.put intKeys hp
  rw[HCC.out] at h9
  exact⟨_,by rw[List.length_append];exact hown,h9⟩
 have KB2:=zh (KB.out.grown hgrow (by intro h;injection h with h;exact HNE.out h))
 have KK:Hid (Keep (fun j=>j≠M) W w7):=(Keep.refl _ W).grown hgrow (fun g hg=>.inr fun h=>h (by injection hg with hg;exact hg.symm))
 have hlk2:=HM2.out.look intKeys Tryz.underlying185 hp
 rw[List.count_append,List.count_singleton_self,HCC.out] at hlk2
 simp only[encI] at hlk2
 rw[show ((c+1:Nat):Int)=(c:Int)+1 by omega] at hlk2
 have v1:=KB2.out.cell 0
 clear hown hgrow hlk z0 KB KB2 HD HC
 rcases Nat.eq_zero_or_pos c with h0 | h0
 ·have hgt:¬((c:Int)+1 > 1):=by omega
  have HR:Hid (decide (p∈ks)=false):=decide_eq_false (fun h=>by have:=List.count_pos_iff.2 h;have:=HCC.out;omega)
  clear h0
  go_wp2_with fail
  go_ret
  exact⟨by rw[HR.out];rfl,HM2.out,KK.out⟩
 have hgt:((c:Int)+1 > 1):=by omega
 have HR:Hid (decide (p∈ks)=true):=decide_eq_true (List.count_pos_iff.1 (by have:=HCC.out;omega))
 clear h0
 go_wp2_with fail
 go_ret
 exact⟨by rw[HR.out];rfl,HM2.out,KK.out⟩
set_option maxRecDepth 100000 in
set_option maxHeartbeats 1000000 in
theorem againW_any (W:World):Calls Tryz.prog 56 #[] W fun e W'=>e=.returned (.func (.func 115) #[] #[.pointer (some ⟨W.heap.size+1,0,none⟩)])∧Blk W' (W.heap.size+1) 142 #[.map (some W.heap.size)]∧CntM 110 keyZ okZ W.heap.size ([]:List (Int × Int)) W'∧Below W.heap.size W W'∧W'.heap.size=W.heap.size+2:=by
 have hmm:=@run_makeMap Tryz.prog
 have b1:Below W.heap.size W (W.alloc (.map #[] 0)):=(Below.refl _ _).alloc (Nat.le_refl _) _
 have b2:Below (W.alloc (.map #[] 0)).heap.size (W.alloc (.map #[] 0)) ((W.alloc (.map #[] 0)).alloc (.cells #[.map (some W.heap.size)] 142)):=(Below.refl _ _).alloc (Nat.le_refl _) _
 have HB:Hid (Blk ((W.alloc (.map #[] 0)).alloc (.cells #[.map (some W.heap.size)] 142)) (W.heap.size+1) 142 #[.map (some W.heap.size)]):=by
  have:=Blk.new (W.alloc (.map #[] 0)) 142 #[.map (some W.heap.size)]
  rwa [World.size_alloc] at this
 have HM:Hid (CntM 110 keyZ okZ W.heap.size ([]:List (Int × Int)) ((W.alloc (.map #[] 0)).alloc (.cells #[.map (some W.heap.size)] 142))):=(CntM.new W).on b2
 have HL:Hid (Below W.heap.size W ((W.alloc (.map #[] 0)).alloc (.cells #[.map (some W.heap.size)] 142))):=b1.trans (b2.mono b1.size)
 have HS:Hid (((W.alloc (.map #[] 0)).alloc (.cells #[.map (some W.heap.size)] 142)).heap.size=W.heap.size+2):=by show _=_;simp
 clear b1 b2
 go_enter Tryz.func56,Tryz.ntmps56
 go_wp2_with fail
 go_ret
 exact⟨rfl,HB.out,HM.out,HL.out,HS.out⟩
set_option maxRecDepth 100000 in
set_option maxHeartbeats 1000000 in
theorem againP_any (W:World):Calls Tryz.prog 110 #[] W fun e W'=>e=.returned (.func (.func 141) #[] #[.pointer (some ⟨W.heap.size+1,0,none⟩)])∧Blk W' (W.heap.size+1) 186 #[.map (some W.heap.size)]∧CntM 159 keyZ okZ W.heap.size ([]:List (Int × Int)) W'∧Below W.heap.size W W'∧W'.heap.size=W.heap.size+2:=by
 have hmm:=@run_makeMap Tryz.prog
 have b1:Below W.heap.size W (W.alloc (.map #[] 0)):=(Below.refl _ _).alloc (Nat.le_refl _) _
 have b2:Below (W.alloc (.map #[] 0)).heap.size (W.alloc (.map #[] 0)) ((W.alloc (.map #[] 0)).alloc (.cells #[.map (some W.heap.size)] 186)):=(Below.refl _ _).alloc (Nat.le_refl _) _
 have HB:Hid (Blk ((W.alloc (.map #[] 0)).alloc (.cells #[.map (some W.heap.size)] 186)) (W.heap.size+1) 186 #[.map (some W.heap.size)]):=by
  have:=Blk.new (W.alloc (.map #[] 0)) 186 #[.map (some W.heap.size)]
  rwa [World.size_alloc] at this
 have HM:Hid (CntM 159 keyZ okZ W.heap.size ([]:List (Int × Int)) ((W.alloc (.map #[] 0)).alloc (.cells #[.map (some W.heap.size)] 186))):=(CntM.new W).on b2
 have HL:Hid (Below W.heap.size W ((W.alloc (.map #[] 0)).alloc (.cells #[.map (some W.heap.size)] 186))):=b1.trans (b2.mono b1.size)
 have HS:Hid (((W.alloc (.map #[] 0)).alloc (.cells #[.map (some W.heap.size)] 186)).heap.size=W.heap.size+2):=by show _=_;simp
 clear b1 b2
 go_enter Tryz.func110,Tryz.ntmps110
 go_wp2_with fail
 go_ret
 exact⟨rfl,HB.out,HM.out,HL.out,HS.out⟩
set_option maxRecDepth 100000 in
set_option maxHeartbeats 1000000 in
theorem againI_any (W:World):Calls Tryz.prog 103 #[] W fun e W'=>e=.returned (.func (.func 138) #[] #[.pointer (some ⟨W.heap.size+1,0,none⟩)])∧Blk W' (W.heap.size+1) 185 #[.map (some W.heap.size)]∧CntM 3 keyI okI W.heap.size ([]:List (Int)) W'∧Below W.heap.size W W'∧W'.heap.size=W.heap.size+2:=by
 have hmm:=@run_makeMap Tryz.prog
 have b1:Below W.heap.size W (W.alloc (.map #[] 0)):=(Below.refl _ _).alloc (Nat.le_refl _) _
 have b2:Below (W.alloc (.map #[] 0)).heap.size (W.alloc (.map #[] 0)) ((W.alloc (.map #[] 0)).alloc (.cells #[.map (some W.heap.size)] 185)):=(Below.refl _ _).alloc (Nat.le_refl _) _
 have HB:Hid (Blk ((W.alloc (.map #[] 0)).alloc (.cells #[.map (some W.heap.size)] 185)) (W.heap.size+1) 185 #[.map (some W.heap.size)]):=by
  have:=Blk.new (W.alloc (.map #[] 0)) 185 #[.map (some W.heap.size)]
  rwa [World.size_alloc] at this
 have HM:Hid (CntM 3 keyI okI W.heap.size ([]:List (Int)) ((W.alloc (.map #[] 0)).alloc (.cells #[.map (some W.heap.size)] 185))):=(CntM.new W).on b2
 have HL:Hid (Below W.heap.size W ((W.alloc (.map #[] 0)).alloc (.cells #[.map (some W.heap.size)] 185))):=b1.trans (b2.mono b1.size)
 have HS:Hid (((W.alloc (.map #[] 0)).alloc (.cells #[.map (some W.heap.size)] 185)).heap.size=W.heap.size+2):=by show _=_;simp
 clear b1 b2
 go_enter Tryz.func103,Tryz.ntmps103
 go_wp2_with fail
 go_ret
 exact⟨rfl,HB.out,HM.out,HL.out,HS.out⟩
end Go.Proofs.YtmkknbonmameoaaGreatDoor
namespace Go.Proofs.YtmkknbonmameoaaGreatDoor
open Go.RowKit Go.Shelf
def boolsZ (bs:List Bool):List Value:=bs.map Value.bool
theorem boolsZ_length (bs:List Bool):(boolsZ bs).length=bs.length:=by unfold boolsZ;simp
theorem boolsZ_set (bs:List Bool) (k:Nat) (b:Bool):(boolsZ bs).set k (.bool b)=boolsZ (bs.set k b):=by unfold boolsZ;rw[List.map_set]
theorem boolsZ_get {bs:List Bool} {k:Nat} {b:Bool} (h:bs[k]?=some b):(boolsZ bs)[k]?=some (.bool b):=by unfold boolsZ;rw[List.getElem?_map,h];rfl
theorem boolZ_info:(Tryz.prog.info? 4).map (fun i=>(i.zero,i.size,i.bytes))=some (some (.bool false),1,1):=by kernel_rfl
theorem madeZ_bools (n:Nat):madeCells (Value.bool false).cells (n * 1)=(boolsZ (List.replicate n false)).toArray:=by
 apply Array.ext
 ·rw[size_madeCells,List.size_toArray,boolsZ_length,List.length_replicate,Nat.mul_one]
 intro j h1 h2
 have hz:(Value.bool false).cells=#[.bool false]:=by simp[Value.cells]
 simp only[madeCells,hz,Array.getElem_map,Array.getElem_range,List.getElem_toArray,boolsZ,List.getElem_map,List.getElem_replicate]
 simp[Nat.mod_one]
theorem boolZ_make (n:Nat) (hn:n≤1000000) (W:World) :
 (Instr.makeSlice 106 (.int .i64 (n:Int)) (.int .i64 (n:Int))).run Tryz.prog W=.ok (.slice (some ⟨W.heap.size,0,none⟩) n n) (W.alloc (.cells (boolsZ (List.replicate n false)).toArray 4)):=by
 obtain⟨i0,hi,hz0,hz1,hz2⟩:=info_parts boolZ_info
 have hr:=run_make (P:=Tryz.prog) W 106 4 i0 _ Tryz.underlying106 hi hz0 .i64 .i64 n n (by omega) (by omega) (by rw[hz2];omega) (by omega)
 simp only[Int.toNat_natCast] at hr
 rw[hz1,madeZ_bools] at hr
 exact hr
theorem Blk.boolZ {W:World} {M tn:Nat} {bs:List Bool} (h:Blk W M 4 (boolsZ bs).toArray) (b:Bool):Blk (W.setCell ⟨M,tn,none⟩ (.bool b)) M 4 (boolsZ (bs.set tn b)).toArray:=by
 have:=h.set_ tn (.bool b)
 rwa [List.setIfInBounds_toArray,boolsZ_set] at this
theorem Blk.bool_at {W:World} {M tn:Nat} {bs:List Bool} {b:Bool} (h:Blk W M 4 (boolsZ bs).toArray) (hb:bs[tn]?=some b):W.cell? ⟨M,tn,none⟩=some (.bool b):=by
 rw[h.cell,List.getElem?_toArray]
 exact boolsZ_get hb
set_option maxRecDepth 100000 in
set_option maxHeartbeats 4000000 in
theorem begun1_any (kd t s lev o vt vk pp:Int) (A:Option Addr) (n c:Nat) (tn N:Nat) (bs:List Bool) (a:Bool) (ht:t=(tn:Int)) (hbs:bs[tn]?=some a) (hl:bs.length=N) (Bb Mb:Nat) (W:World) (hB:Blk W Bb 106 #[.slice (some ⟨Mb,0,none⟩) N N]) (hM:Blk W Mb 4 (boolsZ bs).toArray) :
 Calls Tryz.prog 92 #[.agg #[.int .i64 kd,.int .i64 t,.int .i64 s,.int .i64 lev,.int .i64 o,.int .i64 vt,.int .i64 vk,.int .i64 pp,.slice A n c],.pointer (some ⟨Bb,0,none⟩)] W fun r W'=>r=.returned (.bool (decide (kd=1)==a))∧Blk W' Mb 4 (boolsZ (bs.set tn (a || decide (kd=1)))).toArray∧Keep (fun j=>j≠Mb) W W':=by
 subst ht
 have b0:Below W.heap.size W (W.alloc (.cells #[.int .i64 kd,.int .i64 (tn:Int),.int .i64 s,.int .i64 lev,.int .i64 o,.int .i64 vt,.int .i64 vk,.int .i64 pp,.slice A n c] 60)):=(Below.refl _ _).alloc (Nat.le_refl _) _
 have KX:=zh (Blk.new W 60 #[.int .i64 kd,.int .i64 (tn:Int),.int .i64 s,.int .i64 lev,.int .i64 o,.int .i64 vt,.int .i64 vk,.int .i64 pp,.slice A n c])
 have KB:=zh (hB.below b0 hB.lt)
 have KM:=zh (hM.below b0 hM.lt)
 have K0:Hid (Keep (fun j=>j≠Mb) W (W.alloc (.cells #[.int .i64 kd,.int .i64 (tn:Int),.int .i64 s,.int .i64 lev,.int .i64 o,.int .i64 vt,.int .i64 vk,.int .i64 pp,.slice A n c] 60))):=Keep.of_all _ b0
 have HBM:Hid (Bb≠Mb):=hB.ne_ hM (by decide)
 have HXM:Hid (W.heap.size≠Mb):=by have:=hM.lt;show _≠_;omega
 have hlt:(tn:Int)<(N:Int):=by have:=(List.getElem?_eq_some_iff.1 hbs).1;omega
 have HBS:=zh hbs
 clear hB hM b0 hbs hl
 go_enter Tryz.func92,Tryz.ntmps92
 go_upto_region 1 with fail
 obtain⟨X,hX⟩:∃ X,W.heap.size=X:=⟨_,rfl⟩
 rw[hX] at KX HXM ⊢
 generalize (W.alloc (.cells #[.int .i64 kd,.int .i64 (tn:Int),.int .i64 s,.int .i64 lev,.int .i64 o,.int .i64 vt,.int .i64 vk,.int .i64 pp,.slice A n c] 60))=W0 at *
 have x0:=KX.out.cell 0
 have x1:=KX.out.cell 1
 have z0:=KB.out.cell 0
 have y0:=KM.out.bool_at HBS.out
 cases h1:(kd==1)
 all_goals
  have H1:=zh (show decide (kd=1)=_ from h1)
  go_quiet (fail)
  have KX1:=zh (KX.out.drewN nq)
  have KB1:=zh (KB.out.drewN nq)
  have KM1:=zh (KM.out.drewN nq)
  have K1:=zh (K0.out.drewN nq)
  clear x0 x1 z0 y0 KX KB KM K0 h1
  generalize W0.drewN nq=W1 at *
  have x1:=KX1.out.cell 1
  have z0:=KB1.out.cell 0
  have y0:=KM1.out.bool_at HBS.out
  have f0:=KM1.out.frozen tn
  cases a
  all_goals
   go_wp2_with fail
   go_ret
   exact⟨by rw[H1.out];rfl,by rw[H1.out];exact KM1.out.boolZ _,K1.out.set (.inr fun h=>h rfl) _ _⟩
set_option maxRecDepth 100000 in
set_option maxHeartbeats 4000000 in
theorem ended1_any (kd t s lev o vt vk pp:Int) (A:Option Addr) (n c:Nat) (tn N:Nat) (bs:List Bool) (a:Bool) (ht:t=(tn:Int)) (hbs:bs[tn]?=some a) (hl:bs.length=N) (Bb Mb:Nat) (W:World) (hB:Blk W Bb 106 #[.slice (some ⟨Mb,0,none⟩) N N]) (hM:Blk W Mb 4 (boolsZ bs).toArray) :
 Calls Tryz.prog 93 #[.agg #[.int .i64 kd,.int .i64 t,.int .i64 s,.int .i64 lev,.int .i64 o,.int .i64 vt,.int .i64 vk,.int .i64 pp,.slice A n c],.pointer (some ⟨Bb,0,none⟩)] W fun r W'=>r=.returned (.bool a)∧Blk W' Mb 4 (boolsZ (bs.set tn (a || (decide (kd=5) || decide (kd=6))))).toArray∧Keep (fun j=>j≠Mb) W W':=by
 subst ht
 have b0:Below W.heap.size W (W.alloc (.cells #[.int .i64 kd,.int .i64 (tn:Int),.int .i64 s,.int .i64 lev,.int .i64 o,.int .i64 vt,.int .i64 vk,.int .i64 pp,.slice A n c] 60)):=(Below.refl _ _).alloc (Nat.le_refl _) _
 have KX:=zh (Blk.new W 60 #[.int .i64 kd,.int .i64 (tn:Int),.int .i64 s,.int .i64 lev,.int .i64 o,.int .i64 vt,.int .i64 vk,.int .i64 pp,.slice A n c])
 have KB:=zh (hB.below b0 hB.lt)
 have KM:=zh (hM.below b0 hM.lt)
 have K0:Hid (Keep (fun j=>j≠Mb) W (W.alloc (.cells #[.int .i64 kd,.int .i64 (tn:Int),.int .i64 s,.int .i64 lev,.int .i64 o,.int .i64 vt,.int .i64 vk,.int .i64 pp,.slice A n c] 60))):=Keep.of_all _ b0
 have HBM:Hid (Bb≠Mb):=hB.ne_ hM (by decide)
 have HXM:Hid (W.heap.size≠Mb):=by have:=hM.lt;show _≠_;omega
 have hlt:(tn:Int)<(N:Int):=by have:=(List.getElem?_eq_some_iff.1 hbs).1;omega
 have HBS:=zh hbs
 clear hB hM b0 hbs hl
 go_enter Tryz.func93,Tryz.ntmps93
 go_upto_region 1 with fail
 obtain⟨X,hX⟩:∃ X,W.heap.size=X:=⟨_,rfl⟩
 rw[hX] at KX HXM ⊢
 generalize (W.alloc (.cells #[.int .i64 kd,.int .i64 (tn:Int),.int .i64 s,.int .i64 lev,.int .i64 o,.int .i64 vt,.int .i64 vk,.int .i64 pp,.slice A n c] 60))=W0 at *
 have x0:=KX.out.cell 0
 have x1:=KX.out.cell 1
 have z0:=KB.out.cell 0
 have y0:=KM.out.bool_at HBS.out
 have f0:=KM.out.frozen tn
 cases a
 ·cases h5:(kd==5)
  ·cases h6:(kd==6)
   all_goals
    have H5:=zh (show decide (kd=5)=_ from h5)
    have H6:=zh (show decide (kd=6)=_ from h6)
    go_wp2_with fail
    go_ret
    exact⟨rfl,by rw[H5.out,H6.out];exact KM.out.boolZ _,K0.out.set (.inr fun h=>h rfl) _ _⟩
  have H5:=zh (show decide (kd=5)=_ from h5)
  go_wp2_with fail
  go_ret
  exact⟨rfl,by rw[H5.out];exact KM.out.boolZ _,K0.out.set (.inr fun h=>h rfl) _ _⟩
 go_wp2_with fail
 go_ret
 exact⟨rfl,KM.out.boolZ _,K0.out.set (.inr fun h=>h rfl) _ _⟩
end Go.Proofs.YtmkknbonmameoaaGreatDoor
