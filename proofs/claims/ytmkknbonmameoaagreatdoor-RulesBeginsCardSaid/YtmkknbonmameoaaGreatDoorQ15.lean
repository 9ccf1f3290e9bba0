import Derived.Test.YtmkknbonmameoaaGreatDoorQ5
import Derived.Lib.SliceRun
import Derived.Deep.Matrix
import Derived.Lib.AppendIntMem
import Derived.Maps.AppendAt
import Derived.Test.YtmkknbonmameoaaGreatDoorQ6
import Derived.Test.YtmkknbonmameoaaGreatDoorQ8
import Derived.Test.YtmkknbonmameoaaGreatDoorShelf
import Derived.Test.YtmkknbonmameoaaGreatDoorQ14
-- holds: YtmkknbonmameoaaGreatDoorHWd
namespace Go.Proofs.YtmkknbonmameoaaGreatDoor
open Go.RowKit Go.Shelf
theorem str_info:(Tryz.prog.info? 9).map (fun i=>(i.zero,i.size,i.bytes))=some (some (.string ⟨#[]⟩),1,16):=by kernel_rfl
def WordsIs (g:Int) (w:World) (e:Ending) (w':World):Prop:=e=.returned (.tuple #[.string (wordsT g),.int .i64 (wordsE g)])∧Below w.heap.size w w'
set_option maxHeartbeats 1000000 in
theorem words_no (g:Int) (h:guB g=false) (w:World):Calls Tryz.prog 132 #[.int .i64 g] w (WordsIs g w):=by
 have HX:=zh (wordsT_no h)
 have HE:=zh (wordsE_no h)
 have h1:g<0∨15<g:=by unfold guB at h;simp at h;omega
 clear h
 by_cases h2:g<0
 ·clear h1
  go_enter Tryz.func132,Tryz.ntmps132
  go_wp2_with fail
  go_ret2
  exact⟨by rw[HX.out,HE.out];rfl,Below.refl _ _⟩
 have h3:g > 15:=by omega
 clear h1
 go_enter Tryz.func132,Tryz.ntmps132
 go_wp2_with fail
 go_ret2
 exact⟨by rw[HX.out,HE.out];rfl,Below.refl _ _⟩
theorem and_one:∀ q,q<16→bits .and .i64 ((q:Nat):Int) 1=((q % 2:Nat):Int):=by decide +kernel
theorem strs_append (xs ys:List ByteArray):strs (xs++ys)=strs xs++strs ys:=by unfold strs;rw[List.map_append]
theorem one_str (s:ByteArray):∀ x∈[Value.string s],x.oneCell'=true:=by intro x hx;simp at hx;subst hx;rfl
set_option maxRecDepth 100000 in
set_option maxHeartbeats 2000000 in
theorem words_ok (g:Nat) (hg:g≤15) (w:World) (hT:Tabs w):Calls Tryz.prog 132 #[.int .i64 (g:Int)] w (WordsIs g w):=by
 obtain⟨i0,hi,hz0,hz1,hz2⟩:=info_parts str_info
 have hgb:guB (g:Int)=true:=guB_iff.2 (by omega)
 have HX:=zh (wordsT_ok hgb)
 have HE:=zh (wordsE_ok hgb)
 have h0:¬(g:Int)<0:=by omega
 have h15:¬(g:Int) > 15:=by omega
 have HT:=zh hT
 clear hT hgb
 go_enter Tryz.func132,Tryz.ntmps132
 go_wp2_with fail
 go_loopw [4,12] (fun v i wr=>∃ k n:Nat,k≤4∧i=.int .i64 k∧n≤k∧Hid (wr.ownsRow w.heap.size 9 1 v n (strs (guSel g k)))∧Hid (Below w.heap.size w wr)) (fun _ i _=>4 - (intOf i).toNat)
 case atStart=>exact⟨0,0,by omega,rfl,by omega,World.ownsRow_nil _ _ _ _,Below.refl _ _⟩
 obtain⟨k,n,hk,rfl,hn,HO,HB⟩:=hrel
 by_cases h4:k<4
 ·have h4i:(k:Int)<4:=by omega
  have hq15:g / 2 ^ k<16:=Nat.lt_of_le_of_lt (Nat.div_le_self _ _) (by omega)
  have hcast:(g:Int) / 2 ^ k=((g / 2 ^ k:Nat):Int):=by push_cast;rfl
  have hbit:=and_one (g / 2 ^ k) hq15
  rw[← hcast] at hbit
  by_cases h1:g / 2 ^ k % 2=1
  ·have hb:(bits .and .i64 ((g:Int) / 2 ^ k) 1==1)=true:=by rw[hbit,h1];rfl
   have HS:=zh (guSel_on h1)
   have z0:=(HT.out.on HB.out (Nat.le_refl _)).u k h4
   have hs1:=HB.out.size
   clear hcast hbit h1 hq15
   go_wp2_with (at_builtin;refine wpList_append_own _ rfl _ _ 22 rfl w.heap.size 9 i0 _ 1 16 Tryz.underlying22 hi hz0 hz1 hz2 rfl (by decide) _ _ _ rfl (HO.out.alloc _) ⟨wr.heap.size,0,none⟩ 1 1 [_] rfl rfl (cell_one_new _ _ _) (one_str _) (by unfold maxLen;omega) (by omega) (by simp;omega) ?_;intro v' w6 hown' hgrow _)
   have HN:Hid (w6.ownsRow w.heap.size 9 1 v' (n+1) (strs (guSel g (k+1)))):=by rw[HS.out,strs_append];exact hown'
   have HBN:Hid (Below w.heap.size w w6):=(HB.out.alloc hs1 _).grown hgrow (by simp;omega) (own_block9 HO.out)
   clear hown' hgrow z0
   go_wp2_with fail
   go_roundw
   case rel=>exact⟨k+1,n+1,by omega,by go_num,by omega,HN,HBN⟩
   case measure=>simp[intOf];omega
  have hb:(bits .and .i64 ((g:Int) / 2 ^ k) 1==1)=false:=by
   have:g / 2 ^ k % 2=0:=by omega
   rw[hbit,this];rfl
  have ho:=HO.out
  rw[← guSel_off h1] at ho
  have HN:=zh ho
  clear hcast hbit h1 hq15 ho
  go_wp2_with fail
  go_roundw
  case rel=>exact⟨k+1,n,by omega,by go_num,by omega,HN,HB⟩
  case measure=>simp[intOf];omega
 obtain rfl:k=4:=by omega
 obtain⟨A,c,rfl,hc1,hc2⟩:=own_form2 HO.out
 have hR:=Reads.of_own HO.out
 have hl:(guSel g 4).length=n:=by have:=hR.1;rw[strs_length] at this;omega
 have HJ:Hid (Calls Tryz.prog 167 #[.slice A n c,.string ⟨#[32]⟩] wr fun e w'=>e=.returned (.string (guT g))∧Below wr.heap.size wr w'):=by
  show Calls _ _ _ _ _
  rcases Nat.eq_zero_or_pos n with h0 | h0
  ·subst h0
   have h00:guSel g 4=[]:=List.eq_nil_of_length_eq_zero hl
   refine (Tryz.strings_Join_none A c ⟨#[32]⟩ wr).mono ?_
   rintro e w' ⟨rfl,rfl⟩
   exact⟨by unfold guT guPre;rw[h00];rfl,Below.refl _ _⟩
  obtain⟨b,o,rfl,hb,hcell⟩:=reads_plain hR h0
  have:=Tryz.strings_Join b o c (guSel g 4) ⟨#[32]⟩ wr (fun j x hx=>hcell j _ (by unfold strs;rw[List.getElem?_map,hx];rfl)) hb (by omega) (by omega) (by have:=guT_size g (by omega);show _≤_;exact Nat.le_trans this (by decide))
  rw[hl] at this
  exact this
 clear hR hl
 go_wp2_with fail
 refine HJ.out.mono ?_
 rintro e w2 ⟨rfl,b2⟩
 have HB2:=zh (HB.out.trans (b2.mono HB.out.size))
 clear b2
 go_wp2_with fail
 go_ret2
 exact⟨by rw[HX.out,HE.out];rfl,HB2.out⟩
theorem words_any (g:Int) (w:World) (hT:Tabs w):Calls Tryz.prog 132 #[.int .i64 g] w (WordsIs g w):=by
 cases h:guB g
 ·exact words_no g h w
 have:=guB_iff.1 h
 obtain⟨k,rfl⟩:∃ k:Nat,g=k:=⟨g.toNat,by omega⟩
 exact words_ok k (by omega) w hT
end Go.Proofs.YtmkknbonmameoaaGreatDoor
