import Derived.Lib.Strings
import Derived.Laws.RangeAny
import Derived.Lib.ItoaNum
-- holds: YtmkknbonmameoaaGreatDoorHLs YtmkknbonmameoaaGreatDoorHLt
namespace Go.Proofs.YtmkknbonmameoaaGreatDoor
def bt (l:List UInt8) (k:Nat):Nat:=(l.getD k 0).toNat
def ct (l:List UInt8) (k:Nat):Bool:=decide (k<l.length)&&bt l k / 64==2
def decL (l:List UInt8):Nat × Nat :=
 if bt l 0<0x80 then (bt l 0,1)
 else if bt l 0 / 32==6&&ct l 1 then
  if (bt l 0 % 32) * 64+bt l 1 % 64≥0x80 then ((bt l 0 % 32) * 64+bt l 1 % 64,2) else (65533,1)
 else if bt l 0 / 16==14&&ct l 1&&ct l 2 then
  if (bt l 0 % 16) * 4096+(bt l 1 % 64) * 64+bt l 2 % 64≥0x800&&Utf8.valid ((bt l 0 % 16) * 4096+(bt l 1 % 64) * 64+bt l 2 % 64:Nat) then ((bt l 0 % 16) * 4096+(bt l 1 % 64) * 64+bt l 2 % 64,3) else (65533,1)
 else if bt l 0 / 8==30&&ct l 1&&ct l 2&&ct l 3 then
  if (bt l 0 % 8) * 262144+(bt l 1 % 64) * 4096+(bt l 2 % 64) * 64+bt l 3 % 64≥0x10000&&Utf8.valid ((bt l 0 % 8) * 262144+(bt l 1 % 64) * 4096+(bt l 2 % 64) * 64+bt l 3 % 64:Nat) then ((bt l 0 % 8) * 262144+(bt l 1 % 64) * 4096+(bt l 2 % 64) * 64+bt l 3 % 64,4) else (65533,1)
 else (65533,1)
theorem get_drop (s:ByteArray) (p k:Nat):(s.get! (p+k)).toNat=bt (s.data.toList.drop p) k:=by
 unfold bt
 show (s.data[p+k]!).toNat=_
 rw[Array.getElem!_eq_getD,Array.getD_eq_getD_getElem?,List.getD_eq_getElem?_getD,List.getElem?_drop,Array.getElem?_toList]
 rfl
theorem cont_drop (s:ByteArray) (p k:Nat):(decide (p+k<s.size)&&(s.get! (p+k)).toNat / 64==2)=ct (s.data.toList.drop p) k:=by
 unfold ct
 rw[get_drop,List.length_drop,← Lib.size_eq]
 congr 1
 rw[decide_eq_decide]
 omega
theorem decode_drop (s:ByteArray) (p:Nat):Utf8.decode s p=decL (s.data.toList.drop p):=by
 unfold Utf8.decode decL
 simp only[cont_drop]
 simp only[get_drop,Utf8.runeError]
theorem bt_lt (l:List UInt8) (k:Nat):bt l k<256:=(l.getD k 0).toNat_lt
theorem decL_width (l:List UInt8):1≤(decL l).2∧(decL l).2≤4:=by
 unfold decL
 repeat' split
 all_goals simp
theorem ct_len {l:List UInt8} {k:Nat} (h:ct l k=true):k<l.length:=by
 unfold ct at h
 simp at h
 exact h.1
theorem decL_le {l:List UInt8} (h:l≠[]):(decL l).2≤l.length:=by
 have h0:1≤l.length:=by cases l with | nil=>exact absurd rfl h | cons=>simp
 have h1:ct l 1=true→2≤l.length:=fun e=>ct_len e
 have h2:ct l 2=true→3≤l.length:=fun e=>ct_len e
 have h3:ct l 3=true→4≤l.length:=fun e=>ct_len e
 unfold decL
 repeat' split
 all_goals simp only
 all_goals first | exact h0 | skip
 all_goals simp only[Bool.and_eq_true] at *
 ·exact h1 (by simp_all)
 ·exact h2 (by simp_all)
 exact h3 (by simp_all)
def bad (l:List UInt8):Bool:=decL l==(65533,1)
theorem decL_high {l:List UInt8} (h:128≤bt l 0):128≤(decL l).1:=by
 unfold decL
 repeat' split
 all_goals simp only[Bool.and_eq_true,decide_eq_true_eq,ge_iff_le] at *
 all_goals omega
theorem decL_low {l:List UInt8} (h:bt l 0<128):decL l=(bt l 0,1):=by
 unfold decL
 rw[if_pos h]
def clsL (l:List UInt8):Int:=if bad l=true then -1 else (decL l).1
abbrev It:=Int × List UInt8
def items (l:List UInt8):List It :=
 if _h:l=[] then [] else (clsL l,l.take (decL l).2) :: items (l.drop (decL l).2)
termination_by l.length
decreasing_by
 have:=decL_width l
 have:0<l.length:=by cases l with | nil=>exact absurd rfl _h | cons=>simp
 rw[List.length_drop]
 omega
theorem items_nil:items []=[]:=by rw[items];rfl
theorem items_cons {l:List UInt8} (h:l≠[]):items l=(clsL l,l.take (decL l).2) :: items (l.drop (decL l).2):=by
 rw[items,dif_neg h]
def sound (I:List It):Bool:=I.all fun x=>decide (x.1≠-1)
theorem clsL_bad {l:List UInt8} (h:clsL l≠-1):bad l=false:=by
 unfold clsL at h
 cases hb:bad l
 ·rfl
 rw[hb] at h;simp at h
def isBl (c:Int):Bool:=c==32 || c==9
def isDg (c:Int):Bool:=decide (48≤c)&&decide (c≤57)
def isLt (c:Int):Bool:=(decide (97≤c)&&decide (c≤122)) || ((decide (65≤c)&&decide (c≤90)) || (c==95 || decide (128≤c)))
def gapGo (rem:Bool) (r:Int):Bool:=isBl r || ((rem || r==35)&&decide (32≤r))
def wordGo (u:Nat) (r:Int):Bool:=isLt r || (u != 0&&isDg r)
def gapI:Bool→List It→Nat × Bool × List It
 | _,[]=>(0,false,[])
 | rem,x :: I =>
  if gapGo rem x.1=true then
   (x.2.length+(gapI (rem || x.1==35) I).1,(gapI (rem || x.1==35) I).2)
  else (0,(rem&&x.1 != 10),x :: I)
def wordI:Nat→List It→Nat × Bool × List It
 | u,[]=>(u,false,[])
 | u,x :: I =>
  if wordGo u x.1=true then
   if 24<u+x.2.length then (u,true,x :: I) else wordI (u+x.2.length) I
  else (u,false,x :: I)
theorem gapI_nil (rem:Bool):gapI rem []=(0,false,[]):=rfl
theorem gapI_go {rem:Bool} {c:Int} {bs:List UInt8} {I:List It} (h:gapGo rem c=true) :
 gapI rem ((c,bs) :: I)=(bs.length+(gapI (rem || c==35) I).1,(gapI (rem || c==35) I).2):=by rw[gapI,if_pos h]
theorem gapI_no {rem:Bool} {c:Int} {bs:List UInt8} {I:List It} (h:gapGo rem c=false) :
 gapI rem ((c,bs) :: I)=(0,(rem&&c != 10),(c,bs) :: I):=by rw[gapI,if_neg (by simp[h])]
theorem wordI_go {u:Nat} {c:Int} {bs:List UInt8} {I:List It} (h:wordGo u c=true) (h24:¬24<u+bs.length) :
 wordI u ((c,bs) :: I)=wordI (u+bs.length) I:=by rw[wordI,if_pos h,if_neg h24]
theorem wordI_full {u:Nat} {c:Int} {bs:List UInt8} {I:List It} (h:wordGo u c=true) (h24:24<u+bs.length) :
 wordI u ((c,bs) :: I)=(u,true,(c,bs) :: I):=by rw[wordI,if_pos h,if_pos h24]
theorem wordI_no {u:Nat} {c:Int} {bs:List UInt8} {I:List It} (h:wordGo u c=false) :
 wordI u ((c,bs) :: I)=(u,false,(c,bs) :: I):=by rw[wordI,if_neg (by simp[h])]
end Go.Proofs.YtmkknbonmameoaaGreatDoor
