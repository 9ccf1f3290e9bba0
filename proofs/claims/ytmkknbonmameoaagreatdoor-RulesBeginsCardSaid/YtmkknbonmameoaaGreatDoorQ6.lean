import Derived.Test.YtmkknbonmameoaaGreatDoorQ5
import Derived.WalkKit
import Derived.WalkSpells
import Derived.WalkLawsBesides
import Derived.BigQuiet
import Derived.Deep.QuietTactic
import Derived.Lib.Hide
import Derived.Lib.Join
import Derived.Test.YtmkknbonmameoaaGreatDoorRows
-- holds: YtmkknbonmameoaaGreatDoorHWa YtmkknbonmameoaaGreatDoorHWb YtmkknbonmameoaaGreatDoorHWc
namespace Go.Proofs.YtmkknbonmameoaaGreatDoor
open Go.RowKit
def lvT (l:Nat):ByteArray:=match l with
 | 1=>⟨#[49]⟩
 | 2=>⟨#[50]⟩
 | 3=>⟨#[50,46,57,57]⟩
 | 4=>⟨#[51]⟩
 | _=>⟨#[]⟩
def levB (l:Int):Bool:=decide (1≤l∧l≤4)
theorem levB_iff {l:Int}:levB l=true↔1≤l∧l≤4:=by unfold levB;simp
def levE (l:Int):Int:=if levB l then 0 else 190
theorem levE_ok {l:Int} (h:levB l=true):levE l=0:=by unfold levE;rw[h];rfl
theorem levE_no {l:Int} (h:levB l=false):levE l=190:=by unfold levE;rw[h];rfl
def readI (s:ByteArray):Nat:=if lvT 1=s then 1 else if lvT 2=s then 2 else if lvT 3=s then 3 else if lvT 4=s then 4 else 0
theorem readI_no {s:ByteArray} (h:∀ k,1≤k→k≤4→lvT k≠s):readI s=0:=by
 unfold readI
 rw[if_neg (h 1 (by omega) (by omega)),if_neg (h 2 (by omega) (by omega)),if_neg (h 3 (by omega) (by omega)),if_neg (h 4 (by omega) (by omega))]
def readLvE (s:ByteArray):Int:=if readI s=0 then 190 else 0
def guW:List ByteArray:=[⟨#[114,121,119]⟩,⟨#[109,114]⟩,⟨#[109,119]⟩,⟨#[119,102,114]⟩]
def guAt (k:Nat):ByteArray:=guW.getD k ⟨#[]⟩
def guSel (g:Nat):Nat→List ByteArray
 | 0=>[]
 | k+1=>if g / 2 ^ k % 2=1 then guSel g k++[guAt k] else guSel g k
def guJoin (xs:List ByteArray):ByteArray:=⟨(Lib.join (xs.map (·.data.toList)) [32]).toArray⟩
def guPre (g k:Nat):ByteArray:=guJoin (guSel g k)
def guT (g:Nat):ByteArray:=guPre g 4
def guB (g:Int):Bool:=decide (0≤g∧g≤15)
theorem guB_iff {l:Int}:guB l=true↔0≤l∧l≤15:=by unfold guB;simp
def wordsT (g:Int):ByteArray:=if guB g then guT g.toNat else ⟨#[]⟩
def wordsE (g:Int):Int:=if guB g then 0 else 190
theorem wordsT_ok {l:Int} (h:guB l=true):wordsT l=guT l.toNat:=by unfold wordsT;rw[h];rfl
theorem wordsT_no {l:Int} (h:guB l=false):wordsT l=⟨#[]⟩:=by unfold wordsT;rw[h];rfl
theorem wordsE_ok {l:Int} (h:guB l=true):wordsE l=0:=by unfold wordsE;rw[h];rfl
theorem wordsE_no {l:Int} (h:guB l=false):wordsE l=190:=by unfold wordsE;rw[h];rfl
theorem guSel_on {g k:Nat} (h:g / 2 ^ k % 2=1):guSel g (k+1)=guSel g k++[guAt k]:=by show (if _ then _ else _)=_;rw[if_pos h]
theorem guSel_off {g k:Nat} (h:¬g / 2 ^ k % 2=1):guSel g (k+1)=guSel g k:=by show (if _ then _ else _)=_;rw[if_neg h]
theorem guT_size:∀ g,g<16→(Lib.join ((guSel g 4).map (·.data.toList)) [32]).length≤20:=by decide +kernel
structure Tabs (W:World):Prop where
 u:∀ k,k<4→W.cell? ⟨1,k,none⟩=some (.string (guAt k))
 m:∀ k,k<4→W.cell? ⟨0,k,none⟩=some (.int .i64 (([300,60,300,60]:List Int).getD k 0))
 lt:0<W.heap.size∧1<W.heap.size
theorem Tabs.on {W W':World} {B:Nat} (h:Tabs W) (hb:Below B W W') (hB:W.heap.size≤B):Tabs W' :=
 ⟨fun k hk=>(hb.cell (p:=⟨_,k,none⟩) (Nat.lt_of_lt_of_le h.lt.2 hB)).trans (h.u k hk),
  fun k hk=>(hb.cell (p:=⟨_,k,none⟩) (Nat.lt_of_lt_of_le h.lt.1 hB)).trans (h.m k hk),
  Nat.lt_of_lt_of_le h.lt.1 hb.size,Nat.lt_of_lt_of_le h.lt.2 hb.size⟩
theorem check_any (l:Int) (w:World):Calls Tryz.prog 160 #[.int .i64 l] w fun e w'=>e=.returned (.int .i64 (levE l))∧w=w':=by
 cases h:levB l
 ·have HE:=zh (levE_no h)
  have h1:l<1∨4<l:=by unfold levB at h;simp at h;omega
  clear h
  by_cases h2:l<1
  ·clear h1
   go_enter Tryz.func160,Tryz.ntmps160
   go_wp2_with fail
   go_ret
   exact⟨by rw[HE.out];rfl,rfl⟩
  have h3:l > 4:=by omega
  clear h1
  go_enter Tryz.func160,Tryz.ntmps160
  go_wp2_with fail
  go_ret
  exact⟨by rw[HE.out];rfl,rfl⟩
 have HE:=zh (levE_ok h)
 have h1:¬l<1:=by have:=levB_iff.1 h;omega
 have h2:¬l > 4:=by have:=levB_iff.1 h;omega
 clear h
 go_enter Tryz.func160,Tryz.ntmps160
 go_wp2_with fail
 go_ret
 exact⟨by rw[HE.out];rfl,rfl⟩
def NoneTo (s:ByteArray) (k:Nat):Prop:=∀ j,1≤j→j≤k→lvT j≠s
theorem NoneTo.step {s:ByteArray} {k:Nat} (h:NoneTo s k) (hk:lvT (k+1)≠s):NoneTo s (k+1):=fun j h1 h2=>by
 rcases Nat.lt_or_ge j (k+1) with h3 | h3
 ·exact h j h1 (by omega)
 obtain rfl:j=k+1:=by omega
 exact hk
def ReadIs (s:ByteArray) (w:World) (e:Ending) (w':World):Prop:=e=.returned (.tuple #[.int .i64 (readI s:Int),.int .i64 (readLvE s)])∧w=w'
theorem ReadIs.none_ {s:ByteArray} {w:World} (h:NoneTo s 4):ReadIs s w (.returned (.tuple #[.int .i64 0,.int .i64 190])) w:=by
 have h1:=readI_no h
 refine⟨?_,rfl⟩
 unfold readLvE
 rw[h1,if_pos rfl]
 rfl
end Go.Proofs.YtmkknbonmameoaaGreatDoor
