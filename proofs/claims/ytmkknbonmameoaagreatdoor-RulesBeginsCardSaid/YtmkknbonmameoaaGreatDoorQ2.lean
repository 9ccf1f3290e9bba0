import Derived.WalkKit
import Derived.WalkSpells
import Derived.WalkLawsBesides
import Derived.Lib.Hide
import Derived.Test.YtmkknbonmameoaaGreatDoorRows
import Derived.Test.YtmkknbonmameoaaGreatDoorQ1
-- holds: YtmkknbonmameoaaGreatDoorHLa
namespace Go.Proofs.YtmkknbonmameoaaGreatDoor
open Go.RowKit
set_option maxHeartbeats 800000 in
theorem isLetter_any (r:Int) (w:World) :
 Calls Tryz.prog 175 #[.int .i32 r] w fun e w'=>e=.returned (.bool (isLt r))∧w=w':=by
 have hcase:(r≤64)∨(65≤r∧r≤90)∨(91≤r∧r≤94)∨(95≤r∧r≤95)∨(96≤r∧r≤96)∨(97≤r∧r≤122)∨(123≤r∧r≤127)∨(128≤r):=by omega
 rcases hcase with h | h | h | h | h | h | h | h
 ·have hs:isLt r=false:=by unfold isLt;simp;omega
  rw[hs]
  have g0:decide (97≤r)=false:=by simp;omega
  have g1:decide (r≤122)=true:=by simp;omega
  have g2:decide (65≤r)=false:=by simp;omega
  have g3:decide (r≤90)=true:=by simp;omega
  have g4:((r:Int)==95)=false:=by simp;omega
  have g5:decide (128≤r)=false:=by simp;omega
  clear h hs
  go_enter Tryz.func175,Tryz.ntmps175
  go_wp2
  go_ret
  exact⟨rfl,rfl⟩
 ·have hs:isLt r=true:=by unfold isLt;simp;omega
  rw[hs]
  have g0:decide (97≤r)=false:=by simp;omega
  have g1:decide (r≤122)=true:=by simp;omega
  have g2:decide (65≤r)=true:=by simp;omega
  have g3:decide (r≤90)=true:=by simp;omega
  have g4:((r:Int)==95)=false:=by simp;omega
  have g5:decide (128≤r)=false:=by simp;omega
  clear h hs
  go_enter Tryz.func175,Tryz.ntmps175
  go_wp2
  go_ret
  exact⟨rfl,rfl⟩
 ·have hs:isLt r=false:=by unfold isLt;simp;omega
  rw[hs]
  have g0:decide (97≤r)=false:=by simp;omega
  have g1:decide (r≤122)=true:=by simp;omega
  have g2:decide (65≤r)=true:=by simp;omega
  have g3:decide (r≤90)=false:=by simp;omega
  have g4:((r:Int)==95)=false:=by simp;omega
  have g5:decide (128≤r)=false:=by simp;omega
  clear h hs
  go_enter Tryz.func175,Tryz.ntmps175
  go_wp2
  go_ret
  exact⟨rfl,rfl⟩
 ·have hs:isLt r=true:=by unfold isLt;simp;omega
  rw[hs]
  have g0:decide (97≤r)=false:=by simp;omega
  have g1:decide (r≤122)=true:=by simp;omega
  have g2:decide (65≤r)=true:=by simp;omega
  have g3:decide (r≤90)=false:=by simp;omega
  have g4:((r:Int)==95)=true:=by simp;omega
  have g5:decide (128≤r)=false:=by simp;omega
  clear h hs
  go_enter Tryz.func175,Tryz.ntmps175
  go_wp2
  go_ret
  exact⟨rfl,rfl⟩
 ·have hs:isLt r=false:=by unfold isLt;simp;omega
  rw[hs]
  have g0:decide (97≤r)=false:=by simp;omega
  have g1:decide (r≤122)=true:=by simp;omega
  have g2:decide (65≤r)=true:=by simp;omega
  have g3:decide (r≤90)=false:=by simp;omega
  have g4:((r:Int)==95)=false:=by simp;omega
  have g5:decide (128≤r)=false:=by simp;omega
  clear h hs
  go_enter Tryz.func175,Tryz.ntmps175
  go_wp2
  go_ret
  exact⟨rfl,rfl⟩
 ·have hs:isLt r=true:=by unfold isLt;simp;omega
  rw[hs]
  have g0:decide (97≤r)=true:=by simp;omega
  have g1:decide (r≤122)=true:=by simp;omega
  have g2:decide (65≤r)=true:=by simp;omega
  have g3:decide (r≤90)=false:=by simp;omega
  have g4:((r:Int)==95)=false:=by simp;omega
  have g5:decide (128≤r)=false:=by simp;omega
  clear h hs
  go_enter Tryz.func175,Tryz.ntmps175
  go_wp2
  go_ret
  exact⟨rfl,rfl⟩
 ·have hs:isLt r=false:=by unfold isLt;simp;omega
  rw[hs]
  have g0:decide (97≤r)=true:=by simp;omega
  have g1:decide (r≤122)=false:=by simp;omega
  have g2:decide (65≤r)=true:=by simp;omega
  have g3:decide (r≤90)=false:=by simp;omega
  have g4:((r:Int)==95)=false:=by simp;omega
  have g5:decide (128≤r)=false:=by simp;omega
  clear h hs
  go_enter Tryz.func175,Tryz.ntmps175
  go_wp2
  go_ret
  exact⟨rfl,rfl⟩
 have hs:isLt r=true:=by unfold isLt;simp;omega
 rw[hs]
 have g0:decide (97≤r)=true:=by simp;omega
 have g1:decide (r≤122)=false:=by simp;omega
 have g2:decide (65≤r)=true:=by simp;omega
 have g3:decide (r≤90)=false:=by simp;omega
 have g4:((r:Int)==95)=false:=by simp;omega
 have g5:decide (128≤r)=true:=by simp;omega
 clear h hs
 go_enter Tryz.func175,Tryz.ntmps175
 go_wp2
 go_ret
 exact⟨rfl,rfl⟩
set_option maxHeartbeats 800000 in
theorem isDg_any (r:Int) (w:World) :
 Calls Tryz.prog 176 #[.int .i32 r] w fun e w'=>e=.returned (.bool (isDg r))∧w=w':=by
 have hcase:(r≤47)∨(48≤r∧r≤57)∨(58≤r):=by omega
 rcases hcase with h | h | h
 ·have hs:isDg r=false:=by unfold isDg;simp;omega
  rw[hs]
  have g0:decide (48≤r)=false:=by simp;omega
  have g1:decide (r≤57)=true:=by simp;omega
  clear h hs
  go_enter Tryz.func176,Tryz.ntmps176
  go_wp2
  go_ret
  exact⟨rfl,rfl⟩
 ·have hs:isDg r=true:=by unfold isDg;simp;omega
  rw[hs]
  have g0:decide (48≤r)=true:=by simp;omega
  have g1:decide (r≤57)=true:=by simp;omega
  clear h hs
  go_enter Tryz.func176,Tryz.ntmps176
  go_wp2
  go_ret
  exact⟨rfl,rfl⟩
 have hs:isDg r=false:=by unfold isDg;simp;omega
 rw[hs]
 have g0:decide (48≤r)=true:=by simp;omega
 have g1:decide (r≤57)=false:=by simp;omega
 clear h hs
 go_enter Tryz.func176,Tryz.ntmps176
 go_wp2
 go_ret
 exact⟨rfl,rfl⟩
end Go.Proofs.YtmkknbonmameoaaGreatDoor
