import Derived.Deep.Cut
import Derived.Deep.CutBlock
import Derived.Deep.DeepCutAuto
import Derived.Test.YtmkknbonmameoaaGreatDoorQ23
import Derived.Test.YtmkknbonmameoaaGreatDoorQ16
import Derived.StillTailTactics
import Derived.Deep.CutRange
import Derived.Deep.LoopGhost
import Derived.Test.YtmkknbonmameoaaGreatDoorQ28
-- holds: YtmkknbonmameoaaGreatDoorHAf YtmkknbonmameoaaGreatDoorHJu
namespace Go.Proofs.YtmkknbonmameoaaGreatDoor
open Go.RowKit Go.Shelf
structure CapsR (m:HistM):Prop where
 ev:m.ev.1.n≤m.ev.1.c
 od:m.od.1.n≤m.od.1.c
 ma:m.ma.1.n≤m.ma.1.c
 wa:m.wa.1.n≤m.wa.1.c
 sc:∀ p∈m.ev.2,p.2.n≤p.2.c
def frR (f:Option (Nat × Nat)):Int:=match f with
 | none=>0
 | some p=>p.1
def frP (f:Option (Nat × Nat)):Int:=match f with
 | none=>0
 | some p=>p.2
theorem put15 {W:World} {g:Nat} {t:TypeId} {a b:Value} (hb:Blk W g t #[a,b]) (x y:Value):Blk ((W.setCell ⟨g,0,none⟩ x).setCell ⟨g,1,none⟩ y) g t #[x,y]:=by
 have:=(hb.set_ 0 x).set_ 1 y
 simpa using this
structure S2 (a b:HistM) (Ba Bb:Nat) (w X:World):Prop where
 below:Below w.heap.size w X
 ba:Blk X Ba 28 a.cs
 bb:Blk X Bb 28 b.cs
theorem S2.on {a b:HistM} {Ba Bb:Nat} {w X Y:World} (h:S2 a b Ba Bb w X) (hb:Below X.heap.size X Y):S2 a b Ba Bb w Y:=⟨h.below.trans (hb.mono h.below.size),h.ba.below hb h.ba.lt,h.bb.below hb h.bb.lt⟩
end Go.Proofs.YtmkknbonmameoaaGreatDoor
