import Derived.Deep.LoopGhost
import Derived.Deep.Cut
import Derived.Maps.AppendAt
import Derived.Test.YtmkknbonmameoaaGreatDoorQ6
import Derived.Test.YtmkknbonmameoaaGreatDoorQ8
-- holds: YtmkknbonmameoaaGreatDoorHWi
namespace Go.Proofs.YtmkknbonmameoaaGreatDoor
open Go.RowKit
section
variable {xs ys : List Int} {j : Nat} {x y : Int}
end
theorem own_block9 {w:World} {base:Nat} {e:TypeId} {v:Value} {n:Nat} {xs:List Value} (h:w.ownsRow base e 1 v n xs):∀ b,v.ownBlock=some b→base≤b:=by
 intro b hb
 rcases h.2 with ⟨rfl,_⟩ | ⟨g,cap,cur,rfl,hg,_⟩
 ·cases hb
 have e:some g=some b:=hb
 injection e with e
 omega
end Go.Proofs.YtmkknbonmameoaaGreatDoor
