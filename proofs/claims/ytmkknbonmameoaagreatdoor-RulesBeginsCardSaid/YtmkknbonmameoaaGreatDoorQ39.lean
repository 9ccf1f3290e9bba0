import Derived.Test.YtmkknbonmameoaaGreatDoorQ36
import Derived.Test.YtmkknbonmameoaaGreatDoorQ38
-- holds: YtmkknbonmameoaaGreatDoorHZy
namespace Go.Proofs.YtmkknbonmameoaaGreatDoor
open Go.RowKit Go.Shelf
theorem rulesW_tabs:RulesW Tabs :=
 ⟨fun h hb=>h.on hb (Nat.le_refl _),fun m w hT a=>ruFirst_any m w hT a,fun m r w hT a=>ruPlace_any m r w hT a,fun m w hT a=>ruSound_any m w hT a,fun m x w hT a=>ruWriters_any m x w hT a⟩
theorem rulesC_tabs:RulesC Tabs:=rulesW_tabs.rulesC
end Go.Proofs.YtmkknbonmameoaaGreatDoor
