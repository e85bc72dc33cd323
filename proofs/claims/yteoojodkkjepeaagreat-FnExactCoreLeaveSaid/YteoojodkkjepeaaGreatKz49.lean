/- CoreRes. -/
import Derived.Test.YteoojodkkjepeaaGreatKz34
import Derived.Test.YteoojodkkjepeaaGreatKz35
set_option maxRecDepth 100000
set_option maxHeartbeats 8000000
set_option linter.unusedVariables false
namespace Go.Proofs.YteoojodkkjepeaaGreat.cn
open ChangeShapes WideShapes ChangeAt RowKit rr ra rt fl co eb cb
theorem sa_on {w w' w2:World} {es:List Ex} {bs:List Bi} {Q ls:List qu.E} {U us:List su.E} {ea ba qa ta:Option Addr} (h:SA w w' es bs Q U ea ba qa ta ls us) (hb:Below w'.heap.size w' w2):SA w w2 es bs Q U ea ba qa ta ls us:=⟨h.se.below hb,h.sb.below hb,h.q.below hb,fun r hr=>⟨(h.qe r hr).1.below hb,(h.qe r hr).2.below hb⟩,h.t.below hb,fun r hr=>⟨(h.te r hr).1.below hb,(h.te r hr).2.below hb⟩,h.same,h.bel.trans (hb.mono h.bel.size)⟩
theorem ia_on {w w' w2:World} {es:List Ex} {bs:List Bi} {Q ls:List qu.E} {U us:List su.E} {ge gb gq gt:Nat} (h:IA w w' es bs Q U ge gb gq gt ls us) (hb:Below w'.heap.size w' w2):IA w w2 es bs Q U ge gb gq gt ls us:=⟨h.ca.on hb,h.same,h.bel.trans (hb.mono h.bel.size)⟩
theorem ia_res {w W w1:World} {es:List Ex} {bs:List Bi} {Q ls:List qu.E} {U us:List su.E} {ge gb gq gt b:Nat} {x0 x1 x2 x3 v0 v1 v2 v3:Value} (hW:Below w.heap.size w W) (h:IA W w1 es bs Q U ge gb gq gt ls us) (hb:w1.heap[b]?=some (.cells #[x0,x1,x2,x3] 39 (0,0))) (hlo:w.heap.size <= b):Hid (IA w ((((w1.setCell ⟨b,0,none⟩ v0).setCell ⟨b,1,none⟩ v1).setCell ⟨b,2,none⟩ v2).setCell ⟨b,3,none⟩ v3) es bs Q U ge gb gq gt ls us):=by
 have b1:=bset hb 0 v0
 have b2:=bset b1 1 v1
 have b3:=bset b2 2 v2
 have hB:=hW.trans (h.bel.mono hW.size)
 exact ⟨akr.ca_lo (set_core (set_core (set_core (set_core h.ca hb _) b1 _) b2 _) b3 _) hW.size,h.same,(((hB.setCell hlo _).setCell hlo _).setCell hlo _).setCell hlo _⟩
end Go.Proofs.YteoojodkkjepeaaGreat.cn
