/- CqRun. -/
import Derived.Test.YtaoefccgdfcchaaGreatKq31
import Derived.Test.YtaoefccgdfcchaaGreatKq35
import Derived.Test.YtaoefccgdfcchaaGreatKq38
import Derived.Test.YtaoefccgdfcchaaGreatKq33
set_option maxRecDepth 100000
set_option maxHeartbeats 8000000
set_option linter.unusedVariables false
namespace Go.Proofs.YtaoefccgdfcchaaGreat.cqr
open ChangeShapes WideShapes ChangeAt RowKit rc rr ra rt fl co cqk
def PI (w:World) (es:List Ex) (bs:List Bi) (Q:List qu.E) (U:List su.E) (G:Bool) (e:Ending) (w':World):Prop:=∃ ge gb gq gt ec5 bc5 qc5 tc5 ls us,e=.returned (.tuple #[.agg #[.slice (some ⟨ge,0,none⟩) es.length ec5,.slice (some ⟨gb,0,none⟩) bs.length bc5,.slice (some ⟨gq,0,none⟩) Q.length qc5,.slice (some ⟨gt,0,none⟩) U.length tc5],.bool G])/\Hid (cn.IA w w' es bs Q U ge gb gq gt ls us)
structure Gi where
 a:Nat
 g2:Nat
 c2:Nat
def Sq (w:World) (es:List Ex) (bs:List Bi) (qs:List qu.E) (ts:List su.E) (n:ByteArray) (a0 b0 q0 t0 ec bc qc tc:Nat) (ge gb gq gt gn qk tk:Nat) (l:List qu.E) (us:List su.E) (p:Nat) (s:Gi):Nat->World->Prop
 | 0,W | 1,W=>Iq w es bs qs ts n a0 b0 q0 t0 ec bc qc tc ge gb gq gt gn qk tk l us W/\W.ownsRow (w.heap.size+2) 58 4 (.slice (some ⟨gq,0,none⟩) l.length l.length) l.length (l.flatMap qu.c)
 | 2,W=>(Iq w es bs qs ts n a0 b0 q0 t0 ec bc qc tc ge gb gq gt gn qk tk l us W/\W.ownsRow (w.heap.size+2) 58 4 (.slice (some ⟨gq,0,none⟩) l.length l.length) l.length (l.flatMap qu.c))/\W.heap[s.a]?=some (.cells #[.string n,.int .i64 1,.slice none 0 0,.slice none 0 0] 58 (0,0))
 | 3,W=>∃ V,Iq w es bs qs ts n a0 b0 q0 t0 ec bc qc tc ge gb gq gt gn qk tk l us V/\V.grownBy W (some gq)/\W.ownsRow (w.heap.size+2) 58 4 (.slice (some ⟨s.g2,0,none⟩) (l.length+1) s.c2) (l.length+1) ((l.take p++cqp.newQ n :: l.drop p).flatMap qu.c)
 | _,W=>Iq w es bs qs ts n a0 b0 q0 t0 ec bc qc tc ge gb s.g2 gt gn s.c2 tk (l.take p++cqp.newQ n :: l.drop p) us W
def St (w:World) (es:List Ex) (bs:List Bi) (qs:List qu.E) (ts:List su.E) (n:ByteArray) (a0 b0 q0 t0 ec bc qc tc:Nat) (ge gb gq gt gn qk tk:Nat) (l:List qu.E) (us:List su.E) (p:Nat) (s:Gi):Nat->World->Prop
 | 0,W | 1,W=>Iq w es bs qs ts n a0 b0 q0 t0 ec bc qc tc ge gb gq gt gn qk tk l us W/\W.ownsRow (w.heap.size+2) 54 5 (.slice (some ⟨gt,0,none⟩) us.length us.length) us.length (us.flatMap su.c)
 | 2,W=>(Iq w es bs qs ts n a0 b0 q0 t0 ec bc qc tc ge gb gq gt gn qk tk l us W/\W.ownsRow (w.heap.size+2) 54 5 (.slice (some ⟨gt,0,none⟩) us.length us.length) us.length (us.flatMap su.c))/\W.heap[s.a]?=some (.cells #[.string n,.int .i64 0,.int .i64 0,.slice none 0 0,.slice none 0 0] 54 (0,0))
 | 3,W=>∃ V,Iq w es bs qs ts n a0 b0 q0 t0 ec bc qc tc ge gb gq gt gn qk tk l us V/\V.grownBy W (some gt)/\W.ownsRow (w.heap.size+2) 54 5 (.slice (some ⟨s.g2,0,none⟩) (us.length+1) s.c2) (us.length+1) ((us.take p++cqp.newT n :: us.drop p).flatMap su.c)
 | _,W=>Iq w es bs qs ts n a0 b0 q0 t0 ec bc qc tc ge gb gq s.g2 gn qk s.c2 l (us.take p++cqp.newT n :: us.drop p) W
theorem iq_of {w:World} {es:List Ex} {bs:List Bi} {qs:List qu.E} {ts:List su.E} {n:ByteArray} {a0 b0 q0 t0 ec bc qc tc:Nat} {W w1 Y:World} {ge gb gq gt:Nat} {ks:List qu.E} {us:List su.E} (F:cb.Fit es bs qs ts) (h:Cg w1 (W.heap.size+2) es bs qs ts ge gb gq gt ks us) (hb1:Below W.heap.size W w1) (hW:Below w.heap.size w W) (hS:W.heap.size=w.heap.size+2) (hA:W.heap[w.heap.size]?=some (.cells #[.slice (some ⟨a0,0,none⟩) es.length ec,.slice (some ⟨b0,0,none⟩) bs.length bc,.slice (some ⟨q0,0,none⟩) qs.length qc,.slice (some ⟨t0,0,none⟩) ts.length tc] 38 (0,0))) (hR:W.heap[w.heap.size+1]?=some (.cells #[.slice none 0 0,.slice none 0 0,.slice none 0 0,.slice none 0 0] 38 (0,0))) (hY:Below w1.heap.size w1 Y) (hN:Y.heap[w1.heap.size]?=some (.cells #[.slice (some ⟨ge,0,none⟩) es.length es.length,.slice (some ⟨gb,0,none⟩) bs.length bs.length,.slice (some ⟨gq,0,none⟩) ks.length ks.length,.slice (some ⟨gt,0,none⟩) us.length us.length] 38 (0,0))) :
  Iq w es bs qs ts n a0 b0 q0 t0 ec bc qc tc ge gb gq gt w1.heap.size ks.length us.length ks us Y/\Y.ownsRow (w.heap.size+2) 58 4 (.slice (some ⟨gq,0,none⟩) ks.length ks.length) ks.length (ks.flatMap qu.c)/\Y.ownsRow (w.heap.size+2) 54 5 (.slice (some ⟨gt,0,none⟩) us.length us.length) us.length (us.flatMap su.c):=by
 have hs:=hb1.size
 have hb:Below W.heap.size W Y:=hb1.trans (hY.mono hs)
 have ca:=h.a
 have lo:∀ {k:Nat},W.heap.size+2 <= k->w.heap.size+2 <= k:=fun hk=>by omega
 have ca2:Ca w1 (w.heap.size+2) es bs ks us ge gb gq gt:=⟨ca.he,ca.hb,⟨ca.hq.own,lo ca.hq.bg,fun r hr=>mine_lo (ca.hq.ea r hr) (by omega),fun r hr=>mine_lo (ca.hq.eb r hr) (by omega),ca.hq.pw⟩,⟨ca.ht.own,lo ca.ht.bg,fun r hr=>mine_lo (ca.ht.ea r hr) (by omega),fun r hr=>mine_lo (ca.ht.eb r hr) (by omega),ca.ht.pw⟩,lo ca.be,lo ca.bb,ca.eb⟩
 refine ⟨⟨hW.trans (hb.mono hW.size),bstay hA hb (by omega),bstay hR hb (by omega),hN,ca2.on hY,fun r hr=>.inl ((cb.at_so h.ht r hr).below hY),by omega⟩,?_,?_⟩
 ·exact su.own_stays (own_owns qu.c_len (by have h9:=h.hq.own; rw [<- h.hq.len] at h9; exact h9) (lo h.bq) (by have:=F.ql; have:=h.hq.len; unfold maxLen; omega)) hY
 ·exact su.own_stays (own_owns su.c_len (by have h9:=h.ht.own; rw [<- h.ht.len] at h9; exact h9) (lo h.bt) (by have:=F.tl; have:=h.ht.len; unfold maxLen; omega)) hY
section
variable {w:World} {es:List Ex} {bs:List Bi} {qs:List qu.E} {ts:List su.E} {n:ByteArray} {a0 b0 q0 t0 ec bc qc tc:Nat} {ge gb gq gt gn qk tk p k:Nat} {l:List qu.E} {us:List su.E} {s:Gi} {W V:World}
theorem sq_iq (hk:k <= 2) (h:Sq w es bs qs ts n a0 b0 q0 t0 ec bc qc tc ge gb gq gt gn qk tk l us p s k W):Iq w es bs qs ts n a0 b0 q0 t0 ec bc qc tc ge gb gq gt gn qk tk l us W:=by
 match k,hk,h with
 | 0,_,h=>exact h.1
 | 1,_,h=>exact h.1
 | 2,_,h=>exact h.1.1
theorem st_iq (hk:k <= 2) (h:St w es bs qs ts n a0 b0 q0 t0 ec bc qc tc ge gb gq gt gn qk tk l us p s k W):Iq w es bs qs ts n a0 b0 q0 t0 ec bc qc tc ge gb gq gt gn qk tk l us W:=by
 match k,hk,h with
 | 0,_,h=>exact h.1
 | 1,_,h=>exact h.1
 | 2,_,h=>exact h.1.1
theorem st_gnbQ (h:Iq w es bs qs ts n a0 b0 q0 t0 ec bc qc tc ge gb gq gt gn qk tk l us V) (hg:V.grownBy W (some gq)):W.heap[gn]?=some (.cells #[.slice (some ⟨ge,0,none⟩) es.length es.length,.slice (some ⟨gb,0,none⟩) bs.length bs.length,.slice (some ⟨gq,0,none⟩) l.length qk,.slice (some ⟨gt,0,none⟩) us.length tk] 38 (0,0)):=((tn_of hg).block gn (Array.getElem?_eq_some_iff.1 h.gnb).1 (ne_blk (by decide) (qu.own_g h.ca.hq.own) ⟨_,h.gnb⟩)).trans h.gnb
theorem st_gnbT (h:Iq w es bs qs ts n a0 b0 q0 t0 ec bc qc tc ge gb gq gt gn qk tk l us V) (hg:V.grownBy W (some gt)):W.heap[gn]?=some (.cells #[.slice (some ⟨ge,0,none⟩) es.length es.length,.slice (some ⟨gb,0,none⟩) bs.length bs.length,.slice (some ⟨gq,0,none⟩) l.length qk,.slice (some ⟨gt,0,none⟩) us.length tk] 38 (0,0)):=((tn_of hg).block gn (Array.getElem?_eq_some_iff.1 h.gnb).1 (ne_blk (by decide) (su.own_g h.ca.ht.own) ⟨_,h.gnb⟩)).trans h.gnb
theorem cg_ia {w W w1:World} {es:List Ex} {bs:List Bi} {qs ks:List qu.E} {ts us:List su.E} {ge gb gq gt:Nat} {cur:Array Value} {v0 v1 v2 v3:Value} (hW:Below w.heap.size w W) (h:Cg w1 (W.heap.size+2) es bs qs ts ge gb gq gt ks us) (hb1:Below W.heap.size W w1) (hb:w1.heap[w.heap.size+1]?=some (.cells cur 38 (0,0))):Hid (cn.IA w ((((w1.setCell ⟨w.heap.size+1,0,none⟩ v0).setCell ⟨w.heap.size+1,1,none⟩ v1).setCell ⟨w.heap.size+1,2,none⟩ v2).setCell ⟨w.heap.size+1,3,none⟩ v3) es bs qs ts ge gb gq gt ks us):=by
 have ht:fo.Tn w1 ((((w1.setCell ⟨w.heap.size+1,0,none⟩ v0).setCell ⟨w.heap.size+1,1,none⟩ v1).setCell ⟨w.heap.size+1,2,none⟩ v2).setCell ⟨w.heap.size+1,3,none⟩ v3) (fun k=>k=w.heap.size+1):=((((fo.Tn.refl w1 (fun k=>k=w.heap.size+1)).set (g:=w.heap.size+1) rfl _ _).set (g:=w.heap.size+1) rfl _ _).set (g:=w.heap.size+1) rfl _ _).set (g:=w.heap.size+1) rfl _ _
 generalize (((w1.setCell ⟨w.heap.size+1,0,none⟩ v0).setCell ⟨w.heap.size+1,1,none⟩ v1).setCell ⟨w.heap.size+1,2,none⟩ v2).setCell ⟨w.heap.size+1,3,none⟩ v3=V at ht ⊢
 have hs:=hW.size
 have k:=ca_keep h.a ht ⟨_,hb⟩ ⟨by decide,by decide,by decide,by decide,by decide,by decide,by decide,by decide⟩
 have hB:=hW.trans (hb1.mono hs)
 exact ⟨⟨k.he,k.hb,⟨k.hq.own,Nat.le_trans (by omega) k.hq.bg,fun r hr=>mine_lo (k.hq.ea r hr) (by omega),fun r hr=>mine_lo (k.hq.eb r hr) (by omega),k.hq.pw⟩,⟨k.ht.own,Nat.le_trans (by omega) k.ht.bg,fun r hr=>mine_lo (k.ht.ea r hr) (by omega),fun r hr=>mine_lo (k.ht.eb r hr) (by omega),k.ht.pw⟩,Nat.le_trans (by omega) k.be,Nat.le_trans (by omega) k.bb,k.eb⟩,cb.same_of h,hB.trans (ht.below hB.size (fun k e=>by omega))⟩
end
theorem impl_queue (es:List Ex) (bs:List Bi) (qs:List qu.E) (ts:List su.E) (a0 b0 q0 t0 ec bc qc tc:Nat) (name:ByteArray) (st:Bool) (Q:List qu.E) (U:List su.E) (G:Bool) (w:World) (F:cb.Fit es bs qs ts) (hn:name.size <= 1048576) (hE:RE w a0 es) (hB:RB w b0 bs) (hQ:qu.R w q0 qs) (hT:su.R w t0 ts) (hqr:∀ r ∈ qs,∃ g h,r.ra=some ⟨g,0,none⟩/\r.ha=some ⟨h,0,none⟩/\Row flM.c 5 w w.heap.size r.ra r.rs/\Row flH.c 7 w w.heap.size r.ha r.hs) (htr:∀ r ∈ ts,cb.At w r) (hok:∀ V,Below w.heap.size w V->Calls Tryz.prog 22 #[.agg #[.slice (some ⟨a0,0,none⟩) es.length ec,.slice (some ⟨b0,0,none⟩) bs.length bc,.slice (some ⟨q0,0,none⟩) qs.length qc,.slice (some ⟨t0,0,none⟩) ts.length tc]] V fun e w'=>e=.returned (.bool (okC es bs qs ts))/\Below V.heap.size V w') (h20:okC es bs qs ts=true->(qs.length <= 20/\ts.length <= 20)/\qu.Up qs qs.length/\su.Up ts ts.length) (hans:cqp.Ans es bs qs ts name st Q U G) :
  Calls Tryz.prog 7 #[.agg #[.slice (some ⟨a0,0,none⟩) es.length ec,.slice (some ⟨b0,0,none⟩) bs.length bc,.slice (some ⟨q0,0,none⟩) qs.length qc,.slice (some ⟨t0,0,none⟩) ts.length tc],.string name,.bool st] w (PI w es bs Q U G):=by
 suffices hall:∀ PO:Ending->World->Prop,(∀ e w',PI w es bs Q U G e w'->PO e w')->Calls Tryz.prog 7 #[.agg #[.slice (some ⟨a0,0,none⟩) es.length ec,.slice (some ⟨b0,0,none⟩) bs.length bc,.slice (some ⟨q0,0,none⟩) qs.length qc,.slice (some ⟨t0,0,none⟩) ts.length tc],.string name,.bool st] w PO from hall _ (fun _ _ h=>h)
 intro PO hPO
 have HPO:Hid (∀ e w',PI w es bs Q U G e w'->PO e w'):=hPO
 have HCS:Hid (cqp.Ans es bs qs ts name st Q U G):=hans
 have H20:Hid (okC es bs qs ts=true->(qs.length <= 20/\ts.length <= 20)/\qu.Up qs qs.length/\su.Up ts ts.length):=h20
 have HNM:Hid (name.size <= 1048576):=hn
 clear hans hPO h20 hn
 have hWb:Below w.heap.size w ((w.alloc (.cells #[.slice (some ⟨a0,0,none⟩) es.length ec,.slice (some ⟨b0,0,none⟩) bs.length bc,.slice (some ⟨q0,0,none⟩) qs.length qc,.slice (some ⟨t0,0,none⟩) ts.length tc] 38)).alloc (.cells #[.slice none 0 0,.slice none 0 0,.slice none 0 0,.slice none 0 0] 38)):=((Below.refl _ _).alloc (Nat.le_refl _) _).alloc (by simp) _
 have hA:=bold (bnew w #[.slice (some ⟨a0,0,none⟩) es.length ec,.slice (some ⟨b0,0,none⟩) bs.length bc,.slice (some ⟨q0,0,none⟩) qs.length qc,.slice (some ⟨t0,0,none⟩) ts.length tc] 38) (.cells #[.slice none 0 0,.slice none 0 0,.slice none 0 0,.slice none 0 0] 38)
 have hR:=bnew (w.alloc (.cells #[.slice (some ⟨a0,0,none⟩) es.length ec,.slice (some ⟨b0,0,none⟩) bs.length bc,.slice (some ⟨q0,0,none⟩) qs.length qc,.slice (some ⟨t0,0,none⟩) ts.length tc] 38)) #[.slice none 0 0,.slice none 0 0,.slice none 0 0,.slice none 0 0] 38
 rw [World.size_alloc] at hR
 have hS:((w.alloc (.cells #[.slice (some ⟨a0,0,none⟩) es.length ec,.slice (some ⟨b0,0,none⟩) bs.length bc,.slice (some ⟨q0,0,none⟩) qs.length qc,.slice (some ⟨t0,0,none⟩) ts.length tc] 38)).alloc (.cells #[.slice none 0 0,.slice none 0 0,.slice none 0 0,.slice none 0 0] 38)).heap.size=w.heap.size+2:=by simp
 obtain ⟨W,hW⟩:∃ W,((w.alloc (.cells #[.slice (some ⟨a0,0,none⟩) es.length ec,.slice (some ⟨b0,0,none⟩) bs.length bc,.slice (some ⟨q0,0,none⟩) qs.length qc,.slice (some ⟨t0,0,none⟩) ts.length tc] 38)).alloc (.cells #[.slice none 0 0,.slice none 0 0,.slice none 0 0,.slice none 0 0] 38))=W:=⟨_,rfl⟩
 rw [hW] at hWb hA hR hS
 have HRW:Hid (qu.R w q0 qs/\su.R w t0 ts):=⟨hQ,hT⟩
 have HF:Hid (cb.Fit es bs qs ts):=F
 have HCP:Hid (∀ V,Below w.heap.size w V->Calls Tryz.prog 21 #[.agg #[.slice (some ⟨a0,0,none⟩) es.length ec,.slice (some ⟨b0,0,none⟩) bs.length bc,.slice (some ⟨q0,0,none⟩) qs.length qc,.slice (some ⟨t0,0,none⟩) ts.length tc]] V fun r w'=>∃ (ge gb gq gs:Nat) (ks:List qu.E) (us:List su.E),r=.returned (.agg #[.slice (some ⟨ge,0,none⟩) es.length es.length,.slice (some ⟨gb,0,none⟩) bs.length bs.length,.slice (some ⟨gq,0,none⟩) qs.length qs.length,.slice (some ⟨gs,0,none⟩) ts.length ts.length])/\Cg w' (V.heap.size+2) es bs qs ts ge gb gq gs ks us/\Below V.heap.size V w'):=fun V hV=>cco.copy_core es bs qs ts a0 b0 q0 t0 ec bc qc tc V F (hE.below hV) (hB.below hV) (hQ.below hV) (hT.below hV) (fun r hr=>by obtain ⟨g,h,h1,h2,h3,h4⟩:=hqr r hr; exact ⟨g,h,h1,h2,h3.inn hV,h4.inn hV⟩) (fun r hr=>(htr r hr).below hV)
 have hcopy:=HCP.out W hWb
 obtain ⟨x0,x1,x2,x3⟩:=fl.q4 hA
 have HAB:Hid (W.heap[w.heap.size]?=some (.cells #[.slice (some ⟨a0,0,none⟩) es.length ec,.slice (some ⟨b0,0,none⟩) bs.length bc,.slice (some ⟨q0,0,none⟩) qs.length qc,.slice (some ⟨t0,0,none⟩) ts.length tc] 38 (0,0))/\W.heap[w.heap.size+1]?=some (.cells #[.slice none 0 0,.slice none 0 0,.slice none 0 0,.slice none 0 0] 38 (0,0))):=⟨hA,hR⟩
 have HOK:Hid (∀ V,Below w.heap.size w V->Calls Tryz.prog 22 #[.agg #[.slice (some ⟨a0,0,none⟩) es.length ec,.slice (some ⟨b0,0,none⟩) bs.length bc,.slice (some ⟨q0,0,none⟩) qs.length qc,.slice (some ⟨t0,0,none⟩) ts.length tc]] V fun e w'=>e=.returned (.bool (okC es bs qs ts))/\Below V.heap.size V w'):=hok
 have HWB:Hid (Below w.heap.size w W):=hWb
 have HS2:Hid (W.heap.size=w.heap.size+2):=hS
 clear hE hB hQ hT hqr htr F hA hR hok hS
 go_enter Tryz.func7,Tryz.ntmps7
 go_wp2_with (go_at_call 21; fail)
 clear hW x0 x1 x2 x3
 refine hcopy.mono ?_
 rintro e w1 ⟨ge,gb,gq,gt,ks,us,rfl,hcg,hb1⟩
 have HSM:Hid (cb.Same qs ks ts us):=cb.same_of hcg
 rw [<- HSM.out.ql,<- HSM.out.tl]
 have hal:=fl.bl w1 (.cells #[.slice (some ⟨ge,0,none⟩) es.length es.length,.slice (some ⟨gb,0,none⟩) bs.length bs.length,.slice (some ⟨gq,0,none⟩) ks.length ks.length,.slice (some ⟨gt,0,none⟩) us.length us.length] 38)
 obtain ⟨hI0,hq0,ht0⟩:=iq_of (n:=name) HF.out hcg hb1 HWB.out HS2.out HAB.out.1 HAB.out.2 hal (bnew w1 _ _)
 have HG0:Hid (Iq w es bs qs ts name a0 b0 q0 t0 ec bc qc tc ge gb gq gt w1.heap.size ks.length us.length ks us (w1.alloc (.cells #[.slice (some ⟨ge,0,none⟩) es.length es.length,.slice (some ⟨gb,0,none⟩) bs.length bs.length,.slice (some ⟨gq,0,none⟩) ks.length ks.length,.slice (some ⟨gt,0,none⟩) us.length us.length] 38))):=hI0
 have HO0:Hid ((w1.alloc (.cells #[.slice (some ⟨ge,0,none⟩) es.length es.length,.slice (some ⟨gb,0,none⟩) bs.length bs.length,.slice (some ⟨gq,0,none⟩) ks.length ks.length,.slice (some ⟨gt,0,none⟩) us.length us.length] 38)).ownsRow (w.heap.size+2) 58 4 (.slice (some ⟨gq,0,none⟩) ks.length ks.length) ks.length (ks.flatMap qu.c)/\(w1.alloc (.cells #[.slice (some ⟨ge,0,none⟩) es.length es.length,.slice (some ⟨gb,0,none⟩) bs.length bs.length,.slice (some ⟨gq,0,none⟩) ks.length ks.length,.slice (some ⟨gt,0,none⟩) us.length us.length] 38)).ownsRow (w.heap.size+2) 54 5 (.slice (some ⟨gt,0,none⟩) us.length us.length) us.length (us.flatMap su.c)):=⟨hq0,ht0⟩
 clear hI0 hq0 ht0
 obtain ⟨Y,hY⟩:∃ Y,w1.alloc (.cells #[.slice (some ⟨ge,0,none⟩) es.length es.length,.slice (some ⟨gb,0,none⟩) bs.length bs.length,.slice (some ⟨gq,0,none⟩) ks.length ks.length,.slice (some ⟨gt,0,none⟩) us.length us.length] 38)=Y:=⟨_,rfl⟩
 rw [hY] at HG0 HO0
 obtain ⟨ok,hokv⟩:∃ z,okC es bs qs ts=z:=⟨_,rfl⟩
 have k:=HOK.out Y HG0.out.bel
 rw [hokv] at k
 obtain ⟨x0,x1,x2,x3⟩:=fl.q4 HG0.out.box
 clear hcopy hcg hal hb1 hWb
 go_wp2_with (go_at_call 22; fail)
 clear hY x0 x1 x2 x3
 refine k.mono ?_
 rintro e w3 ⟨rfl,hb3⟩
 have HG:Hid (Iq w es bs qs ts name a0 b0 q0 t0 ec bc qc tc ge gb gq gt w1.heap.size ks.length us.length ks us w3):=HG0.out.on hb3
 have HO:Hid (w3.ownsRow (w.heap.size+2) 58 4 (.slice (some ⟨gq,0,none⟩) ks.length ks.length) ks.length (ks.flatMap qu.c)/\w3.ownsRow (w.heap.size+2) 54 5 (.slice (some ⟨gt,0,none⟩) us.length us.length) us.length (us.flatMap su.c)):=⟨su.own_stays HO0.out.1 hb3,su.own_stays HO0.out.2 hb3⟩
 clear k HG0 HO0 hb3
 have hcs:=cqp.ans_cases HCS.out
 rw [hokv] at hcs
 cases ok with
 | false =>
  obtain ⟨rfl,rfl,rfl⟩:Q=qs/\U=ts/\G=false:=by rcases hcs with ⟨_,h⟩ | ⟨h,_⟩ | ⟨h,_⟩ | ⟨h,_⟩ | ⟨h,_⟩ <;> first | exact h | cases h
  clear hokv HOK HCP H20 HRW HF hcs HCS
  have HFN:=HG.out.fin HSM.out
  obtain ⟨z0,z1,z2,z3⟩:=fl.q4 HG.out.res
  obtain ⟨f0,f1,f2,f3⟩:=fl.r4 HG.out.res
  obtain ⟨n0,n1,n2,n3⟩:=fl.q4 HG.out.gnb
  have hg1:w1.heap.size ≠ w.heap.size+1:=by have:=HG.out.gl; omega
  have hg3:w.heap.size+1 ≠ w1.heap.size:=by omega
  go_wp2
  exact bodyPost_ret (v:=.tuple #[.agg #[.slice (some ⟨ge,0,none⟩) es.length es.length,.slice (some ⟨gb,0,none⟩) bs.length bs.length,.slice (some ⟨gq,0,none⟩) ks.length ks.length,.slice (some ⟨gt,0,none⟩) us.length us.length],.bool false]) (by simp [results,Tryz.results7,go_sem,z0,z1,z2,z3]) rfl (HPO.out _ _ ⟨ge,gb,gq,gt,es.length,bs.length,ks.length,us.length,ks,us,by rw [HSM.out.ql,HSM.out.tl] <;> rfl,HFN.out _ (by repeat' (first | apply fo.Tn.set | exact fo.Tn.of _ (Below.drew (Below.refl _ _)) | exact fo.Tn.refl _ _ | (show _=_; omega)))⟩)
 | true =>
  obtain ⟨⟨l20,m20⟩,hU,hV⟩:=H20.out hokv
  have hfd:=qu.find_all qs q0 qc name w3 (by omega) (HRW.out.1.below HG.out.bel) hU
  have x2:w3.cell? ⟨w.heap.size,2,none⟩=some (.slice (some ⟨q0,0,none⟩) qs.length qc):=bcell HG.out.box rfl
  have HU:Hid (su.Up ts ts.length):=hV
  clear hU hV
  go_wp2_with (go_at_call 23; fail)
  clear x2
  refine hfd.mono ?_
  rintro e w4 ⟨⟨pq,bq,rfl,hpq,hbq⟩,hb4⟩
  have HG4:Hid (Iq w es bs qs ts name a0 b0 q0 t0 ec bc qc tc ge gb gq gt w1.heap.size ks.length us.length ks us w4):=HG.out.on hb4
  have HO4:Hid (w4.ownsRow (w.heap.size+2) 58 4 (.slice (some ⟨gq,0,none⟩) ks.length ks.length) ks.length (ks.flatMap qu.c)/\w4.ownsRow (w.heap.size+2) 54 5 (.slice (some ⟨gt,0,none⟩) us.length us.length) us.length (us.flatMap su.c)):=⟨su.own_stays HO.out.1 hb4,su.own_stays HO.out.2 hb4⟩
  have HPQ:Hid (qu.Pos qs name pq/\(bq=true ↔ 0 <= qu.place qs name)):=⟨hpq,hbq.trans qu.place_there.symm⟩
  clear hfd HG HO hb4 hpq hbq
  have hfd:=su.find_all ts t0 tc name w4 (by omega) (HRW.out.2.below HG4.out.bel) HU.out
  have x3:w4.cell? ⟨w.heap.size,3,none⟩=some (.slice (some ⟨t0,0,none⟩) ts.length tc):=bcell HG4.out.box rfl
  go_wp2_with (go_at_call 24; fail)
  clear x3
  refine hfd.mono ?_
  rintro e w5 ⟨⟨pt,bt,rfl,hpt,hbt⟩,hb5⟩
  have HG:Hid (Iq w es bs qs ts name a0 b0 q0 t0 ec bc qc tc ge gb gq gt w1.heap.size ks.length us.length ks us w5):=HG4.out.on hb5
  have HO:Hid (w5.ownsRow (w.heap.size+2) 58 4 (.slice (some ⟨gq,0,none⟩) ks.length ks.length) ks.length (ks.flatMap qu.c)/\w5.ownsRow (w.heap.size+2) 54 5 (.slice (some ⟨gt,0,none⟩) us.length us.length) us.length (us.flatMap su.c)):=⟨su.own_stays HO4.out.1 hb5,su.own_stays HO4.out.2 hb5⟩
  have HPT:Hid (su.Pos ts name pt/\(bt=true ↔ 0 <= su.place ts name)):=⟨hpt,hbt.trans su.place_there.symm⟩
  clear hfd HG4 HO4 hb5 hpt hbt
  rcases hcs with ⟨h,_⟩ | ⟨_,dq,dt,rfl,rfl,rfl⟩ | ⟨_,dq,dt,rfl,rfl,hG⟩ | ⟨_,dq,dt,rfl,hq0,hT2⟩ | ⟨_,dq,dt,rfl,hu0,hQ2⟩
  ·cases h
  ·have e1:bq=true:=HPQ.out.2.2 dq
   have e2:bt=false:=by cases h:bt with | false=>rfl | true=>have h9:=HPT.out.2.1 h; omega
   subst e1 e2
   clear hokv HOK HCP H20 HRW HF HCS HO
   cases st with
   | true =>
    have HFN:=HG.out.fin HSM.out
    obtain ⟨z0,z1,z2,z3⟩:=fl.q4 HG.out.res
    obtain ⟨f0,f1,f2,f3⟩:=fl.r4 HG.out.res
    obtain ⟨n0,n1,n2,n3⟩:=fl.q4 HG.out.gnb
    have hg1:w1.heap.size ≠ w.heap.size+1:=by have:=HG.out.gl; omega
    have hg3:w.heap.size+1 ≠ w1.heap.size:=by omega
    go_wp2
    exact bodyPost_ret (v:=.tuple #[.agg #[.slice (some ⟨ge,0,none⟩) es.length es.length,.slice (some ⟨gb,0,none⟩) bs.length bs.length,.slice (some ⟨gq,0,none⟩) ks.length ks.length,.slice (some ⟨gt,0,none⟩) us.length us.length],.bool false]) (by simp [results,Tryz.results7,go_sem,z0,z1,z2,z3]) rfl (HPO.out _ _ ⟨ge,gb,gq,gt,es.length,bs.length,ks.length,us.length,ks,us,by rw [HSM.out.ql,HSM.out.tl] <;> rfl,HFN.out _ (by repeat' (first | apply fo.Tn.set | exact fo.Tn.of _ (Below.drew (Below.refl _ _)) | exact fo.Tn.refl _ _ | (show _=_; omega)))⟩)
   | false =>
    have HFN:=HG.out.fin HSM.out
    obtain ⟨z0,z1,z2,z3⟩:=fl.q4 HG.out.res
    obtain ⟨f0,f1,f2,f3⟩:=fl.r4 HG.out.res
    obtain ⟨n0,n1,n2,n3⟩:=fl.q4 HG.out.gnb
    have hg1:w1.heap.size ≠ w.heap.size+1:=by have:=HG.out.gl; omega
    have hg3:w.heap.size+1 ≠ w1.heap.size:=by omega
    go_wp2
    exact bodyPost_ret (v:=.tuple #[.agg #[.slice (some ⟨ge,0,none⟩) es.length es.length,.slice (some ⟨gb,0,none⟩) bs.length bs.length,.slice (some ⟨gq,0,none⟩) ks.length ks.length,.slice (some ⟨gt,0,none⟩) us.length us.length],.bool true]) (by simp [results,Tryz.results7,go_sem,z0,z1,z2,z3]) rfl (HPO.out _ _ ⟨ge,gb,gq,gt,es.length,bs.length,ks.length,us.length,ks,us,by rw [HSM.out.ql,HSM.out.tl] <;> rfl,HFN.out _ (by repeat' (first | apply fo.Tn.set | exact fo.Tn.of _ (Below.drew (Below.refl _ _)) | exact fo.Tn.refl _ _ | (show _=_; omega)))⟩)
  ·have e1:bq=false:=by cases h:bq with | false=>rfl | true=>have h9:=HPQ.out.2.1 h; omega
   have e2:bt=true:=HPT.out.2.2 dt
   subst e1 e2
   clear hokv HOK HCP H20 HRW HF HCS HO
   cases st with
   | true =>
    subst hG
    have HFN:=HG.out.fin HSM.out
    obtain ⟨z0,z1,z2,z3⟩:=fl.q4 HG.out.res
    obtain ⟨f0,f1,f2,f3⟩:=fl.r4 HG.out.res
    obtain ⟨n0,n1,n2,n3⟩:=fl.q4 HG.out.gnb
    have hg1:w1.heap.size ≠ w.heap.size+1:=by have:=HG.out.gl; omega
    have hg3:w.heap.size+1 ≠ w1.heap.size:=by omega
    go_wp2
    exact bodyPost_ret (v:=.tuple #[.agg #[.slice (some ⟨ge,0,none⟩) es.length es.length,.slice (some ⟨gb,0,none⟩) bs.length bs.length,.slice (some ⟨gq,0,none⟩) ks.length ks.length,.slice (some ⟨gt,0,none⟩) us.length us.length],.bool true]) (by simp [results,Tryz.results7,go_sem,z0,z1,z2,z3]) rfl (HPO.out _ _ ⟨ge,gb,gq,gt,es.length,bs.length,ks.length,us.length,ks,us,by rw [HSM.out.ql,HSM.out.tl] <;> rfl,HFN.out _ (by repeat' (first | apply fo.Tn.set | exact fo.Tn.of _ (Below.drew (Below.refl _ _)) | exact fo.Tn.refl _ _ | (show _=_; omega)))⟩)
   | false =>
    subst hG
    have HFN:=HG.out.fin HSM.out
    obtain ⟨z0,z1,z2,z3⟩:=fl.q4 HG.out.res
    obtain ⟨f0,f1,f2,f3⟩:=fl.r4 HG.out.res
    obtain ⟨n0,n1,n2,n3⟩:=fl.q4 HG.out.gnb
    have hg1:w1.heap.size ≠ w.heap.size+1:=by have:=HG.out.gl; omega
    have hg3:w.heap.size+1 ≠ w1.heap.size:=by omega
    go_wp2
    exact bodyPost_ret (v:=.tuple #[.agg #[.slice (some ⟨ge,0,none⟩) es.length es.length,.slice (some ⟨gb,0,none⟩) bs.length bs.length,.slice (some ⟨gq,0,none⟩) ks.length ks.length,.slice (some ⟨gt,0,none⟩) us.length us.length],.bool false]) (by simp [results,Tryz.results7,go_sem,z0,z1,z2,z3]) rfl (HPO.out _ _ ⟨ge,gb,gq,gt,es.length,bs.length,ks.length,us.length,ks,us,by rw [HSM.out.ql,HSM.out.tl] <;> rfl,HFN.out _ (by repeat' (first | apply fo.Tn.set | exact fo.Tn.of _ (Below.drew (Below.refl _ _)) | exact fo.Tn.refl _ _ | (show _=_; omega)))⟩)
  ·have e1:bq=false:=by cases h:bq with | false=>rfl | true=>have h9:=HPQ.out.2.1 h; omega
   have e2:bt=false:=by cases h:bt with | false=>rfl | true=>have h9:=HPT.out.2.1 h; omega
   subst e1 e2
   have HT2:Hid (Q=qs/\((okC es bs qs (cqp.insT ts name)=false/\U=ts/\G=false) ∨ (okC es bs qs (cqp.insT ts name)=true/\U=cqp.insT ts name/\G=true))):=⟨hq0,hT2⟩
   clear hT2 hq0 HCS
   have hp0:pt <= us.length:=by have h9:=HPT.out.1.1; have h8:=HSM.out.tl; omega
   have hl20:us.length <= 20:=by have h8:=HSM.out.tl; omega
   have hcl:=fun W=>cl.clone name W (by have h9:=HNM.out; omega)
   go_wp2
   refine chn.region (σ:=Gi) (ws:=(fun s:Gi=>[(42,.pointer (some ⟨w1.heap.size,3,none⟩)),(43,.slice (some ⟨gt,0,none⟩) us.length us.length),(44,.int .i64 pt),(45,.string name),(46,.string name),(47,.agg #[.string name,.int .i64 0,.int .i64 0,.slice none 0 0,.slice none 0 0]),(48,.slice (some ⟨s.a,0,none⟩) 1 1),(49,.slice (some ⟨s.g2,0,none⟩) (us.length+1) s.c2),(50,.pointer (some ⟨w1.heap.size,3,none⟩))])) (js:=[4,6,7,9]) (S:=(St w es bs qs ts name a0 b0 q0 t0 ec bc qc tc ge gb gq gt w1.heap.size ks.length us.length ks us pt)) [42,43,44,45,46,47,48,49,50] ⟨0,0,0⟩ (by kernel_rfl) (by kernel_rfl) (fun _=>rfl) (by kernel_rfl) (by decide) ⟨HG.out.on (Below.drew (Below.refl _ _)),su.own_stays HO.out.2 (Below.drew (Below.refl _ _))⟩ ?each ?fin
   case each =>
    refine ⟨chn.quiet 4 rfl (by decide) (.inl rfl) (by simp) (fun s=>.pointer (some ⟨w1.heap.size,3,none⟩)) (by rintro s _ ⟨⟩; exact dk.sets_on _ (by simp) _ rfl) (fun s k' W hk' hS=>by simp [execOp,go_sem,Act.eval,dk.sets_get,List.lookup]),?_⟩
    refine ⟨chn.quiet 2 rfl (by decide) (.inr ⟨7,_,rfl,rfl,⟨1,.data⟩,by simp,rfl,rfl⟩) (by simp) (fun s=>.slice (some ⟨gt,0,none⟩) us.length us.length) (by rintro s _ ⟨⟩; exact dk.sets_on _ (by simp) _ rfl) (fun s k' W hk' hS=>by have hI:=st_iq hk' hS; have c:W.cell? ⟨w1.heap.size,3,none⟩=some (.slice (some ⟨gt,0,none⟩) us.length us.length):=bcell hI.gnb rfl; simp [execOp,go_sem,Act.eval,dk.sets_get,List.lookup,c]),?_⟩
    refine ⟨chn.quiet 4 rfl (by decide) (.inl rfl) (by simp) (fun s=>.int .i64 pt) (by rintro s _ ⟨⟩; exact dk.sets_on _ (by simp) _ rfl) (fun s k' W hk' hS=>by simp [execOp,go_sem,Act.eval,dk.sets_get,List.lookup]),?_⟩
    refine ⟨chn.quiet 4 rfl (by decide) (.inl rfl) (by simp) (fun s=>.string name) (by rintro s _ ⟨⟩; exact dk.sets_on _ (by simp) _ rfl) (fun s k' W hk' hS=>by simp [execOp,go_sem,Act.eval,dk.sets_get,List.lookup]),?_⟩
    refine ⟨chn.call 0 rfl (by decide) rfl (.inl rfl) (by simp) 26 #[.string name] (fun s W hS=>⟨by simp [go_sem,Act.eval,dk.sets_get,List.lookup],(hcl W).mono fun e w9 hh=>by obtain ⟨he,hb9⟩:=hh; exact ⟨s,_,he,gh.Agree.refl _ _,(by rintro _ ⟨⟩; exact dk.sets_on _ (by simp) _ rfl),hS.1.on hb9,su.own_stays hS.2 hb9⟩⟩),?_⟩
    refine ⟨chn.quiet 4 rfl (by decide) (.inl rfl) (by simp) (fun s=>.agg #[.string name,.int .i64 0,.int .i64 0,.slice none 0 0,.slice none 0 0]) (by rintro s _ ⟨⟩; exact dk.sets_on _ (by simp) _ rfl) (fun s k' W hk' hS=>by simp [execOp,go_sem,Act.eval,dk.sets_get,List.lookup]),?_⟩
    refine ⟨chm.eff2 1 rfl (by decide) rfl ⟨⟨5,.data⟩,by simp,rfl,_,rfl,⟨4,.data⟩,by simp,rfl,rfl⟩ (by simp) (fun s W hS=>⟨{ s with a:=W.heap.size },.slice (some ⟨W.heap.size,0,none⟩) 1 1,W.alloc (.cells #[.string name,.int .i64 0,.int .i64 0,.slice none 0 0,.slice none 0 0] 54),dk.agree_sets 6 48 _ rfl rfl rfl,(by rintro _ ⟨⟩; exact dk.sets_on _ (by simp) _ rfl),(by simp [execOp,go_sem,Act.eval,dk.sets_get,List.lookup]),⟨hS.1.on ((Below.refl _ _).alloc (Nat.le_refl _) _),su.own_stays hS.2 ((Below.refl _ _).alloc (Nat.le_refl _) _)⟩,bnew W _ _⟩),?_⟩
    refine ⟨chm.call 2 rfl (by decide) rfl (.inr ⟨⟨6,.data⟩,by simp,rfl,rfl⟩) (by simp) 25 (fun s=>#[.slice (some ⟨gt,0,none⟩) us.length us.length,.int .i64 pt,.slice (some ⟨s.a,0,none⟩) 1 1]) (fun s W hS=>⟨by simp [go_sem,Act.eval,dk.sets_get,List.lookup],(ins.insert_new us gt pt (w.heap.size+2) name s.a W hp0 (by omega) (by have h9:=hS.1.1.gl; have h8:=(Array.getElem?_eq_some_iff.1 hS.1.1.gnb).1; omega) hS.1.2 hS.2).mono fun e w9 hh=>by obtain ⟨g2,c2,he,ho,hg⟩:=hh; exact ⟨{ s with g2:=g2,c2:=c2 },_,he,dk.agree_sets 7 49 _ rfl rfl rfl,(by rintro _ ⟨⟩; exact dk.sets_on _ (by simp) _ rfl),W,hS.1.1,hg,ho⟩⟩),?_⟩
    refine ⟨chn.quiet 4 rfl (by decide) (.inl rfl) (by simp) (fun s=>.pointer (some ⟨w1.heap.size,3,none⟩)) (by rintro s _ ⟨⟩; exact dk.sets_on _ (by simp) _ rfl) (fun s k' W hk' hS=>by simp [execOp,go_sem,Act.eval,dk.sets_get,List.lookup]),?_⟩
    exact ⟨chn.sto 3 rfl (by decide) rfl (.inr ⟨⟨7,.data⟩,by simp,rfl,rfl⟩) (by simp) rfl (fun s W hS=>by obtain ⟨V,hI,hg,ho⟩:=hS; have hu:=st_gnbT hI hg; have c:W.cell? ⟨w1.heap.size,3,none⟩=some (.slice (some ⟨gt,0,none⟩) us.length us.length):=bcell hu rfl; have f:=bfree hu 3; exact ⟨_,by simp [execOp,go_sem,Act.eval,dk.sets_get,List.lookup,c,f],hI.putT hg hp0 ho⟩),trivial⟩
   case fin =>
    intro s W5 hS
    obtain ⟨a2,g2,c2⟩:=s
    have hps:us.take pt++cqp.newT name :: us.drop pt=cqp.insT us name:=by
     unfold cqp.insT
     rw [cqp.posT_same HSM.out,show cqp.posT ts name=pt from cqp.pos_of HPT.out.1.1 HPT.out.1.2.1 (fun a ha=>HPT.out.1.2.2 pt a (Nat.le_refl _) ha)]
    have hI5:Iq w es bs qs ts name a0 b0 q0 t0 ec bc qc tc ge gb gq g2 w1.heap.size ks.length c2 ks (us.take pt++cqp.newT name :: us.drop pt) W5:=hS
    rw [hps] at hI5
    have HG5:Hid (Iq w es bs qs ts name a0 b0 q0 t0 ec bc qc tc ge gb gq g2 w1.heap.size ks.length c2 ks (cqp.insT us name) W5):=hI5
    have F5:=cb.fit_same HF.out HSM.out
    have hk5:=HG5.out.ok (by rw [<- hps]; exact fit_t F5 hl20 HNM.out hp0) HNM.out
    have HSM5:Hid (cb.Same qs ks (cqp.insT ts name) (cqp.insT us name)):=cqp.same_insT HSM.out
    rw [cb.ok_same HSM5.out] at hk5
    obtain ⟨n5,hn5⟩:∃ n5,(cqp.insT us name).length=n5:=⟨_,rfl⟩
    have HN5:Hid (∀ _:Unit,(cqp.insT us name).length=n5):=fun _=>hn5
    have hgb5:=HG5.out.gnb
    rw [hn5] at hgb5 hk5
    have HB5:Hid (W5.heap[w1.heap.size]?=some (.cells #[.slice (some ⟨ge,0,none⟩) es.length es.length,.slice (some ⟨gb,0,none⟩) bs.length bs.length,.slice (some ⟨gq,0,none⟩) ks.length ks.length,.slice (some ⟨g2,0,none⟩) n5 c2] 38 (0,0))):=hgb5
    have HI5:Hid (us.length+1=n5):=by have h9:=cqp.insT_len us name; show us.length+1=n5; omega
    obtain ⟨o0,o1,o2,o3⟩:=fl.q4 HB5.out
    simp only [dk.sets,HI5.out]
    clear hS hI5 hps F5 hcl hn5 hgb5 HG HO
    go_wp2_with (go_at_call 22; fail)
    clear o0 o1 o2 o3
    refine hk5.mono ?_
    rintro e w6 ⟨rfl,hb6⟩
    have hgb6:=bstay HB5.out hb6 (Array.getElem?_eq_some_iff.1 HB5.out).1
    have HG6:Hid (Iq w es bs qs ts name a0 b0 q0 t0 ec bc qc tc ge gb gq g2 w1.heap.size ks.length c2 ks (cqp.insT us name) w6):=HG5.out.on hb6
    have HB6:Hid (w6.heap[w1.heap.size]?=some (.cells #[.slice (some ⟨ge,0,none⟩) es.length es.length,.slice (some ⟨gb,0,none⟩) bs.length bs.length,.slice (some ⟨gq,0,none⟩) ks.length ks.length,.slice (some ⟨g2,0,none⟩) n5 c2] 38 (0,0))):=hgb6
    clear hk5 HG5 hb6 hgb6 HB5
    obtain ⟨hq0,⟨hk0,hu0,rfl⟩ | ⟨hk0,hu0,rfl⟩⟩:=HT2.out
    ·rw [hk0]
     have hcp:=HCP.out w6 HG6.out.bel
     obtain ⟨x0,x1,x2,x3⟩:=fl.q4 HG6.out.box
     go_wp2_with (go_at_call 21; fail)
     clear x0 x1 x2 x3
     refine hcp.mono ?_
     rintro e w7 ⟨ge7,gb7,gq7,gt7,ks7,us7,rfl,hcg7,hb7⟩
     have hres:=bstay HG6.out.res hb7 (Array.getElem?_eq_some_iff.1 HG6.out.res).1
     have HFN:=cg_ia (v0:=.slice (some ⟨ge7,0,none⟩) es.length es.length) (v1:=.slice (some ⟨gb7,0,none⟩) bs.length bs.length) (v2:=.slice (some ⟨gq7,0,none⟩) qs.length qs.length) (v3:=.slice (some ⟨gt7,0,none⟩) ts.length ts.length) HG6.out.bel hcg7 hb7 hres
     obtain ⟨z0,z1,z2,z3⟩:=fl.q4 hres
     obtain ⟨f0,f1,f2,f3⟩:=fl.r4 hres
     go_wp2
     exact bodyPost_ret (v:=.tuple #[.agg #[.slice (some ⟨ge7,0,none⟩) es.length es.length,.slice (some ⟨gb7,0,none⟩) bs.length bs.length,.slice (some ⟨gq7,0,none⟩) qs.length qs.length,.slice (some ⟨gt7,0,none⟩) ts.length ts.length],.bool false]) (by simp [results,Tryz.results7,go_sem,z0,z1,z2,z3]) rfl (HPO.out _ _ ⟨ge7,gb7,gq7,gt7,_,_,_,_,ks7,us7,by rw [hq0,hu0],by rw [hq0,hu0]; exact HFN⟩)
    ·rw [hk0]
     have HFN:=HG6.out.fin (Q:=Q) (U:=U) (by rw [hq0,hu0]; exact HSM5.out)
     obtain ⟨z0,z1,z2,z3⟩:=fl.q4 HG6.out.res
     obtain ⟨f0,f1,f2,f3⟩:=fl.r4 HG6.out.res
     obtain ⟨n0,n1,n2,n3⟩:=fl.q4 HB6.out
     have hg1:w1.heap.size ≠ w.heap.size+1:=by have:=HG6.out.gl; omega
     have hg3:w.heap.size+1 ≠ w1.heap.size:=by omega
     go_wp2
     exact bodyPost_ret (v:=.tuple #[.agg #[.slice (some ⟨ge,0,none⟩) es.length es.length,.slice (some ⟨gb,0,none⟩) bs.length bs.length,.slice (some ⟨gq,0,none⟩) ks.length ks.length,.slice (some ⟨g2,0,none⟩) n5 c2],.bool true]) (by simp [results,Tryz.results7,go_sem,z0,z1,z2,z3]) rfl (HPO.out _ _ ⟨ge,gb,gq,g2,es.length,bs.length,ks.length,c2,ks,cqp.insT us name,by rw [hq0,hu0,<- HSM5.out.ql,<- HSM5.out.tl,HN5.out ()],HFN.out _ (by repeat' (first | apply fo.Tn.set | exact fo.Tn.of _ (Below.drew (Below.refl _ _)) | exact fo.Tn.refl _ _ | (show _=_; omega)))⟩)
  ·have e1:bq=false:=by cases h:bq with | false=>rfl | true=>have h9:=HPQ.out.2.1 h; omega
   have e2:bt=false:=by cases h:bt with | false=>rfl | true=>have h9:=HPT.out.2.1 h; omega
   subst e1 e2
   have HQ2:Hid (U=ts/\((okC es bs (cqp.insQ qs name) ts=false/\Q=qs/\G=false) ∨ (okC es bs (cqp.insQ qs name) ts=true/\Q=cqp.insQ qs name/\G=true))):=⟨hu0,hQ2⟩
   clear hQ2 hu0 HCS
   have hp0:pq <= ks.length:=by have h9:=HPQ.out.1.1; have h8:=HSM.out.ql; omega
   have hl20:ks.length <= 20:=by have h8:=HSM.out.ql; omega
   have hcl:=fun W=>cl.clone name W (by have h9:=HNM.out; omega)
   go_wp2
   refine chn.region (σ:=Gi) (ws:=(fun s:Gi=>[(51,.pointer (some ⟨w1.heap.size,2,none⟩)),(52,.slice (some ⟨gq,0,none⟩) ks.length ks.length),(53,.int .i64 pq),(54,.string name),(55,.string name),(56,.agg #[.string name,.int .i64 1,.slice none 0 0,.slice none 0 0]),(57,.slice (some ⟨s.a,0,none⟩) 1 1),(58,.slice (some ⟨s.g2,0,none⟩) (ks.length+1) s.c2),(59,.pointer (some ⟨w1.heap.size,2,none⟩))])) (js:=[4,6,7,9]) (S:=(Sq w es bs qs ts name a0 b0 q0 t0 ec bc qc tc ge gb gq gt w1.heap.size ks.length us.length ks us pq)) [51,52,53,54,55,56,57,58,59] ⟨0,0,0⟩ (by kernel_rfl) (by kernel_rfl) (fun _=>rfl) (by kernel_rfl) (by decide) ⟨HG.out.on (Below.drew (Below.refl _ _)),su.own_stays HO.out.1 (Below.drew (Below.refl _ _))⟩ ?each ?fin
   case each =>
    refine ⟨chn.quiet 4 rfl (by decide) (.inl rfl) (by simp) (fun s=>.pointer (some ⟨w1.heap.size,2,none⟩)) (by rintro s _ ⟨⟩; exact dk.sets_on _ (by simp) _ rfl) (fun s k' W hk' hS=>by simp [execOp,go_sem,Act.eval,dk.sets_get,List.lookup]),?_⟩
    refine ⟨chn.quiet 2 rfl (by decide) (.inr ⟨7,_,rfl,rfl,⟨1,.data⟩,by simp,rfl,rfl⟩) (by simp) (fun s=>.slice (some ⟨gq,0,none⟩) ks.length ks.length) (by rintro s _ ⟨⟩; exact dk.sets_on _ (by simp) _ rfl) (fun s k' W hk' hS=>by have hI:=sq_iq hk' hS; have c:W.cell? ⟨w1.heap.size,2,none⟩=some (.slice (some ⟨gq,0,none⟩) ks.length ks.length):=bcell hI.gnb rfl; simp [execOp,go_sem,Act.eval,dk.sets_get,List.lookup,c]),?_⟩
    refine ⟨chn.quiet 4 rfl (by decide) (.inl rfl) (by simp) (fun s=>.int .i64 pq) (by rintro s _ ⟨⟩; exact dk.sets_on _ (by simp) _ rfl) (fun s k' W hk' hS=>by simp [execOp,go_sem,Act.eval,dk.sets_get,List.lookup]),?_⟩
    refine ⟨chn.quiet 4 rfl (by decide) (.inl rfl) (by simp) (fun s=>.string name) (by rintro s _ ⟨⟩; exact dk.sets_on _ (by simp) _ rfl) (fun s k' W hk' hS=>by simp [execOp,go_sem,Act.eval,dk.sets_get,List.lookup]),?_⟩
    refine ⟨chn.call 0 rfl (by decide) rfl (.inl rfl) (by simp) 26 #[.string name] (fun s W hS=>⟨by simp [go_sem,Act.eval,dk.sets_get,List.lookup],(hcl W).mono fun e w9 hh=>by obtain ⟨he,hb9⟩:=hh; exact ⟨s,_,he,gh.Agree.refl _ _,(by rintro _ ⟨⟩; exact dk.sets_on _ (by simp) _ rfl),hS.1.on hb9,su.own_stays hS.2 hb9⟩⟩),?_⟩
    refine ⟨chn.quiet 4 rfl (by decide) (.inl rfl) (by simp) (fun s=>.agg #[.string name,.int .i64 1,.slice none 0 0,.slice none 0 0]) (by rintro s _ ⟨⟩; exact dk.sets_on _ (by simp) _ rfl) (fun s k' W hk' hS=>by simp [execOp,go_sem,Act.eval,dk.sets_get,List.lookup]),?_⟩
    refine ⟨chm.eff2 1 rfl (by decide) rfl ⟨⟨5,.data⟩,by simp,rfl,_,rfl,⟨4,.data⟩,by simp,rfl,rfl⟩ (by simp) (fun s W hS=>⟨{ s with a:=W.heap.size },.slice (some ⟨W.heap.size,0,none⟩) 1 1,W.alloc (.cells #[.string name,.int .i64 1,.slice none 0 0,.slice none 0 0] 58),dk.agree_sets 6 57 _ rfl rfl rfl,(by rintro _ ⟨⟩; exact dk.sets_on _ (by simp) _ rfl),(by simp [execOp,go_sem,Act.eval,dk.sets_get,List.lookup]),⟨hS.1.on ((Below.refl _ _).alloc (Nat.le_refl _) _),su.own_stays hS.2 ((Below.refl _ _).alloc (Nat.le_refl _) _)⟩,bnew W _ _⟩),?_⟩
    refine ⟨chm.call 2 rfl (by decide) rfl (.inr ⟨⟨6,.data⟩,by simp,rfl,rfl⟩) (by simp) 27 (fun s=>#[.slice (some ⟨gq,0,none⟩) ks.length ks.length,.int .i64 pq,.slice (some ⟨s.a,0,none⟩) 1 1]) (fun s W hS=>⟨by simp [go_sem,Act.eval,dk.sets_get,List.lookup],(inq.insert_new ks gq pq (w.heap.size+2) name s.a W hp0 (by omega) (by have h9:=hS.1.1.gl; have h8:=(Array.getElem?_eq_some_iff.1 hS.1.1.gnb).1; omega) hS.1.2 hS.2).mono fun e w9 hh=>by obtain ⟨g2,c2,he,ho,hg⟩:=hh; exact ⟨{ s with g2:=g2,c2:=c2 },_,he,dk.agree_sets 7 58 _ rfl rfl rfl,(by rintro _ ⟨⟩; exact dk.sets_on _ (by simp) _ rfl),W,hS.1.1,hg,ho⟩⟩),?_⟩
    refine ⟨chn.quiet 4 rfl (by decide) (.inl rfl) (by simp) (fun s=>.pointer (some ⟨w1.heap.size,2,none⟩)) (by rintro s _ ⟨⟩; exact dk.sets_on _ (by simp) _ rfl) (fun s k' W hk' hS=>by simp [execOp,go_sem,Act.eval,dk.sets_get,List.lookup]),?_⟩
    exact ⟨chn.sto 3 rfl (by decide) rfl (.inr ⟨⟨7,.data⟩,by simp,rfl,rfl⟩) (by simp) rfl (fun s W hS=>by obtain ⟨V,hI,hg,ho⟩:=hS; have hu:=st_gnbQ hI hg; have c:W.cell? ⟨w1.heap.size,2,none⟩=some (.slice (some ⟨gq,0,none⟩) ks.length ks.length):=bcell hu rfl; have f:=bfree hu 2; exact ⟨_,by simp [execOp,go_sem,Act.eval,dk.sets_get,List.lookup,c,f],hI.putQ hg hp0 ho⟩),trivial⟩
   case fin =>
    intro s W5 hS
    obtain ⟨a2,g2,c2⟩:=s
    have hps:ks.take pq++cqp.newQ name :: ks.drop pq=cqp.insQ ks name:=by
     unfold cqp.insQ
     rw [cqp.posQ_same HSM.out,show cqp.posQ qs name=pq from cqp.pos_of HPQ.out.1.1 HPQ.out.1.2.1 (fun a ha=>HPQ.out.1.2.2 pq a (Nat.le_refl _) ha)]
    have hI5:Iq w es bs qs ts name a0 b0 q0 t0 ec bc qc tc ge gb g2 gt w1.heap.size c2 us.length (ks.take pq++cqp.newQ name :: ks.drop pq) us W5:=hS
    rw [hps] at hI5
    have HG5:Hid (Iq w es bs qs ts name a0 b0 q0 t0 ec bc qc tc ge gb g2 gt w1.heap.size c2 us.length (cqp.insQ ks name) us W5):=hI5
    have F5:=cb.fit_same HF.out HSM.out
    have hk5:=HG5.out.ok (by rw [<- hps]; exact fit_q F5 hl20 HNM.out hp0) HNM.out
    have HSM5:Hid (cb.Same (cqp.insQ qs name) (cqp.insQ ks name) ts us):=cqp.same_insQ HSM.out
    rw [cb.ok_same HSM5.out] at hk5
    obtain ⟨n5,hn5⟩:∃ n5,(cqp.insQ ks name).length=n5:=⟨_,rfl⟩
    have HN5:Hid (∀ _:Unit,(cqp.insQ ks name).length=n5):=fun _=>hn5
    have hgb5:=HG5.out.gnb
    rw [hn5] at hgb5 hk5
    have HB5:Hid (W5.heap[w1.heap.size]?=some (.cells #[.slice (some ⟨ge,0,none⟩) es.length es.length,.slice (some ⟨gb,0,none⟩) bs.length bs.length,.slice (some ⟨g2,0,none⟩) n5 c2,.slice (some ⟨gt,0,none⟩) us.length us.length] 38 (0,0))):=hgb5
    have HI5:Hid (ks.length+1=n5):=by have h9:=cqp.insQ_len ks name; show ks.length+1=n5; omega
    obtain ⟨o0,o1,o2,o3⟩:=fl.q4 HB5.out
    simp only [dk.sets,HI5.out]
    clear hS hI5 hps F5 hcl hn5 hgb5 HG HO
    go_wp2_with (go_at_call 22; fail)
    clear o0 o1 o2 o3
    refine hk5.mono ?_
    rintro e w6 ⟨rfl,hb6⟩
    have hgb6:=bstay HB5.out hb6 (Array.getElem?_eq_some_iff.1 HB5.out).1
    have HG6:Hid (Iq w es bs qs ts name a0 b0 q0 t0 ec bc qc tc ge gb g2 gt w1.heap.size c2 us.length (cqp.insQ ks name) us w6):=HG5.out.on hb6
    have HB6:Hid (w6.heap[w1.heap.size]?=some (.cells #[.slice (some ⟨ge,0,none⟩) es.length es.length,.slice (some ⟨gb,0,none⟩) bs.length bs.length,.slice (some ⟨g2,0,none⟩) n5 c2,.slice (some ⟨gt,0,none⟩) us.length us.length] 38 (0,0))):=hgb6
    clear hk5 HG5 hb6 hgb6 HB5
    obtain ⟨hu0,⟨hk0,hq0,rfl⟩ | ⟨hk0,hq0,rfl⟩⟩:=HQ2.out
    ·rw [hk0]
     have hcp:=HCP.out w6 HG6.out.bel
     obtain ⟨x0,x1,x2,x3⟩:=fl.q4 HG6.out.box
     go_wp2_with (go_at_call 21; fail)
     clear x0 x1 x2 x3
     refine hcp.mono ?_
     rintro e w7 ⟨ge7,gb7,gq7,gt7,ks7,us7,rfl,hcg7,hb7⟩
     have hres:=bstay HG6.out.res hb7 (Array.getElem?_eq_some_iff.1 HG6.out.res).1
     have HFN:=cg_ia (v0:=.slice (some ⟨ge7,0,none⟩) es.length es.length) (v1:=.slice (some ⟨gb7,0,none⟩) bs.length bs.length) (v2:=.slice (some ⟨gq7,0,none⟩) qs.length qs.length) (v3:=.slice (some ⟨gt7,0,none⟩) ts.length ts.length) HG6.out.bel hcg7 hb7 hres
     obtain ⟨z0,z1,z2,z3⟩:=fl.q4 hres
     obtain ⟨f0,f1,f2,f3⟩:=fl.r4 hres
     go_wp2
     exact bodyPost_ret (v:=.tuple #[.agg #[.slice (some ⟨ge7,0,none⟩) es.length es.length,.slice (some ⟨gb7,0,none⟩) bs.length bs.length,.slice (some ⟨gq7,0,none⟩) qs.length qs.length,.slice (some ⟨gt7,0,none⟩) ts.length ts.length],.bool false]) (by simp [results,Tryz.results7,go_sem,z0,z1,z2,z3]) rfl (HPO.out _ _ ⟨ge7,gb7,gq7,gt7,_,_,_,_,ks7,us7,by rw [hq0,hu0],by rw [hq0,hu0]; exact HFN⟩)
    ·rw [hk0]
     have HFN:=HG6.out.fin (Q:=Q) (U:=U) (by rw [hq0,hu0]; exact HSM5.out)
     obtain ⟨z0,z1,z2,z3⟩:=fl.q4 HG6.out.res
     obtain ⟨f0,f1,f2,f3⟩:=fl.r4 HG6.out.res
     obtain ⟨n0,n1,n2,n3⟩:=fl.q4 HB6.out
     have hg1:w1.heap.size ≠ w.heap.size+1:=by have:=HG6.out.gl; omega
     have hg3:w.heap.size+1 ≠ w1.heap.size:=by omega
     go_wp2
     exact bodyPost_ret (v:=.tuple #[.agg #[.slice (some ⟨ge,0,none⟩) es.length es.length,.slice (some ⟨gb,0,none⟩) bs.length bs.length,.slice (some ⟨g2,0,none⟩) n5 c2,.slice (some ⟨gt,0,none⟩) us.length us.length],.bool true]) (by simp [results,Tryz.results7,go_sem,z0,z1,z2,z3]) rfl (HPO.out _ _ ⟨ge,gb,g2,gt,es.length,bs.length,c2,us.length,cqp.insQ ks name,us,by rw [hq0,hu0,<- HSM5.out.ql,<- HSM5.out.tl,HN5.out ()],HFN.out _ (by repeat' (first | apply fo.Tn.set | exact fo.Tn.of _ (Below.drew (Below.refl _ _)) | exact fo.Tn.refl _ _ | (show _=_; omega)))⟩)
end Go.Proofs.YtaoefccgdfcchaaGreat.cqr
