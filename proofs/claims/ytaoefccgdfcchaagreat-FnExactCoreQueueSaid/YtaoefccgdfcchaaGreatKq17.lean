/- CoreMarks, QuFind. -/
import Derived.Test.YtaoefccgdfcchaaGreatKq08
import Derived.Test.YtaoefccgdfcchaaGreatKq10
import Derived.Test.YtaoefccgdfcchaaGreatKq14
import Derived.Test.YtaoefccgdfcchaaGreatKq16
import Derived.Test.YtaoefccgdfcchaaGreatKq07
import Derived.Test.YtaoefccgdfcchaaGreatKq06
set_option maxRecDepth 100000
set_option maxHeartbeats 8000000
set_option linter.unusedVariables false
namespace Go.Proofs.YtaoefccgdfcchaaGreat.qu
open ChangeShapes WideShapes ChangeAt RowKit fl
theorem Ls.ty {w:World} {B g k:Nat} {l:List E} (h:Ls w B g l) (hk:lsB g l k):∃ cur U,w.heap[k]?=some (.cells cur U (0,0))/\(U=58 ∨ U=129 ∨ U=131):=by
 rcases hk with rfl | ⟨r,hr,hk | hk⟩
 ·obtain ⟨cur,h1⟩:=own_g h.own
  exact ⟨cur,_,h1,.inl rfl⟩
 ·obtain ⟨cur,h1⟩:=rmk.mine_type (h.ea r hr) hk
  exact ⟨cur,_,h1,.inr (.inl rfl)⟩
 ·obtain ⟨cur,h1⟩:=rmk.mine_type (h.eb r hr) hk
  exact ⟨cur,_,h1,.inr (.inr rfl)⟩
theorem Ls.turn {w w':World} {B g:Nat} {l:List E} {Z:Nat->Prop} (h:Ls w B g l) (ht:fo.Tn w w' Z) (hS:∀ k,Z k->∃ cur U,w.heap[k]?=some (.cells cur U (0,0))/\U ≠ 58/\U ≠ 129/\U ≠ 131):Ls w' B g l:=by
 refine ⟨h.own.kept (ht.block g h.own.lt fun hz=>?_),h.bg,fun r hr=>(h.ea r hr).kept ht fun k hk hz=>?_,fun r hr=>(h.eb r hr).kept ht fun k hk hz=>?_,h.pw⟩
 ·obtain ⟨cur,U,h1,h2,_,_⟩:=hS _ hz
  exact rmk.ne_type h2 ⟨cur,h1⟩ (own_g h.own)
 ·obtain ⟨cur,U,h1,_,h2,_⟩:=hS _ hz
  exact rmk.ne_type h2 ⟨cur,h1⟩ (rmk.mine_type (h.ea r hr) hk)
 ·obtain ⟨cur,U,h1,_,_,h2⟩:=hS _ hz
  exact rmk.ne_type h2 ⟨cur,h1⟩ (rmk.mine_type (h.eb r hr) hk)
theorem Ls.low {w:World} {B g k:Nat} {l:List E} (h:Ls w B g l) (hk:lsB g l k):B <= k:=by
 rcases hk with rfl | ⟨r,hr,hk | hk⟩
 ·exact h.bg
 ·exact ((h.ea r hr).blk_le hk).1
 ·exact ((h.eb r hr).blk_le hk).1
theorem so_ls {w:World} {B g:Nat} {l ks:List E} (so:So w B g l ks l.length) (hg:B <= g):Ls w B g ks:=by
 have hm:∀ r ∈ ks,Mine w B r:=fun r hr=>by
  obtain ⟨j,hj⟩:=List.mem_iff_getElem?.1 hr
  exact so.mine j r (by have:=(List.getElem?_eq_some_iff.1 hj).1; have:=so.len; omega) hj
 have ho:=so.own
 rw [<- so.len] at ho
 refine ⟨fo.of_own ho,hg,fun r hr=>?_,fun r hr=>?_,?_⟩
 ·obtain ⟨a,b,h1,h2,h3,h4,_,h5,h6,_⟩:=hm r hr
  exact .inr ⟨a,0,h1,h3,fo.of_own h5⟩
 ·obtain ⟨a,b,h1,h2,h3,h4,_,h5,h6,_⟩:=hm r hr
  exact .inr ⟨b,0,h2,h4,fo.of_own h6⟩
 ·rw [List.pairwise_iff_getElem]
  intro i j hi hj hij
  have e1:ks[i]?=some ks[i]:=List.getElem?_eq_getElem hi
  have e2:ks[j]?=some ks[j]:=List.getElem?_eq_getElem hj
  have hord:=so.ord i j _ _ hij (by have:=so.len; omega) e1 e2
  refine ⟨fun k h1 h2=>?_,fun k h1 h2=>?_⟩
  ·obtain ⟨_,g1,o1,a1,b1⟩:=h1
   obtain ⟨_,g2,o2,a2,b2⟩:=h2
   have:=hord k k (.inl ⟨o1,by rw [a1,b1]⟩) (.inl ⟨o2,by rw [a2,b2]⟩)
   omega
  ·obtain ⟨_,g1,o1,a1,b1⟩:=h1
   obtain ⟨_,g2,o2,a2,b2⟩:=h2
   have:=hord k k (.inr ⟨o1,by rw [a1,b1]⟩) (.inr ⟨o2,by rw [a2,b2]⟩)
   omega
end Go.Proofs.YtaoefccgdfcchaaGreat.qu
namespace Go.Proofs.YtaoefccgdfcchaaGreat.su
open ChangeShapes WideShapes ChangeAt RowKit fl
theorem Ls.ty {w:World} {B g k:Nat} {l:List E} (h:Ls w B g l) (hk:lsB g l k):∃ cur U,w.heap[k]?=some (.cells cur U (0,0))/\(U=54 ∨ U=134 ∨ U=136):=by
 rcases hk with rfl | ⟨r,hr,hk | hk⟩
 ·obtain ⟨cur,h1⟩:=own_g h.own
  exact ⟨cur,_,h1,.inl rfl⟩
 ·obtain ⟨cur,h1⟩:=rmk.mine_type (h.ea r hr) hk
  exact ⟨cur,_,h1,.inr (.inl rfl)⟩
 ·obtain ⟨cur,h1⟩:=rmk.mine_type (h.eb r hr) hk
  exact ⟨cur,_,h1,.inr (.inr rfl)⟩
theorem Ls.turn {w w':World} {B g:Nat} {l:List E} {Z:Nat->Prop} (h:Ls w B g l) (ht:fo.Tn w w' Z) (hS:∀ k,Z k->∃ cur U,w.heap[k]?=some (.cells cur U (0,0))/\U ≠ 54/\U ≠ 134/\U ≠ 136):Ls w' B g l:=by
 refine ⟨h.own.kept (ht.block g h.own.lt fun hz=>?_),h.bg,fun r hr=>(h.ea r hr).kept ht fun k hk hz=>?_,fun r hr=>(h.eb r hr).kept ht fun k hk hz=>?_,h.pw⟩
 ·obtain ⟨cur,U,h1,h2,_,_⟩:=hS _ hz
  exact rmk.ne_type h2 ⟨cur,h1⟩ (own_g h.own)
 ·obtain ⟨cur,U,h1,_,h2,_⟩:=hS _ hz
  exact rmk.ne_type h2 ⟨cur,h1⟩ (rmk.mine_type (h.ea r hr) hk)
 ·obtain ⟨cur,U,h1,_,_,h2⟩:=hS _ hz
  exact rmk.ne_type h2 ⟨cur,h1⟩ (rmk.mine_type (h.eb r hr) hk)
theorem Ls.low {w:World} {B g k:Nat} {l:List E} (h:Ls w B g l) (hk:lsB g l k):B <= k:=by
 rcases hk with rfl | ⟨r,hr,hk | hk⟩
 ·exact h.bg
 ·exact ((h.ea r hr).blk_le hk).1
 ·exact ((h.eb r hr).blk_le hk).1
theorem so_ls {w:World} {B g:Nat} {l ks:List E} (so:So w B g l ks l.length) (hg:B <= g):Ls w B g ks:=by
 have hm:∀ r ∈ ks,Mine w B r:=fun r hr=>by
  obtain ⟨j,hj⟩:=List.mem_iff_getElem?.1 hr
  exact so.mine j r (by have:=(List.getElem?_eq_some_iff.1 hj).1; have:=so.len; omega) hj
 have ho:=so.own
 rw [<- so.len] at ho
 refine ⟨fo.of_own ho,hg,fun r hr=>?_,fun r hr=>?_,?_⟩
 ·obtain ⟨a,b,h1,h2,h3,h4,_,h5,h6,_⟩:=hm r hr
  exact .inr ⟨a,0,h1,h3,fo.of_own h5⟩
 ·obtain ⟨a,b,h1,h2,h3,h4,_,h5,h6,_⟩:=hm r hr
  exact .inr ⟨b,0,h2,h4,fo.of_own h6⟩
 ·rw [List.pairwise_iff_getElem]
  intro i j hi hj hij
  have e1:ks[i]?=some ks[i]:=List.getElem?_eq_getElem hi
  have e2:ks[j]?=some ks[j]:=List.getElem?_eq_getElem hj
  have hord:=so.ord i j _ _ hij (by have:=so.len; omega) e1 e2
  refine ⟨fun k h1 h2=>?_,fun k h1 h2=>?_⟩
  ·obtain ⟨_,g1,o1,a1,b1⟩:=h1
   obtain ⟨_,g2,o2,a2,b2⟩:=h2
   have:=hord k k (.inl ⟨o1,by rw [a1,b1]⟩) (.inl ⟨o2,by rw [a2,b2]⟩)
   omega
  ·obtain ⟨_,g1,o1,a1,b1⟩:=h1
   obtain ⟨_,g2,o2,a2,b2⟩:=h2
   have:=hord k k (.inr ⟨o1,by rw [a1,b1]⟩) (.inr ⟨o2,by rw [a2,b2]⟩)
   omega
end Go.Proofs.YtaoefccgdfcchaaGreat.su
namespace Go.Proofs.YtaoefccgdfcchaaGreat.co
open ChangeShapes WideShapes ChangeAt RowKit rr ra rt rm fl
structure Ca (w:World) (B:Nat) (es:List Ex) (bs:List Bi) (qs:List qu.E) (ts:List su.E) (ge gb gq gt:Nat):Prop where
 he:FE w ge es es.length
 hb:FB w gb bs bs.length
 hq:qu.Ls w B gq qs
 ht:su.Ls w B gt ts
 be:B <= ge
 bb:B <= gb
 eb:ge ≠ gb
def coB (qs:List qu.E) (ts:List su.E) (ge gb gq gt k:Nat):Prop:=k=ge ∨ k=gb ∨ qu.lsB gq qs k ∨ su.lsB gt ts k
structure Cm (w:World) (B:Nat) (es:List Ex) (bs:List Bi) (qs:List qu.E) (ts:List su.E) (ge gb gq gt:Nat):Prop where
 he:FE w ge (mksE 1 es.length) es.length
 hb:FB w gb (mksB (1+2*es.length) bs.length) bs.length
 hq:qu.Ls w B gq (qu.mkl (1+2*es.length+bs.length*3) qs)
 ht:su.Ls w B gt (su.mkl (1+2*es.length+bs.length*3+qu.tot qs) ts)
structure Sm (es:List Ex) (bs:List Bi) (qs:List qu.E) (ts:List su.E):Prop where
 el:es.length <= 1048576
 bl:bs.length <= 1048576
 ql:qs.length <= 1048577
 tl:ts.length <= 1048577
 qe:∀ r ∈ qs,r.rs.length <= 1048577/\r.hs.length <= 1048577
 te:∀ r ∈ ts,r.rs.length <= 1048577/\r.hs.length <= 1048577
 qt:qu.tot qs <= 50000000000
 tt:su.tot ts <= 50000000000
section
variable {w w':World} {B ge gb gq gt:Nat} {es:List Ex} {bs:List Bi} {qs ks:List qu.E} {ts us:List su.E}
theorem Cg.a (h:Cg w B es bs qs ts ge gb gq gt ks us):Ca w B es bs ks us ge gb gq gt:=⟨h.he,h.hb,qu.so_ls h.hq h.bq,su.so_ls h.ht h.bt,h.be,h.bb,h.eb⟩
theorem Ca.on (h:Ca w B es bs qs ts ge gb gq gt) (hb:Below w.heap.size w w'):Ca w' B es bs qs ts ge gb gq gt:=⟨h.he.below hb h.he.lt,h.hb.below hb h.hb.lt,h.hq.on hb,h.ht.on hb,h.be,h.bb,h.eb⟩
theorem Cm.on (h:Cm w B es bs qs ts ge gb gq gt) (hb:Below w.heap.size w w'):Cm w' B es bs qs ts ge gb gq gt:=⟨h.he.below hb h.he.lt,h.hb.below hb h.hb.lt,h.hq.on hb,h.ht.on hb⟩
theorem Ca.low (h:Ca w B es bs qs ts ge gb gq gt) {k:Nat} (hk:coB qs ts ge gb gq gt k):B <= k:=by
 rcases hk with rfl | rfl | hk | hk
 ·exact h.be
 ·exact h.bb
 ·exact h.hq.low hk
 ·exact h.ht.low hk
theorem fe_ty {l:List Ex} {k:Nat} (h:FE w ge l k):∃ cur,w.heap[ge]?=some (.cells cur 137 (0,0)):=by
 obtain ⟨cur,h1,_⟩:=h
 exact ⟨cur,h1⟩
theorem fb_ty {l:List Bi} {k:Nat} (h:FB w gb l k):∃ cur,w.heap[gb]?=some (.cells cur 138 (0,0)):=by
 obtain ⟨cur,h1,_⟩:=h
 exact ⟨cur,h1⟩
end
theorem mark_core (es:List Ex) (bs:List Bi) (qs:List qu.E) (ts:List su.E) (B ge gb gq gt ec bc qc tc:Nat) (w:World) (S:Sm es bs qs ts) (h:Ca w B es bs qs ts ge gb gq gt) :
  Calls Tryz.prog 9 #[.agg #[.slice (some ⟨ge,0,none⟩) es.length ec,.slice (some ⟨gb,0,none⟩) bs.length bc,.slice (some ⟨gq,0,none⟩) qs.length qc,.slice (some ⟨gt,0,none⟩) ts.length tc],.int .i64 1] w fun e w'=>e=.returned (.int .i64 (1+2*es.length+bs.length*3+qu.tot qs+su.tot ts:Nat))/\fo.Tn w w' (coB qs ts ge gb gq gt)/\Cm w' B es bs qs ts ge gb gq gt:=by
 have hb:=fl.bl w (.cells #[.slice (some ⟨ge,0,none⟩) es.length ec,.slice (some ⟨gb,0,none⟩) bs.length bc,.slice (some ⟨gq,0,none⟩) qs.length qc,.slice (some ⟨gt,0,none⟩) ts.length tc] 38)
 have hA:=bnew w #[.slice (some ⟨ge,0,none⟩) es.length ec,.slice (some ⟨gb,0,none⟩) bs.length bc,.slice (some ⟨gq,0,none⟩) qs.length qc,.slice (some ⟨gt,0,none⟩) ts.length tc] 38
 obtain ⟨W,hW⟩:∃ W,w.alloc (.cells #[.slice (some ⟨ge,0,none⟩) es.length ec,.slice (some ⟨gb,0,none⟩) bs.length bc,.slice (some ⟨gq,0,none⟩) qs.length qc,.slice (some ⟨gt,0,none⟩) ts.length tc] 38)=W:=⟨_,rfl⟩
 rw [hW] at hb hA
 have hC:=h.on hb
 have hmr:=ro2.mark_routes es bs ge gb ec bc W S.el S.bl h.eb hC.he hC.hb
 have x0:W.cell? ⟨w.heap.size,0,none⟩=some (.slice (some ⟨ge,0,none⟩) es.length ec):=bcell hA rfl
 have x1:W.cell? ⟨w.heap.size,1,none⟩=some (.slice (some ⟨gb,0,none⟩) bs.length bc):=bcell hA rfl
 have HA:Hid (W.heap[w.heap.size]?=some (.cells #[.slice (some ⟨ge,0,none⟩) es.length ec,.slice (some ⟨gb,0,none⟩) bs.length bc,.slice (some ⟨gq,0,none⟩) qs.length qc,.slice (some ⟨gt,0,none⟩) ts.length tc] 38 (0,0))):=hA
 have HC:Hid (Ca W B es bs qs ts ge gb gq gt):=hC
 have HS:Hid (Sm es bs qs ts):=S
 have HW:Hid (Below w.heap.size w W):=hb
 have hel:=S.el
 have hbl:=S.bl
 clear h S hA hC hb
 go_enter Tryz.func9,Tryz.ntmps9
 go_wp2_with (go_at_call 31; fail)
 clear hW x0 x1
 refine hmr.mono ?_
 rintro e w1 ⟨rfl,fe1,fb1,ht1⟩
 have hT1:fo.Tn W w1 (fun k=>k=ge ∨ k=gb):=⟨ht1.os,ht1.tape,ht1.output,ht1.size,fun k hk hn=>ht1.block k hk (fun e=>hn (.inl e)) (fun e=>hn (.inr e))⟩
 have hty1:∀ k,(k=ge ∨ k=gb)->∃ cur U,W.heap[k]?=some (.cells cur U (0,0))/\(U=137 ∨ U=138):=fun k hk=>by
  rcases hk with rfl | rfl
  ·obtain ⟨c,h1⟩:=fe_ty HC.out.he; exact ⟨c,_,h1,.inl rfl⟩
  ·obtain ⟨c,h1⟩:=fb_ty HC.out.hb; exact ⟨c,_,h1,.inr rfl⟩
 have hq1:qu.Ls w1 B gq qs:=HC.out.hq.turn hT1 (fun k hk=>by obtain ⟨c,U,h1,rfl | rfl⟩:=hty1 k hk; exact ⟨c,_,h1,by decide,by decide,by decide⟩; exact ⟨c,_,h1,by decide,by decide,by decide⟩)
 have hs1:su.Ls w1 B gt ts:=HC.out.ht.turn hT1 (fun k hk=>by obtain ⟨c,U,h1,rfl | rfl⟩:=hty1 k hk; exact ⟨c,_,h1,by decide,by decide,by decide⟩; exact ⟨c,_,h1,by decide,by decide,by decide⟩)
 have hbx1:w1.heap[w.heap.size]?=some (.cells #[.slice (some ⟨ge,0,none⟩) es.length ec,.slice (some ⟨gb,0,none⟩) bs.length bc,.slice (some ⟨gq,0,none⟩) qs.length qc,.slice (some ⟨gt,0,none⟩) ts.length tc] 38 (0,0)):=(hT1.block _ (Array.getElem?_eq_some_iff.1 HA.out).1 (fun hk=>by obtain ⟨c,U,h1,h2⟩:=hty1 _ hk; rw [HA.out] at h1; simp at h1; rcases h2 with rfl | rfl <;> simp at h1)).trans HA.out
 have x2:w1.cell? ⟨w.heap.size,2,none⟩=some (.slice (some ⟨gq,0,none⟩) qs.length qc):=bcell hbx1 rfl
 obtain ⟨m1,hm1⟩:∃ m1,1+2*es.length+bs.length*3=m1:=⟨_,rfl⟩
 have hm19:1 <= m1/\m1 <= 10000000:=by omega
 have hmq:=qu.mark_list qs gq qc m1 w1 HS.out.qe (by have:=HS.out.qt; omega) HS.out.ql (by omega) hq1
 have HM1:Hid (1+2*es.length+bs.length*3=m1):=hm1
 rw [hm1]
 have HF1:Hid (FE w1 ge (mksE 1 es.length) es.length/\FB w1 gb (mksB (1+2*es.length) bs.length) bs.length):=⟨fe1,fb1⟩
 have HT1:Hid (fo.Tn W w1 (fun k=>k=ge ∨ k=gb)):=hT1
 have HQ1:Hid (qu.Ls w1 B gq qs):=hq1
 have HS1:Hid (su.Ls w1 B gt ts):=hs1
 have HB1:Hid (w1.heap[w.heap.size]?=some (.cells #[.slice (some ⟨ge,0,none⟩) es.length ec,.slice (some ⟨gb,0,none⟩) bs.length bc,.slice (some ⟨gq,0,none⟩) qs.length qc,.slice (some ⟨gt,0,none⟩) ts.length tc] 38 (0,0))):=hbx1
 obtain ⟨m2,hm2⟩:∃ m2,m1+qu.tot qs=m2:=⟨_,rfl⟩
 rw [hm2] at hmq
 have HM2:Hid (m1+qu.tot qs=m2):=hm2
 have hm29:1 <= m2/\m2 <= 60000000000:=by have:=HS.out.qt; omega
 clear hmr fe1 fb1 ht1 hT1 hty1 hq1 hs1 hbx1 hm1 hm2
 go_wp2_with (go_at_call 32; fail)
 refine hmq.mono ?_
 rintro e w2 ⟨rfl,ht2,hl2⟩
 have hty2:=fun k (hk:qu.lsB gq qs k)=>HQ1.out.ty hk
 have fe2:FE w2 ge (mksE 1 es.length) es.length:=ro2.keptE HF1.out.1 (ht2.block ge HF1.out.1.lt (fun hk=>by obtain ⟨c,U,h1,h2⟩:=hty2 _ hk; rcases h2 with rfl | rfl | rfl <;> exact rmk.ne_type (by decide) ⟨c,h1⟩ (fe_ty HF1.out.1)))
 have fb2:FB w2 gb (mksB (1+2*es.length) bs.length) bs.length:=ro2.keptB HF1.out.2 (ht2.block gb HF1.out.2.lt (fun hk=>by obtain ⟨c,U,h1,h2⟩:=hty2 _ hk; rcases h2 with rfl | rfl | rfl <;> exact rmk.ne_type (by decide) ⟨c,h1⟩ (fb_ty HF1.out.2)))
 have hs2:su.Ls w2 B gt ts:=HS1.out.turn ht2 (fun k hk=>by obtain ⟨c,U,h1,rfl | rfl | rfl⟩:=hty2 k hk; exact ⟨c,_,h1,by decide,by decide,by decide⟩; exact ⟨c,_,h1,by decide,by decide,by decide⟩; exact ⟨c,_,h1,by decide,by decide,by decide⟩)
 have hbx2:w2.heap[w.heap.size]?=some (.cells #[.slice (some ⟨ge,0,none⟩) es.length ec,.slice (some ⟨gb,0,none⟩) bs.length bc,.slice (some ⟨gq,0,none⟩) qs.length qc,.slice (some ⟨gt,0,none⟩) ts.length tc] 38 (0,0)):=(ht2.block _ (Array.getElem?_eq_some_iff.1 HB1.out).1 (fun hk=>by obtain ⟨c,U,h1,h2⟩:=hty2 _ hk; rw [HB1.out] at h1; simp at h1; rcases h2 with rfl | rfl | rfl <;> simp at h1)).trans HB1.out
 have x3:w2.cell? ⟨w.heap.size,3,none⟩=some (.slice (some ⟨gt,0,none⟩) ts.length tc):=bcell hbx2 rfl
 have hms:=su.mark_list ts gt tc m2 w2 HS.out.te (by have:=HS.out.tt; omega) HS.out.tl (by omega) hs2
 have HF2:Hid (FE w2 ge (mksE 1 es.length) es.length/\FB w2 gb (mksB (1+2*es.length) bs.length) bs.length):=⟨fe2,fb2⟩
 have HL2:Hid (qu.Ls w2 B gq (qu.mkl m1 qs)):=hl2
 have HT2:Hid (fo.Tn w1 w2 (qu.lsB gq qs)):=ht2
 have HS2:Hid (su.Ls w2 B gt ts):=hs2
 clear hmq fe2 fb2 hl2 ht2 hs2 hbx2 hty2 x2
 go_wp2_with (go_at_call 33; fail)
 refine hms.mono ?_
 rintro e w3 ⟨rfl,ht3,hl3⟩
 have hty3:=fun k (hk:su.lsB gt ts k)=>HS2.out.ty hk
 have fe3:FE w3 ge (mksE 1 es.length) es.length:=ro2.keptE HF2.out.1 (ht3.block ge HF2.out.1.lt (fun hk=>by obtain ⟨c,U,h1,h2⟩:=hty3 _ hk; rcases h2 with rfl | rfl | rfl <;> exact rmk.ne_type (by decide) ⟨c,h1⟩ (fe_ty HF2.out.1)))
 have fb3:FB w3 gb (mksB (1+2*es.length) bs.length) bs.length:=ro2.keptB HF2.out.2 (ht3.block gb HF2.out.2.lt (fun hk=>by obtain ⟨c,U,h1,h2⟩:=hty3 _ hk; rcases h2 with rfl | rfl | rfl <;> exact rmk.ne_type (by decide) ⟨c,h1⟩ (fb_ty HF2.out.2)))
 have hq3:qu.Ls w3 B gq (qu.mkl m1 qs):=HL2.out.turn ht3 (fun k hk=>by obtain ⟨c,U,h1,rfl | rfl | rfl⟩:=hty3 k hk; exact ⟨c,_,h1,by decide,by decide,by decide⟩; exact ⟨c,_,h1,by decide,by decide,by decide⟩; exact ⟨c,_,h1,by decide,by decide,by decide⟩)
 have HFN:Hid (fo.Tn w w3 (coB qs ts ge gb gq gt)/\Cm w3 B es bs qs ts ge gb gq gt):=by
  refine ⟨?_,fe3,fb3,?_,?_⟩
  ·exact (((fo.Tn.of _ HW.out).trans (HT1.out.wide fun k hk=>hk.elim .inl (fun h=>.inr (.inl h)))).trans (HT2.out.wide fun k hk=>.inr (.inr (.inl hk)))).trans (ht3.wide fun k hk=>.inr (.inr (.inr hk)))
  ·rw [HM1.out]; exact hq3
  ·rw [HM1.out,HM2.out]; exact hl3
 clear hms fe3 fb3 hq3 hl3 ht3 hty3 x3
 go_wp2
 go_ret
 exact ⟨by rw [HM1.out,HM2.out]; rfl,HFN.out.1,HFN.out.2⟩
theorem held_core (es:List Ex) (bs:List Bi) (qs:List qu.E) (ts:List su.E) (B ge gb gq gt ec bc qc tc:Nat) (w:World) (S:Sm es bs qs ts) (h:Cm w B es bs qs ts ge gb gq gt) :
  Calls Tryz.prog 10 #[.agg #[.slice (some ⟨ge,0,none⟩) es.length ec,.slice (some ⟨gb,0,none⟩) bs.length bc,.slice (some ⟨gq,0,none⟩) qs.length qc,.slice (some ⟨gt,0,none⟩) ts.length tc],.int .i64 1] w fun e w'=>e=.returned (.int .i64 (1+2*es.length+bs.length*3+qu.tot qs+su.tot ts:Nat))/\Below w.heap.size w w':=by
 have hb:=fl.bl w (.cells #[.slice (some ⟨ge,0,none⟩) es.length ec,.slice (some ⟨gb,0,none⟩) bs.length bc,.slice (some ⟨gq,0,none⟩) qs.length qc,.slice (some ⟨gt,0,none⟩) ts.length tc] 38)
 have hA:=bnew w #[.slice (some ⟨ge,0,none⟩) es.length ec,.slice (some ⟨gb,0,none⟩) bs.length bc,.slice (some ⟨gq,0,none⟩) qs.length qc,.slice (some ⟨gt,0,none⟩) ts.length tc] 38
 obtain ⟨W,hW⟩:∃ W,w.alloc (.cells #[.slice (some ⟨ge,0,none⟩) es.length ec,.slice (some ⟨gb,0,none⟩) bs.length bc,.slice (some ⟨gq,0,none⟩) qs.length qc,.slice (some ⟨gt,0,none⟩) ts.length tc] 38)=W:=⟨_,rfl⟩
 rw [hW] at hb hA
 have hC:=h.on hb
 have hmr:=ro2.held_routes es.length bs.length ge gb ec bc W S.el S.bl hC.he hC.hb
 have x0:W.cell? ⟨w.heap.size,0,none⟩=some (.slice (some ⟨ge,0,none⟩) es.length ec):=bcell hA rfl
 have x1:W.cell? ⟨w.heap.size,1,none⟩=some (.slice (some ⟨gb,0,none⟩) bs.length bc):=bcell hA rfl
 have HA:Hid (W.heap[w.heap.size]?=some (.cells #[.slice (some ⟨ge,0,none⟩) es.length ec,.slice (some ⟨gb,0,none⟩) bs.length bc,.slice (some ⟨gq,0,none⟩) qs.length qc,.slice (some ⟨gt,0,none⟩) ts.length tc] 38 (0,0))):=hA
 have la:=(Array.getElem?_eq_some_iff.1 hA).1
 have HC:Hid (Cm W B es bs qs ts ge gb gq gt):=hC
 have HS:Hid (Sm es bs qs ts):=S
 have hel:=S.el
 have hbl:=S.bl
 clear h S hA hC
 go_enter Tryz.func10,Tryz.ntmps10
 go_wp2_with (go_at_call 34; fail)
 clear hW x0 x1
 refine hmr.mono ?_
 rintro e w1 ⟨rfl,hb1⟩
 have x2:w1.cell? ⟨w.heap.size,2,none⟩=some (.slice (some ⟨gq,0,none⟩) qs.length qc):=bcell (bstay HA.out hb1 la) rfl
 have hC1:=HC.out.on hb1
 have hq1:=hC1.hq
 obtain ⟨m1,hm1⟩:∃ m1,1+2*es.length+bs.length*3=m1:=⟨_,rfl⟩
 have hm19:1 <= m1/\m1 <= 10000000:=by omega
 rw [hm1] at hq1 ⊢
 have hn1:¬ (m1:Int) < 0:=by omega
 have HM1:Hid (1+2*es.length+bs.length*3=m1):=hm1
 have hmq:=qu.held_list qs gq qc m1 w1 HS.out.qe (by have:=HS.out.qt; omega) HS.out.ql (by omega) hq1
 obtain ⟨m2,hm2⟩:∃ m2,m1+qu.tot qs=m2:=⟨_,rfl⟩
 rw [hm2] at hmq
 have HM2:Hid (m1+qu.tot qs=m2):=hm2
 have hm29:1 <= m2/\m2 <= 60000000000:=by have:=HS.out.qt; omega
 clear hmr hC1 hq1 hm1 hm2
 go_wp2_with (go_at_call 35; fail)
 refine hmq.mono ?_
 rintro e w2 ⟨rfl,hb2⟩
 have hb12:=fl.bt hb1 hb2
 have x3:w2.cell? ⟨w.heap.size,3,none⟩=some (.slice (some ⟨gt,0,none⟩) ts.length tc):=bcell (bstay HA.out hb12 la) rfl
 have hs2:=(HC.out.on hb12).ht
 rw [HM1.out,HM2.out] at hs2
 have hms:=su.held_list ts gt tc m2 w2 HS.out.te (by have:=HS.out.tt; omega) HS.out.tl (by omega) hs2
 have hn2:¬ (m2:Int) < 0:=by omega
 obtain ⟨m3,hm3⟩:∃ m3,m2+su.tot ts=m3:=⟨_,rfl⟩
 rw [hm3] at hms
 have HM3:Hid (m2+su.tot ts=m3):=hm3
 have hn3:¬ (m3:Int) < 0:=by omega
 clear hmq hs2 x2 hm3
 go_wp2_with (go_at_call 36; fail)
 refine hms.mono ?_
 rintro e w3 ⟨rfl,hb3⟩
 have hfin:Below w.heap.size w w3:=hb.trans ((hb12.trans (hb3.mono hb12.size)).mono hb.size)
 clear hms x3
 go_wp2
 go_ret
 exact ⟨by rw [HM1.out,HM2.out,HM3.out]; rfl,hfin⟩
end Go.Proofs.YtaoefccgdfcchaaGreat.co
namespace Go.Proofs.YtaoefccgdfcchaaGreat.qu
open ChangeShapes WideShapes ChangeAt RowKit rc ro fl
def R (w:World) (g:Nat) (l:List E):Prop:=g < w.heap.size/\∀ (i:Nat) (e:E),l[i]?=some e->w.cell? ⟨g,i*4,none⟩=some (.string e.nm)/\w.cell? ⟨g,i*4+1,none⟩=some (.int .i64 e.nx)/\w.cell? ⟨g,i*4+2,none⟩=some (.slice e.ra e.rs.length e.rc)/\w.cell? ⟨g,i*4+3,none⟩=some (.slice e.ha e.hs.length e.hc)
theorem R.below {w w':World} {g:Nat} {l:List E} (h:R w g l) (hb:Below w.heap.size w w'):R w' g l :=
 ⟨Nat.lt_of_lt_of_le h.1 hb.size,fun i e he=>by
  obtain ⟨a0,a1,a2,a3⟩:=h.2 i e he
  exact ⟨(hb.cell (p:=⟨g,i*4,none⟩) h.1).trans a0,(hb.cell (p:=⟨g,i*4+1,none⟩) h.1).trans a1,(hb.cell (p:=⟨g,i*4+2,none⟩) h.1).trans a2,(hb.cell (p:=⟨g,i*4+3,none⟩) h.1).trans a3⟩⟩
theorem r_of {w:World} {g:Nat} {l:List E} (h:Row c 4 w w.heap.size (some ⟨g,0,none⟩) l) (hg:g < w.heap.size):R w g l :=
 ⟨hg,fun i e he=>by
  rcases h with h | ⟨b,o,hh,hlt,hc⟩
  ·rw [h] at he; simp at he
  ·cases hh
   have hj:=hc i e he
   exact ⟨by have:=hj 0 _ rfl; simpa using this,by have:=hj 1 _ rfl; simpa using this,by have:=hj 2 _ rfl; simpa using this,by have:=hj 3 _ rfl; simpa using this⟩⟩
def Up (l:List E) (n:Nat):Prop:=∀ i a b,i+1 < n->l[i]?=some a->l[i+1]?=some b->cmpT a.nm b.nm < 0
def Mon (l:List E) (name:ByteArray):Prop:=∀ (i j:Nat) a b,i <= j->l[i]?=some a->l[j]?=some b->cmpT b.nm name < 0->cmpT a.nm name < 0
def Pos (l:List E) (name:ByteArray) (p:Nat):Prop:=p <= l.length/\(∀ (i:Nat) a,i < p->l[i]?=some a->cmpT a.nm name < 0)/\∀ (i:Nat) a,p <= i->l[i]?=some a->0 <= cmpT a.nm name
theorem up_lt {l:List E} (h:Up l l.length):∀ (d i:Nat) (a b:E),l[i]?=some a->l[i+d+1]?=some b->lt a.nm b.nm=true
 | 0,i,a,b,ha,hb=>cmp_neg.1 (h i a b (List.getElem?_eq_some_iff.1 hb).1 ha hb)
 | d+1,i,a,b,ha,hb=>by
  have hlt:=(List.getElem?_eq_some_iff.1 hb).1
  have hm:l[i+d+1]?=some l[i+d+1]:=List.getElem?_eq_getElem (by omega)
  exact lt_trans (up_lt h d i a _ ha hm) (cmp_neg.1 (h (i+d+1) _ b (by omega) hm (by rw [<- hb]; congr 1)))
theorem up_mon {l:List E} (h:Up l l.length) (name:ByteArray):Mon l name:=by
 intro i j a b hij ha hb hn
 by_cases e:i=j
 ·subst e
  rw [ha] at hb
  cases hb
  exact hn
 ·obtain ⟨d,rfl⟩:∃ d,j=i+d+1:=⟨j - i - 1,by omega⟩
  exact cmp_neg.2 (lt_trans (up_lt h d i a b ha hb) (cmp_neg.1 hn))
theorem found {l:List E} (h:Up l l.length) {name:ByteArray} {p:Nat} (hp:Pos l name p):(∃ a,l[p]?=some a/\cmpT a.nm name=0) ↔ ∃ (t:Nat) (a:E),l[t]?=some a/\a.nm=name:=by
 constructor
 ·rintro ⟨a,ha,hz⟩
  exact ⟨p,a,ha,cmp_zero.1 hz⟩
 ·rintro ⟨t,a,ha,rfl⟩
  have hz:=cmp_zero.2 (rfl:a.nm=a.nm)
  have htp:p <= t:=by
   by_cases e:t < p
   ·have:=hp.2.1 t a e ha; omega
   ·omega
  by_cases e:t=p
  ·subst e; exact ⟨a,ha,hz⟩
  ·obtain ⟨d,rfl⟩:∃ d,t=p+d+1:=⟨t - p - 1,by omega⟩
   have hlt:=(List.getElem?_eq_some_iff.1 ha).1
   have hm:l[p]?=some l[p]:=List.getElem?_eq_getElem (by omega)
   have h1:=hp.2.2 p _ (Nat.le_refl _) hm
   have h2:=cmp_neg.2 (up_lt h d p _ a hm ha)
   omega
theorem compare_one (anm:ByteArray) (anx:Int) (ara:Option Addr) (arc:Nat) (ars:List flM.Ms) (aha:Option Addr) (ahc:Nat) (ahs:List flH.Hd) (bnm:ByteArray) (bnx:Int) (bra:Option Addr) (brc:Nat) (brs:List flM.Ms) (bha:Option Addr) (bhc:Nat) (bhs:List flH.Hd) (w:World):Calls Tryz.prog 56 #[.agg #[.string anm,.int .i64 anx,.slice ara ars.length arc,.slice aha ahs.length ahc],.agg #[.string bnm,.int .i64 bnx,.slice bra brs.length brc,.slice bha bhs.length bhc]] w fun e w'=>e=.returned (.int .i64 (cmpT anm bnm))/\Below w.heap.size w w':=by
 have hc:=fun W=>cmpS anm bnm W
 go_enter Tryz.func56,Tryz.ntmps56
 go_wp2_with (go_at_call 115; refine (hc _).mono ?_; rintro e w0 ⟨rfl,hw0⟩; rw [hw0]; clear hw0 w0)
 go_ret
 exact ⟨rfl,((Below.refl _ _).alloc (Nat.le_refl _) _).alloc (by simp) _⟩
theorem asc_all (l:List E) (g cp:Nat) (w:World) (hl:l.length <= 1048576) (hE:R w g l) :
  Calls Tryz.prog 55 #[.slice (some ⟨g,0,none⟩) l.length cp,.func (.func 56) #[] #[]] w fun r w'=>(∃ b:Bool,r=.returned (.bool b)/\(b=true ↔ Up l l.length))/\Below w.heap.size w w':=by
 have HE:Hid (R w g l):=hE
 clear hE
 go_enter Tryz.func55,Tryz.ntmps55
 go_wp2
 go_loopw [5] (fun v wr=>∃ k:Nat,1 <= k/\(k <= l.length ∨ k=1)/\v=.int .i64 k/\Hid (Up l k)/\Below w.heap.size w wr) (fun v _=>l.length - (intOf v).toNat)
 case atStart=>exact ⟨1,Nat.le_refl _,.inr rfl,rfl,fun i a b h=>by omega,Below.refl _ _⟩
 case round =>
  obtain ⟨k,hk1,hk2,rfl,hup,hbel⟩:=hrel
  have hbs:=hbel.size
  by_cases hkl:k < l.length
  ·obtain ⟨m,rfl⟩:∃ m,k=m+1:=⟨k - 1,by omega⟩
   have g0:l[m]?=some l[m]:=List.getElem?_eq_getElem (by omega)
   have g1:l[m+1]?=some l[m+1]:=List.getElem?_eq_getElem hkl
   have hE2:=HE.out.below hbel
   obtain ⟨a0,a1,a2,a3⟩:=hE2.2 m _ g0
   obtain ⟨b0,b1,b2,b3⟩:=hE2.2 (m+1) _ g1
   have hgl:=hE2.1
   have HG0:Hid (l[m]?=some l[m]):=g0
   have HG1:Hid (l[m+1]?=some l[m+1]):=g1
   obtain ⟨⟨anm,anx,ara,arc,ars,aha,ahc,ahs⟩,ha⟩:∃ e,l[m]=e:=⟨_,rfl⟩
   obtain ⟨⟨bnm,bnx,bra,brc,brs,bha,bhc,bhs⟩,hb⟩:∃ e,l[m+1]=e:=⟨_,rfl⟩
   rw [ha] at a0 a1 a2 a3 HG0
   rw [hb] at b0 b1 b2 b3 HG1
   have hcmp:=compare_one anm anx ara arc ars aha ahc ahs bnm bnx bra brc brs bha bhc bhs wr.drew
   obtain ⟨z,hz⟩:∃ z,cmpT anm bnm=z:=⟨_,rfl⟩
   rw [hz] at hcmp
   have HZ:Hid (cmpT anm bnm=z):=hz
   clear g0 g1 ha hb hE2 hz
   have i1:IntKind.i64.wrap (m:Int)=(m:Int):=by rw [IntKind.wrap_i64]; omega
   have i2:(m:Int) < (l.length:Int):=by omega
   have i3:(m:Int)+1 < (l.length:Int):=by omega
   have i4:((m:Int)+1).toNat=m+1:=by omega
   by_cases hneg:z < 0
   ·have hup2:Hid (Up l (m+1+1)):=fun j a b hj ha hb=>by
     by_cases e:j=m
     ·subst e
      rw [HG0.out] at ha
      rw [HG1.out] at hb
      cases ha
      cases hb
      show cmpT anm bnm < 0
      rw [HZ.out]
      exact hneg
     ·exact hup.out j a b (by omega) ha hb
    go_wp2
    go_region_with (go_at_call 56; refine hcmp.mono ?_; rintro e w1 ⟨rfl,hb1⟩)
    all_goals go_wp2
    all_goals go_roundw
    all_goals first | exact ⟨m+1+1,by omega,.inl (by omega),by go_num,hup2,hbel.drew.trans (hb1.mono hbs)⟩ | (simp [intOf]; omega)
   ·have hno:¬ Up l l.length:=fun h=>by
     have:=h m _ _ (by omega) HG0.out HG1.out
     have h2:cmpT anm bnm < 0:=this
     rw [HZ.out] at h2
     exact hneg h2
    have HNO:Hid (¬ Up l l.length):=hno
    have hge:(0:Int) <= z:=by omega
    clear hno
    go_wp2
    go_region_with (go_at_call 56; refine hcmp.mono ?_; rintro e w1 ⟨rfl,hb1⟩)
    all_goals go_wp2
    all_goals go_ret
    all_goals exact ⟨⟨false,rfl,by simp; exact HNO.out⟩,hbel.drew.trans (hb1.mono hbs)⟩
  ·have hall:Hid (Up l l.length):=fun j a b hj ha hb=>hup.out j a b (by omega) ha hb
   go_wp2
   go_ret
   exact ⟨⟨true,rfl,by simp; exact hall.out⟩,hbel⟩
theorem search_all (l:List E) (g cp:Nat) (name:ByteArray) (w:World) (hl:l.length <= 1048576) (hE:R w g l) (hM:Mon l name) :
  Calls Tryz.prog 61 #[.slice (some ⟨g,0,none⟩) l.length cp,.agg #[.string name,.int .i64 0,.slice none 0 0,.slice none 0 0],.func (.func 56) #[] #[]] w fun r w'=>(∃ (p:Nat) (b:Bool),r=.returned (.tuple #[.int .i64 p,.bool b])/\Pos l name p/\(b=true ↔ ∃ a,l[p]?=some a/\cmpT a.nm name=0))/\Below w.heap.size w w':=by
 have hb:=fl.bl w (.cells #[.string name,.int .i64 0,.slice none 0 0,.slice none 0 0] 58)
 have HE:Hid (R w g l):=hE
 have HM:Hid (Mon l name):=hM
 have tb:=heap_alloc_new w (.cells #[.string name,.int .i64 0,.slice none 0 0,.slice none 0 0] 58)
 have hlt:w.heap.size < (w.alloc (.cells #[.string name,.int .i64 0,.slice none 0 0,.slice none 0 0] 58)).heap.size:=by simp
 obtain ⟨W,hW⟩:∃ W,w.alloc (.cells #[.string name,.int .i64 0,.slice none 0 0,.slice none 0 0] 58)=W:=⟨_,rfl⟩
 rw [hW] at hb tb hlt
 have HTB:Hid (W.heap[w.heap.size]?=some (.cells #[.string name,.int .i64 0,.slice none 0 0,.slice none 0 0] 58 (0,0))):=tb
 have HEW:Hid (R W g l):=HE.out.below hb
 clear hE hM tb
 go_enter Tryz.func61,Tryz.ntmps61
 go_wp2
 clear hW
 go_loopw [9,10,11] (fun v x _ wr=>∃ (i j:Nat),i <= j/\j <= l.length/\v=.int .i64 i/\x=.int .i64 j/\Hid ((∀ (t:Nat) a,t < i->l[t]?=some a->cmpT a.nm name < 0)/\∀ (t:Nat) a,j <= t->l[t]?=some a->0 <= cmpT a.nm name)/\Below W.heap.size W wr) (fun v x _ _=>(intOf x).toNat - (intOf v).toNat)
 case atStart=>exact ⟨0,l.length,Nat.zero_le _,Nat.le_refl _,rfl,rfl,⟨fun t a h=>by omega,fun t a h ha=>by have:=(List.getElem?_eq_some_iff.1 ha).1; omega⟩,Below.refl _ _⟩
 case round =>
  obtain ⟨i,j,hij,hjl,rfl,rfl,hinv,hbel⟩:=hrel
  have hbs:=hbel.size
  by_cases hlt2:i < j
  ·obtain ⟨h,hh,hh1,hh2⟩:∃ h:Nat,((i:Int)+(j:Int)) / 2=(h:Int)/\i <= h/\h < j:=⟨(i+j) / 2,by omega,by omega,by omega⟩
   have g0:l[h]?=some l[h]:=List.getElem?_eq_getElem (by omega)
   obtain ⟨a0,a1,a2,a3⟩:=(HEW.out.below hbel).2 h _ g0
   have t0:wr.cell? ⟨w.heap.size,0,none⟩=some (.string name):=by
    have:=(hbel.block w.heap.size hlt).trans HTB.out
    simp [World.cell?,this]
   have t1:wr.cell? ⟨w.heap.size,1,none⟩=some (.int .i64 0):=by
    have:=(hbel.block w.heap.size hlt).trans HTB.out
    simp [World.cell?,this]
   have t2:wr.cell? ⟨w.heap.size,2,none⟩=some (.slice none 0 0):=by
    have:=(hbel.block w.heap.size hlt).trans HTB.out
    simp [World.cell?,this]
   have t3:wr.cell? ⟨w.heap.size,3,none⟩=some (.slice none 0 0):=by
    have:=(hbel.block w.heap.size hlt).trans HTB.out
    simp [World.cell?,this]
   have HG0:Hid (l[h]?=some l[h]):=g0
   obtain ⟨⟨anm,anx,ara,arc,ars,aha,ahc,ahs⟩,ha⟩:∃ e,l[h]=e:=⟨_,rfl⟩
   rw [ha] at a0 a1 a2 a3 HG0
   have hcmp:=compare_one anm anx ara arc ars aha ahc ahs name 0 none 0 [] none 0 [] wr.drew
   obtain ⟨z,hz⟩:∃ z,cmpT anm name=z:=⟨_,rfl⟩
   rw [hz] at hcmp
   have HZ:Hid (cmpT anm name=z):=hz
   have i2:(h:Int) < (l.length:Int):=by omega
   clear g0 ha hz
   by_cases hneg:z < 0
   ·have hinv2:Hid ((∀ (t:Nat) a,t < h+1->l[t]?=some a->cmpT a.nm name < 0)/\∀ (t:Nat) a,j <= t->l[t]?=some a->0 <= cmpT a.nm name):=⟨fun t a ht hta=>HM.out t h a _ (by omega) hta HG0.out (by show cmpT anm name < 0; rw [HZ.out]; exact hneg),hinv.out.2⟩
    go_wp2
    go_region_with (go_at_call 56; refine hcmp.mono ?_; rintro e w1 ⟨rfl,hb1⟩)
    all_goals go_wp2
    all_goals go_roundw
    all_goals first | exact ⟨h+1,j,by omega,hjl,by go_num,rfl,hinv2,hbel.drew.trans (hb1.mono hbs)⟩ | (simp [intOf]; omega)
   ·have hinv2:Hid ((∀ (t:Nat) a,t < i->l[t]?=some a->cmpT a.nm name < 0)/\∀ (t:Nat) a,h <= t->l[t]?=some a->0 <= cmpT a.nm name):=⟨hinv.out.1,fun t a ht hta=>by
     by_cases hn:cmpT a.nm name < 0
     ·have h3:=HM.out h t _ a ht HG0.out hta hn
      have h4:cmpT anm name < 0:=h3
      rw [HZ.out] at h4
      exact absurd h4 hneg
     ·omega⟩
    have hge:(0:Int) <= z:=by omega
    go_wp2
    go_region_with (go_at_call 56; refine hcmp.mono ?_; rintro e w1 ⟨rfl,hb1⟩)
    all_goals go_wp2
    all_goals go_roundw
    all_goals first | exact ⟨i,h,by omega,by omega,rfl,rfl,hinv2,hbel.drew.trans (hb1.mono hbs)⟩ | (simp [intOf]; omega)
  ·obtain rfl:i=j:=by omega
   have hpos:Hid (Pos l name i):=⟨hjl,hinv.out.1,hinv.out.2⟩
   by_cases hil:i < l.length
   ·have g0:l[i]?=some l[i]:=List.getElem?_eq_getElem hil
    obtain ⟨a0,a1,a2,a3⟩:=(HEW.out.below hbel).2 i _ g0
    have t0:wr.cell? ⟨w.heap.size,0,none⟩=some (.string name):=by
     have:=(hbel.block w.heap.size hlt).trans HTB.out
     simp [World.cell?,this]
    have t1:wr.cell? ⟨w.heap.size,1,none⟩=some (.int .i64 0):=by
     have:=(hbel.block w.heap.size hlt).trans HTB.out
     simp [World.cell?,this]
    have t2:wr.cell? ⟨w.heap.size,2,none⟩=some (.slice none 0 0):=by
     have:=(hbel.block w.heap.size hlt).trans HTB.out
     simp [World.cell?,this]
    have t3:wr.cell? ⟨w.heap.size,3,none⟩=some (.slice none 0 0):=by
     have:=(hbel.block w.heap.size hlt).trans HTB.out
     simp [World.cell?,this]
    have HG0:Hid (l[i]?=some l[i]):=g0
    obtain ⟨⟨anm,anx,ara,arc,ars,aha,ahc,ahs⟩,ha⟩:∃ e,l[i]=e:=⟨_,rfl⟩
    rw [ha] at a0 a1 a2 a3 HG0
    have hcmp:=compare_one anm anx ara arc ars aha ahc ahs name 0 none 0 [] none 0 [] wr.drew
    obtain ⟨z,hz⟩:∃ z,cmpT anm name=z:=⟨_,rfl⟩
    rw [hz] at hcmp
    have HZ:Hid (cmpT anm name=z):=hz
    have i2:(i:Int) < (l.length:Int):=by omega
    have hd:decide ((i:Int) < (l.length:Int))=true:=by simp; omega
    have kc:∀ N:qi.Cls wr,Calls Tryz.prog 56 #[.agg #[.string anm,.int .i64 anx,.slice ara ars.length arc,.slice aha ahs.length ahc],.agg #[.string name,.int .i64 0,.slice none 0 0,.slice none 0 0]] N.x fun e w'=>e=.returned (.int .i64 z)/\qi.T wr w':=fun N=>by
     have h:=compare_one anm anx ara arc ars aha ahc ahs name 0 none 0 [] none 0 [] N.x
     rw [HZ.out] at h
     exact h.mono fun e w' ⟨h1,h2⟩=>⟨h1,N.h.next h2⟩
    have hgl:=(HEW.out.below hbel).1
    have htl:w.heap.size < wr.heap.size:=Nat.lt_of_lt_of_le hlt hbs
    have A0:=fun N:qi.Cls wr=>(Below.cell N.h (p:=⟨g,i*4,none⟩) hgl).trans a0
    have A1:=fun N:qi.Cls wr=>(Below.cell N.h (p:=⟨g,i*4+1,none⟩) hgl).trans a1
    have A2:=fun N:qi.Cls wr=>(Below.cell N.h (p:=⟨g,i*4+2,none⟩) hgl).trans a2
    have A3:=fun N:qi.Cls wr=>(Below.cell N.h (p:=⟨g,i*4+3,none⟩) hgl).trans a3
    have T0:=fun N:qi.Cls wr=>(Below.cell N.h (p:=⟨w.heap.size,0,none⟩) htl).trans t0
    have T1:=fun N:qi.Cls wr=>(Below.cell N.h (p:=⟨w.heap.size,1,none⟩) htl).trans t1
    have T2:=fun N:qi.Cls wr=>(Below.cell N.h (p:=⟨w.heap.size,2,none⟩) htl).trans t2
    have T3:=fun N:qi.Cls wr=>(Below.cell N.h (p:=⟨w.heap.size,3,none⟩) htl).trans t3
    clear g0 ha hz hcmp a0 a1 a2 a3 t0 t1 t2 t3
    go_wp2
    refine qi.region_in wr (qi.T.refl wr) (by kernel_rfl) (by kernel_rfl) ?_
    repeat (go_big_quiet_step (first | (go_at_call 56; refine (kc _).mono ?_; rintro e wx ⟨rfl,hTx⟩; exact ⟨rfl,⟨wx,hTx⟩,rfl⟩)))
    refine wpQuiet_nil ?_
    rintro _ ⟨N,rfl⟩
    have hN:=N.h
    generalize N.x=wN at hN ⊢
    clear N kc A0 A1 A2 A3 T0 T1 T2 T3
    go_wp2
    go_ret2
    exact ⟨⟨i,z == 0,rfl,hpos.out,by simp; rw [<- HZ.out]; exact ⟨fun h=>⟨_,HG0.out,h⟩,fun ⟨a,ha,h⟩=>by rw [HG0.out] at ha; cases ha; exact h⟩⟩,hb.trans ((hbel.trans (Below.mono hN hbs)).mono (by omega))⟩
   ·have hd:decide ((i:Int) < (l.length:Int))=false:=by simp; omega
    have hd2:¬ (i:Int) < (l.length:Int):=by omega
    go_wp2
    refine qi.region_in wr (qi.T.refl wr) (by kernel_rfl) (by kernel_rfl) ?_
    repeat (go_big_quiet_step (first | (go_at_call 56; fail)))
    refine wpQuiet_nil ?_
    rintro _ ⟨N,rfl⟩
    have hN:=N.h
    generalize N.x=wN at hN ⊢
    clear N
    go_wp2
    go_ret2
    exact ⟨⟨i,false,rfl,hpos.out,by simp; intro a ha; have:=(List.getElem?_eq_some_iff.1 ha).1; omega⟩,hb.trans ((hbel.trans (Below.mono hN hbs)).mono (by omega))⟩
theorem find_all (l:List E) (g cp:Nat) (name:ByteArray) (w:World) (hl:l.length <= 1048576) (hE:R w g l) (hU:Up l l.length) :
  Calls Tryz.prog 23 #[.slice (some ⟨g,0,none⟩) l.length cp,.string name] w fun r w'=>(∃ (p:Nat) (b:Bool),r=.returned (.tuple #[.int .i64 p,.bool b])/\Pos l name p/\(b=true ↔ ∃ (t:Nat) (a:E),l[t]?=some a/\a.nm=name))/\Below w.heap.size w w':=by
 have hs:=search_all l g cp name w hl hE (up_mon hU name)
 have HU:Hid (Up l l.length):=hU
 clear hE hU
 go_enter Tryz.func23,Tryz.ntmps23
 go_wp2_with (go_at_call 61; refine hs.mono ?_; rintro e w1 ⟨⟨p,b,rfl,hp,hb⟩,hb1⟩)
 go_ret2
 exact ⟨⟨p,b,rfl,hp,hb.trans (found HU.out hp)⟩,hb1⟩
end Go.Proofs.YtaoefccgdfcchaaGreat.qu
