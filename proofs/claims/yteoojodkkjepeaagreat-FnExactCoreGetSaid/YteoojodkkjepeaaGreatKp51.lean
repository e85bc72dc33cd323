/- GetWalks, CoreGetLaw. -/
import Derived.Test.YteoojodkkjepeaaGreatKp45
import Derived.Test.YteoojodkkjepeaaGreatKp50
import Derived.Test.YteoojodkkjepeaaGreatKp38
set_option maxRecDepth 100000
set_option maxHeartbeats 8000000
set_option linter.unusedVariables false
namespace Go.Proofs.YteoojodkkjepeaaGreat.gwk
open ChangeShapes WideShapes ChangeAt RowKit rr ra rt fl co eb cn cb nkw
section
variable {es:List Ex} {bs:List Bi} {qs:List qu.E} {ts:List su.E} {xn:ByteArray} {xo xt:Int} {i:Nat} {s:qu.E}
theorem at_none (h:cge.sel es bs qs ts xn=none):cge.getQ es bs qs ts xn xo xt=qs/\cge.getM es bs qs ts xn xo xt=(⟨0,⟨#[]⟩,⟨#[]⟩,⟨#[]⟩,false⟩:flM.Ms)/\cge.getB es bs qs ts xn xo xt=false:=by
 unfold cge.getQ cge.getM cge.getB
 rw [h]
 exact⟨rfl,rfl,rfl⟩
theorem at_some (h:cge.sel es bs qs ts xn=some (i,s)):cge.getQ es bs qs ts xn xo xt=qs.set i (cge.popE xo xt s)/\cge.getM es bs qs ts xn xo xt=qpp.ansM s.nm s.nx s.rs s.hs xo xt/\cge.getB es bs qs ts xn xo xt=qpp.good s.nm s.nx s.rs s.hs xo xt:=by
 unfold cge.getQ cge.getM cge.getB
 rw [h]
 exact⟨rfl,rfl,rfl⟩
theorem pop_same {r:qu.E}(h:qu.same r s):cge.popE xo xt r=cge.popE xo xt s:=by
 obtain⟨e1,e2,e3,e4⟩:=h
 unfold cge.popE
 rw [e1,e2,e3,e4]
theorem one {l:List qu.E}(hU:qu.Up l l.length){j:Nat}{a b:qu.E}(ha:l[i]?=some a)(hb:l[j]?=some b)(he:a.nm=b.nm)(hlt:i<j):False:=by
 obtain⟨d,rfl⟩:∃ d,j=i+d+1:=⟨j - i - 1,by omega⟩
 have h1:=Go.Proofs.YteoojodkkjepeaaGreat.ro.cmp_neg.2 (qu.up_lt hU d i a b ha hb)
 have h2:=Go.Proofs.YteoojodkkjepeaaGreat.ro.cmp_zero.2 he
 omega
end
theorem spec_get {es:List Ex}{bs:List Bi}{qs ks:List qu.E}{ts us:List su.E}{w:World}{B ge gb gq gt:Nat}(ec bc qc tc:Nat)(xn:ByteArray)(xo xt:Int)(F:cb.Fit es bs qs ts)(sxn:xn.size <= 1048576)(h:Cg w B es bs qs ts ge gb gq gt ks us) :
  Calls Tryz.prog 19 #[.agg #[.slice (some ⟨ge,0,none⟩) es.length ec,.slice (some ⟨gb,0,none⟩) bs.length bc,.slice (some ⟨gq,0,none⟩) qs.length qc,.slice (some ⟨gt,0,none⟩) ts.length tc],.string xn,.int .i64 xo,.int .i64 xt] w fun e w'=>∃ sea sba sqa sta sec sbc sqc stc ls vs,e=.returned (.tuple #[.agg #[.slice sea es.length sec,.slice sba bs.length sbc,.slice sqa (cge.getQ es bs qs ts xn xo xt).length sqc,.slice sta ts.length stc],.agg #[.int .i64 (cge.getM es bs qs ts xn xo xt).q,.string (cge.getM es bs qs ts xn xo xt).x,.string (cge.getM es bs qs ts xn xo xt).k,.string (cge.getM es bs qs ts xn xo xt).b,.bool (cge.getM es bs qs ts xn xo xt).a],.bool (cge.getB es bs qs ts xn xo xt)])/\Hid (SA w w' es bs (cge.getQ es bs qs ts xn xo xt) ts sea sba sqa sta ls vs):=by
 have sm:=same_of h
 have F2:=fit_same F sm
 obtain⟨p1,p2,p3,p4,p5,p6⟩:=parts h
 have hok:=ok_spec ec bc qc tc F h
 cases hsel:cge.sel es bs qs ts xn with
 | none =>
  obtain⟨e1,e2,e3⟩:=at_none (xo:=xo) (xt:=xt) hsel
  rw [e1,e2,e3]
  have k:=gsp.spec_get es bs ks us ge gb gq gt ec bc qc tc xn xo xt (okC es bs qs ts) ks (⟨0,⟨#[]⟩,⟨#[]⟩,⟨#[]⟩,false⟩:flM.Ms) false w F2 p1 p2 p3 p4 p5 p6 hok (fun _=>⟨rfl,rfl,rfl⟩) (fun hc j f hf hn=>by
   have hp:qu.place ks xn=-1:=qu.place_none (fun j f hf=>by
    obtain⟨x,hx,k1,_⟩:=sm.flip.q_at hf
    rw [<- k1]
    rcases cge.sel_none hsel with h0 | h0
    ·rw [hc] at h0;cases h0
    ·exact h0 j x hx)
   omega)
  rw [sm.ql,sm.tl] at k
  refine k.mono ?_
  rintro e w' ⟨sea,sba,sqa,sta,sec,sbc,sqc,stc,ls,vs,rfl,HSA⟩
  exact⟨sea,sba,sqa,sta,sec,sbc,sqc,stc,ls,vs,by rw [sm.ql,sm.tl],sa_turn HSA.out sm⟩
 | some y =>
  obtain⟨i,s⟩:=y
  obtain⟨e1,e2,e3⟩:=at_some (xo:=xo) (xt:=xt) hsel
  obtain⟨hc,hi,hnm,hfst⟩:=cge.sel_some hsel
  obtain⟨r,hr,hsame⟩:=sm.q_at hi
  have hpl:qu.place ks xn=i:=qu.place_at (fun j f hj hf=>by
   obtain⟨x,hx,k1,_⟩:=sm.flip.q_at hf
   rw [<- k1]
   exact hfst j x hj hx) hr (by rw [hsame.1];exact hnm)
  have k:=gsp.spec_get es bs ks us ge gb gq gt ec bc qc tc xn xo xt (okC es bs qs ts) (ks.set i (cge.popE xo xt s)) (qpp.ansM s.nm s.nx s.rs s.hs xo xt) (qpp.good s.nm s.nx s.rs s.hs xo xt) w F2 p1 p2 p3 p4 p5 p6 hok (fun hn=>by
   rcases hn with h0 | h0
   ·rw [hc] at h0;cases h0
   ·omega) (fun _ j f hf hn=>by
   have hij:j=i:=by omega
   subst hij
   rw [hr] at hf
   cases hf
   rw [pop_same hsame,hsame.1,hsame.2.1,hsame.2.2.1,hsame.2.2.2]
   exact⟨rfl,rfl,rfl⟩)
  rw [sm.ql,sm.tl] at k
  rw [e1,e2,e3,List.length_set]
  refine k.mono ?_
  rintro e w' ⟨sea,sba,sqa,sta,sec,sbc,sqc,stc,ls,vs,rfl,HSA⟩
  exact⟨sea,sba,sqa,sta,sec,sbc,sqc,stc,ls,vs,by rw [List.length_set,sm.ql,sm.tl],sa_turn HSA.out (cge.set_same sm hi ⟨rfl,rfl,rfl,rfl⟩)⟩
theorem impl_get {es:List Ex}{bs:List Bi}{qs ks:List qu.E}{ts us:List su.E}{w:World}{B ge gb gq gt:Nat}(ec bc qc tc:Nat)(xn:ByteArray)(xo xt:Int)(F:cb.Fit es bs qs ts)(sxn:xn.size <= 1048576)(h:Cg w B es bs qs ts ge gb gq gt ks us) :
  Calls Tryz.prog 20 #[.agg #[.slice (some ⟨ge,0,none⟩) es.length ec,.slice (some ⟨gb,0,none⟩) bs.length bc,.slice (some ⟨gq,0,none⟩) qs.length qc,.slice (some ⟨gt,0,none⟩) ts.length tc],.string xn,.int .i64 xo,.int .i64 xt] w fun e w'=>∃ ge5 gb5 gq5 gt5 ec5 bc5 qc5 tc5 ls vs,e=.returned (.tuple #[.agg #[.slice (some ⟨ge5,0,none⟩) es.length ec5,.slice (some ⟨gb5,0,none⟩) bs.length bc5,.slice (some ⟨gq5,0,none⟩) (cge.getQ es bs qs ts xn xo xt).length qc5,.slice (some ⟨gt5,0,none⟩) ts.length tc5],.agg #[.int .i64 (cge.getM es bs qs ts xn xo xt).q,.string (cge.getM es bs qs ts xn xo xt).x,.string (cge.getM es bs qs ts xn xo xt).k,.string (cge.getM es bs qs ts xn xo xt).b,.bool (cge.getM es bs qs ts xn xo xt).a],.bool (cge.getB es bs qs ts xn xo xt)])/\Hid (IA w w' es bs (cge.getQ es bs qs ts xn xo xt) ts ge5 gb5 gq5 gt5 ls vs):=by
 have sm:=same_of h
 have F2:=fit_same F sm
 obtain⟨p1,p2,p3,p4,p5,p6⟩:=parts h
 have hok:=ok_impl ec bc qc tc F h
 have hup:okC es bs qs ts=true->ks.length <= 20/\qu.Up ks ks.length:=fun hc=>⟨by rw [sm.ql];exact okl hc,gru.up_same sm (okC_true.1 hc).q.2⟩
 cases hsel:cge.sel es bs qs ts xn with
 | none =>
  obtain⟨e1,e2,e3⟩:=at_none (xo:=xo) (xt:=xt) hsel
  rw [e1,e2,e3]
  have k:=gru.impl_get es bs ks us ge gb gq gt ec bc qc tc xn xo xt (okC es bs qs ts) ks (⟨0,⟨#[]⟩,⟨#[]⟩,⟨#[]⟩,false⟩:flM.Ms) false w F2 p1 p2 p3 p4 p5 p6 hok hup (fun _=>⟨rfl,rfl,rfl⟩) (fun hc j f hf hn=>by
   rcases cge.sel_none hsel with h0 | h0
   ·rw [hc] at h0;cases h0
   ·obtain⟨x,hx,k1,_⟩:=sm.flip.q_at hf
    exact absurd (k1.trans hn) (h0 j x hx))
  rw [sm.ql,sm.tl] at k
  refine k.mono ?_
  rintro e w' ⟨g1,g2,g3,g4,ls,vs,rfl,HIA⟩
  exact⟨g1,g2,g3,g4,_,_,_,_,ls,vs,rfl,ia_turn HIA.out sm⟩
 | some y =>
  obtain⟨i,s⟩:=y
  obtain⟨e1,e2,e3⟩:=at_some (xo:=xo) (xt:=xt) hsel
  obtain⟨hc,hi,hnm,hfst⟩:=cge.sel_some hsel
  obtain⟨r,hr,hsame⟩:=sm.q_at hi
  have hrn:r.nm=xn:=by rw [hsame.1];exact hnm
  have k:=gru.impl_get es bs ks us ge gb gq gt ec bc qc tc xn xo xt (okC es bs qs ts) (ks.set i (cge.popE xo xt s)) (qpp.ansM s.nm s.nx s.rs s.hs xo xt) (qpp.good s.nm s.nx s.rs s.hs xo xt) w F2 p1 p2 p3 p4 p5 p6 hok hup (fun hn=>by
   rcases hn with h0 | h0
   ·rw [hc] at h0;cases h0
   ·exact absurd hrn (h0 i r hr)) (fun _ j f hf hn=>by
   have hij:j=i:=by
    rcases Nat.lt_trichotomy i j with h0 | h0 | h0
    ·exact(one (hup hc).2 hr hf (hrn.trans hn.symm) h0).elim
    ·exact h0.symm
    ·exact(one (hup hc).2 hf hr (hn.trans hrn.symm) h0).elim
   subst hij
   rw [hr] at hf
   cases hf
   rw [pop_same hsame,hsame.1,hsame.2.1,hsame.2.2.1,hsame.2.2.2]
   exact⟨rfl,rfl,rfl⟩)
  rw [sm.ql,sm.tl] at k
  rw [e1,e2,e3,List.length_set]
  refine k.mono ?_
  rintro e w' ⟨g1,g2,g3,g4,ls,vs,rfl,HIA⟩
  exact⟨g1,g2,g3,g4,_,_,_,_,ls,vs,rfl,ia_turn HIA.out (cge.set_same sm hi ⟨rfl,rfl,rfl,rfl⟩)⟩
end Go.Proofs.YteoojodkkjepeaaGreat.gwk
namespace Go.Proofs.YteoojodkkjepeaaGreat.lwCoreGet
open ChangeShapes WideShapes ChangeAt RowKit rc rr ra rt ro fl co cb cn
theorem box5 {W:World}{b:Nat}{x0 x1 x2 x3 x4:Value}{U:TypeId}(h:W.heap[b]?=some (.cells #[x0,x1,x2,x3,x4] U (0,0))):W.cell? ⟨b,0,none⟩=some x0/\W.cell? ⟨b,1,none⟩=some x1/\W.cell? ⟨b,2,none⟩=some x2/\W.cell? ⟨b,3,none⟩=some x3/\W.cell? ⟨b,4,none⟩=some x4:=⟨bcell h rfl,bcell h rfl,bcell h rfl,bcell h rfl,bcell h rfl⟩
theorem four {w:World}{b:Nat}{x0 x1 x2 x3:Value}{U:TypeId}(h:w.heap[b]?=some (.cells #[x0,x1,x2,x3] U (0,0))):w.cell? ⟨b,0,none⟩=some x0/\w.cell? ⟨b,1,none⟩=some x1/\w.cell? ⟨b,2,none⟩=some x2/\w.cell? ⟨b,3,none⟩=some x3:=⟨bcell h rfl,bcell h rfl,bcell h rfl,bcell h rfl⟩
structure Base (xm:Array Value)(W:World)(n0 n6:Nat)(es:List Ex)(bs:List Bi)(qs:List qu.E)(ts:List su.E)(ea ba qa ta:Option Addr)(ec bc qc tc:Nat)(Q:List qu.E)(U:List su.E)(sea sba sqa sta:Option Addr)(sec sbc sqc stc:Nat)(ls:List qu.E)(us:List su.E):Prop where
 bx:W.heap[n0]?=some (.cells #[.slice ea es.length ec,.slice ba bs.length bc,.slice qa qs.length qc,.slice ta ts.length tc] 29 (0,0))
 out:W.heap[n6]?=some (.cells #[.slice sea es.length sec,.slice sba bs.length sbc,.slice sqa Q.length sqc,.slice sta U.length stc] 39 (0,0))
 om:W.heap[n6+1]?=some (.cells xm 48 (0,0))
 ae:SE W W.heap.size ea es
 ab:SB W W.heap.size ba bs
 aq:qu.V W W.heap.size qa qs
 at_:su.V W W.heap.size ta ts
 se:SE W W.heap.size sea es
 sb:SB W W.heap.size sba bs
 sq:qu.V W W.heap.size sqa ls
 st:su.V W W.heap.size sta us
 same:cb.Same Q ls U us
theorem walk (es:List Ex)(bs:List Bi)(qs:List qu.E)(ts:List su.E)(ea ba qa ta:Option Addr)(ec bc qc tc:Nat)(xn:ByteArray)(xo xt:Int)(w:World)(hin:ca.In w es bs qs ts ea ba qa ta)(hxn:xn.size <= maxLen) :
  Calls Tryz.prog 5 #[.agg #[.slice ea es.length ec,.slice ba bs.length bc,.slice qa qs.length qc,.slice ta ts.length tc],.string xn,.int .i64 xo,.int .i64 xt] w fun e w'=>e=.returned (.bool true)/\Below w.heap.size w w':=by
 have hb:=fl.bl w (.cells #[.slice ea es.length ec,.slice ba bs.length bc,.slice qa qs.length qc,.slice ta ts.length tc] 29)
 have hA:=bnew w #[.slice ea es.length ec,.slice ba bs.length bc,.slice qa qs.length qc,.slice ta ts.length tc] 29
 have hlt:w.heap.size<(w.alloc (.cells #[.slice ea es.length ec,.slice ba bs.length bc,.slice qa qs.length qc,.slice ta ts.length tc] 29)).heap.size:=by simp
 obtain⟨W,hW⟩:∃ W,w.alloc (.cells #[.slice ea es.length ec,.slice ba bs.length bc,.slice qa qs.length qc,.slice ta ts.length tc] 29)=W:=⟨_,rfl⟩
 rw [hW] at hb hA hlt
 have HSE:Hid (SE W W.heap.size ea es/\SB W W.heap.size ba bs/\qu.V W W.heap.size qa qs/\su.V W W.heap.size ta ts):=⟨rl.SE.inn hin.se hb,rl.SB.inn hin.sb hb,hin.q.inn hb,hin.t.inn hb⟩
 have hsz:=sz_core es bs qs ts ea ba qa ta ec bc qc tc W hin.el hin.bl hin.ql hin.tl hin.eo hin.bo (fun e he=>(hin.qo e he).ok) (fun e he=>(hin.to e he).ok) HSE.out.1 HSE.out.2.1 HSE.out.2.2.1 HSE.out.2.2.2
 have HA:Hid (W.heap[w.heap.size]?=some (.cells #[.slice ea es.length ec,.slice ba bs.length bc,.slice qa qs.length qc,.slice ta ts.length tc] 29 (0,0))):=hA
 obtain⟨c0,c1,c2,c3⟩:=four hA
 clear hA hin
 have hxn':xn.size <= 9223372036854775807:=hxn
 by_cases bigxn:1048576<xn.size
 ·have hbi:(1048576:Int)<(xn.size:Int):=by omega
  go_enter Tryz.func5,Tryz.ntmps5
  go_wp2
  go_ret
  exact⟨rfl,hb⟩
 have hbixn:¬ (1048576:Int)<(xn.size:Int):=by omega
 have sxn:xn.size <= 1048576:=by omega
 go_enter Tryz.func5,Tryz.ntmps5
 go_wp2_with (go_at_call 10;fail)
 clear hW
 refine hsz.mono ?_
 rintro e w1 ⟨r,rfl,hr,hb1⟩
 by_cases hneg:r<0
 ·go_wp2
  go_ret
  exact⟨rfl,hb.trans (hb1.mono hb.size)⟩
 have F:Hid (cb.Fit es bs qs ts):=fit (hr (by omega))
 have FX:Hid ((∀ e∈qs,e.rs.length <= 1048576/\e.hs.length <= 1048576)/\(∀ e∈ts,e.rs.length <= 1048576/\e.hs.length <= 1048576)):=⟨fun e he=>⟨(F.out.qf e he).el,(F.out.qf e he).ml⟩,fun e he=>⟨(F.out.tf e he).el,(F.out.tf e he).ml⟩⟩
 obtain⟨d0,d1,d2,d3⟩:=four (bstay HA.out hb1 hlt)
 have ht2:=to_core es bs qs ts ea ba qa ta ec bc qc tc w1 F.out.el F.out.bl F.out.ql F.out.tl FX.out.1 FX.out.2 (rl.SE.inn HSE.out.1 hb1) (rl.SB.inn HSE.out.2.1 hb1) (HSE.out.2.2.1.inn hb1) (HSE.out.2.2.2.inn hb1)
 have hr0:(0:Int) <= r:=by omega
 have HSX:Hid (Sm es bs qs ts):=sm_of (hr (by omega))
 obtain⟨Q,hQ0⟩:∃ y,cge.getQ es bs qs ts xn xo xt=y:=⟨_,rfl⟩
 have HQ:Hid (∀ _:Unit,cge.getQ es bs qs ts xn xo xt=Q):=fun _=>hQ0
 have HSM:Hid (Sm es bs Q ts):=by have:=cge.get_sm xo xt xn (hr (by omega));rw [HQ.out ()] at this;exact this
 obtain⟨⟨mq,mx,mk,mb,ma⟩,hme0⟩:∃ y,cge.getM es bs qs ts xn xo xt=y:=⟨_,rfl⟩
 have HME:Hid (∀ _:Unit,cge.getM es bs qs ts xn xo xt=⟨mq,mx,mk,mb,ma⟩):=fun _=>hme0
 obtain⟨ok,hok0⟩:∃ y,cge.getB es bs qs ts xn xo xt=y:=⟨_,rfl⟩
 have HOK:Hid (∀ _:Unit,cge.getB es bs qs ts xn xo xt=ok):=fun _=>hok0
 clear hsz hr c0 c1 c2 c3 hQ0 hok0 hme0
 go_wp2_with (go_at_call 12;fail)
 refine ht2.mono ?_
 rintro e w2 ⟨ge2,gb2,gq2,gt2,ks2,us2,rfl,co2,hb2⟩
 have hsp:=gwk.spec_get es.length bs.length qs.length ts.length xn xo xt F.out sxn co2.g
 simp only [HQ.out (),HOK.out (),HME.out ()] at hsp
 have hB2:=fl.bt hb1 hb2
 clear ht2 d0 d1 d2 d3 co2
 go_wp2_with (go_at_call 19;fail)
 refine hsp.mono ?_
 rintro e w3 ⟨sea,sba,sqa,sta,sec,sbc,sqc,stc,ls3,us3,rfl,HSA⟩
 have hb3:=HSA.out.bel
 have hB3:=fl.bt hB2 hb3
 have hal3:Below w3.heap.size w3 ((w3.alloc (.cells #[.slice sea es.length sec,.slice sba bs.length sbc,.slice sqa Q.length sqc,.slice sta ts.length stc] 39)).alloc (.cells #[.int .i64 mq,.string mx,.string mk,.string mb,.bool ma] 48)):=((Below.refl _ _).alloc (Nat.le_refl _) _).alloc (by simp) _
 have hBW:Below W.heap.size W ((w3.alloc (.cells #[.slice sea es.length sec,.slice sba bs.length sbc,.slice sqa Q.length sqc,.slice sta ts.length stc] 39)).alloc (.cells #[.int .i64 mq,.string mx,.string mk,.string mb,.bool ma] 48)):=hB3.trans (hal3.mono hB3.size)
 have hBase:Base #[.int .i64 mq,.string mx,.string mk,.string mb,.bool ma] ((w3.alloc (.cells #[.slice sea es.length sec,.slice sba bs.length sbc,.slice sqa Q.length sqc,.slice sta ts.length stc] 39)).alloc (.cells #[.int .i64 mq,.string mx,.string mk,.string mb,.bool ma] 48)) w.heap.size w3.heap.size es bs qs ts ea ba qa ta ec bc qc tc Q ts sea sba sqa sta sec sbc sqc stc ls3 us3 :=
  ⟨bstay HA.out hBW hlt,bold (bnew w3 _ _) _,(by have h:=bnew (w3.alloc (.cells #[.slice sea es.length sec,.slice sba bs.length sbc,.slice sqa Q.length sqc,.slice sta ts.length stc] 39)) #[.int .i64 mq,.string mx,.string mk,.string mb,.bool ma] 48;rw [World.size_alloc] at h;exact h),rl.SE.inn HSE.out.1 hBW,rl.SB.inn HSE.out.2.1 hBW,HSE.out.2.2.1.inn hBW,HSE.out.2.2.2.inn hBW,rl.SE.inn HSA.out.rows.1 hal3,rl.SB.inn HSA.out.rows.2.1 hal3,HSA.out.rows.2.2.1.inn hal3,HSA.out.rows.2.2.2.inn hal3,HSA.out.same⟩
 obtain⟨W3,hW3⟩:∃ W3,(w3.alloc (.cells #[.slice sea es.length sec,.slice sba bs.length sbc,.slice sqa Q.length sqc,.slice sta ts.length stc] 39)).alloc (.cells #[.int .i64 mq,.string mx,.string mk,.string mb,.bool ma] 48)=W3:=⟨_,rfl⟩
 rw [hW3] at hBW hBase
 have HBS:Hid (Base #[.int .i64 mq,.string mx,.string mk,.string mb,.bool ma] W3 w.heap.size w3.heap.size es bs qs ts ea ba qa ta ec bc qc tc Q ts sea sba sqa sta sec sbc sqc stc ls3 us3):=hBase
 have hlt3:w.heap.size<W3.heap.size:=Nat.lt_of_lt_of_le hlt hBW.size
 have hlt6m:w3.heap.size+1<W3.heap.size:=(Array.getElem?_eq_some_iff.1 hBase.om).1
 have hlt6:w3.heap.size<W3.heap.size:=(Array.getElem?_eq_some_iff.1 hBase.out).1
 have hbw3:=fl.bt hb hBW
 obtain⟨d0,d1,d2,d3⟩:=four HBS.out.bx
 have ht4:=to_core es bs qs ts ea ba qa ta ec bc qc tc W3 F.out.el F.out.bl F.out.ql F.out.tl FX.out.1 FX.out.2 HBS.out.ae HBS.out.ab HBS.out.aq HBS.out.at_
 clear hsp hBase hb1 hb2 hb3 hB2 hB3 hal3 hBW HSE HA HSA
 go_wp2_with (go_at_call 12;fail)
 clear hW3
 refine ht4.mono ?_
 rintro e w4 ⟨ge4,gb4,gq4,gt4,ks4,us4,rfl,co4,hb4⟩
 have hal4:=fl.bl w4 (.cells #[.slice (some ⟨ge4,0,none⟩) es.length es.length,.slice (some ⟨gb4,0,none⟩) bs.length bs.length,.slice (some ⟨gq4,0,none⟩) qs.length qs.length,.slice (some ⟨gt4,0,none⟩) ts.length ts.length] 39)
 have hx7:=bnew w4 #[.slice (some ⟨ge4,0,none⟩) es.length es.length,.slice (some ⟨gb4,0,none⟩) bs.length bs.length,.slice (some ⟨gq4,0,none⟩) qs.length qs.length,.slice (some ⟨gt4,0,none⟩) ts.length ts.length] 39
 have cg4:Cg (w4.alloc (.cells #[.slice (some ⟨ge4,0,none⟩) es.length es.length,.slice (some ⟨gb4,0,none⟩) bs.length bs.length,.slice (some ⟨gq4,0,none⟩) qs.length qs.length,.slice (some ⟨gt4,0,none⟩) ts.length ts.length] 39)) W3.heap.size es bs qs ts ge4 gb4 gq4 gt4 ks4 us4:=co4.g.below hal4
 have hhi4:∀ k,coB ks4 us4 ge4 gb4 gq4 gt4 k->k<w4.heap.size:=fun k hk=>ca_hi co4.g.a hk
 obtain⟨W4,hW4⟩:∃ W4,w4.alloc (.cells #[.slice (some ⟨ge4,0,none⟩) es.length es.length,.slice (some ⟨gb4,0,none⟩) bs.length bs.length,.slice (some ⟨gq4,0,none⟩) qs.length qs.length,.slice (some ⟨gt4,0,none⟩) ts.length ts.length] 39)=W4:=⟨_,rfl⟩
 have hW4s:w4.heap.size<W4.heap.size:=by rw [<- hW4];simp
 rw [hW4] at hal4 hx7 cg4
 have hB4:=fl.bt hb4 hal4
 have him:=gwk.impl_get es.length bs.length qs.length ts.length xn xo xt F.out sxn cg4
 simp only [HQ.out (),HOK.out (),HME.out ()] at him
 obtain⟨x0,x1,x2,x3⟩:=four hx7
 have HX7:Hid (W4.heap[w4.heap.size]?=some (.cells #[.slice (some ⟨ge4,0,none⟩) es.length es.length,.slice (some ⟨gb4,0,none⟩) bs.length bs.length,.slice (some ⟨gq4,0,none⟩) qs.length qs.length,.slice (some ⟨gt4,0,none⟩) ts.length ts.length] 39 (0,0))):=hx7
 have HC4:Hid (Cg W4 W3.heap.size es bs qs ts ge4 gb4 gq4 gt4 ks4 us4):=cg4
 have HHI:Hid (∀ k,coB ks4 us4 ge4 gb4 gq4 gt4 k->k<w4.heap.size):=hhi4
 clear ht4 d0 d1 d2 d3 co4 cg4 hx7 hal4 hhi4
 go_wp2_with (go_at_call 20;fail)
 clear hW4
 refine him.mono ?_
 rintro e w5 ⟨ge5,gb5,gq5,gt5,ec5,bc5,qc5,tc5,ls5,us5,rfl,HIA⟩
 have hb5:=HIA.out.bel
 have hal5:Below w5.heap.size w5 ((w5.alloc (.cells #[.slice (some ⟨ge5,0,none⟩) es.length ec5,.slice (some ⟨gb5,0,none⟩) bs.length bc5,.slice (some ⟨gq5,0,none⟩) Q.length qc5,.slice (some ⟨gt5,0,none⟩) ts.length tc5] 39)).alloc (.cells #[.int .i64 mq,.string mx,.string mk,.string mb,.bool ma] 48)):=((Below.refl _ _).alloc (Nat.le_refl _) _).alloc (by simp) _
 have hx8:=bold (bnew w5 #[.slice (some ⟨ge5,0,none⟩) es.length ec5,.slice (some ⟨gb5,0,none⟩) bs.length bc5,.slice (some ⟨gq5,0,none⟩) Q.length qc5,.slice (some ⟨gt5,0,none⟩) ts.length tc5] 39) (.cells #[.int .i64 mq,.string mx,.string mk,.string mb,.bool ma] 48)
 have hm8:=bnew (w5.alloc (.cells #[.slice (some ⟨ge5,0,none⟩) es.length ec5,.slice (some ⟨gb5,0,none⟩) bs.length bc5,.slice (some ⟨gq5,0,none⟩) Q.length qc5,.slice (some ⟨gt5,0,none⟩) ts.length tc5] 39)) #[.int .i64 mq,.string mx,.string mk,.string mb,.bool ma] 48
 rw [World.size_alloc] at hm8
 have ca5:Ca ((w5.alloc (.cells #[.slice (some ⟨ge5,0,none⟩) es.length ec5,.slice (some ⟨gb5,0,none⟩) bs.length bc5,.slice (some ⟨gq5,0,none⟩) Q.length qc5,.slice (some ⟨gt5,0,none⟩) ts.length tc5] 39)).alloc (.cells #[.int .i64 mq,.string mx,.string mk,.string mb,.bool ma] 48)) W4.heap.size es bs ls5 us5 ge5 gb5 gq5 gt5:=HIA.out.ca.on hal5
 have HHI5:Hid (∀ k,coB ls5 us5 ge5 gb5 gq5 gt5 k->k<w5.heap.size):=fun k hk=>ca_hi HIA.out.ca hk
 have HS5:Hid (cb.Same Q ls5 ts us5):=HIA.out.same
 obtain⟨W5,hW5⟩:∃ W5,(w5.alloc (.cells #[.slice (some ⟨ge5,0,none⟩) es.length ec5,.slice (some ⟨gb5,0,none⟩) bs.length bc5,.slice (some ⟨gq5,0,none⟩) Q.length qc5,.slice (some ⟨gt5,0,none⟩) ts.length tc5] 39)).alloc (.cells #[.int .i64 mq,.string mx,.string mk,.string mb,.bool ma] 48)=W5:=⟨_,rfl⟩
 have hW5s:w5.heap.size+1<W5.heap.size:=by rw [<- hW5];simp
 rw [hW5] at hal5 hx8 hm8 ca5
 have hB45:=fl.bt hb5 hal5
 have hs45:=hB45.size
 have hs5:=hb5.size
 have hs34:=hB4.size
 have hB5:Below W3.heap.size W3 W5:=hB4.trans (hB45.mono hs34)
 have heq5:=eq_ans W5 sea sba sqa sta ec5 bc5 qc5 tc5 sec sbc sqc stc HSM.out ca5 HS5.out (rl.SE.inn HBS.out.se hB5) (rl.SB.inn HBS.out.sb hB5) (HBS.out.sq.inn hB5) (HBS.out.st.inn hB5) HBS.out.same
 obtain⟨x0,x1,x2,x3⟩:=four hx8
 obtain⟨o0,o1,o2,o3⟩:=four (bstay HBS.out.out hB5 hlt6)
 have HM8:Hid (W5.heap[w5.heap.size+1]?=some (.cells #[.int .i64 mq,.string mx,.string mk,.string mb,.bool ma] 48 (0,0))):=hm8
 have HX8:Hid (W5.heap[w5.heap.size]?=some (.cells #[.slice (some ⟨ge5,0,none⟩) es.length ec5,.slice (some ⟨gb5,0,none⟩) bs.length bc5,.slice (some ⟨gq5,0,none⟩) Q.length qc5,.slice (some ⟨gt5,0,none⟩) ts.length tc5] 39 (0,0))):=hx8
 have HC5:Hid (Ca W5 W4.heap.size es bs ls5 us5 ge5 gb5 gq5 gt5):=ca5
 clear him ca5 hx8 hm8 hal5 HIA
 go_wp2_with (go_at_call 14;fail)
 clear hW5
 refine heq5.mono ?_
 rintro e w6a ⟨rfl,hb6a⟩
 clear x0 x1 x2 x3 o0 o1 o2 o3
 have hem:=flM.eq_one ⟨mq,mx,mk,mb,ma⟩ w6a
 obtain⟨a0,a1,a2,a3,a4⟩:=box5 (bstay HM8.out hb6a hW5s)
 obtain⟨b0,b1,b2,b3,b4⟩:=box5 (bstay (bstay HBS.out.om hB5 hlt6m) hb6a (by omega))
 go_wp2_with (go_at_call 21;fail)
 refine hem.mono ?_
 rintro e w6 ⟨rfl,hb6m⟩
 have hb6:=hb6a.trans (hb6m.mono hb6a.size)
 clear hem a0 a1 a2 a3 a4 b0 b1 b2 b3 b4 hb6m
 have hs6:=hb6.size
 have hB6:=fl.bt hB5 hb6
 have hB46:Below W4.heap.size W4 w6:=hB45.trans (hb6.mono hs45)
 obtain⟨d0,d1,d2,d3⟩:=four (bstay HBS.out.bx hB6 hlt3)
 have x7:=bstay HX7.out hB46 hW4s
 obtain⟨y0,y1,y2,y3⟩:=four x7
 have HY6:Hid (w6.heap[w4.heap.size]?=some (.cells #[.slice (some ⟨ge4,0,none⟩) es.length es.length,.slice (some ⟨gb4,0,none⟩) bs.length bs.length,.slice (some ⟨gq4,0,none⟩) qs.length qs.length,.slice (some ⟨gt4,0,none⟩) ts.length ts.length] 39 (0,0))):=x7
 have HC6:Hid (Cg w6 W3.heap.size es bs qs ts ge4 gb4 gq4 gt4 ks4 us4):=HC4.out.below hB46
 have hn7:w4.heap.size<w6.heap.size:=by omega
 have ht7:=to_core es bs qs ts ea ba qa ta ec bc qc tc w6.drew F.out.el F.out.bl F.out.ql F.out.tl FX.out.1 FX.out.2 (rl.SE.inn HBS.out.ae hB6.drew) (rl.SB.inn HBS.out.ab hB6.drew) (HBS.out.aq.inn hB6.drew) (HBS.out.at_.inn hB6.drew)
 clear heq5 x7
 go_wp2
 go_region_with (first | (go_at_call 12;refine ht7.mono ?_;rintro e w7 ⟨ge7,gb7,gq7,gt7,ks7,us7,rfl,co7,hb7⟩;have hb7':Below w6.heap.size w6 w7:=(Below.drew (Below.refl _ w6)).trans hb7;obtain⟨⟨q50,q51,q52,q53⟩,heq⟩:=lwCoreOk.step6 F.out hb7' hn7 HY6.out HC6.out co7.g;clear co7) | (go_at_call 14;refine heq.mono ?_;rintro e w8 ⟨rfl,hb8⟩))
 all_goals
  have hb68:Below w6.heap.size w6 w8:=hb7'.trans (hb8.mono hb7'.size)
  have hB8:=fl.bt hB6 hb68
  have hB58:Below W5.heap.size W5 w8:=hb6.trans (hb68.mono hs6)
  have hs8:=hB58.size
  obtain⟨y0,y1,y2,y3⟩:=four (bstay HY6.out hb68 hn7)
  have hmk:=mark_ans w8 es.length bs.length qs.length ts.length HSX.out (HC6.out.below hb68).a (same_of HC6.out)
  have HM88:Hid (w8.heap[w5.heap.size+1]?=some (.cells #[.int .i64 mq,.string mx,.string mk,.string mb,.bool ma] 48 (0,0))):=bstay HM8.out hB58 hW5s
  have HX88:Hid (w8.heap[w5.heap.size]?=some (.cells #[.slice (some ⟨ge5,0,none⟩) es.length ec5,.slice (some ⟨gb5,0,none⟩) bs.length bc5,.slice (some ⟨gq5,0,none⟩) Q.length qc5,.slice (some ⟨gt5,0,none⟩) ts.length tc5] 39 (0,0))):=bstay HX8.out hB58 (by omega)
  have HC58:Hid (Ca w8 W4.heap.size es bs ls5 us5 ge5 gb5 gq5 gt5):=HC5.out.on hB58
  have HLO:Hid (∀ k,coB ks4 us4 ge4 gb4 gq4 gt4 k->W3.heap.size <= k):=fun k hk=>HC6.out.a.low hk
  clear hb7' hb7 hb8 ht7 heq q50 q51 q52 q53 d0 d1 d2 d3 hb68 hb6 HY6 HC6 hB6 hB46 hB5 hB45 hb5 hb4 hB4
  go_wp2_with (go_at_call 17;fail)
  refine hmk.mono ?_
  rintro e w9 ⟨rfl,htn,_⟩
  have hs9:=htn.size
  obtain⟨kk,hkk⟩:∃ kk:Nat,1+2*es.length+bs.length*3+qu.tot ks4+su.tot us4=kk:=⟨_,rfl⟩
  rw [hkk]
  have hk0:decide ((kk:Int)<0)=false:=by simp
  have hB9:Below W3.heap.size W3 w9:=hB8.trans (htn.below hB8.size (fun k hk=>HLO.out k hk))
  have m9:w9.heap[w5.heap.size+1]?=some (.cells #[.int .i64 mq,.string mx,.string mk,.string mb,.bool ma] 48 (0,0)):=(htn.block _ (by omega) (fun hk=>by have:=HHI.out _ hk;omega)).trans HM88.out
  have HM9:Hid (w9.heap[w5.heap.size+1]?=some (.cells #[.int .i64 mq,.string mx,.string mk,.string mb,.bool ma] 48 (0,0))):=m9
  have b9:w9.heap[w5.heap.size]?=some (.cells #[.slice (some ⟨ge5,0,none⟩) es.length ec5,.slice (some ⟨gb5,0,none⟩) bs.length bc5,.slice (some ⟨gq5,0,none⟩) Q.length qc5,.slice (some ⟨gt5,0,none⟩) ts.length tc5] 39 (0,0)):=(htn.block _ (by omega) (fun hk=>by have:=HHI.out _ hk;omega)).trans HX88.out
  have c9:Ca w9 W4.heap.size es bs ls5 us5 ge5 gb5 gq5 gt5:=ca_kept HC58.out htn (fun k hk=>by have:=HHI.out k hk;omega)
  have heq9:=eq_ans w9 sea sba sqa sta ec5 bc5 qc5 tc5 sec sbc sqc stc HSM.out c9 HS5.out (rl.SE.inn HBS.out.se hB9) (rl.SB.inn HBS.out.sb hB9) (HBS.out.sq.inn hB9) (HBS.out.st.inn hB9) HBS.out.same
  obtain⟨x0,x1,x2,x3⟩:=four b9
  obtain⟨o0,o1,o2,o3⟩:=four (bstay HBS.out.out hB9 hlt6)
  have HX9:Hid (w9.heap[w5.heap.size]?=some (.cells #[.slice (some ⟨ge5,0,none⟩) es.length ec5,.slice (some ⟨gb5,0,none⟩) bs.length bc5,.slice (some ⟨gq5,0,none⟩) Q.length qc5,.slice (some ⟨gt5,0,none⟩) ts.length tc5] 39 (0,0))):=b9
  have HC9:Hid (Ca w9 W4.heap.size es bs ls5 us5 ge5 gb5 gq5 gt5):=c9
  have hlt9:w5.heap.size<w9.heap.size:=by omega
  have hlt9m:w5.heap.size+1<w9.heap.size:=by omega
  clear hkk hmk y0 y1 y2 y3 b9 m9 c9 htn HM88 HX88 HC58 hB8 hB58
  go_wp2_with (go_at_call 14;fail)
  refine heq9.mono ?_
  rintro e w10a ⟨rfl,hb10a⟩
  have hs10a:=hb10a.size
  have hs39:=hB9.size
  clear x0 x1 x2 x3 o0 o1 o2 o3
  have hem:=flM.eq_one ⟨mq,mx,mk,mb,ma⟩ w10a
  obtain⟨a0,a1,a2,a3,a4⟩:=box5 (bstay HM9.out hb10a hlt9m)
  obtain⟨b0,b1,b2,b3,b4⟩:=box5 (bstay (bstay HBS.out.om hB9 hlt6m) hb10a (by omega))
  go_wp2_with (go_at_call 21;fail)
  refine hem.mono ?_
  rintro e w10 ⟨rfl,hb10m⟩
  have hb10:=hb10a.trans (hb10m.mono hb10a.size)
  clear hem a0 a1 a2 a3 a4 b0 b1 b2 b3 b4 hb10m
  have hB10:=fl.bt hB9 hb10
  have hs10:=hb10.size
  have b10:=bstay HX9.out hb10 hlt9
  obtain⟨p0,p1,p2,p3⟩:=four b10
  have HX10:Hid (w10.heap[w5.heap.size]?=some (.cells #[.slice (some ⟨ge5,0,none⟩) es.length ec5,.slice (some ⟨gb5,0,none⟩) bs.length bc5,.slice (some ⟨gq5,0,none⟩) Q.length qc5,.slice (some ⟨gt5,0,none⟩) ts.length tc5] 39 (0,0))):=b10
  have HC10:Hid (Ca w10 W4.heap.size es bs ls5 us5 ge5 gb5 gq5 gt5):=HC9.out.on hb10
  have hmk:=mark_ans w10 ec5 bc5 qc5 tc5 HSM.out HC10.out HS5.out
  clear heq9 b10 hb10 HX9 HC9 hB9
  go_wp2_with (go_at_call 17;fail)
  refine hmk.mono ?_
  rintro e w11 ⟨rfl,htn,cm11⟩
  have hs11:=htn.size
  have hB11:Below W3.heap.size W3 w11:=hB10.trans (htn.below hB10.size (fun k hk=>by have:=HC10.out.low hk;omega))
  have b11:w11.heap[w5.heap.size]?=some (.cells #[.slice (some ⟨ge5,0,none⟩) es.length ec5,.slice (some ⟨gb5,0,none⟩) bs.length bc5,.slice (some ⟨gq5,0,none⟩) Q.length qc5,.slice (some ⟨gt5,0,none⟩) ts.length tc5] 39 (0,0)):=(htn.block _ (by omega) (fun hk=>by have:=HHI5.out _ hk;omega)).trans HX10.out
  have HCM:Hid (Cm w11 W4.heap.size es bs ls5 us5 ge5 gb5 gq5 gt5):=cm11
  have hhd:=held_ans w11 ec5 bc5 qc5 tc5 HSM.out HCM.out HS5.out
  obtain⟨mm,hmm⟩:∃ mm:Nat,1+2*es.length+bs.length*3+qu.tot ls5+su.tot us5=mm:=⟨_,rfl⟩
  rw [hmm] at hhd ⊢
  have HMM:Hid (1+2*es.length+bs.length*3+qu.tot ls5+su.tot us5=mm):=hmm
  have hm0:decide ((mm:Int)<0)=false:=by simp
  obtain⟨x0,x1,x2,x3⟩:=four b11
  have HX11:Hid (w11.heap[w5.heap.size]?=some (.cells #[.slice (some ⟨ge5,0,none⟩) es.length ec5,.slice (some ⟨gb5,0,none⟩) bs.length bc5,.slice (some ⟨gq5,0,none⟩) Q.length qc5,.slice (some ⟨gt5,0,none⟩) ts.length tc5] 39 (0,0))):=b11
  have hlt11:w5.heap.size<w11.heap.size:=by omega
  clear hmk p0 p1 p2 p3 b11 cm11 htn hmm HX10 hB10 HC10
  go_wp2_with (go_at_call 18;fail)
  refine hhd.mono ?_
  rintro e w12 ⟨rfl,hb12⟩
  have hs12:=hb12.size
  have hB12:=fl.bt hB11 hb12
  obtain⟨d0,d1,d2,d3⟩:=four (bstay HBS.out.bx hB12 hlt3)
  have ht13:=to_core es bs qs ts ea ba qa ta ec bc qc tc w12 F.out.el F.out.bl F.out.ql F.out.tl FX.out.1 FX.out.2 (rl.SE.inn HBS.out.ae hB12) (rl.SB.inn HBS.out.ab hB12) (HBS.out.aq.inn hB12) (HBS.out.at_.inn hB12)
  clear hhd x0 x1 x2 x3
  go_wp2_with (go_at_call 12;fail)
  refine ht13.mono ?_
  rintro e w13 ⟨ge13,gb13,gq13,gt13,ks13,us13,rfl,co13,hb13⟩
  have him:=gwk.impl_get es.length bs.length qs.length ts.length xn xo xt F.out sxn co13.g
  simp only [HQ.out (),HOK.out (),HME.out ()] at him
  have hB13:Below w11.heap.size w11 w13:=hb12.trans (hb13.mono hs12)
  clear ht13 d0 d1 d2 d3 co13 hb13 hb12 hB12
  go_wp2_with (go_at_call 20;fail)
  refine him.mono ?_
  rintro e w14 ⟨gex,gbx,gqx,gtx,ecx,bcx,qcx,tcx,lsx,usx,rfl,HIX⟩
  have hb14:=HIX.out.bel
  have hal14:Below w14.heap.size w14 ((w14.alloc (.cells #[.slice (some ⟨gex,0,none⟩) es.length ecx,.slice (some ⟨gbx,0,none⟩) bs.length bcx,.slice (some ⟨gqx,0,none⟩) Q.length qcx,.slice (some ⟨gtx,0,none⟩) ts.length tcx] 39)).alloc (.cells #[.int .i64 mq,.string mx,.string mk,.string mb,.bool ma] 48)):=((Below.refl _ _).alloc (Nat.le_refl _) _).alloc (by simp) _
  have hx12:=bold (bnew w14 #[.slice (some ⟨gex,0,none⟩) es.length ecx,.slice (some ⟨gbx,0,none⟩) bs.length bcx,.slice (some ⟨gqx,0,none⟩) Q.length qcx,.slice (some ⟨gtx,0,none⟩) ts.length tcx] 39) (.cells #[.int .i64 mq,.string mx,.string mk,.string mb,.bool ma] 48)
  have hm12:=bnew (w14.alloc (.cells #[.slice (some ⟨gex,0,none⟩) es.length ecx,.slice (some ⟨gbx,0,none⟩) bs.length bcx,.slice (some ⟨gqx,0,none⟩) Q.length qcx,.slice (some ⟨gtx,0,none⟩) ts.length tcx] 39)) #[.int .i64 mq,.string mx,.string mk,.string mb,.bool ma] 48
  rw [World.size_alloc] at hm12
  have cx:=HIX.out.ca.on hal14
  obtain⟨W14,hW14⟩:∃ W14,(w14.alloc (.cells #[.slice (some ⟨gex,0,none⟩) es.length ecx,.slice (some ⟨gbx,0,none⟩) bs.length bcx,.slice (some ⟨gqx,0,none⟩) Q.length qcx,.slice (some ⟨gtx,0,none⟩) ts.length tcx] 39)).alloc (.cells #[.int .i64 mq,.string mx,.string mk,.string mb,.bool ma] 48)=W14:=⟨_,rfl⟩
  rw [hW14] at hal14 hx12 hm12 cx
  have HM12:Hid (W14.heap[w14.heap.size+1]?=some (.cells #[.int .i64 mq,.string mx,.string mk,.string mb,.bool ma] 48 (0,0))):=hm12
  have hm12l:w14.heap.size+1<W14.heap.size:=(Array.getElem?_eq_some_iff.1 hm12).1
  have hB14:Below w11.heap.size w11 W14:=(hB13.trans (hb14.mono hB13.size)).trans (hal14.mono (by have:=hb14.size;have:=hB13.size;omega))
  have hB314:=fl.bt hB11 hB14
  have heq14:=eq_ans W14 sea sba sqa sta ecx bcx qcx tcx sec sbc sqc stc HSM.out cx HIX.out.same (rl.SE.inn HBS.out.se hB314) (rl.SB.inn HBS.out.sb hB314) (HBS.out.sq.inn hB314) (HBS.out.st.inn hB314) HBS.out.same
  obtain⟨x0,x1,x2,x3⟩:=four hx12
  obtain⟨o0,o1,o2,o3⟩:=four (bstay HBS.out.out hB314 hlt6)
  clear him cx hx12 hm12 hal14 hb14 hB13 HIX
  go_wp2_with (go_at_call 14;fail)
  clear hW14
  refine heq14.mono ?_
  rintro e w15a ⟨rfl,hb15a⟩
  have hs314:=hB314.size
  clear x0 x1 x2 x3 o0 o1 o2 o3
  have hem:=flM.eq_one ⟨mq,mx,mk,mb,ma⟩ w15a
  obtain⟨a0,a1,a2,a3,a4⟩:=box5 (bstay HM12.out hb15a hm12l)
  obtain⟨b0,b1,b2,b3,b4⟩:=box5 (bstay (bstay HBS.out.om hB314 hlt6m) hb15a (by omega))
  go_wp2_with (go_at_call 21;fail)
  refine hem.mono ?_
  rintro e w15 ⟨rfl,hb15m⟩
  have hb15:=hb15a.trans (hb15m.mono hb15a.size)
  clear hem a0 a1 a2 a3 a4 b0 b1 b2 b3 b4 hb15m
  have hB15:=fl.bt hB14 hb15
  obtain⟨p0,p1,p2,p3⟩:=four (bstay HX11.out hB15 hlt11)
  have hhd:=held_ans w15 ec5 bc5 qc5 tc5 HSM.out (HCM.out.on hB15) HS5.out
  rw [HMM.out] at hhd
  clear heq14
  go_wp2_with (go_at_call 18;fail)
  refine hhd.mono ?_
  rintro e w16 ⟨rfl,hb16⟩
  have hB16:=fl.bt hB15 hb16
  have hfin:Below w.heap.size w w16:=hbw3.trans ((hB11.trans (hB16.mono hB11.size)).mono hbw3.size)
  clear hhd p0 p1 p2 p3
  go_wp2
  go_ret
  exact⟨rfl,hfin⟩
end Go.Proofs.YteoojodkkjepeaaGreat.lwCoreGet
