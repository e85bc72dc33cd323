/- AckRun, NackNo. -/
import Derived.Test.YteoojodkkjepeaaGreatKn38
import Derived.Test.YteoojodkkjepeaaGreatKn35
set_option maxRecDepth 100000
set_option maxHeartbeats 8000000
set_option linter.unusedVariables false
namespace Go.Proofs.YteoojodkkjepeaaGreat.akr
open ChangeShapes WideShapes ChangeAt RowKit rr ra rt fl co eb
theorem ack_one (nm:ByteArray)(nx:Int)(rs:List flM.Ms)(hs:List flH.Hd)(gr gh rc hc p1 p2 p3:Nat)(o t:Int)(a:Bool)(V:World)(F:qsp.Fit nm rs hs)(hE:Row flM.c 5 V V.heap.size (some ⟨gr,0,none⟩) rs)(hB:Row flH.c 7 V V.heap.size (some ⟨gh,0,none⟩) hs)(l1:p1<V.heap.size)(l2:p2<V.heap.size)(l3:p3<V.heap.size)(h1:V.cell? ⟨p1,0,none⟩=some (.int .i64 o))(h2:V.cell? ⟨p2,0,none⟩=some (.int .i64 t))(h3:V.cell? ⟨p3,0,none⟩=some (.bool a)) :
  Calls Tryz.prog 67 #[.agg #[.string nm,.int .i64 nx,.slice (some ⟨gr,0,none⟩) rs.length rc,.slice (some ⟨gh,0,none⟩) hs.length hc],.pointer (some ⟨p1,0,none⟩),.pointer (some ⟨p2,0,none⟩),.pointer (some ⟨p3,0,none⟩)] V fun e w'=>qdi.PD V nm nx rs (qdp.ansH nm nx rs hs o t a) (qdp.ansC nm nx rs hs o t a) e w':=by
 obtain⟨W,hW,hWb,hA,hR,hzz⟩:=fl.bx2 V #[.string nm,.int .i64 nx,.slice (some ⟨gr,0,none⟩) rs.length rc,.slice (some ⟨gh,0,none⟩) hs.length hc] #[.string ⟨#[]⟩,.int .i64 0,.slice none 0 0,.slice none 0 0] 68 68
 have hWs:V.heap.size+2 <= W.heap.size:=by omega
 clear hzz
 have HR:Hid (W.heap[V.heap.size+1]?=some (.cells #[.string ⟨#[]⟩,.int .i64 0,.slice none 0 0,.slice none 0 0] 68 (0,0))):=hR
 have c1:=(hWb.cell (p:=⟨p1,0,none⟩) l1).trans h1
 have c2:=(hWb.cell (p:=⟨p2,0,none⟩) l2).trans h2
 have c3:=(hWb.cell (p:=⟨p3,0,none⟩) l3).trans h3
 obtain⟨x0,x1,x2,x3⟩:=fl.q4 hA
 have hc:=qdi.impl_drop nm nx rs hs gr gh rc hc o t a W F (hE.inn hWb) (hB.inn hWb)
 clear hE hB h1 h2 h3 hA hR
 go_enter Tryz.func67,Tryz.ntmps67
 go_wp2_with (go_at_call 68;fail)
 clear hW x0 x1 x2 x3 c1 c2 c3
 refine hc.mono ?_
 rintro e w1 ⟨g,ce,h,ao,cb,rfl,h1,h2,h3,h4,h5,h6,h7⟩
 have b1:=bstay HR.out h7 (by omega)
 have HP:Hid (V.heap.size+2 <= g/\V.heap.size+2 <= h/\g≠h/\h<w1.heap.size/\fo.OwnO flM.c 5 48 w1 g 0 rs rs.length/\qhn.HO w1 h ao (qdp.ansH nm nx rs hs o t a)/\Below V.heap.size V w1):=⟨by omega,by omega,h3,h4,h5,h6,hWb.trans (h7.mono hWb.size)⟩
 obtain⟨H,hH⟩:∃ H,qdp.ansH nm nx rs hs o t a=H:=⟨_,rfl⟩
 obtain⟨N,hN⟩:∃ N,qdp.ansC nm nx rs hs o t a=N:=⟨_,rfl⟩
 rw [hH] at HP ⊢
 rw [hN]
 obtain⟨z0,z1,z2,z3⟩:=fl.q4 b1
 obtain⟨f0,f1,f2,f3⟩:=fl.r4 b1
 clear hc b1 h1 h2 h3 h4 h5 h6 h7 hWb HR
 go_wp2
 subst hH hN
 have hp:=HP.out
 have hx:V.heap.size <= V.heap.size+1:=by omega
 have kg:g≠V.heap.size+1:=by omega
 have kh:h≠V.heap.size+1:=by omega
 exact bodyPost_ret (v:=.tuple #[.agg #[.string nm,.int .i64 nx,.slice (some ⟨g,0,none⟩) rs.length ce,.slice ao (qdp.ansH nm nx rs hs o t a).length cb],.int .i64 (qdp.ansC nm nx rs hs o t a)]) (by simp [results,Tryz.results67,go_sem,z0,z1,z2,z3]) rfl ⟨g,ce,h,ao,cb,rfl,by omega,by omega,hp.2.2.1,by simpa using hp.2.2.2.1,(((hp.2.2.2.2.1.kept (Below.heap_setCell _ _ _ _ kg)).kept (Below.heap_setCell _ _ _ _ kg)).kept (Below.heap_setCell _ _ _ _ kg)).kept (Below.heap_setCell _ _ _ _ kg),(((hp.2.2.2.2.2.1.kept (fun _=>Below.heap_setCell _ _ _ _ kh)).kept (fun _=>Below.heap_setCell _ _ _ _ kh)).kept (fun _=>Below.heap_setCell _ _ _ _ kh)).kept (fun _=>Below.heap_setCell _ _ _ _ kh),(((hp.2.2.2.2.2.2.setCell hx _).setCell hx _).setCell hx _).setCell hx _⟩
theorem impl_ack (es:List Ex)(bs:List Bi)(qs:List qu.E)(ts:List su.E)(a0 b0 q0 t0 ec bc qc tc:Nat)(o t:Int)(a:Bool)(ok:Bool)(w:World)(F:cb.Fit es bs qs ts)(hE:RE w a0 es)(hB:RB w b0 bs)(hQ:qu.R w q0 qs)(hT:su.R w t0 ts)(hqr:∀ r∈qs,∃ g h,r.ra=some ⟨g,0,none⟩/\r.ha=some ⟨h,0,none⟩/\Row flM.c 5 w w.heap.size r.ra r.rs/\Row flH.c 7 w w.heap.size r.ha r.hs)(htr:∀ r∈ts,cb.At w r)(hok:(∀ V,Below w.heap.size w V->Calls Tryz.prog 13 #[.agg #[.slice (some ⟨a0,0,none⟩) es.length ec,.slice (some ⟨b0,0,none⟩) bs.length bc,.slice (some ⟨q0,0,none⟩) qs.length qc,.slice (some ⟨t0,0,none⟩) ts.length tc]] V fun e w'=>e=.returned (.bool ok)/\Below V.heap.size V w'))(hql:ok=true->qs.length <= 20)(hN:∀ s∈qs,0 <= qdp.ansC s.nm s.nx s.rs s.hs o t a/\qdp.ansC s.nm s.nx s.rs s.hs o t a <= 1048576) :
  Calls Tryz.prog 23 #[.agg #[.slice (some ⟨a0,0,none⟩) es.length ec,.slice (some ⟨b0,0,none⟩) bs.length bc,.slice (some ⟨q0,0,none⟩) qs.length qc,.slice (some ⟨t0,0,none⟩) ts.length tc],.int .i64 o,.int .i64 t,.bool a] w fun e w'=>∃ ge gb gq gt ls us n,e=.returned (.tuple #[.agg #[.slice (some ⟨ge,0,none⟩) es.length es.length,.slice (some ⟨gb,0,none⟩) bs.length bs.length,.slice (some ⟨gq,0,none⟩) qs.length qs.length,.slice (some ⟨gt,0,none⟩) ts.length ts.length],.int .i64 n])/\Hid (eac.An w es bs qs ts ok (fun _ _ rs _=>rs) (fun nm nx rs hs=>qdp.ansH nm nx rs hs o t a) (fun nm nx rs hs=>qdp.ansC nm nx rs hs o t a) ge gb gq gt ls us n w'):=by
 have hWb:Below w.heap.size w (((((w.alloc (.cells #[.slice (some ⟨a0,0,none⟩) es.length ec,.slice (some ⟨b0,0,none⟩) bs.length bc,.slice (some ⟨q0,0,none⟩) qs.length qc,.slice (some ⟨t0,0,none⟩) ts.length tc] 39)).alloc (.cells #[.int .i64 o] 3)).alloc (.cells #[.int .i64 t] 3)).alloc (.cells #[.bool a] 4)).alloc (.cells #[.slice none 0 0,.slice none 0 0,.slice none 0 0,.slice none 0 0] 39)):=(((((Below.refl _ _).alloc (Nat.le_refl _) _).alloc (by simp only [World.size_alloc];omega) _).alloc (by simp only [World.size_alloc];omega) _).alloc (by simp only [World.size_alloc];omega) _).alloc (by simp only [World.size_alloc];omega) _
 have hA:=bold (bold (bold (bold (bnew w #[.slice (some ⟨a0,0,none⟩) es.length ec,.slice (some ⟨b0,0,none⟩) bs.length bc,.slice (some ⟨q0,0,none⟩) qs.length qc,.slice (some ⟨t0,0,none⟩) ts.length tc] 39) (.cells #[.int .i64 o] 3)) (.cells #[.int .i64 t] 3)) (.cells #[.bool a] 4)) (.cells #[.slice none 0 0,.slice none 0 0,.slice none 0 0,.slice none 0 0] 39)
 have hO:=bold (bold (bold (bnew (w.alloc (.cells #[.slice (some ⟨a0,0,none⟩) es.length ec,.slice (some ⟨b0,0,none⟩) bs.length bc,.slice (some ⟨q0,0,none⟩) qs.length qc,.slice (some ⟨t0,0,none⟩) ts.length tc] 39)) #[.int .i64 o] 3) (.cells #[.int .i64 t] 3)) (.cells #[.bool a] 4)) (.cells #[.slice none 0 0,.slice none 0 0,.slice none 0 0,.slice none 0 0] 39)
 have hG:=bold (bold (bnew ((w.alloc (.cells #[.slice (some ⟨a0,0,none⟩) es.length ec,.slice (some ⟨b0,0,none⟩) bs.length bc,.slice (some ⟨q0,0,none⟩) qs.length qc,.slice (some ⟨t0,0,none⟩) ts.length tc] 39)).alloc (.cells #[.int .i64 o] 3)) #[.int .i64 t] 3) (.cells #[.bool a] 4)) (.cells #[.slice none 0 0,.slice none 0 0,.slice none 0 0,.slice none 0 0] 39)
 have hL:=bold (bnew (((w.alloc (.cells #[.slice (some ⟨a0,0,none⟩) es.length ec,.slice (some ⟨b0,0,none⟩) bs.length bc,.slice (some ⟨q0,0,none⟩) qs.length qc,.slice (some ⟨t0,0,none⟩) ts.length tc] 39)).alloc (.cells #[.int .i64 o] 3)).alloc (.cells #[.int .i64 t] 3)) #[.bool a] 4) (.cells #[.slice none 0 0,.slice none 0 0,.slice none 0 0,.slice none 0 0] 39)
 have hR:=bnew ((((w.alloc (.cells #[.slice (some ⟨a0,0,none⟩) es.length ec,.slice (some ⟨b0,0,none⟩) bs.length bc,.slice (some ⟨q0,0,none⟩) qs.length qc,.slice (some ⟨t0,0,none⟩) ts.length tc] 39)).alloc (.cells #[.int .i64 o] 3)).alloc (.cells #[.int .i64 t] 3)).alloc (.cells #[.bool a] 4)) #[.slice none 0 0,.slice none 0 0,.slice none 0 0,.slice none 0 0] 39
 simp only [World.size_alloc,Nat.add_assoc,Nat.reduceAdd] at hO hG hL hR
 obtain⟨W,hW⟩:∃ W,((((w.alloc (.cells #[.slice (some ⟨a0,0,none⟩) es.length ec,.slice (some ⟨b0,0,none⟩) bs.length bc,.slice (some ⟨q0,0,none⟩) qs.length qc,.slice (some ⟨t0,0,none⟩) ts.length tc] 39)).alloc (.cells #[.int .i64 o] 3)).alloc (.cells #[.int .i64 t] 3)).alloc (.cells #[.bool a] 4)).alloc (.cells #[.slice none 0 0,.slice none 0 0,.slice none 0 0,.slice none 0 0] 39)=W:=⟨_,rfl⟩
 have hWs:w.heap.size+5 <= W.heap.size:=by rw [<- hW];simp only [World.size_alloc];omega
 rw [hW] at hWb hA hO hG hL hR
 obtain⟨x0,x1,x2,x3⟩:=fl.q4 hA
 have HR:Hid (W.heap[w.heap.size+4]?=some (.cells #[.slice none 0 0,.slice none 0 0,.slice none 0 0,.slice none 0 0] 39 (0,0))):=hR
 have hcc:=eac.each es bs qs ts a0 b0 q0 t0 ec bc qc tc (w.heap.size+1) (w.heap.size+2) (w.heap.size+3) ok (fun _ _ rs _=>rs) (fun nm nx rs hs=>qdp.ansH nm nx rs hs o t a) (fun nm nx rs hs=>qdp.ansC nm nx rs hs o t a) W F (hE.below hWb) (hB.below hWb) (hQ.below hWb) (hT.below hWb) (fun r hr=>by obtain⟨g,h,h1,h2,h3,h4⟩:=hqr r hr;exact⟨g,h,h1,h2,h3.inn hWb,h4.inn hWb⟩) (fun r hr=>(htr r hr).below hWb) (fun V hV=>hok V (hWb.trans (hV.mono hWb.size))) hql hN (fun nm nx rs hs gr gh rc hc V hV f h1 h2=>ack_one nm nx rs hs gr gh rc hc _ _ _ o t a V f h1 h2 (by have:=hV.size;omega) (by have:=hV.size;omega) (by have:=hV.size;omega) (bcell (bstay hO hV (by omega)) rfl) (bcell (bstay hG hV (by omega)) rfl) (bcell (bstay hL hV (by omega)) rfl))
 clear hE hB hQ hT hqr htr hok hN F hA hO hG hL hR
 go_enter Tryz.func23,Tryz.ntmps23
 go_wp2_with (go_at_call 66;fail)
 clear hW x0 x1 x2 x3
 refine hcc.mono ?_
 rintro e w1 ⟨ge,gb,gq,gt,ls,us,n,rfl,HAN⟩
 have b1:=bstay HR.out HAN.out.bel (by omega)
 have HB1:Hid (w1.heap[w.heap.size+4]?=some (.cells #[.slice none 0 0,.slice none 0 0,.slice none 0 0,.slice none 0 0] 39 (0,0))):=b1
 have HWB:Hid (Below w.heap.size w W):=hWb
 obtain⟨z0,z1,z2,z3⟩:=fl.q4 b1
 obtain⟨f0,f1,f2,f3⟩:=fl.r4 b1
 clear hcc b1 hWb HR
 go_wp2
 refine bodyPost_ret (v:=.tuple #[.agg #[.slice (some ⟨ge,0,none⟩) es.length es.length,.slice (some ⟨gb,0,none⟩) bs.length bs.length,.slice (some ⟨gq,0,none⟩) qs.length qs.length,.slice (some ⟨gt,0,none⟩) ts.length ts.length],.int .i64 n]) (by simp [results,Tryz.results23,go_sem,z0,z1,z2,z3]) rfl ⟨ge,gb,gq,gt,ls,us,n,rfl,?_⟩
 have b0:=HB1.out
 have b1:=bset b0 0 (.slice (some ⟨ge,0,none⟩) es.length es.length)
 have b2:=bset b1 1 (.slice (some ⟨gb,0,none⟩) bs.length bs.length)
 have b3:=bset b2 2 (.slice (some ⟨gq,0,none⟩) qs.length qs.length)
 have hx:w.heap.size <= w.heap.size+4:=by omega
 have hb:=HWB.out.trans (HAN.out.bel.mono HWB.out.size)
 exact⟨set_core (set_core (set_core (set_core (ca_lo HAN.out.ca (by omega)) b0 _) b1 _) b2 _) b3 _,HAN.out.ql,HAN.out.tl,HAN.out.q,HAN.out.t,HAN.out.n,(((hb.setCell hx _).setCell hx _).setCell hx _).setCell hx _⟩
end Go.Proofs.YteoojodkkjepeaaGreat.akr
namespace Go.Proofs.YteoojodkkjepeaaGreat.nkr
open ChangeShapes WideShapes ChangeAt RowKit rr ra rt fl co eb
theorem impl_no (es:List Ex)(bs:List Bi)(qs:List qu.E)(ts:List su.E)(a0 b0 q0 t0 ec bc qc tc:Nat)(o t:Int)(a:Bool)(ok:Bool)(w:World)(F:cb.Fit es bs qs ts)(hE:RE w a0 es)(hB:RB w b0 bs)(hQ:qu.R w q0 qs)(hT:su.R w t0 ts)(hqr:∀ r∈qs,∃ g h,r.ra=some ⟨g,0,none⟩/\r.ha=some ⟨h,0,none⟩/\Row flM.c 5 w w.heap.size r.ra r.rs/\Row flH.c 7 w w.heap.size r.ha r.hs)(htr:∀ r∈ts,cb.At w r)(hok:(∀ V,Below w.heap.size w V->Calls Tryz.prog 13 #[.agg #[.slice (some ⟨a0,0,none⟩) es.length ec,.slice (some ⟨b0,0,none⟩) bs.length bc,.slice (some ⟨q0,0,none⟩) qs.length qc,.slice (some ⟨t0,0,none⟩) ts.length tc]] V fun e w'=>e=.returned (.bool ok)/\Below V.heap.size V w'))(hql:ok=true->qs.length <= 20)(hN:∀ s∈qs,0 <= qdp.ansC s.nm s.nx s.rs s.hs o t a/\qdp.ansC s.nm s.nx s.rs s.hs o t a <= 1048576) :
  Calls Tryz.prog 25 #[.agg #[.slice (some ⟨a0,0,none⟩) es.length ec,.slice (some ⟨b0,0,none⟩) bs.length bc,.slice (some ⟨q0,0,none⟩) qs.length qc,.slice (some ⟨t0,0,none⟩) ts.length tc],.int .i64 o,.int .i64 t,.bool a,.bool false] w fun e w'=>∃ ge gb gq gt ls us n,e=.returned (.tuple #[.agg #[.slice (some ⟨ge,0,none⟩) es.length es.length,.slice (some ⟨gb,0,none⟩) bs.length bs.length,.slice (some ⟨gq,0,none⟩) qs.length qs.length,.slice (some ⟨gt,0,none⟩) ts.length ts.length],.int .i64 n])/\Hid (eac.An w es bs qs ts ok (fun _ _ rs _=>rs) (fun nm nx rs hs=>qdp.ansH nm nx rs hs o t a) (fun nm nx rs hs=>qdp.ansC nm nx rs hs o t a) ge gb gq gt ls us n w'):=by
 have hWb:Below w.heap.size w (((((w.alloc (.cells #[.slice (some ⟨a0,0,none⟩) es.length ec,.slice (some ⟨b0,0,none⟩) bs.length bc,.slice (some ⟨q0,0,none⟩) qs.length qc,.slice (some ⟨t0,0,none⟩) ts.length tc] 39)).alloc (.cells #[.int .i64 o] 3)).alloc (.cells #[.int .i64 t] 3)).alloc (.cells #[.bool a] 4)).alloc (.cells #[.slice none 0 0,.slice none 0 0,.slice none 0 0,.slice none 0 0] 39)):=(((((Below.refl _ _).alloc (Nat.le_refl _) _).alloc (by simp only [World.size_alloc];omega) _).alloc (by simp only [World.size_alloc];omega) _).alloc (by simp only [World.size_alloc];omega) _).alloc (by simp only [World.size_alloc];omega) _
 have hA:=bold (bold (bold (bold (bnew w #[.slice (some ⟨a0,0,none⟩) es.length ec,.slice (some ⟨b0,0,none⟩) bs.length bc,.slice (some ⟨q0,0,none⟩) qs.length qc,.slice (some ⟨t0,0,none⟩) ts.length tc] 39) (.cells #[.int .i64 o] 3)) (.cells #[.int .i64 t] 3)) (.cells #[.bool a] 4)) (.cells #[.slice none 0 0,.slice none 0 0,.slice none 0 0,.slice none 0 0] 39)
 have hO:=bold (bold (bold (bnew (w.alloc (.cells #[.slice (some ⟨a0,0,none⟩) es.length ec,.slice (some ⟨b0,0,none⟩) bs.length bc,.slice (some ⟨q0,0,none⟩) qs.length qc,.slice (some ⟨t0,0,none⟩) ts.length tc] 39)) #[.int .i64 o] 3) (.cells #[.int .i64 t] 3)) (.cells #[.bool a] 4)) (.cells #[.slice none 0 0,.slice none 0 0,.slice none 0 0,.slice none 0 0] 39)
 have hG:=bold (bold (bnew ((w.alloc (.cells #[.slice (some ⟨a0,0,none⟩) es.length ec,.slice (some ⟨b0,0,none⟩) bs.length bc,.slice (some ⟨q0,0,none⟩) qs.length qc,.slice (some ⟨t0,0,none⟩) ts.length tc] 39)).alloc (.cells #[.int .i64 o] 3)) #[.int .i64 t] 3) (.cells #[.bool a] 4)) (.cells #[.slice none 0 0,.slice none 0 0,.slice none 0 0,.slice none 0 0] 39)
 have hL:=bold (bnew (((w.alloc (.cells #[.slice (some ⟨a0,0,none⟩) es.length ec,.slice (some ⟨b0,0,none⟩) bs.length bc,.slice (some ⟨q0,0,none⟩) qs.length qc,.slice (some ⟨t0,0,none⟩) ts.length tc] 39)).alloc (.cells #[.int .i64 o] 3)).alloc (.cells #[.int .i64 t] 3)) #[.bool a] 4) (.cells #[.slice none 0 0,.slice none 0 0,.slice none 0 0,.slice none 0 0] 39)
 have hR:=bnew ((((w.alloc (.cells #[.slice (some ⟨a0,0,none⟩) es.length ec,.slice (some ⟨b0,0,none⟩) bs.length bc,.slice (some ⟨q0,0,none⟩) qs.length qc,.slice (some ⟨t0,0,none⟩) ts.length tc] 39)).alloc (.cells #[.int .i64 o] 3)).alloc (.cells #[.int .i64 t] 3)).alloc (.cells #[.bool a] 4)) #[.slice none 0 0,.slice none 0 0,.slice none 0 0,.slice none 0 0] 39
 simp only [World.size_alloc,Nat.add_assoc,Nat.reduceAdd] at hO hG hL hR
 obtain⟨W,hW⟩:∃ W,((((w.alloc (.cells #[.slice (some ⟨a0,0,none⟩) es.length ec,.slice (some ⟨b0,0,none⟩) bs.length bc,.slice (some ⟨q0,0,none⟩) qs.length qc,.slice (some ⟨t0,0,none⟩) ts.length tc] 39)).alloc (.cells #[.int .i64 o] 3)).alloc (.cells #[.int .i64 t] 3)).alloc (.cells #[.bool a] 4)).alloc (.cells #[.slice none 0 0,.slice none 0 0,.slice none 0 0,.slice none 0 0] 39)=W:=⟨_,rfl⟩
 have hWs:w.heap.size+5 <= W.heap.size:=by rw [<- hW];simp only [World.size_alloc];omega
 rw [hW] at hWb hA hO hG hL hR
 obtain⟨x0,x1,x2,x3⟩:=fl.q4 hA
 have HR:Hid (W.heap[w.heap.size+4]?=some (.cells #[.slice none 0 0,.slice none 0 0,.slice none 0 0,.slice none 0 0] 39 (0,0))):=hR
 have y1:W.cell? ⟨w.heap.size+1,0,none⟩=some (.int .i64 o):=bcell hO rfl
 have y2:W.cell? ⟨w.heap.size+2,0,none⟩=some (.int .i64 t):=bcell hG rfl
 have y3:W.cell? ⟨w.heap.size+3,0,none⟩=some (.bool a):=bcell hL rfl
 have hcc:=akr.impl_ack es bs qs ts a0 b0 q0 t0 ec bc qc tc o t a ok W F (hE.below hWb) (hB.below hWb) (hQ.below hWb) (hT.below hWb) (fun r hr=>by obtain⟨g,h,h1,h2,h3,h4⟩:=hqr r hr;exact⟨g,h,h1,h2,h3.inn hWb,h4.inn hWb⟩) (fun r hr=>(htr r hr).below hWb) (fun V hV=>hok V (hWb.trans (hV.mono hWb.size))) hql hN
 clear hE hB hQ hT hqr htr hok hN F hA hO hG hL hR
 go_enter Tryz.func25,Tryz.ntmps25
 go_wp2_with (go_at_call 23;fail)
 clear hW x0 x1 x2 x3 y1 y2 y3
 refine hcc.mono ?_
 rintro e w1 ⟨ge,gb,gq,gt,ls,us,n,rfl,HAN⟩
 have b1:=bstay HR.out HAN.out.bel (by omega)
 have HB1:Hid (w1.heap[w.heap.size+4]?=some (.cells #[.slice none 0 0,.slice none 0 0,.slice none 0 0,.slice none 0 0] 39 (0,0))):=b1
 have HWB:Hid (Below w.heap.size w W):=hWb
 obtain⟨z0,z1,z2,z3⟩:=fl.q4 b1
 obtain⟨f0,f1,f2,f3⟩:=fl.r4 b1
 clear hcc b1 hWb HR
 go_wp2
 refine bodyPost_ret (v:=.tuple #[.agg #[.slice (some ⟨ge,0,none⟩) es.length es.length,.slice (some ⟨gb,0,none⟩) bs.length bs.length,.slice (some ⟨gq,0,none⟩) qs.length qs.length,.slice (some ⟨gt,0,none⟩) ts.length ts.length],.int .i64 n]) (by simp [results,Tryz.results25,go_sem,z0,z1,z2,z3]) rfl ⟨ge,gb,gq,gt,ls,us,n,rfl,?_⟩
 have b0:=HB1.out
 have b1:=bset b0 0 (.slice (some ⟨ge,0,none⟩) es.length es.length)
 have b2:=bset b1 1 (.slice (some ⟨gb,0,none⟩) bs.length bs.length)
 have b3:=bset b2 2 (.slice (some ⟨gq,0,none⟩) qs.length qs.length)
 have hx:w.heap.size <= w.heap.size+4:=by omega
 have hb:=HWB.out.trans (HAN.out.bel.mono HWB.out.size)
 exact⟨set_core (set_core (set_core (set_core (akr.ca_lo HAN.out.ca (by omega)) b0 _) b1 _) b2 _) b3 _,HAN.out.ql,HAN.out.tl,HAN.out.q,HAN.out.t,HAN.out.n,(((hb.setCell hx _).setCell hx _).setCell hx _).setCell hx _⟩
end Go.Proofs.YteoojodkkjepeaaGreat.nkr
