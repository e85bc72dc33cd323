/- EachNack, QBackPure. -/
import Derived.Test.YteoojodkkjepeaaGreatKz34
import Derived.Test.YteoojodkkjepeaaGreatKz32
set_option maxRecDepth 100000
set_option maxHeartbeats 8000000
set_option linter.unusedVariables false
namespace Go.Proofs.YteoojodkkjepeaaGreat.ean
open ChangeShapes WideShapes ChangeAt RowKit rr ra rt fl co eb
structure An (w:World) (es:List Ex) (bs:List Bi) (qs:List qu.E) (ts:List su.E) (ok:Bool) (fR:ByteArray->Int->List flM.Ms->List flH.Hd->List flM.Ms) (fH:ByteArray->Int->List flM.Ms->List flH.Hd->List flH.Hd) (fN:ByteArray->Int->List flM.Ms->List flH.Hd->Int) (ge gb gq gt:Nat) (ls:List qu.E) (us:List su.E) (n:Int) (w':World):Prop where
 ca:Ca w' (w.heap.size+2) es bs ls us ge gb gq gt
 ql:ls.length=qs.length
 tl:us.length=ts.length
 q:∀ (i:Nat) (r s:qu.E),ls[i]?=some r->qs[i]?=some s->if ok then Is fR fH s r else qu.same r s
 t:∀ (i:Nat) (r s:su.E),us[i]?=some r->ts[i]?=some s->su.same r s
 n:n=if ok then sumN fN qs else 0
 bel:Below w.heap.size w w'
theorem each (es:List Ex) (bs:List Bi) (qs:List qu.E) (ts:List su.E) (a0 b0 q0 t0 ec bc qc tc:Nat) (p1 p2 p3:Nat) (ok:Bool) (fR:ByteArray->Int->List flM.Ms->List flH.Hd->List flM.Ms) (fH:ByteArray->Int->List flM.Ms->List flH.Hd->List flH.Hd) (fN:ByteArray->Int->List flM.Ms->List flH.Hd->Int) (w:World) (F:cb.Fit es bs qs ts) (hE:RE w a0 es) (hB:RB w b0 bs) (hQ:qu.R w q0 qs) (hT:su.R w t0 ts) (hqr:∀ r ∈ qs,∃ g h,r.ra=some ⟨g,0,none⟩/\r.ha=some ⟨h,0,none⟩/\Row flM.c 5 w w.heap.size r.ra r.rs/\Row flH.c 7 w w.heap.size r.ha r.hs) (htr:∀ r ∈ ts,cb.At w r)
  (hok:(∀ V,Below w.heap.size w V->Calls Tryz.prog 13 #[.agg #[.slice (some ⟨a0,0,none⟩) es.length ec,.slice (some ⟨b0,0,none⟩) bs.length bc,.slice (some ⟨q0,0,none⟩) qs.length qc,.slice (some ⟨t0,0,none⟩) ts.length tc]] V fun e w'=>e=.returned (.bool ok)/\Below V.heap.size V w')) (hql:ok=true->qs.length <= 20) (hN:(∀ s ∈ qs,0 <= fN s.nm s.nx s.rs s.hs/\fN s.nm s.nx s.rs s.hs <= 1048576)) (hF:(∀ (nm:ByteArray) (nx:Int) (rs:List flM.Ms) (hs:List flH.Hd) (gr gh rc hc:Nat) (V:World),Below w.heap.size w V->qsp.Fit nm rs hs->Row flM.c 5 V V.heap.size (some ⟨gr,0,none⟩) rs->Row flH.c 7 V V.heap.size (some ⟨gh,0,none⟩) hs->Calls Tryz.prog 71 #[.agg #[.string nm,.int .i64 nx,.slice (some ⟨gr,0,none⟩) rs.length rc,.slice (some ⟨gh,0,none⟩) hs.length hc],.pointer (some ⟨p1,0,none⟩),.pointer (some ⟨p2,0,none⟩),.pointer (some ⟨p3,0,none⟩)] V fun e w'=>qdi.PD V nm nx (fR nm nx rs hs) (fH nm nx rs hs) (fN nm nx rs hs) e w')) :
  Calls Tryz.prog 66 #[.agg #[.slice (some ⟨a0,0,none⟩) es.length ec,.slice (some ⟨b0,0,none⟩) bs.length bc,.slice (some ⟨q0,0,none⟩) qs.length qc,.slice (some ⟨t0,0,none⟩) ts.length tc],.func (.func 71) #[] #[.pointer (some ⟨p1,0,none⟩),.pointer (some ⟨p2,0,none⟩),.pointer (some ⟨p3,0,none⟩)]] w fun e w'=>∃ ge gb gq gt ls us n,e=.returned (.tuple #[.agg #[.slice (some ⟨ge,0,none⟩) es.length es.length,.slice (some ⟨gb,0,none⟩) bs.length bs.length,.slice (some ⟨gq,0,none⟩) qs.length qs.length,.slice (some ⟨gt,0,none⟩) ts.length ts.length],.int .i64 n])/\Hid (An w es bs qs ts ok fR fH fN ge gb gq gt ls us n w'):=by
 obtain ⟨W,hW,hWb,hA,hR,hzz⟩:=fl.bx2 w #[.slice (some ⟨a0,0,none⟩) es.length ec,.slice (some ⟨b0,0,none⟩) bs.length bc,.slice (some ⟨q0,0,none⟩) qs.length qc,.slice (some ⟨t0,0,none⟩) ts.length tc] #[.slice none 0 0,.slice none 0 0,.slice none 0 0,.slice none 0 0] 39 39
 have hWs:w.heap.size+2 <= W.heap.size:=by omega
 clear hzz
 have hcc:=cco.copy_core es bs qs ts a0 b0 q0 t0 ec bc qc tc W F (hE.below hWb) (hB.below hWb) (hQ.below hWb) (hT.below hWb) (fun r hr=>by obtain ⟨g,h,h1,h2,h3,h4⟩:=hqr r hr; exact ⟨g,h,h1,h2,h3.inn hWb,h4.inn hWb⟩) (fun r hr=>(htr r hr).below hWb)
 have HF:Hid (cb.Fit es bs qs ts):=F
 have HAB:Hid (W.heap[w.heap.size]?=some (.cells #[.slice (some ⟨a0,0,none⟩) es.length ec,.slice (some ⟨b0,0,none⟩) bs.length bc,.slice (some ⟨q0,0,none⟩) qs.length qc,.slice (some ⟨t0,0,none⟩) ts.length tc] 39 (0,0))/\W.heap[w.heap.size+1]?=some (.cells #[.slice none 0 0,.slice none 0 0,.slice none 0 0,.slice none 0 0] 39 (0,0))):=⟨hA,hR⟩
 have HOK:Hid (∀ V,Below w.heap.size w V->Calls Tryz.prog 13 #[.agg #[.slice (some ⟨a0,0,none⟩) es.length ec,.slice (some ⟨b0,0,none⟩) bs.length bc,.slice (some ⟨q0,0,none⟩) qs.length qc,.slice (some ⟨t0,0,none⟩) ts.length tc]] V fun e w'=>e=.returned (.bool ok)/\Below V.heap.size V w'):=hok
 have HN:Hid (∀ s ∈ qs,0 <= fN s.nm s.nx s.rs s.hs/\fN s.nm s.nx s.rs s.hs <= 1048576):=hN
 have HFF:Hid (∀ (nm:ByteArray) (nx:Int) (rs:List flM.Ms) (hs:List flH.Hd) (gr gh rc hc:Nat) (V:World),Below w.heap.size w V->qsp.Fit nm rs hs->Row flM.c 5 V V.heap.size (some ⟨gr,0,none⟩) rs->Row flH.c 7 V V.heap.size (some ⟨gh,0,none⟩) hs->Calls Tryz.prog 71 #[.agg #[.string nm,.int .i64 nx,.slice (some ⟨gr,0,none⟩) rs.length rc,.slice (some ⟨gh,0,none⟩) hs.length hc],.pointer (some ⟨p1,0,none⟩),.pointer (some ⟨p2,0,none⟩),.pointer (some ⟨p3,0,none⟩)] V fun e w'=>qdi.PD V nm nx (fR nm nx rs hs) (fH nm nx rs hs) (fN nm nx rs hs) e w'):=hF
 obtain ⟨x0,x1,x2,x3⟩:=fl.q4 hA
 clear hE hB hQ hT hqr htr hok hN hF F hA hR
 go_enter Tryz.func66,Tryz.ntmps66
 go_wp2_with (go_at_call 53; fail)
 clear hW x0 x1 x2 x3
 refine hcc.mono ?_
 rintro e w1 ⟨ge,gb,gq,gt,ks,us,rfl,hcg,hb1⟩
 have hs1:=hb1.size
 have HSM:Hid (cb.Same qs ks ts us):=cb.same_of hcg
 have hal:=fl.bl w1 (.cells #[.slice (some ⟨ge,0,none⟩) es.length es.length,.slice (some ⟨gb,0,none⟩) bs.length bs.length,.slice (some ⟨gq,0,none⟩) qs.length qs.length,.slice (some ⟨gt,0,none⟩) ts.length ts.length] 39)
 have hB1:Below W.heap.size W (w1.alloc (.cells #[.slice (some ⟨ge,0,none⟩) es.length es.length,.slice (some ⟨gb,0,none⟩) bs.length bs.length,.slice (some ⟨gq,0,none⟩) qs.length qs.length,.slice (some ⟨gt,0,none⟩) ts.length ts.length] 39)):=hb1.trans (hal.mono hs1)
 have hca:Ca w1 (w.heap.size+2) es bs ks us ge gb gq gt:=by
  have h:=hcg.a
  exact ⟨h.he,h.hb,⟨h.hq.own,Nat.le_trans (by omega) h.hq.bg,fun r hr=>mine_lo (h.hq.ea r hr) (by omega),fun r hr=>mine_lo (h.hq.eb r hr) (by omega),h.hq.pw⟩,⟨h.ht.own,Nat.le_trans (by omega) h.ht.bg,fun r hr=>mine_lo (h.ht.ea r hr) (by omega),fun r hr=>mine_lo (h.ht.eb r hr) (by omega),h.ht.pw⟩,Nat.le_trans (by omega) h.be,Nat.le_trans (by omega) h.bb,h.eb⟩
 have HI0:Hid (Ie w es bs qs ts a0 b0 q0 t0 ec bc qc tc (w.heap.size+2) ge gb gq gt w1.heap.size us ks (w1.alloc (.cells #[.slice (some ⟨ge,0,none⟩) es.length es.length,.slice (some ⟨gb,0,none⟩) bs.length bs.length,.slice (some ⟨gq,0,none⟩) qs.length qs.length,.slice (some ⟨gt,0,none⟩) ts.length ts.length] 39))):=⟨hWb.trans (hB1.mono hWb.size),bstay HAB.out.2 hB1 (by omega),bnew w1 _ _,hca.on hal⟩
 have HAD:Hid (∀ r ∈ ks,∃ gr gh,r.ra=some ⟨gr,0,none⟩/\r.ha=some ⟨gh,0,none⟩):=fun r hr=>by
  obtain ⟨j,hj⟩:=List.mem_iff_getElem?.1 hr
  obtain ⟨g,h,h1,h2,_⟩:=hcg.hq.mine j r (by have:=(List.getElem?_eq_some_iff.1 hj).1; have:=hcg.hq.len; omega) hj
  exact ⟨g,h,h1,h2⟩
 have HFK:Hid (cb.Fit es bs ks us):=cb.fit_same HF.out (cb.same_of hcg)
 obtain ⟨Y,hY⟩:∃ Y,w1.alloc (.cells #[.slice (some ⟨ge,0,none⟩) es.length es.length,.slice (some ⟨gb,0,none⟩) bs.length bs.length,.slice (some ⟨gq,0,none⟩) qs.length qs.length,.slice (some ⟨gt,0,none⟩) ts.length ts.length] 39)=Y:=⟨_,rfl⟩
 rw [hY] at HI0 hB1
 have HBY:Hid (Below W.heap.size W Y):=hB1
 have b1:=bstay HAB.out.1 hB1 (by omega)
 obtain ⟨y0,y1,y2,y3⟩:=fl.q4 b1
 have hk2:=HOK.out Y HI0.out.bel
 clear hcc hcg hca hal hb1 b1 hB1
 go_wp2_with (go_at_call 13; fail)
 clear hY y0 y1 y2 y3
 refine hk2.mono ?_
 rintro e w2 ⟨rfl,hb2⟩
 have HI2:Hid (Ie w es bs qs ts a0 b0 q0 t0 ec bc qc tc (w.heap.size+2) ge gb gq gt w1.heap.size us ks w2):=HI0.out.on hb2
 obtain ⟨gn,hgn⟩:∃ gn,w1.heap.size=gn:=⟨_,rfl⟩
 rw [hgn] at HI2 ⊢
 obtain ⟨n0,n1,n2,n3⟩:=fl.q4 HI2.out.gnb
 clear hk2 HI0 hb2 hgn
 cases ok with
 | false =>
  obtain ⟨z0,z1,z2,z3⟩:=fl.q4 HI2.out.res
  obtain ⟨f0,f1,f2,f3⟩:=fl.r4 HI2.out.res
  have HFN:=Ie.fin HI2.out
  go_wp2
  exact bodyPost_ret (v:=.tuple #[.agg #[.slice (some ⟨ge,0,none⟩) es.length es.length,.slice (some ⟨gb,0,none⟩) bs.length bs.length,.slice (some ⟨gq,0,none⟩) qs.length qs.length,.slice (some ⟨gt,0,none⟩) ts.length ts.length],.int .i64 0]) (by simp [results,Tryz.results66,go_sem,z0,z1,z2,z3]) rfl ⟨ge,gb,gq,gt,ks,us,0,rfl,HFN.out.1,HSM.out.ql,HSM.out.tl,fun i r s hr hs=>HSM.out.q i r s hr hs,HSM.out.t,rfl,HFN.out.2⟩
 | true =>
  have hq20:=hql rfl
  have hkl:=HSM.out.ql
  have HNK:Hid (∀ s ∈ ks,0 <= fN s.nm s.nx s.rs s.hs/\fN s.nm s.nx s.rs s.hs <= 1048576):=fun s hs=>by
   obtain ⟨i,hi⟩:=List.mem_iff_getElem?.1 hs
   obtain ⟨x,hx,e1,e2,e3,e4⟩:=HSM.out.flip.q_at hi
   have:=HN.out x (List.mem_iff_getElem?.2 ⟨i,hx⟩)
   rwa [e1,e2,e3,e4] at this
  have HKL:Hid (ks.length=qs.length):=hkl
  clear hkl
  go_wp2
  go_loopw [21,7] (fun x y wr=>∃ (k:Nat) (d q:List qu.E),k <= qs.length/\x=.int .i64 k/\y=.int .i64 (sumN fN (ks.take k))/\Hid (Dq fR fH ks d q k)/\Hid (Ie w es bs qs ts a0 b0 q0 t0 ec bc qc tc (w.heap.size+2) ge gb gq gt gn us (d++q) wr)) (fun x _ _=>qs.length - (intOf x).toNat)
  case atStart=>exact ⟨0,[],ks,Nat.zero_le _,rfl,rfl,⟨rfl,rfl,fun i r s hr=>by simp at hr⟩,HI2⟩
  case round =>
   obtain ⟨k,d,q,hk,rfl,rfl,hdq,hinv⟩:=hrel
   clear HI2 n0 n1 n2 n3
   have HSB:Hid (0 <= sumN fN (ks.take k)/\sumN fN (ks.take k) <= 20971520):=by
    have h1:=sum_le fN (ks.take k) (fun s hs=>HNK.out s (List.mem_of_mem_take hs))
    have h2:(ks.take k).length <= 20:=by have:=HKL.out; simp; omega
    show _/\_
    omega
   obtain ⟨sm,hsm⟩:∃ sm,sumN fN (ks.take k)=sm:=⟨_,rfl⟩
   have HSS:Hid (sumN fN (ks.take k)=sm):=hsm
   rw [hsm] at HSB ⊢
   have hsb:=HSB.out
   clear hsm
   match q,hdq,hinv with
   | [],hdq,hinv =>
    have hk2:k=qs.length:=by have h1:=congrArg List.length hdq.out.ql; simp at h1; have:=HKL.out; omega
    subst hk2
    have HI3:Hid (Ie w es bs qs ts a0 b0 q0 t0 ec bc qc tc (w.heap.size+2) ge gb gq gt gn us d wr):=by have:=hinv.out; rw [List.append_nil] at this; exact this
    obtain ⟨n0,n1,n2,n3⟩:=fl.q4 HI3.out.gnb
    obtain ⟨z0,z1,z2,z3⟩:=fl.q4 HI3.out.res
    obtain ⟨f0,f1,f2,f3⟩:=fl.r4 HI3.out.res
    have HFN:=Ie.fin HI3.out
    have HQS:Hid (∀ (i:Nat) (r s:qu.E),d[i]?=some r->qs[i]?=some s->Is fR fH s r):=fun i r s hr hs=>by
     obtain ⟨x,hx,e1,e2,e3,e4⟩:=HSM.out.q_at hs
     have:=hdq.out.is i r x hr hx
     unfold Is at this ⊢
     rwa [e1,e2,e3,e4] at this
    have HSQ:Hid (sm=sumN fN qs):=by have h1:=HSS.out; rw [show qs.length=ks.length from HKL.out.symm,List.take_length] at h1; rw [<- h1]; exact sum_same HSM.out
    have hdl:=hdq.out.dl
    clear hinv hdq HSS
    go_wp2
    exact bodyPost_ret (v:=.tuple #[.agg #[.slice (some ⟨ge,0,none⟩) es.length es.length,.slice (some ⟨gb,0,none⟩) bs.length bs.length,.slice (some ⟨gq,0,none⟩) qs.length qs.length,.slice (some ⟨gt,0,none⟩) ts.length ts.length],.int .i64 sm]) (by simp [results,Tryz.results66,go_sem,z0,z1,z2,z3]) rfl ⟨ge,gb,gq,gt,d,us,sm,rfl,HFN.out.1,hdl,HSM.out.tl,fun i r s hr hs=>HQS.out i r s hr hs,HSM.out.t,HSQ.out,HFN.out.2⟩
   | r :: q,hdq,hinv =>
    have hmem:r ∈ ks/\k < ks.length:=⟨(hdq.out.more (r':=⟨r.nm,r.nx,none,0,_,none,0,_⟩) ⟨rfl,rfl,rfl,rfl⟩).2.2.2,(hdq.out.more (r':=⟨r.nm,r.nx,none,0,_,none,0,_⟩) ⟨rfl,rfl,rfl,rfl⟩).2.2.1⟩
    have hkl:k < qs.length:=by have:=HKL.out; omega
    have i2:(k:Int) < (qs.length:Int):=by omega
    obtain ⟨gr,gh,h1,h2⟩:=HAD.out r hmem.1
    have hnb:=HNK.out r hmem.1
    have f:=HFK.out.qf r hmem.1
    have HTK:Hid (∀ r',Is fR fH r r'->Dq fR fH ks (d++[r']) q (k+1)/\ks.take (k+1)=ks.take k++[r]):=fun r' hr=>⟨(hdq.out.more hr).1,(hdq.out.more hr).2.1⟩
    obtain ⟨nm,nx,ra,rc,rs,ha,hc,hs⟩:=r
    simp only at h1 h2 hnb f
    subst h1 h2
    have hdl:=hdq.out.dl
    have cs:=hinv.out.ca.hq.cells k hdl
    have c0:wr.cell? ⟨gq,k*4,none⟩=some (.string nm):=cs 0 _ rfl
    have c1:wr.cell? ⟨gq,k*4+1,none⟩=some (.int .i64 nx):=cs 1 _ rfl
    have c2:wr.cell? ⟨gq,k*4+2,none⟩=some (.slice (some ⟨gr,0,none⟩) rs.length rc):=cs 2 _ rfl
    have c3:wr.cell? ⟨gq,k*4+3,none⟩=some (.slice (some ⟨gh,0,none⟩) hs.length hc):=cs 3 _ rfl
    have hst:=fl.bl wr (.cells #[.string nm,.int .i64 nx,.slice (some ⟨gr,0,none⟩) rs.length rc,.slice (some ⟨gh,0,none⟩) hs.length hc] 68)
    have HIX:Hid (Ie w es bs qs ts a0 b0 q0 t0 ec bc qc tc (w.heap.size+2) ge gb gq gt gn us (d++⟨nm,nx,some ⟨gr,0,none⟩,rc,rs,some ⟨gh,0,none⟩,hc,hs⟩ :: q) (wr.alloc (.cells #[.string nm,.int .i64 nx,.slice (some ⟨gr,0,none⟩) rs.length rc,.slice (some ⟨gh,0,none⟩) hs.length hc] 68))):=hinv.out.on hst
    have hcf:=HFF.out nm nx rs hs gr gh rc hc _ HIX.out.bel f (HIX.out.ca.hq.ea _ qu.mid_in).row (HIX.out.ca.hq.eb _ qu.mid_in).row
    have HDL:Hid (d.length=k):=hdl
    clear cs hst hinv hdq f hdl
    go_wp2_with (go_at_call 71; fail)
    refine hcf.mono ?_
    rintro e w3 ⟨g,ce,h,ao,cb,rfl,hg,hh,hgh,hhl,oA,oH,hb3⟩
    have hs3:=hb3.size
    simp only [World.size_alloc] at hg hh
    have HI3:=HIX.out.on hb3
    have hal3:=fl.bl w3 (.cells #[.string nm,.int .i64 nx,.slice (some ⟨g,0,none⟩) (fR nm nx rs hs).length ce,.slice ao (fH nm nx rs hs).length cb] 68)
    have HI4:=HI3.on hal3
    have hwB:w.heap.size+2 <= wr.heap.size:=Nat.le_trans HI3.ca.be (by have h1:=HIX.out.ca.he.lt; simp only [World.size_alloc] at h1; omega)
    have hmA:fo.Mine flM.c 5 48 (w3.alloc (.cells #[.string nm,.int .i64 nx,.slice (some ⟨g,0,none⟩) (fR nm nx rs hs).length ce,.slice ao (fH nm nx rs hs).length cb] 68)) (w.heap.size+2) (some ⟨g,0,none⟩) (fR nm nx rs hs):=.inr ⟨g,0,rfl,by omega,oA.below hal3 oA.lt⟩
    have hmH:fo.Mine flH.c 7 102 (w3.alloc (.cells #[.string nm,.int .i64 nx,.slice (some ⟨g,0,none⟩) (fR nm nx rs hs).length ce,.slice ao (fH nm nx rs hs).length cb] 68)) (w.heap.size+2) ao (fH nm nx rs hs):=mine_ho (oH.below hal3) (by omega)
    have HPUT:=Ie.put (r':=⟨nm,nx,some ⟨g,0,none⟩,ce,fR nm nx rs hs,ao,cb,fH nm nx rs hs⟩) HDL.out (by omega) HIX.out HI4 hmA hmH (fun x hx=>by
     simp only [World.size_alloc]
     rcases hx with hx | hx
     ·obtain ⟨_,g',o',e1,rfl⟩:=hx
      cases e1
      exact hg
     ·rw [blk_ho oH hx]; exact hh)
    obtain ⟨hdn,htk⟩:=HTK.out ⟨nm,nx,some ⟨g,0,none⟩,ce,fR nm nx rs hs,ao,cb,fH nm nx rs hs⟩ ⟨rfl,rfl,rfl,rfl⟩
    have HDN:Hid (Dq fR fH ks (d++[⟨nm,nx,some ⟨g,0,none⟩,ce,fR nm nx rs hs,ao,cb,fH nm nx rs hs⟩]) q (k+1)):=hdn
    have HSN:Hid (sumN fN (ks.take (k+1))=sm+fN nm nx rs hs):=by show _=_; rw [htk,sum_snoc,HSS.out]
    obtain ⟨L,hL⟩:∃ L,fR nm nx rs hs=L:=⟨_,rfl⟩
    obtain ⟨H,hH⟩:∃ H,fH nm nx rs hs=H:=⟨_,rfl⟩
    obtain ⟨N,hN'⟩:∃ N,fN nm nx rs hs=N:=⟨_,rfl⟩
    rw [hL,hH] at HPUT HDN HI4 hal3
    rw [hN'] at hnb HSN
    rw [hL,hH,hN']
    have HP:Hid (Ie w es bs qs ts a0 b0 q0 t0 ec bc qc tc (w.heap.size+2) ge gb gq gt gn us (d++⟨nm,nx,some ⟨g,0,none⟩,ce,L,ao,cb,H⟩ :: q) _):=HPUT
    have bx:=bnew w3 #[.string nm,.int .i64 nx,.slice (some ⟨g,0,none⟩) L.length ce,.slice ao H.length cb] 68
    have n2:(w3.alloc (.cells #[.string nm,.int .i64 nx,.slice (some ⟨g,0,none⟩) L.length ce,.slice ao H.length cb] 68)).cell? ⟨gn,2,none⟩=some (.slice (some ⟨gq,0,none⟩) qs.length qs.length):=bcell HI4.gnb rfl
    have hlen:(d++(⟨nm,nx,some ⟨gr,0,none⟩,rc,rs,some ⟨gh,0,none⟩,hc,hs⟩:qu.E) :: q).length=k+1+q.length:=by simp; have:=HDL.out; omega
    obtain ⟨v0,g0⟩:=HI4.ca.hq.own.at (k*4) (by rw [hlen]; omega)
    obtain ⟨v1,g1⟩:=HI4.ca.hq.own.at (k*4+1) (by rw [hlen]; omega)
    obtain ⟨v2,g2⟩:=HI4.ca.hq.own.at (k*4+2) (by rw [hlen]; omega)
    obtain ⟨v3,g3⟩:=HI4.ca.hq.own.at (k*4+3) (by rw [hlen]; omega)
    have u0:=HI4.ca.hq.own.free (k*4)
    have u1:=HI4.ca.hq.own.free (k*4+1)
    have u2:=HI4.ca.hq.own.free (k*4+2)
    have u3:=HI4.ca.hq.own.free (k*4+3)
    obtain ⟨y0,y1,y2,y3⟩:=fl.q4 bx
    have hne:w3.heap.size ≠ gq:=by have h1:=HI3.ca.hq.own.lt; omega
    clear hcf HPUT HI3 HI4 hmA hmH oA oH hdn htk hal3 bx hL hH hN' c0 c1 c2 c3 HIX hlen
    go_wp2
    go_roundw
    case rel=>exact ⟨k+1,_,_,by omega,by go_num,by rw [HSN.out],HDN,by rw [List.append_assoc]; exact HP⟩
    case measure=>simp [intOf]; omega
end Go.Proofs.YteoojodkkjepeaaGreat.ean
namespace Go.Proofs.YteoojodkkjepeaaGreat.qbk
open ChangeShapes WideShapes ChangeAt RowKit fl qsp qdp
def again (h:flH.Hd):flM.Ms:=⟨h.m.q,h.m.x,h.m.k,h.m.b,true⟩
def at_ (l:List flM.Ms) (q:Int):Nat:=(l.takeWhile fun e=>decide (e.q < q)).length
def back (l:List flM.Ms) (m:flM.Ms):List flM.Ms:=l.take (at_ l m.q)++[m]++l.drop (at_ l m.q)
def backs (l:List flM.Ms) (hs:List flH.Hd):List flM.Ms:=hs.foldl (fun l h=>back l (again h)) l
theorem at_le (l:List flM.Ms) (q:Int):at_ l q <= l.length:=by unfold at_; exact (List.takeWhile_sublist _).length_le
theorem back_len (l:List flM.Ms) (m:flM.Ms):(back l m).length=l.length+1:=by
 have:=at_le l m.q
 simp [back]
 omega
theorem back_perm (l:List flM.Ms) (m:flM.Ms):(back l m).Perm (l++[m]):=by
 unfold back
 rw [List.append_assoc]
 refine (List.Perm.append_left _ List.perm_append_comm).trans ?_
 rw [<- List.append_assoc,List.take_append_drop]
theorem backs_snoc (l:List flM.Ms) (hs:List flH.Hd) (h:flH.Hd):backs l (hs++[h])=back (backs l hs) (again h):=by unfold backs; rw [List.foldl_append]; rfl
theorem backs_perm (l:List flM.Ms) (hs:List flH.Hd):(backs l hs).Perm (l++hs.map again):=by
 induction hs generalizing l with
 | nil=>simp [backs]
 | cons h t ih =>
  have e:backs l (h :: t)=backs (back l (again h)) t:=rfl
  rw [e]
  refine (ih _).trans ?_
  have e2:l++(h :: t).map again=(l++[again h])++t.map again:=by simp
  rw [e2]
  exact (back_perm l (again h)).append_right _
theorem backs_len (l:List flM.Ms) (hs:List flH.Hd):(backs l hs).length=l.length+hs.length:=by rw [(backs_perm l hs).length_eq]; simp
theorem at_lt {l:List flM.Ms} {q:Int} {k:Nat} (hk:k < at_ l q):∃ e,l[k]?=some e/\e.q < q:=by
 induction l generalizing k with
 | nil=>simp [at_] at hk
 | cons a l ih =>
  by_cases ha:a.q < q
  ·cases k with
   | zero=>exact ⟨a,rfl,ha⟩
   | succ k =>
    have:at_ (a :: l) q=at_ l q+1:=by simp [at_,ha]
    obtain ⟨e,h1,h2⟩:=ih (k:=k) (by omega)
    exact ⟨e,by simpa using h1,h2⟩
  ·have:at_ (a :: l) q=0:=by simp [at_,ha]
   omega
theorem at_not {l:List flM.Ms} {q:Int} {e:flM.Ms} (he:l[at_ l q]?=some e):¬ e.q < q:=by
 induction l with
 | nil=>simp at he
 | cons a l ih =>
  by_cases ha:a.q < q
  ·have h1:at_ (a :: l) q=at_ l q+1:=by simp [at_,ha]
   rw [h1] at he
   exact ih (by simpa using he)
  ·have h1:at_ (a :: l) q=0:=by simp [at_,ha]
   rw [h1] at he
   simp at he
   subst he
   exact ha
theorem at_of {l:List flM.Ms} {q:Int} {k:Nat} (h1:∀ i e,i < k->l[i]?=some e->e.q < q) (h2:∀ e,l[k]?=some e->¬ e.q < q) (hk:k <= l.length):at_ l q=k:=by
 rcases Nat.lt_trichotomy (at_ l q) k with h | h | h
 ·have hlt:at_ l q < l.length:=by omega
  exact absurd (h1 _ _ h (List.getElem?_eq_getElem hlt)) (at_not (List.getElem?_eq_getElem hlt))
 ·exact h
 ·obtain ⟨e,h3,h4⟩:=at_lt h
  exact absurd h4 (h2 e h3)
def Up (l:List flM.Ms):Prop:=l.Pairwise fun a b=>a.q < b.q
theorem back_up {l:List flM.Ms} {m:flM.Ms} (hl:Up l) (hm:∀ e ∈ l,e.q ≠ m.q):Up (back l m):=by
 have hsplit:l.take (at_ l m.q)++l.drop (at_ l m.q)=l:=List.take_append_drop _ _
 have hl2:=hl
 unfold Up at hl2
 rw [<- hsplit,List.pairwise_append] at hl2
 obtain ⟨ha,hb,hab⟩:=hl2
 have h1:∀ e ∈ l.take (at_ l m.q),e.q < m.q:=fun e he=>by
  obtain ⟨i,hi⟩:=List.mem_iff_getElem?.1 he
  have hlt:=(List.getElem?_eq_some_iff.1 hi).1
  rw [List.length_take] at hlt
  obtain ⟨e',h3,h4⟩:=at_lt (l:=l) (q:=m.q) (k:=i) (by omega)
  rw [List.getElem?_take_of_lt (by omega),h3] at hi
  cases hi
  exact h4
 have h2:∀ e ∈ l.drop (at_ l m.q),m.q < e.q:=fun e he=>by
  have hge:¬ e.q < m.q:=by
   cases hd:l.drop (at_ l m.q) with
   | nil=>rw [hd] at he; cases he
   | cons f t =>
    have hf:l[at_ l m.q]?=some f:=by
     have:=congrArg (fun x=>x[0]?) hd
     simpa using this
    have hfn:=at_not hf
    rw [hd] at he
    rcases List.mem_cons.1 he with rfl | he
    ·exact hfn
    ·rw [hd] at hb
     have:=(List.pairwise_cons.1 hb).1 e he
     omega
  have:=hm e (List.mem_of_mem_drop he)
  omega
 unfold Up back
 rw [List.append_assoc,List.pairwise_append]
 refine ⟨ha,List.pairwise_append.2 ⟨List.pairwise_singleton _ _,hb,fun a ha b hb=>by rw [List.mem_singleton] at ha; subst ha; exact h2 b hb⟩,fun a ha b hb=>?_⟩
 rcases List.mem_append.1 hb with hb | hb
 ·rw [List.mem_singleton] at hb; subst hb; exact h1 a ha
 ·exact hab a ha b hb
theorem backs_up {l:List flM.Ms} {hs:List flH.Hd} (hl:Up l) (hd:∀ h ∈ hs,∀ e ∈ l,e.q ≠ h.m.q) (hp:hs.Pairwise fun a b=>a.m.q ≠ b.m.q):Up (backs l hs):=by
 induction hs generalizing l with
 | nil=>exact hl
 | cons h t ih =>
  obtain ⟨hp1,hp2⟩:=List.pairwise_cons.1 hp
  have e:backs l (h :: t)=backs (back l (again h)) t:=rfl
  rw [e]
  refine ih (back_up hl (fun e he=>hd h (List.mem_cons_self ..) e he)) (fun h' hh' e he=>?_) hp2
  rcases List.mem_append.1 ((back_perm l (again h)).mem_iff.1 he) with he | he
  ·exact hd h' (List.mem_cons_of_mem _ hh') e he
  ·rw [List.mem_singleton] at he
   subst he
   exact hp1 h' hh'
theorem up_of {l:List flM.Ms} (ha:∀ (i:Nat) (a c:flM.Ms),l[i]?=some a->l[i+1]?=some c->a.q < c.q):Up l:=List.pairwise_iff_getElem.2 fun i j hi hj hij=>by
 have:=qop.asc_lt ha (j - i - 1) i l[i] l[j] (List.getElem?_eq_getElem hi) (by rw [show i+(j - i - 1)+1=j by omega]; exact List.getElem?_eq_getElem hj)
 exact this
theorem of_up {l:List flM.Ms} (h:Up l):∀ (i:Nat) (a c:flM.Ms),l[i]?=some a->l[i+1]?=some c->a.q < c.q:=fun i a c ha hc=>by
 have h1:=(List.getElem?_eq_some_iff.1 ha)
 have h2:=(List.getElem?_eq_some_iff.1 hc)
 obtain ⟨h3,rfl⟩:=h1
 obtain ⟨h4,rfl⟩:=h2
 exact List.pairwise_iff_getElem.1 h i (i+1) h3 h4 (Nat.lt_succ_self i)
theorem ok_up {nm:ByteArray} {nx:Int} {es:List flM.Ms} {ms:List flH.Hd} (hok:qk.OkQ nm nx es ms) (o t:Int) (a:Bool):Up (backs es (gone o t a ms)):=by
 refine backs_up (up_of hok.ru) (fun h hh e he=>?_) ?_
 ·obtain ⟨i,hi⟩:=List.mem_iff_getElem?.1 (List.mem_filter.1 hh).1
  obtain ⟨k,hk⟩:=List.mem_iff_getElem?.1 he
  exact hok.d1 i k e h hk hi
 ·refine List.Pairwise.sublist List.filter_sublist ?_
  exact List.pairwise_iff_getElem.2 fun i j hi hj hij=>hok.d2 j i _ _ hij (List.getElem?_eq_getElem hi) (List.getElem?_eq_getElem hj)
noncomputable def ansR (nm:ByteArray) (nx:Int) (rs:List flM.Ms) (hs:List flH.Hd) (o t:Int) (a:Bool):List flM.Ms:=if okB nm nx rs hs=true then backs rs (gone o t a hs) else rs
theorem ansR_le (nm:ByteArray) (nx:Int) (rs:List flM.Ms) (hs:List flH.Hd) (o t:Int) (a:Bool):(ansR nm nx rs hs o t a).length <= rs.length ∨ (ansR nm nx rs hs o t a).length <= 500:=by
 unfold ansR
 split
 ·rename_i hob
  have hl:=(okB_true.1 hob).ln
  have:=gone_le o t a hs
  rw [backs_len]
  omega
 ·omega
end Go.Proofs.YteoojodkkjepeaaGreat.qbk
