/- QRetSpecM, NackWalksC. -/
import Derived.Test.YteoojodkkjepeaaGreatKn37
import Derived.Test.YteoojodkkjepeaaGreatKn43
import Derived.Test.YteoojodkkjepeaaGreatKn35
import Derived.Test.YteoojodkkjepeaaGreatKn38
import Derived.Test.YteoojodkkjepeaaGreatKn39
import Derived.Test.YteoojodkkjepeaaGreatKn44
set_option maxRecDepth 100000
set_option maxHeartbeats 8000000
set_option linter.unusedVariables false
namespace Go.Proofs.YteoojodkkjepeaaGreat.qrm
open ChangeShapes WideShapes ChangeAt RowKit fl qsp qdp qds qbk qrs qdm
theorem spec_retM (sn:ByteArray)(nx:Int)(es:List flM.Ms)(ms:List flH.Hd)(g h cg ch:Nat)(o t:Int)(a:Bool)(w:World)(F:Fit sn es ms)(hY:Row flM.c 5 w w.heap.size (some ⟨g,0,none⟩) es)(hE:Row flH.c 7 w w.heap.size (some ⟨h,0,none⟩) ms) :
  Calls Tryz.prog 69 #[.agg #[.string sn,.int .i64 nx,.slice (some ⟨g,0,none⟩) es.length cg,.slice (some ⟨h,0,none⟩) ms.length ch],.int .i64 o,.int .i64 t,.bool a] w fun e w'=>∃ sa ce sb cb,e=.returned (.tuple #[.agg #[.string sn,.int .i64 nx,.slice sa (ansR sn nx es ms o t a).length ce,.slice sb (ansH sn nx es ms o t a).length cb],.int .i64 (ansC sn nx es ms o t a)])/\fo.Mine flM.c 5 48 w' w.heap.size sa (ansR sn nx es ms o t a)/\fo.Mine flH.c 7 102 w' w.heap.size sb (ansH sn nx es ms o t a)/\Below w.heap.size w w':=by
 have hWb:Below w.heap.size w ((w.alloc (.cells #[.string sn,.int .i64 nx,.slice (some ⟨g,0,none⟩) es.length cg,.slice (some ⟨h,0,none⟩) ms.length ch] 68)).alloc (.cells #[.string ⟨#[]⟩,.int .i64 0,.slice none 0 0,.slice none 0 0] 68)):=((Below.refl _ _).alloc (Nat.le_refl _) _).alloc (by simp) _
 have hcopy:=spec_copy sn nx es ms g h cg ch ((w.alloc (.cells #[.string sn,.int .i64 nx,.slice (some ⟨g,0,none⟩) es.length cg,.slice (some ⟨h,0,none⟩) ms.length ch] 68)).alloc (.cells #[.string ⟨#[]⟩,.int .i64 0,.slice none 0 0,.slice none 0 0] 68)) F (hY.inn hWb) (hE.inn hWb)
 have HF:Hid (Fit sn es ms):=F
 have HY:Hid (Row flM.c 5 w w.heap.size (some ⟨g,0,none⟩) es):=hY
 have HE:Hid (Row flH.c 7 w w.heap.size (some ⟨h,0,none⟩) ms):=hE
 have HAH:Hid (ansH sn nx es ms o t a=if okB sn nx es ms=true then left o t a ms else ms):=rfl
 have HAR:Hid (ansR sn nx es ms o t a=if okB sn nx es ms=true then backs es (gone o t a ms) else es):=rfl
 have HAC:Hid (ansC sn nx es ms o t a=if okB sn nx es ms=true then ((gone o t a ms).length:Int) else 0):=rfl
 obtain⟨AH,hAH⟩:∃ AH,ansH sn nx es ms o t a=AH:=⟨_,rfl⟩
 obtain⟨AC,hAC⟩:∃ AC,ansC sn nx es ms o t a=AC:=⟨_,rfl⟩
 obtain⟨AR,hAR⟩:∃ AR,ansR sn nx es ms o t a=AR:=⟨_,rfl⟩
 rw [hAR] at HAR
 rw [hAH] at HAH
 rw [hAC] at HAC
 simp only [hAH,hAC,hAR]
 clear hY hE F hAH hAC hAR
 go_enter Tryz.func69,Tryz.ntmps69
 go_wp2_with (go_at_call 115;fail)
 refine hcopy.mono ?_
 rintro e w1 ⟨g1,c1,h1,c2,rfl,oe1,om1,_,hb1⟩
 have hs:=first_out sn nx es ms g h cg ch w w1 g1 c1 h1 c2 hb1 oe1 om1
 obtain⟨X,hX⟩:∃ X,w1.alloc (.cells #[.string sn,.int .i64 nx,.slice (some ⟨g1,0,none⟩) es.length c1,.slice (some ⟨h1,0,none⟩) ms.length c2] 68)=X:=⟨_,rfl⟩
 rw [hX] at hs
 have HSP:Hid (SP w sn nx es ms g h cg ch w1.heap.size nx g1 c1 h1 c2 es X):=hs
 obtain⟨x0,x2,x3,x4⟩:=fl.q4 hs.box
 have hok:=spec_okb sn nx es ms g h cg ch X HF.out (HY.out.inn hs.bel) (HE.out.inn hs.bel)
 clear hcopy oe1 om1 hb1 hWb hs
 cases hob:okB sn nx es ms with
 | false =>
  rw [hob] at hok HAH HAC HAR
  obtain rfl:ms=AH:=HAH.out.symm
  obtain rfl:es=AR:=HAR.out.symm
  obtain rfl:(0:Int)=AC:=HAC.out.symm
  go_wp2_with (go_at_call 33;fail)
  clear hX
  refine hok.mono ?_
  rintro e w2 ⟨rfl,hb2⟩
  have hs:=HSP.out.on hb2
  have HS2:Hid (SP w sn nx es ms g h cg ch w1.heap.size nx g1 c1 h1 c2 es w2):=hs
  obtain⟨n0,n2,n3,n4⟩:=fl.q4 hs.out
  obtain⟨z0,z2,z3,z4⟩:=fl.q4 hs.res
  obtain⟨z0f,z2f,z3f,z4f⟩:=fl.r4 hs.res
  clear hok hs HSP x0 x2 x3 x4
  go_wp2
  refine bodyPost_ret (v:=.tuple #[.agg #[.string sn,.int .i64 nx,.slice (some ⟨g1,0,none⟩) es.length c1,.slice (some ⟨h1,0,none⟩) ms.length c2],.int .i64 0]) (by simp [results,Tryz.results69,go_sem,z0,z2,z3,z4]) rfl ⟨_,_,_,_,rfl,?_,?_,?_⟩
  ·exact fin_mine flM.c_len HS2.out.oe
  ·exact fin_mine flH.c_len HS2.out.om
  ·exact fin_below HS2.out.bel (Nat.le_succ _)
 | true =>
  rw [hob] at hok HAH HAC HAR
  go_wp2_with (go_at_call 33;fail)
  clear hX
  refine hok.mono ?_
  rintro e w2 ⟨rfl,hb2⟩
  have hs:=HSP.out.on hb2
  have HS2:Hid (SP w sn nx es ms g h cg ch w1.heap.size nx g1 c1 h1 c2 es w2):=hs
  clear x0 x2 x3 x4
  obtain⟨x0,x2,x3,x4⟩:=fl.q4 hs.box
  have htk:=spec_take sn nx (some ⟨g,0,none⟩) es.length cg ms h ch o t a w2 HF.out.ml (HE.out.inn hs.bel)
  have hw1:w1.heap.size<w2.heap.size:=(Array.getElem?_eq_some_iff.1 hs.out).1
  have h8:=hs.h8
  clear hok hs HSP
  go_wp2_with (go_at_call 146;fail)
  refine htk.mono ?_
  rintro e w3 ⟨v,u,rfl,hk⟩
  obtain⟨GL,hGL⟩:∃ GL,gone o t a ms=GL:=⟨_,rfl⟩
  obtain⟨LL,hLL⟩:∃ LL,left o t a ms=LL:=⟨_,rfl⟩
  have HAH2:Hid (AH=left o t a ms):=HAH.out
  have HAC2:Hid (AC=((gone o t a ms).length:Int)):=HAC.out
  rw [hLL] at hk HAH2
  rw [hGL] at hk HAC2
  obtain rfl:AH=LL:=HAH2.out
  obtain rfl:AC=(GL.length:Int):=HAC2.out
  have HAR2:Hid (AR=backs es (gone o t a ms)):=HAR.out
  rw [hGL] at HAR2
  have HGLE:Hid (GL.length <= ms.length):=by show GL.length <= ms.length;rw [<- hGL];exact gone_le o t a ms
  have hln:=(okB_true.1 hob).ln
  obtain⟨vb,vc,rfl⟩:=hk.av.form
  obtain⟨ub,uc,rfl⟩:=hk.au.form
  have hs:=HS2.out.on hk.bel
  have hne1:w1.heap.size≠w.heap.size+1:=by omega
  have hne2:w.heap.size+1≠w1.heap.size:=by omega
  have n4:w3.cell? ⟨w1.heap.size,3,none⟩=some (.slice (some ⟨h1,0,none⟩) ms.length c2):=bcell hs.out rfl
  have n4f:=bfree hs.out 3
  have hgne:g1≠w1.heap.size:=owns_ne (by decide) hs.oe hs.out
  have HR0:Hid (RT w sn nx w1.heap.size w2.heap.size g1 c1 (backs es (GL.take 0)) vb ub vc uc GL AH (w3.setCell ⟨w1.heap.size,3,none⟩ (.slice ub AH.length uc))):=⟨hs.bel.setCell (by show w.heap.size <= w1.heap.size;omega) _,boff hs.res _ _ _ hne2,bset hs.out 3 _,owns_set hs.oe hgne _,all_set hk.av hw1,all_set hk.au hw1,h8,hw1,by simpa using hk.lo⟩
  clear htk hk hs x0 x2 x3 x4 hGL hLL HAH HAC HAR HAH2 HAC2 HS2
  go_wp2
  go_loopw [13] (fun v wr=>∃ k:Nat,k <= GL.length/\v=.int .i64 k/\∃ g3 c3,Hid (RT w sn nx w1.heap.size w2.heap.size g3 c3 (backs es (GL.take k)) vb ub vc uc GL AH wr)) (fun v _=>GL.length - (intOf v).toNat)
  case atStart=>exact⟨0,Nat.zero_le _,rfl,_,_,HR0⟩
  case round =>
   obtain⟨k,hk,rfl,g3,c3,hR⟩:=hrel
   clear HR0 n4 n4f
   have hlL:Hid ((backs es (GL.take k)).length=es.length+k):=by show (backs es (GL.take k)).length=es.length+k;rw [backs_len,List.length_take,Nat.min_eq_left hk]
   have hSz:=hR.out.hS
   have hgl:=HGLE.out
   by_cases hkl:k<GL.length
   ·have i2:(k:Int)<(GL.length:Int):=by omega
    have HG:Hid (GL[k]?=some GL[k]):=List.getElem?_eq_getElem hkl
    obtain⟨⟨ht,ho,⟨q,x,y,z,ag⟩⟩,he⟩:∃ e,GL[k]=e:=⟨_,rfl⟩
    rw [he] at HG
    obtain⟨b0,rfl⟩:=all_some hR.out.av HG.out
    obtain⟨k2,k3,k4,k5,k6⟩:=cells7 hR.out.av.row HG.out
    have HBT:Hid (backs es (GL.take (k+1))=back (backs es (GL.take k)) ⟨q,x,y,z,true⟩):=backs_take HG.out
    obtain⟨LK,hLK⟩:∃ LK,backs es (GL.take k)=LK:=⟨_,rfl⟩
    rw [hLK] at hR hlL HBT
    have hst:=fl.bl wr (.cells #[.int .i64 q,.string x,.string y,.string z,.bool true] 48)
    have hbk:=qbs.spec_back LK g3 c3 ⟨q,x,y,z,true⟩ _ (by have:=hlL.out;omega) hR.out.cap ((row_owns flM.c_len hR.out.oe).inn hst)
    have HRW:Hid (RT w sn nx w1.heap.size w2.heap.size g3 c3 LK (some ⟨b0,0,none⟩) ub vc uc GL AH (wr.alloc (.cells #[.int .i64 q,.string x,.string y,.string z,.bool true] 48))):=hR.out.on hst
    have o2:wr.cell? ⟨w1.heap.size,2,none⟩=some (.slice (some ⟨g3,0,none⟩) LK.length c3):=bcell hR.out.out rfl
    have hw18:w1.heap.size<wr.heap.size:=by omega
    have hne5:w1.heap.size≠wr.heap.size:=by omega
    have hne6:wr.heap.size≠w1.heap.size:=by omega
    have hBB:b0<wr.heap.size:=by
     rcases hR.out.av with⟨h1,_⟩ | ⟨g9,cap9,h1,ho9⟩
     ·rw [h1] at hkl;simp at hkl
     ·have:=(Value.slice.inj h1).1
      cases this
      exact(ho9.lt _ rfl).2
    clear he hLK hst
    go_wp2_with (go_at_call 73;fail)
    refine hbk.mono ?_
    rintro e w4 ⟨g4,c4,rfl,how,hb4⟩
    have hR4:=HRW.out.on hb4
    have o3:w4.cell? ⟨w1.heap.size,2,none⟩=some (.slice (some ⟨g3,0,none⟩) LK.length c3):=bcell hR4.out rfl
    have o3f:=bfree hR4.out 2
    have hRN:=hR4.put how HRW.out.hS
    rw [<- HBT.out] at hRN
    have HRN:Hid (RT w sn nx w1.heap.size w2.heap.size g4 c4 (backs es (GL.take (k+1))) (some ⟨b0,0,none⟩) ub vc uc GL AH (w4.setCell ⟨w1.heap.size,2,none⟩ (.slice (some ⟨g4,0,none⟩) (backs es (GL.take (k+1))).length c4))):=hRN
    rw [<- HBT.out]
    clear hbk how hR4 hRN o2 k2 k3 k4 k5 k6 HRW hR
    go_wp2
    go_roundw
    case rel=>exact⟨k+1,by omega,by go_num,_,_,HRN⟩
    case measure=>simp [intOf];omega
   ·obtain rfl:k=GL.length:=by omega
    rw [List.take_length] at hR hlL
    rw [<- HAR2.out] at hR
    obtain⟨n0,n2,n3,n4⟩:=fl.q4 hR.out.out
    obtain⟨z0,z2,z3,z4⟩:=fl.q4 hR.out.res
    obtain⟨z0f,z2f,z3f,z4f⟩:=fl.r4 hR.out.res
    clear hlL HAR2
    go_wp2
    refine bodyPost_ret (v:=.tuple #[.agg #[.string sn,.int .i64 nx,.slice (some ⟨g3,0,none⟩) AR.length c3,.slice ub AH.length uc],.int .i64 GL.length]) (by simp [results,Tryz.results69,go_sem,z0,z2,z3,z4]) rfl ⟨_,_,_,_,rfl,?_,?_,?_⟩
    ·exact fin_mine flM.c_len hR.out.oe
    ·exact fin_allM (B:=w2.heap.size) hR.out.au (by omega) (by omega)
    ·exact fin_below hR.out.bel (Nat.le_succ _)
end Go.Proofs.YteoojodkkjepeaaGreat.qrm
namespace Go.Proofs.YteoojodkkjepeaaGreat.nkc
open ChangeShapes WideShapes ChangeAt RowKit rr ra rt fl co eb cn cb
open nkw (ackN parts ok_impl ok_spec ac_le okl ia_turn sa_turn done_congr same_trans)
noncomputable def ackQ (es:List Ex)(bs:List Bi)(qs:List qu.E)(ts:List su.E)(o t:Int)(a:Bool):List qu.E:=done (okC es bs qs ts) (fun _ _ rs _=>rs) (fun nm nx rs hs=>qdp.ansH nm nx rs hs o t a) qs
noncomputable def backQ (es:List Ex)(bs:List Bi)(qs:List qu.E)(ts:List su.E)(o t:Int)(a:Bool):List qu.E:=done (okC es bs qs ts) (fun nm nx rs hs=>qbk.ansR nm nx rs hs o t a) (fun nm nx rs hs=>qdp.ansH nm nx rs hs o t a) qs
theorem ia_ack {w w':World}{es:List Ex}{bs:List Bi}{qs:List qu.E}{ts:List su.E}{ok:Bool}{fR:ByteArray->Int->List flM.Ms->List flH.Hd->List flM.Ms}{fH:ByteArray->Int->List flM.Ms->List flH.Hd->List flH.Hd}{fN:ByteArray->Int->List flM.Ms->List flH.Hd->Int}{ge gb gq gt:Nat}{ls:List qu.E}{us:List su.E}{n:Int}(h:eac.An w es bs qs ts ok fR fH fN ge gb gq gt ls us n w'):IA w w' es bs (done ok fR fH qs) ts ge gb gq gt ls us :=
 ⟨⟨h.ca.he,h.ca.hb,⟨h.ca.hq.own,Nat.le_trans (by omega) h.ca.hq.bg,fun r hr=>mine_lo (h.ca.hq.ea r hr) (by omega),fun r hr=>mine_lo (h.ca.hq.eb r hr) (by omega),h.ca.hq.pw⟩,⟨h.ca.ht.own,Nat.le_trans (by omega) h.ca.ht.bg,fun r hr=>mine_lo (h.ca.ht.ea r hr) (by omega),fun r hr=>mine_lo (h.ca.ht.eb r hr) (by omega),h.ca.ht.pw⟩,Nat.le_trans (by omega) h.ca.be,Nat.le_trans (by omega) h.ca.bb,h.ca.eb⟩,done_same h.ql h.tl h.q h.t,h.bel⟩
section
variable {w w':World} {ge gb gq gt:Nat} {es:List Ex} {bs:List Bi} {qs ls:List qu.E} {ts us:List su.E}
theorem ia_nack {ok:Bool}{fR:ByteArray->Int->List flM.Ms->List flH.Hd->List flM.Ms}{fH:ByteArray->Int->List flM.Ms->List flH.Hd->List flH.Hd}{fN:ByteArray->Int->List flM.Ms->List flH.Hd->Int}{n:Int}(h:ean.An w es bs qs ts ok fR fH fN ge gb gq gt ls us n w'):IA w w' es bs (done ok fR fH qs) ts ge gb gq gt ls us :=
 ⟨akr.ca_lo h.ca (by omega),done_same h.ql h.tl h.q h.t,h.bel⟩
end
theorem spec_a {es:List Ex}{bs:List Bi}{qs ks:List qu.E}{ts us:List su.E}{w:World}{B ge gb gq gt:Nat}(ec bc qc tc:Nat)(o t:Int)(a:Bool)(F:cb.Fit es bs qs ts)(h:Cg w B es bs qs ts ge gb gq gt ks us) :
  Calls Tryz.prog 24 #[.agg #[.slice (some ⟨ge,0,none⟩) es.length ec,.slice (some ⟨gb,0,none⟩) bs.length bc,.slice (some ⟨gq,0,none⟩) qs.length qc,.slice (some ⟨gt,0,none⟩) ts.length tc],.int .i64 o,.int .i64 t,.bool a,.bool false] w fun e w'=>∃ sea sba sqa sta sec sbc sqc stc ls vs,e=.returned (.tuple #[.agg #[.slice sea es.length sec,.slice sba bs.length sbc,.slice sqa (ackQ es bs qs ts o t a).length sqc,.slice sta ts.length stc],.int .i64 (ackN es bs qs ts o t a)])/\Hid (SA w w' es bs (ackQ es bs qs ts o t a) ts sea sba sqa sta ls vs):=by
 have sm:=same_of h
 have F2:=fit_same F sm
 obtain⟨p1,p2,p3,p4,p5,p6⟩:=parts h
 have hok:=ok_spec ec bc qc tc F h
 have hsum:sumN (fun nm nx rs hs=>qdp.ansC nm nx rs hs o t a) ks=sumN (fun nm nx rs hs=>qdp.ansC nm nx rs hs o t a) qs:=sum_same sm
 unfold ackQ ackN
 cases hc:okC es bs qs ts with
 | false =>
  rw [hc] at hok
  have k:=nsc.spec_no (fun _ _ rs _=>rs) (fun nm nx rs hs=>qdp.ansH nm nx rs hs o t a) es bs ks us ge gb gq gt ec bc qc tc o t a false w F2 p1 p2 p3 p4 p5 p6 hok
  rw [sm.ql,sm.tl] at k
  refine k.mono ?_
  rintro e w' ⟨sea,sba,sqa,sta,sec,sbc,sqc,stc,ls,vs,rfl,HSA⟩
  exact⟨sea,sba,sqa,sta,sec,sbc,sqc,stc,ls,vs,by rw [done_len,done_len,sm.ql];rfl,sa_turn HSA.out (done_congr false sm)⟩
 | true =>
  rw [hc] at hok
  have k:=nsc.yes_of (fun _ _ rs _=>rs) (fun nm nx rs hs=>qdp.ansH nm nx rs hs o t a) (fun nm nx rs hs=>qdp.ansC nm nx rs hs o t a) es bs ks us ge gb gq gt ec bc qc tc o t a false w F2 p1 p2 p3 p4 p5 p6 hok (by rw [sm.ql];exact okl hc) (ac_le F2 o t a) (fun _ nm nx rs hs gr gh rc hc V f h1 h2=>qdm.spec_dropM nm nx rs hs gr gh rc hc o t a V f h1 h2) (fun h=>by cases h)
  rw [sm.ql,sm.tl] at k
  refine k.mono ?_
  rintro e w' ⟨sea,sba,sqa,sta,sec,sbc,sqc,stc,ls,vs,rfl,HSA⟩
  exact⟨sea,sba,sqa,sta,sec,sbc,sqc,stc,ls,vs,by rw [done_len,done_len,sm.ql,hsum];rfl,sa_turn HSA.out (done_congr true sm)⟩
theorem spec_b {es:List Ex}{bs:List Bi}{qs ks:List qu.E}{ts us:List su.E}{w:World}{B ge gb gq gt:Nat}(ec bc qc tc:Nat)(o t:Int)(a:Bool)(F:cb.Fit es bs qs ts)(h:Cg w B es bs qs ts ge gb gq gt ks us) :
  Calls Tryz.prog 24 #[.agg #[.slice (some ⟨ge,0,none⟩) es.length ec,.slice (some ⟨gb,0,none⟩) bs.length bc,.slice (some ⟨gq,0,none⟩) qs.length qc,.slice (some ⟨gt,0,none⟩) ts.length tc],.int .i64 o,.int .i64 t,.bool a,.bool true] w fun e w'=>∃ sea sba sqa sta sec sbc sqc stc ls vs,e=.returned (.tuple #[.agg #[.slice sea es.length sec,.slice sba bs.length sbc,.slice sqa (backQ es bs qs ts o t a).length sqc,.slice sta ts.length stc],.int .i64 (ackN es bs qs ts o t a)])/\Hid (SA w w' es bs (backQ es bs qs ts o t a) ts sea sba sqa sta ls vs):=by
 have sm:=same_of h
 have F2:=fit_same F sm
 obtain⟨p1,p2,p3,p4,p5,p6⟩:=parts h
 have hok:=ok_spec ec bc qc tc F h
 have hsum:sumN (fun nm nx rs hs=>qdp.ansC nm nx rs hs o t a) ks=sumN (fun nm nx rs hs=>qdp.ansC nm nx rs hs o t a) qs:=sum_same sm
 unfold backQ ackN
 cases hc:okC es bs qs ts with
 | false =>
  rw [hc] at hok
  have k:=nsc.spec_no (fun nm nx rs hs=>qbk.ansR nm nx rs hs o t a) (fun nm nx rs hs=>qdp.ansH nm nx rs hs o t a) es bs ks us ge gb gq gt ec bc qc tc o t a true w F2 p1 p2 p3 p4 p5 p6 hok
  rw [sm.ql,sm.tl] at k
  refine k.mono ?_
  rintro e w' ⟨sea,sba,sqa,sta,sec,sbc,sqc,stc,ls,vs,rfl,HSA⟩
  exact⟨sea,sba,sqa,sta,sec,sbc,sqc,stc,ls,vs,by rw [done_len,done_len,sm.ql];rfl,sa_turn HSA.out (done_congr false sm)⟩
 | true =>
  rw [hc] at hok
  have k:=nsc.yes_of (fun nm nx rs hs=>qbk.ansR nm nx rs hs o t a) (fun nm nx rs hs=>qdp.ansH nm nx rs hs o t a) (fun nm nx rs hs=>qdp.ansC nm nx rs hs o t a) es bs ks us ge gb gq gt ec bc qc tc o t a true w F2 p1 p2 p3 p4 p5 p6 hok (by rw [sm.ql];exact okl hc) (ac_le F2 o t a) (fun h=>by cases h) (fun _ nm nx rs hs gr gh rc hc V f h1 h2=>qrm.spec_retM nm nx rs hs gr gh rc hc o t a V f h1 h2)
  rw [sm.ql,sm.tl] at k
  refine k.mono ?_
  rintro e w' ⟨sea,sba,sqa,sta,sec,sbc,sqc,stc,ls,vs,rfl,HSA⟩
  exact⟨sea,sba,sqa,sta,sec,sbc,sqc,stc,ls,vs,by rw [done_len,done_len,sm.ql,hsum];rfl,sa_turn HSA.out (done_congr true sm)⟩
theorem impl_b {es:List Ex}{bs:List Bi}{qs ks:List qu.E}{ts us:List su.E}{w:World}{B ge gb gq gt:Nat}(ec bc qc tc:Nat)(o t:Int)(a:Bool)(F:cb.Fit es bs qs ts)(h:Cg w B es bs qs ts ge gb gq gt ks us) :
  Calls Tryz.prog 25 #[.agg #[.slice (some ⟨ge,0,none⟩) es.length ec,.slice (some ⟨gb,0,none⟩) bs.length bc,.slice (some ⟨gq,0,none⟩) qs.length qc,.slice (some ⟨gt,0,none⟩) ts.length tc],.int .i64 o,.int .i64 t,.bool a,.bool true] w fun e w'=>∃ ge5 gb5 gq5 gt5 ec5 bc5 qc5 tc5 ls vs,e=.returned (.tuple #[.agg #[.slice (some ⟨ge5,0,none⟩) es.length ec5,.slice (some ⟨gb5,0,none⟩) bs.length bc5,.slice (some ⟨gq5,0,none⟩) (backQ es bs qs ts o t a).length qc5,.slice (some ⟨gt5,0,none⟩) ts.length tc5],.int .i64 (ackN es bs qs ts o t a)])/\Hid (IA w w' es bs (backQ es bs qs ts o t a) ts ge5 gb5 gq5 gt5 ls vs):=by
 have sm:=same_of h
 have F2:=fit_same F sm
 obtain⟨p1,p2,p3,p4,p5,p6⟩:=parts h
 have hsum:sumN (fun nm nx rs hs=>qdp.ansC nm nx rs hs o t a) ks=sumN (fun nm nx rs hs=>qdp.ansC nm nx rs hs o t a) qs:=sum_same sm
 have k:=nkr.impl_back es bs ks us ge gb gq gt ec bc qc tc o t a (okC es bs qs ts) w F2 p1 p2 p3 p4 p5 p6 (ok_impl ec bc qc tc F h) (fun hc=>by rw [sm.ql];exact okl hc) (ac_le F2 o t a)
 rw [sm.ql,sm.tl] at k
 refine k.mono ?_
 rintro e w' ⟨g1,g2,g3,g4,ls,vs,n,rfl,HAN⟩
 refine⟨g1,g2,g3,g4,es.length,bs.length,qs.length,ts.length,ls,vs,?_,ia_turn (ia_nack HAN.out) (done_congr _ sm)⟩
 have hn:=HAN.out.n
 rw [hsum] at hn
 unfold backQ ackN
 rw [done_len,hn]
section
variable {es:List Ex} {bs:List Bi} {qs:List qu.E} {ts:List su.E}
theorem ack_sm (o t:Int)(a:Bool)(h:es.length+bulkE es+bs.length+bulkB bs+qs.length+bulk qu.wt qs+ts.length+bulk su.wt ts <= 1048576):Sm es bs (ackQ es bs qs ts o t a) ts :=
 done_sm (sm_of h) (fun hc=>okl hc) (fun r hr=>by
  have f:=(cb.fit h).qf r hr
  have h1:=qdp.ansH_le r.nm r.nx r.rs r.hs o t a
  have h2:=f.el
  have h3:=f.ml
  exact⟨by omega,by omega⟩)
end
section
variable {es:List Ex} {bs:List Bi} {qs:List qu.E} {ts:List su.E}
theorem back_sm (o t:Int)(a:Bool)(h:es.length+bulkE es+bs.length+bulkB bs+qs.length+bulk qu.wt qs+ts.length+bulk su.wt ts <= 1048576):Sm es bs (backQ es bs qs ts o t a) ts :=
 done_sm (sm_of h) (fun hc=>okl hc) (fun r hr=>by
   have f:=(cb.fit h).qf r hr
   have h1:=qdp.ansH_le r.nm r.nx r.rs r.hs o t a
   have h4:=qbk.ansR_le r.nm r.nx r.rs r.hs o t a
   have h2:=f.el
   have h3:=f.ml
   show (qbk.ansR r.nm r.nx r.rs r.hs o t a).length <= 1048577/\(qdp.ansH r.nm r.nx r.rs r.hs o t a).length <= 1048577
   exact⟨by omega,by omega⟩)
end
noncomputable def nackQ (es:List Ex)(bs:List Bi)(qs:List qu.E)(ts:List su.E)(o t:Int)(a b:Bool):List qu.E:=if b=true then backQ es bs qs ts o t a else ackQ es bs qs ts o t a
noncomputable def nackN (es:List Ex)(bs:List Bi)(qs:List qu.E)(ts:List su.E)(o t:Int)(a b:Bool):Int:=ackN es bs qs ts o t a
theorem spec_nack {es:List Ex}{bs:List Bi}{qs ks:List qu.E}{ts us:List su.E}{w:World}{B ge gb gq gt:Nat}(ec bc qc tc:Nat)(o t:Int)(a b:Bool)(F:cb.Fit es bs qs ts)(h:Cg w B es bs qs ts ge gb gq gt ks us) :
  Calls Tryz.prog 24 #[.agg #[.slice (some ⟨ge,0,none⟩) es.length ec,.slice (some ⟨gb,0,none⟩) bs.length bc,.slice (some ⟨gq,0,none⟩) qs.length qc,.slice (some ⟨gt,0,none⟩) ts.length tc],.int .i64 o,.int .i64 t,.bool a,.bool b] w fun e w'=>∃ sea sba sqa sta sec sbc sqc stc ls vs,e=.returned (.tuple #[.agg #[.slice sea es.length sec,.slice sba bs.length sbc,.slice sqa (nackQ es bs qs ts o t a b).length sqc,.slice sta ts.length stc],.int .i64 (nackN es bs qs ts o t a b)])/\Hid (SA w w' es bs (nackQ es bs qs ts o t a b) ts sea sba sqa sta ls vs):=by
 cases b
 ·exact spec_a ec bc qc tc o t a F h
 ·exact spec_b ec bc qc tc o t a F h
theorem impl_a {es:List Ex}{bs:List Bi}{qs ks:List qu.E}{ts us:List su.E}{w:World}{B ge gb gq gt:Nat}(ec bc qc tc:Nat)(o t:Int)(a:Bool)(F:cb.Fit es bs qs ts)(h:Cg w B es bs qs ts ge gb gq gt ks us) :
  Calls Tryz.prog 25 #[.agg #[.slice (some ⟨ge,0,none⟩) es.length ec,.slice (some ⟨gb,0,none⟩) bs.length bc,.slice (some ⟨gq,0,none⟩) qs.length qc,.slice (some ⟨gt,0,none⟩) ts.length tc],.int .i64 o,.int .i64 t,.bool a,.bool false] w fun e w'=>∃ ge5 gb5 gq5 gt5 ec5 bc5 qc5 tc5 ls vs,e=.returned (.tuple #[.agg #[.slice (some ⟨ge5,0,none⟩) es.length ec5,.slice (some ⟨gb5,0,none⟩) bs.length bc5,.slice (some ⟨gq5,0,none⟩) (ackQ es bs qs ts o t a).length qc5,.slice (some ⟨gt5,0,none⟩) ts.length tc5],.int .i64 (ackN es bs qs ts o t a)])/\Hid (IA w w' es bs (ackQ es bs qs ts o t a) ts ge5 gb5 gq5 gt5 ls vs):=by
 have sm:=same_of h
 have F2:=fit_same F sm
 obtain⟨p1,p2,p3,p4,p5,p6⟩:=parts h
 have hsum:sumN (fun nm nx rs hs=>qdp.ansC nm nx rs hs o t a) ks=sumN (fun nm nx rs hs=>qdp.ansC nm nx rs hs o t a) qs:=sum_same sm
 have k:=nkr.impl_no es bs ks us ge gb gq gt ec bc qc tc o t a (okC es bs qs ts) w F2 p1 p2 p3 p4 p5 p6 (ok_impl ec bc qc tc F h) (fun hc=>by rw [sm.ql];exact okl hc) (ac_le F2 o t a)
 rw [sm.ql,sm.tl] at k
 refine k.mono ?_
 rintro e w' ⟨g1,g2,g3,g4,ls,vs,n,rfl,HAN⟩
 refine⟨g1,g2,g3,g4,es.length,bs.length,qs.length,ts.length,ls,vs,?_,ia_turn (ia_ack HAN.out) (done_congr _ sm)⟩
 have hn:=HAN.out.n
 rw [hsum] at hn
 unfold ackQ ackN
 rw [done_len,hn]
theorem impl_nack {es:List Ex}{bs:List Bi}{qs ks:List qu.E}{ts us:List su.E}{w:World}{B ge gb gq gt:Nat}(ec bc qc tc:Nat)(o t:Int)(a b:Bool)(F:cb.Fit es bs qs ts)(h:Cg w B es bs qs ts ge gb gq gt ks us) :
  Calls Tryz.prog 25 #[.agg #[.slice (some ⟨ge,0,none⟩) es.length ec,.slice (some ⟨gb,0,none⟩) bs.length bc,.slice (some ⟨gq,0,none⟩) qs.length qc,.slice (some ⟨gt,0,none⟩) ts.length tc],.int .i64 o,.int .i64 t,.bool a,.bool b] w fun e w'=>∃ ge5 gb5 gq5 gt5 ec5 bc5 qc5 tc5 ls vs,e=.returned (.tuple #[.agg #[.slice (some ⟨ge5,0,none⟩) es.length ec5,.slice (some ⟨gb5,0,none⟩) bs.length bc5,.slice (some ⟨gq5,0,none⟩) (nackQ es bs qs ts o t a b).length qc5,.slice (some ⟨gt5,0,none⟩) ts.length tc5],.int .i64 (nackN es bs qs ts o t a b)])/\Hid (IA w w' es bs (nackQ es bs qs ts o t a b) ts ge5 gb5 gq5 gt5 ls vs):=by
 cases b
 ·exact impl_a ec bc qc tc o t a F h
 ·exact impl_b ec bc qc tc o t a F h
section
variable {es:List Ex} {bs:List Bi} {qs:List qu.E} {ts:List su.E}
theorem nack_sm (o t:Int)(a b:Bool)(h:es.length+bulkE es+bs.length+bulkB bs+qs.length+bulk qu.wt qs+ts.length+bulk su.wt ts <= 1048576):Sm es bs (nackQ es bs qs ts o t a b) ts:=by
 cases b
 ·exact ack_sm o t a h
 ·exact back_sm o t a h
end
end Go.Proofs.YteoojodkkjepeaaGreat.nkc
