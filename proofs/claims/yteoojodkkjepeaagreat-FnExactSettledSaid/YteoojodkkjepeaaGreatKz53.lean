/- SetRun. -/
import Derived.Test.YteoojodkkjepeaaGreatKz35
import Derived.Test.YteoojodkkjepeaaGreatKz50
import Derived.Test.YteoojodkkjepeaaGreatKz52
import Derived.Test.YteoojodkkjepeaaGreatKz49
set_option maxRecDepth 100000
set_option maxHeartbeats 8000000
set_option linter.unusedVariables false
namespace Go.Proofs.YteoojodkkjepeaaGreat.stw
open ChangeShapes WideShapes ChangeAt RowKit rr ra rt fl co eb cn cb
noncomputable def setQ (es:List Ex) (bs:List Bi) (qs:List qu.E) (ts:List su.E):List qu.E:=cn.done (okC es bs qs ts) (fun _ _ rs hs=>qbk.backs rs hs) (fun _ _ _ _=>[]) qs
theorem set_sm {es:List Ex} {bs:List Bi} {qs:List qu.E} {ts:List su.E} (h:es.length+bulkE es+bs.length+bulkB bs+qs.length+bulk qu.wt qs+ts.length+bulk su.wt ts <= 1048576):Sm es bs (setQ es bs qs ts) ts :=
 done_sm (sm_of h) (fun hc=>nkw.okl hc) (fun r hr=>by
  have h1:r.nm.size+r.rs.length+bulk flM.wt r.rs+r.hs.length+bulk flH.wt r.hs <= bulk qu.wt qs:=bulk_le qu.wt hr
  have h4:=qbk.backs_len r.rs r.hs
  show (qbk.backs r.rs r.hs).length <= 1048577/\([]:List flH.Hd).length <= 1048577
  exact ⟨by omega,by simp⟩)
theorem okq {es:List Ex} {bs:List Bi} {qs:List qu.E} {ts:List su.E} (h:okC es bs qs ts=true):∀ s ∈ qs,qsp.okB s.nm s.nx s.rs s.hs=true:=fun s hs=>by
 obtain ⟨i,hi⟩:=cb.mem_at hs
 exact ((okC_true.1 h).q.1 i s (List.getElem?_eq_some_iff.1 hi).1 hi).1
theorem ia_set {w w':World} {ge gb gq gt:Nat} {es:List Ex} {bs:List Bi} {qs ls:List qu.E} {ts us:List su.E} {ok:Bool} {fR:ByteArray->Int->List flM.Ms->List flH.Hd->List flM.Ms} {fH:ByteArray->Int->List flM.Ms->List flH.Hd->List flH.Hd} {fN:ByteArray->Int->List flM.Ms->List flH.Hd->Int} {n:Int} (h:eas.An w es bs qs ts ok fR fH fN ge gb gq gt ls us n w'):IA w w' es bs (done ok fR fH qs) ts ge gb gq gt ls us :=
 ⟨akr.ca_lo h.ca (by omega),done_same h.ql h.tl h.q h.t,h.bel⟩
theorem impl_settled {es:List Ex} {bs:List Bi} {qs ks:List qu.E} {ts us:List su.E} {w:World} {B ge gb gq gt:Nat} (ec bc qc tc:Nat) (F:cb.Fit es bs qs ts) (h:Cg w B es bs qs ts ge gb gq gt ks us) :
  Calls Tryz.prog 29 #[.agg #[.slice (some ⟨ge,0,none⟩) es.length ec,.slice (some ⟨gb,0,none⟩) bs.length bc,.slice (some ⟨gq,0,none⟩) qs.length qc,.slice (some ⟨gt,0,none⟩) ts.length tc]] w fun e w'=>∃ ge5 gb5 gq5 gt5 ec5 bc5 qc5 tc5 ls vs,e=.returned (.agg #[.slice (some ⟨ge5,0,none⟩) es.length ec5,.slice (some ⟨gb5,0,none⟩) bs.length bc5,.slice (some ⟨gq5,0,none⟩) (setQ es bs qs ts).length qc5,.slice (some ⟨gt5,0,none⟩) ts.length tc5])/\Hid (IA w w' es bs (setQ es bs qs ts) ts ge5 gb5 gq5 gt5 ls vs):=by
 obtain ⟨W,hW,hWb,hA,hR,hzz⟩:=fl.bx2 w #[.slice (some ⟨ge,0,none⟩) es.length ec,.slice (some ⟨gb,0,none⟩) bs.length bc,.slice (some ⟨gq,0,none⟩) qs.length qc,.slice (some ⟨gt,0,none⟩) ts.length tc] #[.slice none 0 0,.slice none 0 0,.slice none 0 0,.slice none 0 0] 39 39
 have hWs:w.heap.size+2 <= W.heap.size:=by omega
 clear hzz
 have h':=h.below hWb
 have sm:=same_of h'
 have F2:=fit_same F sm
 obtain ⟨p1,p2,p3,p4,p5,p6⟩:=nkw.parts h'
 have hok2:okC es bs qs ts=true->okC es bs ks us=true:=fun hc=>by rw [ok_same sm]; exact hc
 have k:=eas.each es bs ks us ge gb gq gt ec bc qc tc (okC es bs qs ts) (fun _ _ rs hs=>qbk.backs rs hs) (fun _ _ _ _=>[]) (fun _ _ _ hs=>(hs.length:Int)) W F2 p1 p2 p3 p4 p5 p6 (nkw.ok_impl ec bc qc tc F h') (fun hc=>by rw [sm.ql]; exact nkw.okl hc) (fun hc=>okq (hok2 hc)) (fun s hs=>by have:=(F2.qf s hs).ml; show 0 <= (s.hs.length:Int)/\(s.hs.length:Int) <= 1048576; omega) (fun nm nx rs hs gr gh rc hc V hV f ho h1 h2=>sqi.settled_one nm nx rs hs gr gh rc hc V f ho h1 h2)
 rw [sm.ql,sm.tl] at k
 have hn:Calls Tryz.prog 66 #[.agg #[.slice (some ⟨ge,0,none⟩) es.length ec,.slice (some ⟨gb,0,none⟩) bs.length bc,.slice (some ⟨gq,0,none⟩) qs.length qc,.slice (some ⟨gt,0,none⟩) ts.length tc],.func (.func 74) #[] #[]] W fun e w'=>∃ ge5 gb5 gq5 gt5 ec5 bc5 qc5 tc5 ls vs n,e=.returned (.tuple #[.agg #[.slice (some ⟨ge5,0,none⟩) es.length ec5,.slice (some ⟨gb5,0,none⟩) bs.length bc5,.slice (some ⟨gq5,0,none⟩) (setQ es bs qs ts).length qc5,.slice (some ⟨gt5,0,none⟩) ts.length tc5],.int .i64 n])/\Hid (IA W w' es bs (setQ es bs qs ts) ts ge5 gb5 gq5 gt5 ls vs):=by
  refine k.mono ?_
  rintro e w' ⟨g1,g2,g3,g4,ls,vs,n,rfl,HAN⟩
  exact ⟨g1,g2,g3,g4,es.length,bs.length,qs.length,ts.length,ls,vs,n,by unfold setQ; rw [done_len],nkw.ia_turn (ia_set HAN.out) (nkw.done_congr _ sm)⟩
 obtain ⟨x0,x1,x2,x3⟩:=fl.q4 hA
 have HR:Hid (W.heap[w.heap.size+1]?=some (.cells #[.slice none 0 0,.slice none 0 0,.slice none 0 0,.slice none 0 0] 39 (0,0))):=hR
 have HWB:Hid (Below w.heap.size w W):=hWb
 obtain ⟨Q,hQ⟩:∃ Q,setQ es bs qs ts=Q:=⟨_,rfl⟩
 rw [hQ] at hn
 rw [hQ]
 clear h h' F hA hR hQ sm F2 p1 p2 p3 p4 p5 p6 hok2 k
 go_enter Tryz.func29,Tryz.ntmps29
 go_wp2_with (go_at_call 66; fail)
 clear hW x0 x1 x2 x3
 refine hn.mono ?_
 rintro e w1 ⟨ge5,gb5,gq5,gt5,ec5,bc5,qc5,tc5,ls,vs,n,rfl,HSA⟩
 have hal:=fl.bl w1 (.cells #[.slice (some ⟨ge5,0,none⟩) es.length ec5,.slice (some ⟨gb5,0,none⟩) bs.length bc5,.slice (some ⟨gq5,0,none⟩) Q.length qc5,.slice (some ⟨gt5,0,none⟩) ts.length tc5] 39)
 have hls:w.heap.size+2 <= w1.heap.size:=Nat.le_trans hWs HSA.out.bel.size
 have b1:=bstay (bstay HR.out HSA.out.bel (by omega)) hal (by omega)
 have HSY:Hid (IA W (w1.alloc (.cells #[.slice (some ⟨ge5,0,none⟩) es.length ec5,.slice (some ⟨gb5,0,none⟩) bs.length bc5,.slice (some ⟨gq5,0,none⟩) Q.length qc5,.slice (some ⟨gt5,0,none⟩) ts.length tc5] 39)) es bs Q ts ge5 gb5 gq5 gt5 ls vs):=ia_on HSA.out hal
 have bn:=bnew w1 #[.slice (some ⟨ge5,0,none⟩) es.length ec5,.slice (some ⟨gb5,0,none⟩) bs.length bc5,.slice (some ⟨gq5,0,none⟩) Q.length qc5,.slice (some ⟨gt5,0,none⟩) ts.length tc5] 39
 obtain ⟨Y,hY⟩:∃ Y,w1.alloc (.cells #[.slice (some ⟨ge5,0,none⟩) es.length ec5,.slice (some ⟨gb5,0,none⟩) bs.length bc5,.slice (some ⟨gq5,0,none⟩) Q.length qc5,.slice (some ⟨gt5,0,none⟩) ts.length tc5] 39)=Y:=⟨_,rfl⟩
 rw [hY] at b1 HSY bn
 obtain ⟨n0,n1,n2,n3⟩:=fl.q4 bn
 obtain ⟨z0,z1,z2,z3⟩:=fl.q4 b1
 obtain ⟨f0,f1,f2,f3⟩:=fl.r4 b1
 have HFN:=fun v0 v1 v2 v3=>ia_res (v0:=v0) (v1:=v1) (v2:=v2) (v3:=v3) HWB.out HSY.out b1 (by omega)
 clear hn b1 bn hWb HR hal HSA HSY
 go_wp2
 exact bodyPost_ret (v:=.agg #[.slice (some ⟨ge5,0,none⟩) es.length ec5,.slice (some ⟨gb5,0,none⟩) bs.length bc5,.slice (some ⟨gq5,0,none⟩) Q.length qc5,.slice (some ⟨gt5,0,none⟩) ts.length tc5]) (by simp [results,Tryz.results29,go_sem,z0,z1,z2,z3]) rfl ⟨ge5,gb5,gq5,gt5,ec5,bc5,qc5,tc5,ls,vs,rfl,HFN _ _ _ _⟩
end Go.Proofs.YteoojodkkjepeaaGreat.stw
