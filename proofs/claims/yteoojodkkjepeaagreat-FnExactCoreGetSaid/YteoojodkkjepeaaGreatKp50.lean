/- GetRun. -/
import Derived.Test.YteoojodkkjepeaaGreatKp42
import Derived.Test.YteoojodkkjepeaaGreatKp43
import Derived.Test.YteoojodkkjepeaaGreatKp45
import Derived.Test.YteoojodkkjepeaaGreatKp49
set_option maxRecDepth 100000
set_option maxHeartbeats 8000000
set_option linter.unusedVariables false
namespace Go.Proofs.YteoojodkkjepeaaGreat.gru
open ChangeShapes WideShapes ChangeAt RowKit rc rr ra rt fl co cn cb eb
theorem q_low {w w':World}{B g:Nat}{l:List qu.E}{Z:Nat->Prop}(h:qu.Ls w B g l)(ht:fo.Tn w w' Z)(hZ:∀ k,Z k->k<B):qu.Ls w' B g l:=⟨h.own.kept (ht.block g h.own.lt (fun hz=>by have:=hZ _ hz;have:=h.bg;omega)),h.bg,fun r hr=>(h.ea r hr).kept ht (fun k hk hz=>by have:=((h.ea r hr).blk_le hk).1;have:=hZ k hz;omega),fun r hr=>(h.eb r hr).kept ht (fun k hk hz=>by have:=((h.eb r hr).blk_le hk).1;have:=hZ k hz;omega),h.pw⟩
theorem t_low {w w':World}{B g:Nat}{l:List su.E}{Z:Nat->Prop}(h:su.Ls w B g l)(ht:fo.Tn w w' Z)(hZ:∀ k,Z k->k<B):su.Ls w' B g l:=⟨h.own.kept (ht.block g h.own.lt (fun hz=>by have:=hZ _ hz;have:=h.bg;omega)),h.bg,fun r hr=>(h.ea r hr).kept ht (fun k hk hz=>by have:=((h.ea r hr).blk_le hk).1;have:=hZ k hz;omega),fun r hr=>(h.eb r hr).kept ht (fun k hk hz=>by have:=((h.eb r hr).blk_le hk).1;have:=hZ k hz;omega),h.pw⟩
theorem c_low {w w':World}{B ge gb gq gt:Nat}{es:List Ex}{bs:List Bi}{qs:List qu.E}{ts:List su.E}{Z:Nat->Prop}(h:Ca w B es bs qs ts ge gb gq gt)(ht:fo.Tn w w' Z)(hZ:∀ k,Z k->k<B):Ca w' B es bs qs ts ge gb gq gt :=
 ⟨ro2.keptE h.he (ht.block ge h.he.lt (fun hz=>by have:=hZ _ hz;have:=h.be;omega)),ro2.keptB h.hb (ht.block gb h.hb.lt (fun hz=>by have:=hZ _ hz;have:=h.bb;omega)),q_low h.hq ht hZ,t_low h.ht ht hZ,h.be,h.bb,h.eb⟩
structure Ig (w:World)(es:List Ex)(bs:List Bi)(qs:List qu.E)(ts:List su.E)(a0 b0 q0 t0 ec bc qc tc ge gb gq gt gn:Nat)(us:List su.E)(l:List qu.E)(W:World):Prop where
 ie:Ie w es bs qs ts a0 b0 q0 t0 ec bc qc tc (w.heap.size+3) ge gb gq gt gn us l W
 rem:W.heap[w.heap.size+2]?=some (.cells #[.int .i64 0,.string ⟨#[]⟩,.string ⟨#[]⟩,.string ⟨#[]⟩,.bool false] 48 (0,0))
 gl:w.heap.size+3 <= gn
theorem Ig.on {w:World}{es:List Ex}{bs:List Bi}{qs:List qu.E}{ts:List su.E}{a0 b0 q0 t0 ec bc qc tc ge gb gq gt gn:Nat}{us:List su.E}{l:List qu.E}{W W':World}(h:Ig w es bs qs ts a0 b0 q0 t0 ec bc qc tc ge gb gq gt gn us l W)(hb:Below W.heap.size W W'):Ig w es bs qs ts a0 b0 q0 t0 ec bc qc tc ge gb gq gt gn us l W':=⟨h.ie.on hb,bstay h.rem hb (Array.getElem?_eq_some_iff.1 h.rem).1,h.gl⟩
theorem Ig.fin {w:World}{es:List Ex}{bs:List Bi}{qs Q:List qu.E}{ts:List su.E}{a0 b0 q0 t0 ec bc qc tc ge gb gq gt gn:Nat}{us:List su.E}{l:List qu.E}{W:World}(h:Ig w es bs qs ts a0 b0 q0 t0 ec bc qc tc ge gb gq gt gn us l W)(hs:cb.Same Q l ts us):Hid (∀ V,fo.Tn W V (fun k=>k=w.heap.size+1 ∨ k=w.heap.size+2)->cn.IA w V es bs Q ts ge gb gq gt l us):=fun V ht =>
 ⟨akr.ca_lo (c_low h.ie.ca ht (fun k hk=>by rcases hk with rfl | rfl <;> omega)) (by omega),hs,h.ie.bel.trans (ht.below h.ie.bel.size (fun k hk=>by rcases hk with rfl | rfl <;> omega))⟩
theorem up_same {qs ks:List qu.E}{ts us:List su.E}(h:cb.Same qs ks ts us)(hU:qu.Up qs qs.length):qu.Up ks ks.length:=fun i a b hi ha hb=>by
 obtain⟨x,hx,e1,_⟩:=h.flip.q_at ha
 obtain⟨y,hy,e2,_⟩:=h.flip.q_at hb
 rw [<- e1,<- e2]
 exact hU i x y (by have:=h.ql;omega) hx hy
theorem impl_get (es:List Ex)(bs:List Bi)(qs:List qu.E)(ts:List su.E)(a0 b0 q0 t0 ec bc qc tc:Nat)(name:ByteArray)(o t:Int)(ok:Bool)(Q:List qu.E)(M:flM.Ms)(G:Bool)(w:World)(F:cb.Fit es bs qs ts)(hE:RE w a0 es)(hB:RB w b0 bs)(hQ:qu.R w q0 qs)(hT:su.R w t0 ts)(hqr:∀ r∈qs,∃ g h,r.ra=some ⟨g,0,none⟩/\r.ha=some ⟨h,0,none⟩/\Row flM.c 5 w w.heap.size r.ra r.rs/\Row flH.c 7 w w.heap.size r.ha r.hs)(htr:∀ r∈ts,cb.At w r)(hok:∀ V,Below w.heap.size w V->Calls Tryz.prog 13 #[.agg #[.slice (some ⟨a0,0,none⟩) es.length ec,.slice (some ⟨b0,0,none⟩) bs.length bc,.slice (some ⟨q0,0,none⟩) qs.length qc,.slice (some ⟨t0,0,none⟩) ts.length tc]] V fun e w'=>e=.returned (.bool ok)/\Below V.heap.size V w')(hup:ok=true->qs.length <= 20/\qu.Up qs qs.length)
  (hno:(ok=false ∨ ∀ (j:Nat) f,qs[j]?=some f->f.nm≠name)->Q=qs/\M=⟨0,⟨#[]⟩,⟨#[]⟩,⟨#[]⟩,false⟩/\G=false) (hyes:ok=true->∀ (i:Nat) s,qs[i]?=some s->s.nm=name->Q=qs.set i (cge.popE o t s)/\M=qpp.ansM s.nm s.nx s.rs s.hs o t/\G=qpp.good s.nm s.nx s.rs s.hs o t) :
  Calls Tryz.prog 20 #[.agg #[.slice (some ⟨a0,0,none⟩) es.length ec,.slice (some ⟨b0,0,none⟩) bs.length bc,.slice (some ⟨q0,0,none⟩) qs.length qc,.slice (some ⟨t0,0,none⟩) ts.length tc],.string name,.int .i64 o,.int .i64 t] w fun e w'=>∃ ge gb gq gt ls us,e=.returned (.tuple #[.agg #[.slice (some ⟨ge,0,none⟩) es.length es.length,.slice (some ⟨gb,0,none⟩) bs.length bs.length,.slice (some ⟨gq,0,none⟩) qs.length qs.length,.slice (some ⟨gt,0,none⟩) ts.length ts.length],.agg #[.int .i64 M.q,.string M.x,.string M.k,.string M.b,.bool M.a],.bool G])/\Hid (cn.IA w w' es bs Q ts ge gb gq gt ls us):=by
 suffices hall:∀ PO:Ending->World->Prop,(∀ e w',(∃ ge gb gq gt ls us,e=.returned (.tuple #[.agg #[.slice (some ⟨ge,0,none⟩) es.length es.length,.slice (some ⟨gb,0,none⟩) bs.length bs.length,.slice (some ⟨gq,0,none⟩) qs.length qs.length,.slice (some ⟨gt,0,none⟩) ts.length ts.length],.agg #[.int .i64 M.q,.string M.x,.string M.k,.string M.b,.bool M.a],.bool G])/\Hid (cn.IA w w' es bs Q ts ge gb gq gt ls us))->PO e w')->Calls Tryz.prog 20 #[.agg #[.slice (some ⟨a0,0,none⟩) es.length ec,.slice (some ⟨b0,0,none⟩) bs.length bc,.slice (some ⟨q0,0,none⟩) qs.length qc,.slice (some ⟨t0,0,none⟩) ts.length tc],.string name,.int .i64 o,.int .i64 t] w PO from hall _ (fun _ _ h=>h)
 intro PO hPO
 have HPO:Hid (∀ e w',(∃ ge gb gq gt ls us,e=.returned (.tuple #[.agg #[.slice (some ⟨ge,0,none⟩) es.length es.length,.slice (some ⟨gb,0,none⟩) bs.length bs.length,.slice (some ⟨gq,0,none⟩) qs.length qs.length,.slice (some ⟨gt,0,none⟩) ts.length ts.length],.agg #[.int .i64 M.q,.string M.x,.string M.k,.string M.b,.bool M.a],.bool G])/\Hid (cn.IA w w' es bs Q ts ge gb gq gt ls us))->PO e w'):=hPO
 have HNO:Hid ((ok=false ∨ ∀ (j:Nat) f,qs[j]?=some f->f.nm≠name)->Q=qs/\M=⟨0,⟨#[]⟩,⟨#[]⟩,⟨#[]⟩,false⟩/\G=false):=hno
 have HYE:Hid (ok=true->∀ (i:Nat) s,qs[i]?=some s->s.nm=name->Q=qs.set i (cge.popE o t s)/\M=qpp.ansM s.nm s.nx s.rs s.hs o t/\G=qpp.good s.nm s.nx s.rs s.hs o t):=hyes
 have HUP:Hid (ok=true->qs.length <= 20/\qu.Up qs qs.length):=hup
 clear hPO hno hyes hup
 have hWb:Below w.heap.size w (((w.alloc (.cells #[.slice (some ⟨a0,0,none⟩) es.length ec,.slice (some ⟨b0,0,none⟩) bs.length bc,.slice (some ⟨q0,0,none⟩) qs.length qc,.slice (some ⟨t0,0,none⟩) ts.length tc] 39)).alloc (.cells #[.slice none 0 0,.slice none 0 0,.slice none 0 0,.slice none 0 0] 39)).alloc (.cells #[.int .i64 0,.string ⟨#[]⟩,.string ⟨#[]⟩,.string ⟨#[]⟩,.bool false] 48)):=(((Below.refl _ _).alloc (Nat.le_refl _) _).alloc (by simp) _).alloc (by simp;omega) _
 have hA:=bold (bold (bnew w #[.slice (some ⟨a0,0,none⟩) es.length ec,.slice (some ⟨b0,0,none⟩) bs.length bc,.slice (some ⟨q0,0,none⟩) qs.length qc,.slice (some ⟨t0,0,none⟩) ts.length tc] 39) (.cells #[.slice none 0 0,.slice none 0 0,.slice none 0 0,.slice none 0 0] 39)) (.cells #[.int .i64 0,.string ⟨#[]⟩,.string ⟨#[]⟩,.string ⟨#[]⟩,.bool false] 48)
 have hR:=bold (bnew (w.alloc (.cells #[.slice (some ⟨a0,0,none⟩) es.length ec,.slice (some ⟨b0,0,none⟩) bs.length bc,.slice (some ⟨q0,0,none⟩) qs.length qc,.slice (some ⟨t0,0,none⟩) ts.length tc] 39)) #[.slice none 0 0,.slice none 0 0,.slice none 0 0,.slice none 0 0] 39) (.cells #[.int .i64 0,.string ⟨#[]⟩,.string ⟨#[]⟩,.string ⟨#[]⟩,.bool false] 48)
 have hM:=bnew ((w.alloc (.cells #[.slice (some ⟨a0,0,none⟩) es.length ec,.slice (some ⟨b0,0,none⟩) bs.length bc,.slice (some ⟨q0,0,none⟩) qs.length qc,.slice (some ⟨t0,0,none⟩) ts.length tc] 39)).alloc (.cells #[.slice none 0 0,.slice none 0 0,.slice none 0 0,.slice none 0 0] 39)) #[.int .i64 0,.string ⟨#[]⟩,.string ⟨#[]⟩,.string ⟨#[]⟩,.bool false] 48
 rw [World.size_alloc] at hR
 simp only [World.size_alloc,Nat.add_assoc,Nat.reduceAdd] at hM
 have hS:(((w.alloc (.cells #[.slice (some ⟨a0,0,none⟩) es.length ec,.slice (some ⟨b0,0,none⟩) bs.length bc,.slice (some ⟨q0,0,none⟩) qs.length qc,.slice (some ⟨t0,0,none⟩) ts.length tc] 39)).alloc (.cells #[.slice none 0 0,.slice none 0 0,.slice none 0 0,.slice none 0 0] 39)).alloc (.cells #[.int .i64 0,.string ⟨#[]⟩,.string ⟨#[]⟩,.string ⟨#[]⟩,.bool false] 48)).heap.size=w.heap.size+3:=by simp
 obtain⟨W,hW⟩:∃ W,(((w.alloc (.cells #[.slice (some ⟨a0,0,none⟩) es.length ec,.slice (some ⟨b0,0,none⟩) bs.length bc,.slice (some ⟨q0,0,none⟩) qs.length qc,.slice (some ⟨t0,0,none⟩) ts.length tc] 39)).alloc (.cells #[.slice none 0 0,.slice none 0 0,.slice none 0 0,.slice none 0 0] 39)).alloc (.cells #[.int .i64 0,.string ⟨#[]⟩,.string ⟨#[]⟩,.string ⟨#[]⟩,.bool false] 48))=W:=⟨_,rfl⟩
 rw [hW] at hWb hA hR hM hS
 have hcc:=cco.copy_core es bs qs ts a0 b0 q0 t0 ec bc qc tc W F (hE.below hWb) (hB.below hWb) (hQ.below hWb) (hT.below hWb) (fun r hr=>by obtain⟨g,h,h1,h2,h3,h4⟩:=hqr r hr;exact⟨g,h,h1,h2,h3.inn hWb,h4.inn hWb⟩) (fun r hr=>(htr r hr).below hWb)
 obtain⟨x0,x1,x2,x3⟩:=fl.q4 hA
 have HAB:Hid (W.heap[w.heap.size]?=some (.cells #[.slice (some ⟨a0,0,none⟩) es.length ec,.slice (some ⟨b0,0,none⟩) bs.length bc,.slice (some ⟨q0,0,none⟩) qs.length qc,.slice (some ⟨t0,0,none⟩) ts.length tc] 39 (0,0))/\W.heap[w.heap.size+1]?=some (.cells #[.slice none 0 0,.slice none 0 0,.slice none 0 0,.slice none 0 0] 39 (0,0))/\W.heap[w.heap.size+2]?=some (.cells #[.int .i64 0,.string ⟨#[]⟩,.string ⟨#[]⟩,.string ⟨#[]⟩,.bool false] 48 (0,0))):=⟨hA,hR,hM⟩
 have HF:Hid (cb.Fit es bs qs ts):=F
 have HOK:Hid (∀ V,Below w.heap.size w V->Calls Tryz.prog 13 #[.agg #[.slice (some ⟨a0,0,none⟩) es.length ec,.slice (some ⟨b0,0,none⟩) bs.length bc,.slice (some ⟨q0,0,none⟩) qs.length qc,.slice (some ⟨t0,0,none⟩) ts.length tc]] V fun e w'=>e=.returned (.bool ok)/\Below V.heap.size V w'):=hok
 have HWB:Hid (Below w.heap.size w W):=hWb
 have HS2:Hid (W.heap.size=w.heap.size+3):=hS
 clear hE hB hQ hT hqr htr F hA hR hM hok hS hWb
 go_enter Tryz.func20,Tryz.ntmps20
 go_wp2_with (go_at_call 53;fail)
 clear hW x0 x1 x2 x3
 refine hcc.mono ?_
 rintro e w1 ⟨ge,gb,gq,gt,ks,us,rfl,hcg,hb1⟩
 have hs1:=hb1.size
 have hS:=HS2.out
 have hgl:w.heap.size+3 <= w1.heap.size:=by omega
 have HSM:Hid (cb.Same qs ks ts us):=cb.same_of hcg
 have hal:=fl.bl w1 (.cells #[.slice (some ⟨ge,0,none⟩) es.length es.length,.slice (some ⟨gb,0,none⟩) bs.length bs.length,.slice (some ⟨gq,0,none⟩) qs.length qs.length,.slice (some ⟨gt,0,none⟩) ts.length ts.length] 39)
 have hB1:Below W.heap.size W (w1.alloc (.cells #[.slice (some ⟨ge,0,none⟩) es.length es.length,.slice (some ⟨gb,0,none⟩) bs.length bs.length,.slice (some ⟨gq,0,none⟩) qs.length qs.length,.slice (some ⟨gt,0,none⟩) ts.length ts.length] 39)):=hb1.trans (hal.mono hs1)
 have hca:Ca w1 (w.heap.size+3) es bs ks us ge gb gq gt:=akr.ca_lo hcg.a (by omega)
 have HI0:Hid (Ig w es bs qs ts a0 b0 q0 t0 ec bc qc tc ge gb gq gt w1.heap.size us ks (w1.alloc (.cells #[.slice (some ⟨ge,0,none⟩) es.length es.length,.slice (some ⟨gb,0,none⟩) bs.length bs.length,.slice (some ⟨gq,0,none⟩) qs.length qs.length,.slice (some ⟨gt,0,none⟩) ts.length ts.length] 39))):=⟨⟨HWB.out.trans (hB1.mono HWB.out.size),bstay HAB.out.2.1 hB1 (by omega),bnew w1 _ _,hca.on hal⟩,bstay HAB.out.2.2 hB1 (by omega),hgl⟩
 have HAD:Hid (∀ r∈ks,∃ gr gh,r.ra=some ⟨gr,0,none⟩/\r.ha=some ⟨gh,0,none⟩):=fun r hr=>by
  obtain⟨j,hj⟩:=List.mem_iff_getElem?.1 hr
  obtain⟨g,h,h1,h2,_⟩:=hcg.hq.mine j r (by have:=(List.getElem?_eq_some_iff.1 hj).1;have:=hcg.hq.len;omega) hj
  exact⟨g,h,h1,h2⟩
 have HFK:Hid (cb.Fit es bs ks us):=cb.fit_same HF.out (cb.same_of hcg)
 obtain⟨Y,hY⟩:∃ Y,w1.alloc (.cells #[.slice (some ⟨ge,0,none⟩) es.length es.length,.slice (some ⟨gb,0,none⟩) bs.length bs.length,.slice (some ⟨gq,0,none⟩) qs.length qs.length,.slice (some ⟨gt,0,none⟩) ts.length ts.length] 39)=Y:=⟨_,rfl⟩
 rw [hY] at HI0 hB1
 have b1:=bstay HAB.out.1 hB1 (by omega)
 obtain⟨y0,y1,y2,y3⟩:=fl.q4 b1
 have hk2:=HOK.out Y HI0.out.ie.bel
 clear hcc hcg hca hal hb1 b1 hB1 hS hs1
 go_wp2_with (go_at_call 13;fail)
 clear hY y0 y1 y2 y3
 refine hk2.mono ?_
 rintro e wx ⟨rfl,hb2⟩
 have HG:Hid (Ig w es bs qs ts a0 b0 q0 t0 ec bc qc tc ge gb gq gt w1.heap.size us ks wx):=HI0.out.on hb2
 clear hk2 HI0 hb2
 cases ok with
 | false =>
  have HNN:Hid (false=false ∨ ∀ (j:Nat) f,qs[j]?=some f->f.nm≠name):=.inl rfl
  obtain⟨hq0,rfl,rfl⟩:=HNO.out HNN.out
  have hq1:=hq0.symm
  clear hq0
  subst hq1
  have HFN:=HG.out.fin HSM.out
  obtain⟨z0,z1,z2,z3⟩:=fl.q4 HG.out.ie.res
  obtain⟨y0,y1,y2,y3,y4⟩:=fl.q5 HG.out.rem
  obtain⟨f0,f1,f2,f3⟩:=fl.r4 HG.out.ie.res
  obtain⟨e0,e1,e2,e3,e4⟩:=fl.r5 HG.out.rem
  obtain⟨n0,n1,n2,n3⟩:=fl.q4 HG.out.ie.gnb
  have hg1:w1.heap.size≠w.heap.size+1:=by have:=HG.out.gl;omega
  have hg2:w1.heap.size≠w.heap.size+2:=by have:=HG.out.gl;omega
  have hg3:w.heap.size+1≠w1.heap.size:=by omega
  have hg4:w.heap.size+2≠w1.heap.size:=by omega
  go_wp2
  exact bodyPost_ret (v:=.tuple #[.agg #[.slice (some ⟨ge,0,none⟩) es.length es.length,.slice (some ⟨gb,0,none⟩) bs.length bs.length,.slice (some ⟨gq,0,none⟩) qs.length qs.length,.slice (some ⟨gt,0,none⟩) ts.length ts.length],.agg #[.int .i64 0,.string ⟨#[]⟩,.string ⟨#[]⟩,.string ⟨#[]⟩,.bool false],.bool false]) (by simp [results,Tryz.results20,go_sem,z0,z1,z2,z3,y0,y1,y2,y3,y4]) rfl (HPO.out _ _ ⟨ge,gb,gq,gt,_,_,rfl,HFN.out _ (by repeat' (first | apply fo.Tn.set | exact fo.Tn.of _ (Below.drew (Below.refl _ _)) | exact fo.Tn.refl _ _ | (show _ ∨ _;omega)))⟩)
 | true =>
  have hUK:=up_same HSM.out (HUP.out rfl).2
  have HUK:Hid (qu.Up ks ks.length):=hUK
  have hfd:=qu.find_all ks gq qs.length name wx (by have:=HSM.out.ql;have:=(HUP.out rfl).1;omega) (qu.r_of HG.out.ie.ca.hq.own.row HG.out.ie.ca.hq.own.lt) hUK
  rw [HSM.out.ql] at hfd
  have n2:wx.cell? ⟨w1.heap.size,2,none⟩=some (.slice (some ⟨gq,0,none⟩) qs.length qs.length):=bcell HG.out.ie.gnb rfl
  clear hUK
  go_wp2_with (go_at_call 54;fail)
  clear n2
  refine hfd.mono ?_
  rintro e w3 ⟨⟨p,b,rfl,hp,hb⟩,hb3⟩
  have HG3:Hid (Ig w es bs qs ts a0 b0 q0 t0 ec bc qc tc ge gb gq gt w1.heap.size us ks w3):=HG.out.on hb3
  clear hfd HG hb3
  cases b with
  | false =>
   have HNN:Hid (true=false ∨ ∀ (j:Nat) f,qs[j]?=some f->f.nm≠name):=.inr (fun j f hf hn=>by
    obtain⟨x,hx,e1,_⟩:=HSM.out.q_at hf
    exact absurd (hb.2 ⟨j,x,hx,by rw [e1];exact hn⟩) (by decide))
   clear hp hb
   obtain⟨hq0,rfl,rfl⟩:=HNO.out HNN.out
   have hq1:=hq0.symm
   clear hq0
   subst hq1
   have HFN:=HG3.out.fin HSM.out
   obtain⟨z0,z1,z2,z3⟩:=fl.q4 HG3.out.ie.res
   obtain⟨y0,y1,y2,y3,y4⟩:=fl.q5 HG3.out.rem
   obtain⟨f0,f1,f2,f3⟩:=fl.r4 HG3.out.ie.res
   obtain⟨e0,e1,e2,e3,e4⟩:=fl.r5 HG3.out.rem
   obtain⟨n0,n1,n2,n3⟩:=fl.q4 HG3.out.ie.gnb
   have hg1:w1.heap.size≠w.heap.size+1:=by have:=HG3.out.gl;omega
   have hg2:w1.heap.size≠w.heap.size+2:=by have:=HG3.out.gl;omega
   have hg3:w.heap.size+1≠w1.heap.size:=by omega
   have hg4:w.heap.size+2≠w1.heap.size:=by omega
   go_wp2
   exact bodyPost_ret (v:=.tuple #[.agg #[.slice (some ⟨ge,0,none⟩) es.length es.length,.slice (some ⟨gb,0,none⟩) bs.length bs.length,.slice (some ⟨gq,0,none⟩) qs.length qs.length,.slice (some ⟨gt,0,none⟩) ts.length ts.length],.agg #[.int .i64 0,.string ⟨#[]⟩,.string ⟨#[]⟩,.string ⟨#[]⟩,.bool false],.bool false]) (by simp [results,Tryz.results20,go_sem,z0,z1,z2,z3,y0,y1,y2,y3,y4]) rfl (HPO.out _ _ ⟨ge,gb,gq,gt,_,_,rfl,HFN.out _ (by repeat' (first | apply fo.Tn.set | exact fo.Tn.of _ (Below.drew (Below.refl _ _)) | exact fo.Tn.refl _ _ | (show _ ∨ _;omega)))⟩)
  | true =>
   obtain⟨r,hr,hcz⟩:=(qu.found HUK.out hp).2 (hb.1 rfl)
   have hrn:=Go.Proofs.YteoojodkkjepeaaGreat.ro.cmp_zero.1 hcz
   obtain⟨s,hs0,hsame⟩:=HSM.out.flip.q_at hr
   clear hp hb hcz
   obtain⟨rfl,rfl,rfl⟩:=HYE.out (by simp) p s hs0 (by rw [hsame.1];exact hrn)
   clear HNO HYE HUP HOK HUK
   have HI:Hid (qs[p]?=some s):=hs0
   have hmem:r∈ks:=List.mem_iff_getElem?.2 ⟨p,hr⟩
   obtain⟨gr,gh,h1r,h2r⟩:=HAD.out r hmem
   have f:=HFK.out.qf r hmem
   have hpl:p<qs.length:=(List.getElem?_eq_some_iff.1 hs0).1
   have hks:ks=ks.take p++r :: ks.drop (p+1):=by
    obtain⟨h3,h4⟩:=List.getElem?_eq_some_iff.1 hr
    rw [<- h4,List.getElem_cons_drop,List.take_append_drop]
   have hdl:(ks.take p).length=p:=by rw [List.length_take];have:=HSM.out.ql;omega
   obtain⟨nm,nx,ra,rc,rs,ha,hc,hs⟩:=r
   obtain⟨e1,e2,e3,e4⟩:=hsame
   simp only at h1r h2r f e1 e2 e3 e4
   subst h1r h2r
   have HSET:Hid (∀ r':qu.E,r'.nm=nm->r'.nx=nx->r'.rs=qpp.ansR nm nx rs hs o t->r'.hs=qpp.ansH nm nx rs hs o t->cb.Same (qs.set p (cge.popE o t s)) (ks.take p++r' :: ks.drop (p+1)) ts us):=fun r' k1 k2 k3 k4=>by
    have h5:=cge.set_same (o:=o) (t:=t) (r':=r') HSM.out HI.out ⟨by rw [k1,<- e1];rfl,by rw [k2,<- e2];rfl,by rw [k3,<- e1,<- e2,<- e3,<- e4];rfl,by rw [k4,<- e1,<- e2,<- e3,<- e4];rfl⟩
    have h6:ks.set p r'=ks.take p++r' :: ks.drop (p+1):=by
     conv=>lhs;rw [hks]
     have:=qu.set_mid (ks.take p) (ks.drop (p+1)) ⟨nm,nx,some ⟨gr,0,none⟩,rc,rs,some ⟨gh,0,none⟩,hc,hs⟩ r'
     rw [hdl] at this
     exact this
    rw [h6] at h5
    exact h5
   have HEQ:Hid (∀ _:Unit,s.nm=nm/\s.nx=nx/\s.rs=rs/\s.hs=hs):=fun _=>⟨e1,e2,e3,e4⟩
   have hG3:=HG3.out
   rw [hks] at hG3
   clear HG3
   obtain⟨Dl,hDl⟩:∃ Dl,ks.take p=Dl:=⟨_,rfl⟩
   obtain⟨Ql,hQl⟩:∃ Ql,ks.drop (p+1)=Ql:=⟨_,rfl⟩
   rw [hDl,hQl] at hG3 HSET
   rw [hDl] at hdl
   have HG3:Hid (Ig w es bs qs ts a0 b0 q0 t0 ec bc qc tc ge gb gq gt w1.heap.size us (Dl++⟨nm,nx,some ⟨gr,0,none⟩,rc,rs,some ⟨gh,0,none⟩,hc,hs⟩ :: Ql) w3):=hG3
   have i2:(p:Int)<(qs.length:Int):=by omega
   have n2:w3.cell? ⟨w1.heap.size,2,none⟩=some (.slice (some ⟨gq,0,none⟩) qs.length qs.length):=bcell HG3.out.ie.gnb rfl
   have cs:=HG3.out.ie.ca.hq.cells p hdl
   have c0:w3.cell? ⟨gq,p*4,none⟩=some (.string nm):=cs 0 _ rfl
   have c1:w3.cell? ⟨gq,p*4+1,none⟩=some (.int .i64 nx):=cs 1 _ rfl
   have c2:w3.cell? ⟨gq,p*4+2,none⟩=some (.slice (some ⟨gr,0,none⟩) rs.length rc):=cs 2 _ rfl
   have c3:w3.cell? ⟨gq,p*4+3,none⟩=some (.slice (some ⟨gh,0,none⟩) hs.length hc):=cs 3 _ rfl
   have hpop:=qoi.impl_pop nm nx rs hs gr gh rc hc o t w3 f (HG3.out.ie.ca.hq.ea _ qu.mid_in).row (HG3.out.ie.ca.hq.eb _ qu.mid_in).row
   have HDL:Hid (Dl.length=p):=hdl
   clear hks hDl hQl hdl e1 e2 e3 e4 f hr hG3 cs hs0 hrn hmem
   go_wp2_with (go_at_call 65;fail)
   clear n2 c0 c1 c2 c3
   refine hpop.mono ?_
   rintro e w4 ⟨g,ce,h,cb,rfl,hg,hh,hgh,oA,oH,hb4⟩
   obtain⟨L,hL⟩:∃ L,qpp.ansR nm nx rs hs o t=L:=⟨_,rfl⟩
   obtain⟨Hh,hHh⟩:∃ Hh,qpp.ansH nm nx rs hs o t=Hh:=⟨_,rfl⟩
   obtain⟨⟨Mq,Mx,Mk,Mb,Ma⟩,hMM⟩:∃ MM,qpp.ansM nm nx rs hs o t=MM:=⟨_,rfl⟩
   obtain⟨GD,hGD⟩:∃ GD,qpp.good nm nx rs hs o t=GD:=⟨_,rfl⟩
   have HAN:Hid (∀ _:Unit,qpp.ansM s.nm s.nx s.rs s.hs o t=⟨Mq,Mx,Mk,Mb,Ma⟩/\qpp.good s.nm s.nx s.rs s.hs o t=GD):=fun _=>by
    obtain⟨k1,k2,k3,k4⟩:=HEQ.out ()
    rw [k1,k2,k3,k4]
    exact⟨hMM,hGD⟩
   rw [hL] at oA HSET
   rw [hHh] at oH HSET
   rw [hL,hHh,hMM,hGD]
   have hwB:w.heap.size+3 <= w3.heap.size:=Nat.le_trans HG3.out.ie.ca.be (Nat.le_of_lt HG3.out.ie.ca.he.lt)
   have hs4:=hb4.size
   have hlo4:w1.heap.size<w4.heap.size:=Nat.lt_of_lt_of_le (Array.getElem?_eq_some_iff.1 HG3.out.ie.gnb).1 hs4
   have hal:Below w4.heap.size w4 ((w4.alloc (.cells #[.string nm,.int .i64 nx,.slice (some ⟨g,0,none⟩) L.length ce,.slice (some ⟨h,0,none⟩) Hh.length cb] 68)).alloc (.cells #[.int .i64 Mq,.string Mx,.string Mk,.string Mb,.bool Ma] 48)):=((Below.refl _ _).alloc (Nat.le_refl _) _).alloc (by simp) _
   have bq:=bold (bnew w4 #[.string nm,.int .i64 nx,.slice (some ⟨g,0,none⟩) L.length ce,.slice (some ⟨h,0,none⟩) Hh.length cb] 68) (.cells #[.int .i64 Mq,.string Mx,.string Mk,.string Mb,.bool Ma] 48)
   have bm:=bnew (w4.alloc (.cells #[.string nm,.int .i64 nx,.slice (some ⟨g,0,none⟩) L.length ce,.slice (some ⟨h,0,none⟩) Hh.length cb] 68)) #[.int .i64 Mq,.string Mx,.string Mk,.string Mb,.bool Ma] 48
   rw [World.size_alloc] at bm
   have hne:w4.heap.size≠gq:=by have:=(HG3.out.ie.on hb4).ca.hq.own.lt;omega
   have hne':w4.heap.size+1≠gq:=by have:=(HG3.out.ie.on hb4).ca.hq.own.lt;omega
   obtain⟨V,hV⟩:∃ V,(w4.alloc (.cells #[.string nm,.int .i64 nx,.slice (some ⟨g,0,none⟩) L.length ce,.slice (some ⟨h,0,none⟩) Hh.length cb] 68)).alloc (.cells #[.int .i64 Mq,.string Mx,.string Mk,.string Mb,.bool Ma] 48)=V:=⟨_,rfl⟩
   rw [hV] at hal bq bm
   have hGV:=(HG3.out.on hb4).on hal
   have hmA:fo.Mine flM.c 5 48 V (w.heap.size+3) (some ⟨g,0,none⟩) L:=.inr ⟨g,0,rfl,by omega,oA.below hal oA.lt⟩
   have hmH:fo.Mine flH.c 7 102 V (w.heap.size+3) (some ⟨h,0,none⟩) Hh:=.inr ⟨h,0,rfl,by omega,oH.below hal oH.lt⟩
   have hput:=Ie.put (r':=⟨nm,nx,some ⟨g,0,none⟩,ce,L,some ⟨h,0,none⟩,cb,Hh⟩) HDL.out (by omega) HG3.out.ie hGV.ie hmA hmH (fun x hx=>by
    rcases hx with hx | hx
    ·obtain⟨_,g',o',e1,rfl⟩:=hx
     cases e1
     exact hg
    ·obtain⟨_,g',o',e1,rfl⟩:=hx
     cases e1
     exact hh)
   obtain⟨V2,hV2⟩:∃ V2,(((V.setCell ⟨gq,p*4,none⟩ (.string nm)).setCell ⟨gq,p*4+1,none⟩ (.int .i64 nx)).setCell ⟨gq,p*4+2,none⟩ (.slice (some ⟨g,0,none⟩) L.length ce)).setCell ⟨gq,p*4+3,none⟩ (.slice (some ⟨h,0,none⟩) Hh.length cb)=V2:=⟨_,rfl⟩
   simp only at hput
   rw [hV2] at hput
   have hgqB:=hGV.ie.ca.hq.bg
   have HG5:Hid (Ig w es bs qs ts a0 b0 q0 t0 ec bc qc tc ge gb gq gt w1.heap.size us (Dl++⟨nm,nx,some ⟨g,0,none⟩,ce,L,some ⟨h,0,none⟩,cb,Hh⟩ :: Ql) V2):=⟨hput,by rw [<- hV2];exact boff (boff (boff (boff hGV.rem _ _ _ (by omega)) _ _ _ (by omega)) _ _ _ (by omega)) _ _ _ (by omega),hGV.gl⟩
   have bm2:V2.heap[w4.heap.size+1]?=some (.cells #[.int .i64 Mq,.string Mx,.string Mk,.string Mb,.bool Ma] 48 (0,0)):=by rw [<- hV2];exact boff (boff (boff (boff bm _ _ _ hne') _ _ _ hne') _ _ _ hne') _ _ _ hne'
   have HFN:=HG5.out.fin (HSET.out ⟨nm,nx,some ⟨g,0,none⟩,ce,L,some ⟨h,0,none⟩,cb,Hh⟩ rfl rfl rfl rfl)
   have p2:V.cell? ⟨w1.heap.size,2,none⟩=some (.slice (some ⟨gq,0,none⟩) qs.length qs.length):=bcell hGV.ie.gnb rfl
   obtain⟨k0,k1,k2,k3⟩:=fl.q4 bq
   have hlen:(Dl++(⟨nm,nx,some ⟨gr,0,none⟩,rc,rs,some ⟨gh,0,none⟩,hc,hs⟩:qu.E) :: Ql).length=p+1+Ql.length:=by simp;have:=HDL.out;omega
   obtain⟨v0,g0⟩:=hGV.ie.ca.hq.own.at (p*4) (by rw [hlen];omega)
   obtain⟨v1,g1⟩:=hGV.ie.ca.hq.own.at (p*4+1) (by rw [hlen];omega)
   obtain⟨v2,g2⟩:=hGV.ie.ca.hq.own.at (p*4+2) (by rw [hlen];omega)
   obtain⟨v3,g3⟩:=hGV.ie.ca.hq.own.at (p*4+3) (by rw [hlen];omega)
   have u0:=hGV.ie.ca.hq.own.free (p*4)
   have u1:=hGV.ie.ca.hq.own.free (p*4+1)
   have u2:=hGV.ie.ca.hq.own.free (p*4+2)
   have u3:=hGV.ie.ca.hq.own.free (p*4+3)
   obtain⟨j0,j1,j2,j3,j4⟩:=fl.q5 bm2
   obtain⟨z0,z1,z2,z3⟩:=fl.q4 HG5.out.ie.res
   obtain⟨y0,y1,y2,y3,y4⟩:=fl.q5 HG5.out.rem
   obtain⟨f0,f1,f2,f3⟩:=fl.r4 HG5.out.ie.res
   obtain⟨e0,e1,e2,e3,e4⟩:=fl.r5 HG5.out.rem
   obtain⟨n0,n1,n2,n3⟩:=fl.q4 HG5.out.ie.gnb
   have hg1:w1.heap.size≠w.heap.size+1:=by have:=HG5.out.gl;omega
   have hg2:w1.heap.size≠w.heap.size+2:=by have:=HG5.out.gl;omega
   have hg3:w.heap.size+1≠w1.heap.size:=by omega
   have hg4:w.heap.size+2≠w1.heap.size:=by omega
   have hm1:w4.heap.size+1≠w.heap.size+1:=by omega
   have hm2:w4.heap.size+1≠w.heap.size+2:=by omega
   have HBX:Hid (V2.heap[w1.heap.size]?=some (.cells #[.slice (some ⟨ge,0,none⟩) es.length es.length,.slice (some ⟨gb,0,none⟩) bs.length bs.length,.slice (some ⟨gq,0,none⟩) qs.length qs.length,.slice (some ⟨gt,0,none⟩) ts.length ts.length] 39 (0,0))/\V2.heap[w4.heap.size+1]?=some (.cells #[.int .i64 Mq,.string Mx,.string Mk,.string Mb,.bool Ma] 48 (0,0))/\V2.heap[w.heap.size+1]?=some (.cells #[.slice none 0 0,.slice none 0 0,.slice none 0 0,.slice none 0 0] 39 (0,0))/\V2.heap[w.heap.size+2]?=some (.cells #[.int .i64 0,.string ⟨#[]⟩,.string ⟨#[]⟩,.string ⟨#[]⟩,.bool false] 48 (0,0))):=⟨HG5.out.ie.gnb,bm2,HG5.out.ie.res,HG5.out.rem⟩
   clear hpop hal bq bm bm2 hGV hput hmA hmH oA oH hL hHh hMM hGD hlen HG3 hb4
   go_wp2
   refine chn.region (σ:=Unit) (ws:=(fun _:Unit=>[(52,.agg #[.slice (some ⟨ge,0,none⟩) es.length es.length,.slice (some ⟨gb,0,none⟩) bs.length bs.length,.slice (some ⟨gq,0,none⟩) qs.length qs.length,.slice (some ⟨gt,0,none⟩) ts.length ts.length]),(53,.agg #[.int .i64 Mq,.string Mx,.string Mk,.string Mb,.bool Ma]),(54,.bool GD),(10,.bool GD)])) (js:=[3,4]) (S:=(rbo.Sr V2 (w.heap.size+1) (w.heap.size+2) (.slice (some ⟨ge,0,none⟩) es.length es.length) (.slice (some ⟨gb,0,none⟩) bs.length bs.length) (.slice (some ⟨gq,0,none⟩) qs.length qs.length) (.slice (some ⟨gt,0,none⟩) ts.length ts.length) (.int .i64 Mq) (.string Mx) (.string Mk) (.string Mb) (.bool Ma))) [52,53,54,10] () (by kernel_rfl) (by kernel_rfl) (fun _=>rfl) (by kernel_rfl) (by decide) rfl ?each ?fin
   case each =>
    refine⟨chn.quiet 2 rfl (by decide) (.inl rfl) (by simp) (fun s=>.agg #[.slice (some ⟨ge,0,none⟩) es.length es.length,.slice (some ⟨gb,0,none⟩) bs.length bs.length,.slice (some ⟨gq,0,none⟩) qs.length qs.length,.slice (some ⟨gt,0,none⟩) ts.length ts.length]) (by rintro s _ ⟨⟩;exact dk.sets_on _ (by simp) _ rfl) (fun s k' W hk' hS=>by have bb:=(rbo.sr_heap hS hg1 hg2).trans HBX.out.1;have q0:W.cell? ⟨w1.heap.size,0,none⟩=some (.slice (some ⟨ge,0,none⟩) es.length es.length):=bcell bb rfl;have q1:W.cell? ⟨w1.heap.size,1,none⟩=some (.slice (some ⟨gb,0,none⟩) bs.length bs.length):=bcell bb rfl;have q2:W.cell? ⟨w1.heap.size,2,none⟩=some (.slice (some ⟨gq,0,none⟩) qs.length qs.length):=bcell bb rfl;have q3:W.cell? ⟨w1.heap.size,3,none⟩=some (.slice (some ⟨gt,0,none⟩) ts.length ts.length):=bcell bb rfl;simp [execOp,go_sem,Act.eval,dk.sets_get,List.lookup,q0,q1,q2,q3]),?_⟩
    refine⟨chn.quiet 2 rfl (by decide) (.inl rfl) (by simp) (fun s=>.agg #[.int .i64 Mq,.string Mx,.string Mk,.string Mb,.bool Ma]) (by rintro s _ ⟨⟩;exact dk.sets_on _ (by simp) _ rfl) (fun s k' W hk' hS=>by have bb:=(rbo.sr_heap hS hm1 hm2).trans HBX.out.2.1;have q0:W.cell? ⟨w4.heap.size+1,0,none⟩=some (.int .i64 Mq):=bcell bb rfl;have q1:W.cell? ⟨w4.heap.size+1,1,none⟩=some (.string Mx):=bcell bb rfl;have q2:W.cell? ⟨w4.heap.size+1,2,none⟩=some (.string Mk):=bcell bb rfl;have q3:W.cell? ⟨w4.heap.size+1,3,none⟩=some (.string Mb):=bcell bb rfl;have q4:W.cell? ⟨w4.heap.size+1,4,none⟩=some (.bool Ma):=bcell bb rfl;simp [execOp,go_sem,Act.eval,dk.sets_get,List.lookup,q0,q1,q2,q3,q4]),?_⟩
    refine⟨chn.quiet 2 rfl (by decide) (.inl rfl) (by simp) (fun s=>.bool GD) (by rintro s _ ⟨⟩;exact dk.sets_on _ (by simp) _ rfl) (fun s k' W hk' hS=>by simp [execOp,go_sem,Act.eval,dk.sets_get,List.lookup]),?_⟩
    refine⟨chn.sto 0 rfl (by decide) rfl (.inl rfl) (by simp) rfl ?sto0,?_⟩
    case sto0 =>
     intro s W hS
     have hW0:W=V2.drew:=hS
     have bb:W.heap[w.heap.size+1]?=some (.cells #[.slice none 0 0,.slice none 0 0,.slice none 0 0,.slice none 0 0] 39 (0,0)):=by rw [hW0];exact HBX.out.2.2.1
     have q0:W.cell? ⟨w.heap.size+1,0,none⟩=some (.slice none 0 0):=bcell bb rfl
     have r0:=bfree bb 0
     have q1:W.cell? ⟨w.heap.size+1,1,none⟩=some (.slice none 0 0):=bcell bb rfl
     have r1:=bfree bb 1
     have q2:W.cell? ⟨w.heap.size+1,2,none⟩=some (.slice none 0 0):=bcell bb rfl
     have r2:=bfree bb 2
     have q3:W.cell? ⟨w.heap.size+1,3,none⟩=some (.slice none 0 0):=bcell bb rfl
     have r3:=bfree bb 3
     exact⟨_,by simp [execOp,go_sem,Act.eval,dk.sets_get,List.lookup,q0,r0,q1,r1,q2,r2,q3,r3],(show rbo.Sr V2 (w.heap.size+1) (w.heap.size+2) (.slice (some ⟨ge,0,none⟩) es.length es.length) (.slice (some ⟨gb,0,none⟩) bs.length bs.length) (.slice (some ⟨gq,0,none⟩) qs.length qs.length) (.slice (some ⟨gt,0,none⟩) ts.length ts.length) (.int .i64 Mq) (.string Mx) (.string Mk) (.string Mb) (.bool Ma) s 1 ((((W.setCell ⟨w.heap.size+1,0,none⟩ (.slice (some ⟨ge,0,none⟩) es.length es.length)).setCell ⟨w.heap.size+1,1,none⟩ (.slice (some ⟨gb,0,none⟩) bs.length bs.length)).setCell ⟨w.heap.size+1,2,none⟩ (.slice (some ⟨gq,0,none⟩) qs.length qs.length)).setCell ⟨w.heap.size+1,3,none⟩ (.slice (some ⟨gt,0,none⟩) ts.length ts.length)) by rw [hW0];rfl)⟩
    refine⟨chn.sto 1 rfl (by decide) rfl (.inr ⟨⟨3,.chain⟩,by simp,rfl,rfl⟩) (by simp) rfl ?sto1,?_⟩
    case sto1 =>
     intro s W hS
     have hW0:W=rbo.wr4 V2.drew (w.heap.size+1) (.slice (some ⟨ge,0,none⟩) es.length es.length) (.slice (some ⟨gb,0,none⟩) bs.length bs.length) (.slice (some ⟨gq,0,none⟩) qs.length qs.length) (.slice (some ⟨gt,0,none⟩) ts.length ts.length):=hS
     have bb:W.heap[w.heap.size+2]?=some (.cells #[.int .i64 0,.string ⟨#[]⟩,.string ⟨#[]⟩,.string ⟨#[]⟩,.bool false] 48 (0,0)):=by rw [hW0,rbo.wr4_heap (by omega)];exact HBX.out.2.2.2
     have q0:W.cell? ⟨w.heap.size+2,0,none⟩=some (.int .i64 0):=bcell bb rfl
     have r0:=bfree bb 0
     have q1:W.cell? ⟨w.heap.size+2,1,none⟩=some (.string ⟨#[]⟩):=bcell bb rfl
     have r1:=bfree bb 1
     have q2:W.cell? ⟨w.heap.size+2,2,none⟩=some (.string ⟨#[]⟩):=bcell bb rfl
     have r2:=bfree bb 2
     have q3:W.cell? ⟨w.heap.size+2,3,none⟩=some (.string ⟨#[]⟩):=bcell bb rfl
     have r3:=bfree bb 3
     have q4:W.cell? ⟨w.heap.size+2,4,none⟩=some (.bool false):=bcell bb rfl
     have r4:=bfree bb 4
     exact⟨_,by simp [execOp,go_sem,Act.eval,dk.sets_get,List.lookup,q0,r0,q1,r1,q2,r2,q3,r3,q4,r4],(show rbo.Sr V2 (w.heap.size+1) (w.heap.size+2) (.slice (some ⟨ge,0,none⟩) es.length es.length) (.slice (some ⟨gb,0,none⟩) bs.length bs.length) (.slice (some ⟨gq,0,none⟩) qs.length qs.length) (.slice (some ⟨gt,0,none⟩) ts.length ts.length) (.int .i64 Mq) (.string Mx) (.string Mk) (.string Mb) (.bool Ma) s 2 (((((W.setCell ⟨w.heap.size+2,0,none⟩ (.int .i64 Mq)).setCell ⟨w.heap.size+2,1,none⟩ (.string Mx)).setCell ⟨w.heap.size+2,2,none⟩ (.string Mk)).setCell ⟨w.heap.size+2,3,none⟩ (.string Mb)).setCell ⟨w.heap.size+2,4,none⟩ (.bool Ma)) by rw [hW0];rfl)⟩
    refine⟨chn.quiet 2 rfl (by decide) (.inl rfl) (by simp) (fun s=>.bool GD) (by rintro s _ ⟨⟩;exact dk.sets_on _ (by simp) _ rfl) (fun s k' W hk' hS=>by simp [execOp,go_sem,Act.eval,dk.sets_get,List.lookup]),trivial⟩
   case fin =>
    intro s W hS
    have hW0:W=rbo.wr5 (rbo.wr4 V2.drew (w.heap.size+1) (.slice (some ⟨ge,0,none⟩) es.length es.length) (.slice (some ⟨gb,0,none⟩) bs.length bs.length) (.slice (some ⟨gq,0,none⟩) qs.length qs.length) (.slice (some ⟨gt,0,none⟩) ts.length ts.length)) (w.heap.size+2) (.int .i64 Mq) (.string Mx) (.string Mk) (.string Mb) (.bool Ma):=hS
    subst hW0
    simp only [dk.sets,rbo.wr4,rbo.wr5]
    clear hS
    go_wp2
    refine bodyPost_ret (v:=.tuple #[.agg #[.slice (some ⟨ge,0,none⟩) es.length es.length,.slice (some ⟨gb,0,none⟩) bs.length bs.length,.slice (some ⟨gq,0,none⟩) qs.length qs.length,.slice (some ⟨gt,0,none⟩) ts.length ts.length],.agg #[.int .i64 Mq,.string Mx,.string Mk,.string Mb,.bool Ma],.bool GD]) (by simp [results,Tryz.results20,go_sem,z0,z1,z2,z3,y0,y1,y2,y3,y4]) rfl (HPO.out _ _ ⟨ge,gb,gq,gt,_,_,by rw [(HAN.out ()).1,(HAN.out ()).2],HFN.out _ ?_⟩)
    repeat' (first | apply fo.Tn.set | exact fo.Tn.of _ (Below.drew (Below.refl _ _)) | exact fo.Tn.refl _ _ | (show _ ∨ _;omega))
end Go.Proofs.YteoojodkkjepeaaGreat.gru
