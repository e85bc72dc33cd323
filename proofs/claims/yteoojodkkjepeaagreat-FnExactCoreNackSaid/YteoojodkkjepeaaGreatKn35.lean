/- CoreArg, CoreOkLaw, AckKit, NackBase, EachNack, QBackPure. -/
import Derived.Test.YteoojodkkjepeaaGreatKn34
import Derived.Test.YteoojodkkjepeaaGreatKn07
import Derived.Test.YteoojodkkjepeaaGreatKn09
import Derived.Test.YteoojodkkjepeaaGreatKn25
import Derived.Test.YteoojodkkjepeaaGreatKn32
set_option maxRecDepth 100000
set_option maxHeartbeats 8000000
set_option linter.unusedVariables false
namespace Go.Proofs.YteoojodkkjepeaaGreat.ca
open ChangeShapes WideShapes ChangeAt RowKit rr ra fl
instance :Inhabited qu.E:=⟨⟨ByteArray.empty,0,none,0,[],none,0,[]⟩⟩
instance :Inhabited su.E:=⟨⟨ByteArray.empty,0,0,none,0,[],none,0,[]⟩⟩
structure InQ (W:World)(r:qu.E):Prop where
 ok:qu.ok r
 wf:(Lit.int .i64 r.nx).wf=true
 rr:Row flM.c 5 W W.heap.size r.ra r.rs
 rh:Row flH.c 7 W W.heap.size r.ha r.hs
structure InT (W:World)(r:su.E):Prop where
 ok:su.ok r
 wl:(Lit.int .i64 r.lo).wf=true
 wf:(Lit.int .i64 r.nx).wf=true
 rr:Row flY.c 3 W W.heap.size r.ra r.rs
 rh:Row flK.c 2 W W.heap.size r.ha r.hs
theorem cI:Tryz.prog.cellsOf 3=1:=by kernel_rfl
theorem cS:Tryz.prog.cellsOf 9=1:=by kernel_rfl
theorem cMs:Tryz.prog.cellsOf 107=1:=by kernel_rfl
theorem cHs:Tryz.prog.cellsOf 108=1:=by kernel_rfl
theorem cYs:Tryz.prog.cellsOf 112=1:=by kernel_rfl
theorem cKs:Tryz.prog.cellsOf 113=1:=by kernel_rfl
theorem cQ:Tryz.prog.cellsOf 110=4:=by kernel_rfl
theorem cT:Tryz.prog.cellsOf 115=5:=by kernel_rfl
theorem cR:Tryz.prog.cellsOf 25=2:=by kernel_rfl
theorem cEs:Tryz.prog.cellsOf 22=1:=by kernel_rfl
theorem cBs:Tryz.prog.cellsOf 23=1:=by kernel_rfl
theorem cQs:Tryz.prog.cellsOf 26=1:=by kernel_rfl
theorem cTs:Tryz.prog.cellsOf 27=1:=by kernel_rfl
theorem cC:Tryz.prog.cellsOf 29=4:=by kernel_rfl
section
variable {H:Type} {enc:TypeId × Value->H} {W:World}
theorem open_one_queue (cs:List Value)(k:Nat)(x:DataW H × List MemPlace)(h:DataW.trod enc Tryz.prog W 0 (fun _=>true) true k 110 cs=some x):∃ a:qu.E,cs=qu.c a/\InQ W a:=by
 obtain⟨xs,m,_,_,hlen,hxl,hf⟩:=DataW.trod_struct Tryz.underlying110 h
 rw [cQ] at hlen
 match xs,hxl,cs,hlen with
 | [y0,y1,y2,y3],_,[v0,v1,v2,v3],_ =>
  have g0:=hf 0 _ rfl
  have g1:=hf 1 _ rfl
  have g2:=hf 2 _ rfl
  have g3:=hf 3 _ rfl
  simp [cI,cS,cMs,cHs] at g0 g1 g2 g3
  obtain⟨nm,e0,_,w0⟩:=DataW.trod_string Tryz.underlying9 g0
  obtain⟨nx,e1,_,w1⟩:=DataW.trod_int Tryz.underlying3 g1
  simp at e0 e1
  subst e0 e1
  obtain⟨ra,rs,rc,rfl,h1,h2,h3⟩:=open_row flM.c_len (by omega) Tryz.underlying107 qa.cM qa.open_message g2
  obtain⟨ha,hs,hc,rfl,k1,k2,k3⟩:=open_row flH.c_len (by omega) Tryz.underlying108 qa.cH qa.open_held g3
  exact⟨⟨nm,nx,ra,rc,rs,ha,hc,hs⟩,rfl,⟨w0,h1,k1,h2,k2⟩,w1,h3,k3⟩
theorem open_one_stream (cs:List Value)(k:Nat)(x:DataW H × List MemPlace)(h:DataW.trod enc Tryz.prog W 0 (fun _=>true) true k 115 cs=some x):∃ a:su.E,cs=su.c a/\InT W a:=by
 obtain⟨xs,m,_,_,hlen,hxl,hf⟩:=DataW.trod_struct Tryz.underlying115 h
 rw [cT] at hlen
 match xs,hxl,cs,hlen with
 | [y0,y1,y2,y3,y4],_,[v0,v1,v2,v3,v4],_ =>
  have g0:=hf 0 _ rfl
  have g1:=hf 1 _ rfl
  have g2:=hf 2 _ rfl
  have g3:=hf 3 _ rfl
  have g4:=hf 4 _ rfl
  simp [cI,cS,cYs,cKs] at g0 g1 g2 g3 g4
  obtain⟨nm,e0,_,w0⟩:=DataW.trod_string Tryz.underlying9 g0
  obtain⟨lo,e1,_,w1⟩:=DataW.trod_int Tryz.underlying3 g1
  obtain⟨nx,e2,_,w2⟩:=DataW.trod_int Tryz.underlying3 g2
  simp at e0 e1 e2
  subst e0 e1 e2
  obtain⟨ra,rs,rc,rfl,h1,h2,h3⟩:=open_row flY.c_len (by omega) Tryz.underlying112 sa.cY sa.open_entry g3
  obtain⟨ha,hs,hc,rfl,k1,k2,k3⟩:=open_row flK.c_len (by omega) Tryz.underlying113 sa.cK sa.open_mark g4
  exact⟨⟨nm,lo,nx,ra,rc,rs,ha,hc,hs⟩,rfl,⟨w0,h1,k1,h2,k2⟩,w1,w2,h3,k3⟩
structure In (W:World)(es:List Ex)(bs:List Bi)(qs:List qu.E)(ts:List su.E)(ea ba qa ta:Option Addr):Prop where
 el:es.length <= maxLen
 bl:bs.length <= maxLen
 ql:qs.length <= maxLen
 tl:ts.length <= maxLen
 eo:∀ e∈es,e.n.size <= maxLen
 bo:∀ e∈bs,e.x.size <= maxLen/\e.k.size <= maxLen/\e.q.size <= maxLen
 qo:∀ e∈qs,InQ W e
 to:∀ e∈ts,InT W e
 se:SE W W.heap.size ea es
 sb:SB W W.heap.size ba bs
 qr:Row qu.c 4 W W.heap.size qa qs
 tr:Row su.c 5 W W.heap.size ta ts
theorem In.q {es:List Ex}{bs:List Bi}{qs:List qu.E}{ts:List su.E}{ea ba qa ta:Option Addr}(h:In W es bs qs ts ea ba qa ta):qu.V W W.heap.size qa qs:=⟨h.qr,fun r hr=>⟨(h.qo r hr).rr,(h.qo r hr).rh⟩⟩
theorem In.t {es:List Ex}{bs:List Bi}{qs:List qu.E}{ts:List su.E}{ea ba qa ta:Option Addr}(h:In W es bs qs ts ea ba qa ta):su.V W W.heap.size ta ts:=⟨h.tr,fun r hr=>⟨(h.to r hr).rr,(h.to r hr).rh⟩⟩
theorem open_core {b0:Nat}{v:Value}{d:DataW H}{p:List MemPlace}(hv:Value.okWide Tryz.prog W .any b0 29 v)(h:DataW.Trod enc Tryz.prog W 0 (fun _=>true) true 29 v d p) :
  ∃ (es:List Ex) (bs:List Bi) (qs:List qu.E) (ts:List su.E) (ea ba qa ta:Option Addr) (ec bc qc tc:Nat),v=.agg #[.slice ea es.length ec,.slice ba bs.length bc,.slice qa qs.length qc,.slice ta ts.length tc]/\In W es bs qs ts ea ba qa ta:=by
 obtain⟨cs,rfl,hsz⟩:=okWide_struct Tryz.underlying29 hv
 have hsz':=hsz.trans cC
 obtain⟨fuel,hf0⟩:=h
 obtain⟨xs,m,_,_,hlen,hxl,hf⟩:=DataW.trod_struct Tryz.underlying29 hf0
 obtain⟨l⟩:=cs
 match xs,hxl,l,hsz' with
 | [y0,y1,y2],_,[v0,v1,v2,v3],_ =>
  have g0:=hf 0 _ rfl
  have g1:=hf 1 _ rfl
  have g2:=hf 2 _ rfl
  simp [Value.cells,cR,cQs,cTs] at g0 g1 g2
  obtain⟨xs',m',_,_,hlen',hxl',hf'⟩:=DataW.trod_struct Tryz.underlying25 g0
  match xs',hxl' with
  | [z0,z1],_ =>
   have k0:=hf' 0 _ rfl
   have k1:=hf' 1 _ rfl
   simp [cEs,cBs] at k0 k1
   obtain⟨ea,es,ec,rfl,h1,h2,h3⟩:=rg.open_exchanges k0
   obtain⟨ba,bs,bc,rfl,j1,j2,j3⟩:=rg.open_bindings k1
   obtain⟨qa,qs,qc,rfl,q1,q2,q3⟩:=open_row qu.c_len (by omega) Tryz.underlying26 cQ open_one_queue g1
   obtain⟨ta,ts,tc,rfl,t1,t2,t3⟩:=open_row su.c_len (by omega) Tryz.underlying27 cT open_one_stream g2
   exact⟨es,bs,qs,ts,ea,ba,qa,ta,ec,bc,qc,tc,rfl,⟨h1,j1,q1,t1,h2,j2,q2,t2,h3,j3,q3,t3⟩⟩
end
end Go.Proofs.YteoojodkkjepeaaGreat.ca
namespace Go.Proofs.YteoojodkkjepeaaGreat.lwCoreOk
open ChangeShapes WideShapes ChangeAt RowKit rc rr ra rt ro fl co cb
theorem step6 {w5 w6:World}{es:List Ex}{bs:List Bi}{qs ks4 ks6:List qu.E}{ts us4 us6:List su.E}{B4 B6 ge4 gb4 gq4 gt4 ge6 gb6 gq6 gt6 n:Nat}(F:cb.Fit es bs qs ts)(hb6:Below w5.heap.size w5 w6)(hn:n<w5.heap.size)(hY:w5.heap[n]?=some (.cells #[.slice (some ⟨ge4,0,none⟩) es.length es.length,.slice (some ⟨gb4,0,none⟩) bs.length bs.length,.slice (some ⟨gq4,0,none⟩) qs.length qs.length,.slice (some ⟨gt4,0,none⟩) ts.length ts.length] 39 (0,0)))(h4:Cg w5 B4 es bs qs ts ge4 gb4 gq4 gt4 ks4 us4)(h6:Cg w6 B6 es bs qs ts ge6 gb6 gq6 gt6 ks6 us6) :
  (w6.cell? ⟨n,0,none⟩=some (.slice (some ⟨ge4,0,none⟩) es.length es.length)/\w6.cell? ⟨n,1,none⟩=some (.slice (some ⟨gb4,0,none⟩) bs.length bs.length)/\w6.cell? ⟨n,2,none⟩=some (.slice (some ⟨gq4,0,none⟩) qs.length qs.length)/\w6.cell? ⟨n,3,none⟩=some (.slice (some ⟨gt4,0,none⟩) ts.length ts.length))/\Calls Tryz.prog 14 #[.agg #[.slice (some ⟨ge4,0,none⟩) es.length es.length,.slice (some ⟨gb4,0,none⟩) bs.length bs.length,.slice (some ⟨gq4,0,none⟩) qs.length qs.length,.slice (some ⟨gt4,0,none⟩) ts.length ts.length],.agg #[.slice (some ⟨ge6,0,none⟩) es.length es.length,.slice (some ⟨gb6,0,none⟩) bs.length bs.length,.slice (some ⟨gq6,0,none⟩) qs.length qs.length,.slice (some ⟨gt6,0,none⟩) ts.length ts.length]] w6 fun e w'=>e=.returned (.bool true)/\Below w6.heap.size w6 w':=by
 have q5:=bstay hY hb6 hn
 refine⟨⟨bcell q5 rfl,bcell q5 rfl,bcell q5 rfl,bcell q5 rfl⟩,?_⟩
 have h4':=h4.below hb6
 have s4:=same_of h4'
 have s6:=same_of h6
 have F4:=fit_same F s4
 obtain⟨r1,r2,r3,r4⟩:=h4'.rows
 obtain⟨p1,p2,p3,p4⟩:=h6.rows
 have k:=eq_core es bs ks4 ks6 us4 us6 _ _ _ _ _ _ _ _ es.length bs.length qs.length ts.length es.length bs.length qs.length ts.length w6 F.el F.bl (by have:=F4.ql;unfold maxLen;omega) (by have:=F4.tl;unfold maxLen;omega) (fun e he=>by have:=(F4.qf e he).el;have:=(F4.qf e he).ml;unfold maxLen;omega) (fun e he=>by have:=(F4.tf e he).el;have:=(F4.tf e he).ml;unfold maxLen;omega) (by rw [s6.ql,s4.ql]) (by rw [s6.tl,s4.tl]) (fun k r s hr hs=>?_) (fun k r s hr hs=>?_) (se_re r1) (se_re p1) (sb_rb r2) (sb_rb p2) r3 p3 r4 p4
 ·rw [s4.ql,s4.tl] at k
  exact k
 ·obtain⟨x,hx,a,b,c,d⟩:=s6.flip.q_at hs
  obtain⟨a',b',c',d'⟩:=s4.q k r x hr hx
  exact⟨a'.trans a,b'.trans b,c'.trans c,d'.trans d⟩
 ·obtain⟨x,hx,a,b,c,d,f⟩:=s6.flip.t_at hs
  obtain⟨a',b',c',d',f'⟩:=s4.t k r x hr hx
  exact⟨a'.trans a,b'.trans b,c'.trans c,d'.trans d,f'.trans f⟩
end Go.Proofs.YteoojodkkjepeaaGreat.lwCoreOk
namespace Go.Proofs.YteoojodkkjepeaaGreat.akr
open ChangeShapes WideShapes ChangeAt RowKit rr ra rt fl co eb
theorem ca_lo {W:World}{B B' ge gb gq gt:Nat}{es:List Ex}{bs:List Bi}{qs:List qu.E}{ts:List su.E}(h:Ca W B es bs qs ts ge gb gq gt)(hB:B' <= B):Ca W B' es bs qs ts ge gb gq gt :=
 ⟨h.he,h.hb,⟨h.hq.own,Nat.le_trans hB h.hq.bg,fun r hr=>mine_lo (h.hq.ea r hr) hB,fun r hr=>mine_lo (h.hq.eb r hr) hB,h.hq.pw⟩,⟨h.ht.own,Nat.le_trans hB h.ht.bg,fun r hr=>mine_lo (h.ht.ea r hr) hB,fun r hr=>mine_lo (h.ht.eb r hr) hB,h.ht.pw⟩,Nat.le_trans hB h.be,Nat.le_trans hB h.bb,h.eb⟩
end Go.Proofs.YteoojodkkjepeaaGreat.akr
namespace Go.Proofs.YteoojodkkjepeaaGreat.nkw
open ChangeShapes WideShapes ChangeAt RowKit rr ra rt fl co eb cn cb
noncomputable def ackN (es:List Ex)(bs:List Bi)(qs:List qu.E)(ts:List su.E)(o t:Int)(a:Bool):Int:=if okC es bs qs ts=true then sumN (fun nm nx rs hs=>qdp.ansC nm nx rs hs o t a) qs else 0
section
variable {w w':World} {B ge gb gq gt:Nat} {es:List Ex} {bs:List Bi} {qs ks ls:List qu.E} {ts us vs:List su.E}
theorem same_trans {Q K L:List qu.E}{U V X:List su.E}(h1:cb.Same Q K U V)(h2:cb.Same K L V X):cb.Same Q L U X:=by
 refine⟨h2.ql.trans h1.ql,h2.tl.trans h1.tl,fun k r s hr hs=>?_,fun k r s hr hs=>?_⟩
 ·obtain⟨x,hx,a,b,c,d⟩:=h1.q_at hs
  obtain⟨a',b',c',d'⟩:=h2.q k r x hr hx
  exact⟨a'.trans a,b'.trans b,c'.trans c,d'.trans d⟩
 ·obtain⟨x,hx,a,b,c,d,f⟩:=h1.t_at hs
  obtain⟨a',b',c',d',f'⟩:=h2.t k r x hr hx
  exact⟨a'.trans a,b'.trans b,c'.trans c,d'.trans d,f'.trans f⟩
theorem done_congr {fR:ByteArray->Int->List flM.Ms->List flH.Hd->List flM.Ms}{fH:ByteArray->Int->List flM.Ms->List flH.Hd->List flH.Hd}(ok:Bool)(h:cb.Same qs ks ts us):cb.Same (done ok fR fH qs) (done ok fR fH ks) ts us:=by
 refine done_same (by rw [done_len];exact h.ql) h.tl (fun i r s hr hs=>?_) h.t
 cases ok with
 | false=>exact h.q i r s hr hs
 | true =>
  have hr':(ks.map (fun s=>(⟨s.nm,s.nx,none,0,fR s.nm s.nx s.rs s.hs,none,0,fH s.nm s.nx s.rs s.hs⟩:qu.E)))[i]?=some r:=hr
  rw [List.getElem?_map] at hr'
  cases hx:ks[i]? with
  | none=>rw [hx] at hr';simp at hr'
  | some x =>
   rw [hx] at hr'
   simp at hr'
   subst hr'
   obtain⟨e1,e2,e3,e4⟩:=h.q i x s hx hs
   exact⟨e1,e2,by simp only [e1,e2,e3,e4],by simp only [e1,e2,e3,e4]⟩
theorem parts (h:Cg w B es bs qs ts ge gb gq gt ks us):RE w ge es/\RB w gb bs/\qu.R w gq ks/\su.R w gt us/\(∀ r∈ks,∃ g h,r.ra=some ⟨g,0,none⟩/\r.ha=some ⟨h,0,none⟩/\Row flM.c 5 w w.heap.size r.ra r.rs/\Row flH.c 7 w w.heap.size r.ha r.hs)/\∀ r∈us,cb.At w r:=by
 obtain⟨r1,r2,r3,r4⟩:=h.rows
 refine⟨r1,r2,qu.r_of r3.1 h.hq.own.lt,su.r_of r4.1 h.ht.own.lt,fun r hr=>?_,cb.at_so h.ht⟩
 obtain⟨j,hj⟩:=cb.mem_at hr
 obtain⟨g,x,h1,h2,_⟩:=h.hq.mine j r (by have:=(List.getElem?_eq_some_iff.1 hj).1;have:=h.hq.len;omega) hj
 exact⟨g,x,h1,h2,(r3.2 r hr).1,(r3.2 r hr).2⟩
theorem ok_impl (ec bc qc tc:Nat)(F:cb.Fit es bs qs ts)(h:Cg w B es bs qs ts ge gb gq gt ks us):∀ V,Below w.heap.size w V->Calls Tryz.prog 13 #[.agg #[.slice (some ⟨ge,0,none⟩) es.length ec,.slice (some ⟨gb,0,none⟩) bs.length bc,.slice (some ⟨gq,0,none⟩) ks.length qc,.slice (some ⟨gt,0,none⟩) us.length tc]] V fun e w'=>e=.returned (.bool (okC es bs qs ts))/\Below V.heap.size V w':=fun V hV=>by
 have k:=cb.impl_ok ec bc qc tc F (h.below hV)
 rw [(same_of h).ql,(same_of h).tl]
 exact k
theorem ok_spec (ec bc qc tc:Nat)(F:cb.Fit es bs qs ts)(h:Cg w B es bs qs ts ge gb gq gt ks us):∀ V,Below w.heap.size w V->Calls Tryz.prog 11 #[.agg #[.slice (some ⟨ge,0,none⟩) es.length ec,.slice (some ⟨gb,0,none⟩) bs.length bc,.slice (some ⟨gq,0,none⟩) ks.length qc,.slice (some ⟨gt,0,none⟩) us.length tc]] V fun e w'=>e=.returned (.bool (okC es bs qs ts))/\Below V.heap.size V w':=fun V hV=>by
 have k:=cb.spec_ok ec bc qc tc F (h.below hV)
 rw [(same_of h).ql,(same_of h).tl]
 exact k
theorem ac_le (F:cb.Fit es bs ks us)(o t:Int)(a:Bool):∀ s∈ks,0 <= qdp.ansC s.nm s.nx s.rs s.hs o t a/\qdp.ansC s.nm s.nx s.rs s.hs o t a <= 1048576:=fun s hs=>by
 have h1:=(F.qf s hs).ml
 have h2:=qdp.gone_le o t a s.hs
 unfold qdp.ansC
 split <;> omega
theorem okl (h:okC es bs qs ts=true):qs.length <= 20:=(okC_true.1 h).ql
theorem ia_turn {Q Q':List qu.E}{U U':List su.E}(h:IA w w' es bs Q U ge gb gq gt ls us)(hs:cb.Same Q' Q U' U):IA w w' es bs Q' U' ge gb gq gt ls us:=⟨h.ca,same_trans hs h.same,h.bel⟩
theorem sa_turn {Q Q':List qu.E}{U U':List su.E}{ea ba qa ta:Option Addr}(h:SA w w' es bs Q U ea ba qa ta ls us)(hs:cb.Same Q' Q U' U):SA w w' es bs Q' U' ea ba qa ta ls us:=⟨h.se,h.sb,h.q,h.qe,h.t,h.te,same_trans hs h.same,h.bel⟩
end
end Go.Proofs.YteoojodkkjepeaaGreat.nkw
namespace Go.Proofs.YteoojodkkjepeaaGreat.ean
open ChangeShapes WideShapes ChangeAt RowKit rr ra rt fl co eb
structure An (w:World)(es:List Ex)(bs:List Bi)(qs:List qu.E)(ts:List su.E)(ok:Bool)(fR:ByteArray->Int->List flM.Ms->List flH.Hd->List flM.Ms)(fH:ByteArray->Int->List flM.Ms->List flH.Hd->List flH.Hd)(fN:ByteArray->Int->List flM.Ms->List flH.Hd->Int)(ge gb gq gt:Nat)(ls:List qu.E)(us:List su.E)(n:Int)(w':World):Prop where
 ca:Ca w' (w.heap.size+2) es bs ls us ge gb gq gt
 ql:ls.length=qs.length
 tl:us.length=ts.length
 q:∀ (i:Nat) (r s:qu.E),ls[i]?=some r->qs[i]?=some s->if ok then Is fR fH s r else qu.same r s
 t:∀ (i:Nat) (r s:su.E),us[i]?=some r->ts[i]?=some s->su.same r s
 n:n=if ok then sumN fN qs else 0
 bel:Below w.heap.size w w'
theorem each (es:List Ex)(bs:List Bi)(qs:List qu.E)(ts:List su.E)(a0 b0 q0 t0 ec bc qc tc:Nat)(p1 p2 p3:Nat)(ok:Bool)(fR:ByteArray->Int->List flM.Ms->List flH.Hd->List flM.Ms)(fH:ByteArray->Int->List flM.Ms->List flH.Hd->List flH.Hd)(fN:ByteArray->Int->List flM.Ms->List flH.Hd->Int)(w:World)(F:cb.Fit es bs qs ts)(hE:RE w a0 es)(hB:RB w b0 bs)(hQ:qu.R w q0 qs)(hT:su.R w t0 ts)(hqr:∀ r∈qs,∃ g h,r.ra=some ⟨g,0,none⟩/\r.ha=some ⟨h,0,none⟩/\Row flM.c 5 w w.heap.size r.ra r.rs/\Row flH.c 7 w w.heap.size r.ha r.hs)(htr:∀ r∈ts,cb.At w r)
  (hok:(∀ V,Below w.heap.size w V->Calls Tryz.prog 13 #[.agg #[.slice (some ⟨a0,0,none⟩) es.length ec,.slice (some ⟨b0,0,none⟩) bs.length bc,.slice (some ⟨q0,0,none⟩) qs.length qc,.slice (some ⟨t0,0,none⟩) ts.length tc]] V fun e w'=>e=.returned (.bool ok)/\Below V.heap.size V w')) (hql:ok=true->qs.length <= 20) (hN:(∀ s∈qs,0 <= fN s.nm s.nx s.rs s.hs/\fN s.nm s.nx s.rs s.hs <= 1048576)) (hF:(∀ (nm:ByteArray) (nx:Int) (rs:List flM.Ms) (hs:List flH.Hd) (gr gh rc hc:Nat) (V:World),Below w.heap.size w V->qsp.Fit nm rs hs->Row flM.c 5 V V.heap.size (some ⟨gr,0,none⟩) rs->Row flH.c 7 V V.heap.size (some ⟨gh,0,none⟩) hs->Calls Tryz.prog 71 #[.agg #[.string nm,.int .i64 nx,.slice (some ⟨gr,0,none⟩) rs.length rc,.slice (some ⟨gh,0,none⟩) hs.length hc],.pointer (some ⟨p1,0,none⟩),.pointer (some ⟨p2,0,none⟩),.pointer (some ⟨p3,0,none⟩)] V fun e w'=>qdi.PD V nm nx (fR nm nx rs hs) (fH nm nx rs hs) (fN nm nx rs hs) e w')) :
  Calls Tryz.prog 66 #[.agg #[.slice (some ⟨a0,0,none⟩) es.length ec,.slice (some ⟨b0,0,none⟩) bs.length bc,.slice (some ⟨q0,0,none⟩) qs.length qc,.slice (some ⟨t0,0,none⟩) ts.length tc],.func (.func 71) #[] #[.pointer (some ⟨p1,0,none⟩),.pointer (some ⟨p2,0,none⟩),.pointer (some ⟨p3,0,none⟩)]] w fun e w'=>∃ ge gb gq gt ls us n,e=.returned (.tuple #[.agg #[.slice (some ⟨ge,0,none⟩) es.length es.length,.slice (some ⟨gb,0,none⟩) bs.length bs.length,.slice (some ⟨gq,0,none⟩) qs.length qs.length,.slice (some ⟨gt,0,none⟩) ts.length ts.length],.int .i64 n])/\Hid (An w es bs qs ts ok fR fH fN ge gb gq gt ls us n w'):=by
 obtain⟨W,hW,hWb,hA,hR,hzz⟩:=fl.bx2 w #[.slice (some ⟨a0,0,none⟩) es.length ec,.slice (some ⟨b0,0,none⟩) bs.length bc,.slice (some ⟨q0,0,none⟩) qs.length qc,.slice (some ⟨t0,0,none⟩) ts.length tc] #[.slice none 0 0,.slice none 0 0,.slice none 0 0,.slice none 0 0] 39 39
 have hWs:w.heap.size+2 <= W.heap.size:=by omega
 clear hzz
 have hcc:=cco.copy_core es bs qs ts a0 b0 q0 t0 ec bc qc tc W F (hE.below hWb) (hB.below hWb) (hQ.below hWb) (hT.below hWb) (fun r hr=>by obtain⟨g,h,h1,h2,h3,h4⟩:=hqr r hr;exact⟨g,h,h1,h2,h3.inn hWb,h4.inn hWb⟩) (fun r hr=>(htr r hr).below hWb)
 have HF:Hid (cb.Fit es bs qs ts):=F
 have HAB:Hid (W.heap[w.heap.size]?=some (.cells #[.slice (some ⟨a0,0,none⟩) es.length ec,.slice (some ⟨b0,0,none⟩) bs.length bc,.slice (some ⟨q0,0,none⟩) qs.length qc,.slice (some ⟨t0,0,none⟩) ts.length tc] 39 (0,0))/\W.heap[w.heap.size+1]?=some (.cells #[.slice none 0 0,.slice none 0 0,.slice none 0 0,.slice none 0 0] 39 (0,0))):=⟨hA,hR⟩
 have HOK:Hid (∀ V,Below w.heap.size w V->Calls Tryz.prog 13 #[.agg #[.slice (some ⟨a0,0,none⟩) es.length ec,.slice (some ⟨b0,0,none⟩) bs.length bc,.slice (some ⟨q0,0,none⟩) qs.length qc,.slice (some ⟨t0,0,none⟩) ts.length tc]] V fun e w'=>e=.returned (.bool ok)/\Below V.heap.size V w'):=hok
 have HN:Hid (∀ s∈qs,0 <= fN s.nm s.nx s.rs s.hs/\fN s.nm s.nx s.rs s.hs <= 1048576):=hN
 have HFF:Hid (∀ (nm:ByteArray) (nx:Int) (rs:List flM.Ms) (hs:List flH.Hd) (gr gh rc hc:Nat) (V:World),Below w.heap.size w V->qsp.Fit nm rs hs->Row flM.c 5 V V.heap.size (some ⟨gr,0,none⟩) rs->Row flH.c 7 V V.heap.size (some ⟨gh,0,none⟩) hs->Calls Tryz.prog 71 #[.agg #[.string nm,.int .i64 nx,.slice (some ⟨gr,0,none⟩) rs.length rc,.slice (some ⟨gh,0,none⟩) hs.length hc],.pointer (some ⟨p1,0,none⟩),.pointer (some ⟨p2,0,none⟩),.pointer (some ⟨p3,0,none⟩)] V fun e w'=>qdi.PD V nm nx (fR nm nx rs hs) (fH nm nx rs hs) (fN nm nx rs hs) e w'):=hF
 obtain⟨x0,x1,x2,x3⟩:=fl.q4 hA
 clear hE hB hQ hT hqr htr hok hN hF F hA hR
 go_enter Tryz.func66,Tryz.ntmps66
 go_wp2_with (go_at_call 53;fail)
 clear hW x0 x1 x2 x3
 refine hcc.mono ?_
 rintro e w1 ⟨ge,gb,gq,gt,ks,us,rfl,hcg,hb1⟩
 have hs1:=hb1.size
 have HSM:Hid (cb.Same qs ks ts us):=cb.same_of hcg
 have hal:=fl.bl w1 (.cells #[.slice (some ⟨ge,0,none⟩) es.length es.length,.slice (some ⟨gb,0,none⟩) bs.length bs.length,.slice (some ⟨gq,0,none⟩) qs.length qs.length,.slice (some ⟨gt,0,none⟩) ts.length ts.length] 39)
 have hB1:Below W.heap.size W (w1.alloc (.cells #[.slice (some ⟨ge,0,none⟩) es.length es.length,.slice (some ⟨gb,0,none⟩) bs.length bs.length,.slice (some ⟨gq,0,none⟩) qs.length qs.length,.slice (some ⟨gt,0,none⟩) ts.length ts.length] 39)):=hb1.trans (hal.mono hs1)
 have hca:Ca w1 (w.heap.size+2) es bs ks us ge gb gq gt:=by
  have h:=hcg.a
  exact⟨h.he,h.hb,⟨h.hq.own,Nat.le_trans (by omega) h.hq.bg,fun r hr=>mine_lo (h.hq.ea r hr) (by omega),fun r hr=>mine_lo (h.hq.eb r hr) (by omega),h.hq.pw⟩,⟨h.ht.own,Nat.le_trans (by omega) h.ht.bg,fun r hr=>mine_lo (h.ht.ea r hr) (by omega),fun r hr=>mine_lo (h.ht.eb r hr) (by omega),h.ht.pw⟩,Nat.le_trans (by omega) h.be,Nat.le_trans (by omega) h.bb,h.eb⟩
 have HI0:Hid (Ie w es bs qs ts a0 b0 q0 t0 ec bc qc tc (w.heap.size+2) ge gb gq gt w1.heap.size us ks (w1.alloc (.cells #[.slice (some ⟨ge,0,none⟩) es.length es.length,.slice (some ⟨gb,0,none⟩) bs.length bs.length,.slice (some ⟨gq,0,none⟩) qs.length qs.length,.slice (some ⟨gt,0,none⟩) ts.length ts.length] 39))):=⟨hWb.trans (hB1.mono hWb.size),bstay HAB.out.2 hB1 (by omega),bnew w1 _ _,hca.on hal⟩
 have HAD:Hid (∀ r∈ks,∃ gr gh,r.ra=some ⟨gr,0,none⟩/\r.ha=some ⟨gh,0,none⟩):=fun r hr=>by
  obtain⟨j,hj⟩:=List.mem_iff_getElem?.1 hr
  obtain⟨g,h,h1,h2,_⟩:=hcg.hq.mine j r (by have:=(List.getElem?_eq_some_iff.1 hj).1;have:=hcg.hq.len;omega) hj
  exact⟨g,h,h1,h2⟩
 have HFK:Hid (cb.Fit es bs ks us):=cb.fit_same HF.out (cb.same_of hcg)
 obtain⟨Y,hY⟩:∃ Y,w1.alloc (.cells #[.slice (some ⟨ge,0,none⟩) es.length es.length,.slice (some ⟨gb,0,none⟩) bs.length bs.length,.slice (some ⟨gq,0,none⟩) qs.length qs.length,.slice (some ⟨gt,0,none⟩) ts.length ts.length] 39)=Y:=⟨_,rfl⟩
 rw [hY] at HI0 hB1
 have HBY:Hid (Below W.heap.size W Y):=hB1
 have b1:=bstay HAB.out.1 hB1 (by omega)
 obtain⟨y0,y1,y2,y3⟩:=fl.q4 b1
 have hk2:=HOK.out Y HI0.out.bel
 clear hcc hcg hca hal hb1 b1 hB1
 go_wp2_with (go_at_call 13;fail)
 clear hY y0 y1 y2 y3
 refine hk2.mono ?_
 rintro e w2 ⟨rfl,hb2⟩
 have HI2:Hid (Ie w es bs qs ts a0 b0 q0 t0 ec bc qc tc (w.heap.size+2) ge gb gq gt w1.heap.size us ks w2):=HI0.out.on hb2
 obtain⟨gn,hgn⟩:∃ gn,w1.heap.size=gn:=⟨_,rfl⟩
 rw [hgn] at HI2 ⊢
 obtain⟨n0,n1,n2,n3⟩:=fl.q4 HI2.out.gnb
 clear hk2 HI0 hb2 hgn
 cases ok with
 | false =>
  obtain⟨z0,z1,z2,z3⟩:=fl.q4 HI2.out.res
  obtain⟨f0,f1,f2,f3⟩:=fl.r4 HI2.out.res
  have HFN:=Ie.fin HI2.out
  go_wp2
  exact bodyPost_ret (v:=.tuple #[.agg #[.slice (some ⟨ge,0,none⟩) es.length es.length,.slice (some ⟨gb,0,none⟩) bs.length bs.length,.slice (some ⟨gq,0,none⟩) qs.length qs.length,.slice (some ⟨gt,0,none⟩) ts.length ts.length],.int .i64 0]) (by simp [results,Tryz.results66,go_sem,z0,z1,z2,z3]) rfl ⟨ge,gb,gq,gt,ks,us,0,rfl,HFN.out.1,HSM.out.ql,HSM.out.tl,fun i r s hr hs=>HSM.out.q i r s hr hs,HSM.out.t,rfl,HFN.out.2⟩
 | true =>
  have hq20:=hql rfl
  have hkl:=HSM.out.ql
  have HNK:Hid (∀ s∈ks,0 <= fN s.nm s.nx s.rs s.hs/\fN s.nm s.nx s.rs s.hs <= 1048576):=fun s hs=>by
   obtain⟨i,hi⟩:=List.mem_iff_getElem?.1 hs
   obtain⟨x,hx,e1,e2,e3,e4⟩:=HSM.out.flip.q_at hi
   have:=HN.out x (List.mem_iff_getElem?.2 ⟨i,hx⟩)
   rwa [e1,e2,e3,e4] at this
  have HKL:Hid (ks.length=qs.length):=hkl
  clear hkl
  go_wp2
  go_loopw [21,7] (fun x y wr=>∃ (k:Nat) (d q:List qu.E),k <= qs.length/\x=.int .i64 k/\y=.int .i64 (sumN fN (ks.take k))/\Hid (Dq fR fH ks d q k)/\Hid (Ie w es bs qs ts a0 b0 q0 t0 ec bc qc tc (w.heap.size+2) ge gb gq gt gn us (d++q) wr)) (fun x _ _=>qs.length - (intOf x).toNat)
  case atStart=>exact⟨0,[],ks,Nat.zero_le _,rfl,rfl,⟨rfl,rfl,fun i r s hr=>by simp at hr⟩,HI2⟩
  case round =>
   obtain⟨k,d,q,hk,rfl,rfl,hdq,hinv⟩:=hrel
   clear HI2 n0 n1 n2 n3
   have HSB:Hid (0 <= sumN fN (ks.take k)/\sumN fN (ks.take k) <= 20971520):=by
    have h1:=sum_le fN (ks.take k) (fun s hs=>HNK.out s (List.mem_of_mem_take hs))
    have h2:(ks.take k).length <= 20:=by have:=HKL.out;simp;omega
    show _/\_
    omega
   obtain⟨sm,hsm⟩:∃ sm,sumN fN (ks.take k)=sm:=⟨_,rfl⟩
   have HSS:Hid (sumN fN (ks.take k)=sm):=hsm
   rw [hsm] at HSB ⊢
   have hsb:=HSB.out
   clear hsm
   match q,hdq,hinv with
   | [],hdq,hinv =>
    have hk2:k=qs.length:=by have h1:=congrArg List.length hdq.out.ql;simp at h1;have:=HKL.out;omega
    subst hk2
    have HI3:Hid (Ie w es bs qs ts a0 b0 q0 t0 ec bc qc tc (w.heap.size+2) ge gb gq gt gn us d wr):=by have:=hinv.out;rw [List.append_nil] at this;exact this
    obtain⟨n0,n1,n2,n3⟩:=fl.q4 HI3.out.gnb
    obtain⟨z0,z1,z2,z3⟩:=fl.q4 HI3.out.res
    obtain⟨f0,f1,f2,f3⟩:=fl.r4 HI3.out.res
    have HFN:=Ie.fin HI3.out
    have HQS:Hid (∀ (i:Nat) (r s:qu.E),d[i]?=some r->qs[i]?=some s->Is fR fH s r):=fun i r s hr hs=>by
     obtain⟨x,hx,e1,e2,e3,e4⟩:=HSM.out.q_at hs
     have:=hdq.out.is i r x hr hx
     unfold Is at this ⊢
     rwa [e1,e2,e3,e4] at this
    have HSQ:Hid (sm=sumN fN qs):=by have h1:=HSS.out;rw [show qs.length=ks.length from HKL.out.symm,List.take_length] at h1;rw [<- h1];exact sum_same HSM.out
    have hdl:=hdq.out.dl
    clear hinv hdq HSS
    go_wp2
    exact bodyPost_ret (v:=.tuple #[.agg #[.slice (some ⟨ge,0,none⟩) es.length es.length,.slice (some ⟨gb,0,none⟩) bs.length bs.length,.slice (some ⟨gq,0,none⟩) qs.length qs.length,.slice (some ⟨gt,0,none⟩) ts.length ts.length],.int .i64 sm]) (by simp [results,Tryz.results66,go_sem,z0,z1,z2,z3]) rfl ⟨ge,gb,gq,gt,d,us,sm,rfl,HFN.out.1,hdl,HSM.out.tl,fun i r s hr hs=>HQS.out i r s hr hs,HSM.out.t,HSQ.out,HFN.out.2⟩
   | r :: q,hdq,hinv =>
    have hmem:r∈ks/\k<ks.length:=⟨(hdq.out.more (r':=⟨r.nm,r.nx,none,0,_,none,0,_⟩) ⟨rfl,rfl,rfl,rfl⟩).2.2.2,(hdq.out.more (r':=⟨r.nm,r.nx,none,0,_,none,0,_⟩) ⟨rfl,rfl,rfl,rfl⟩).2.2.1⟩
    have hkl:k<qs.length:=by have:=HKL.out;omega
    have i2:(k:Int)<(qs.length:Int):=by omega
    obtain⟨gr,gh,h1,h2⟩:=HAD.out r hmem.1
    have hnb:=HNK.out r hmem.1
    have f:=HFK.out.qf r hmem.1
    have HTK:Hid (∀ r',Is fR fH r r'->Dq fR fH ks (d++[r']) q (k+1)/\ks.take (k+1)=ks.take k++[r]):=fun r' hr=>⟨(hdq.out.more hr).1,(hdq.out.more hr).2.1⟩
    obtain⟨nm,nx,ra,rc,rs,ha,hc,hs⟩:=r
    simp only at h1 h2 hnb f
    subst h1 h2
    have hdl:=hdq.out.dl
    have cs:=hinv.out.ca.hq.cells k hdl
    have c0:wr.cell? ⟨gq,k*4,none⟩=some (.string nm):=cs 0 _ rfl
    have c1:wr.cell? ⟨gq,k*4+1,none⟩=some (.int .i64 nx):=cs 1 _ rfl
    have c2:wr.cell? ⟨gq,k*4+2,none⟩=some (.slice (some ⟨gr,0,none⟩) rs.length rc):=cs 2 _ rfl
    have c3:wr.cell? ⟨gq,k*4+3,none⟩=some (.slice (some ⟨gh,0,none⟩) hs.length hc):=cs 3 _ rfl
    have hst:=fl.bl wr (.cells #[.string nm,.int .i64 nx,.slice (some ⟨gr,0,none⟩) rs.length rc,.slice (some ⟨gh,0,none⟩) hs.length hc] 68)
    have HIX:Hid (Ie w es bs qs ts a0 b0 q0 t0 ec bc qc tc (w.heap.size+2) ge gb gq gt gn us (d++⟨nm,nx,some ⟨gr,0,none⟩,rc,rs,some ⟨gh,0,none⟩,hc,hs⟩ :: q) (wr.alloc (.cells #[.string nm,.int .i64 nx,.slice (some ⟨gr,0,none⟩) rs.length rc,.slice (some ⟨gh,0,none⟩) hs.length hc] 68))):=hinv.out.on hst
    have hcf:=HFF.out nm nx rs hs gr gh rc hc _ HIX.out.bel f (HIX.out.ca.hq.ea _ qu.mid_in).row (HIX.out.ca.hq.eb _ qu.mid_in).row
    have HDL:Hid (d.length=k):=hdl
    clear cs hst hinv hdq f hdl
    go_wp2_with (go_at_call 71;fail)
    refine hcf.mono ?_
    rintro e w3 ⟨g,ce,h,ao,cb,rfl,hg,hh,hgh,hhl,oA,oH,hb3⟩
    have hs3:=hb3.size
    simp only [World.size_alloc] at hg hh
    have HI3:=HIX.out.on hb3
    have hal3:=fl.bl w3 (.cells #[.string nm,.int .i64 nx,.slice (some ⟨g,0,none⟩) (fR nm nx rs hs).length ce,.slice ao (fH nm nx rs hs).length cb] 68)
    have HI4:=HI3.on hal3
    have hwB:w.heap.size+2 <= wr.heap.size:=Nat.le_trans HI3.ca.be (by have h1:=HIX.out.ca.he.lt;simp only [World.size_alloc] at h1;omega)
    have hmA:fo.Mine flM.c 5 48 (w3.alloc (.cells #[.string nm,.int .i64 nx,.slice (some ⟨g,0,none⟩) (fR nm nx rs hs).length ce,.slice ao (fH nm nx rs hs).length cb] 68)) (w.heap.size+2) (some ⟨g,0,none⟩) (fR nm nx rs hs):=.inr ⟨g,0,rfl,by omega,oA.below hal3 oA.lt⟩
    have hmH:fo.Mine flH.c 7 102 (w3.alloc (.cells #[.string nm,.int .i64 nx,.slice (some ⟨g,0,none⟩) (fR nm nx rs hs).length ce,.slice ao (fH nm nx rs hs).length cb] 68)) (w.heap.size+2) ao (fH nm nx rs hs):=mine_ho (oH.below hal3) (by omega)
    have HPUT:=Ie.put (r':=⟨nm,nx,some ⟨g,0,none⟩,ce,fR nm nx rs hs,ao,cb,fH nm nx rs hs⟩) HDL.out (by omega) HIX.out HI4 hmA hmH (fun x hx=>by
     simp only [World.size_alloc]
     rcases hx with hx | hx
     ·obtain⟨_,g',o',e1,rfl⟩:=hx
      cases e1
      exact hg
     ·rw [blk_ho oH hx];exact hh)
    obtain⟨hdn,htk⟩:=HTK.out ⟨nm,nx,some ⟨g,0,none⟩,ce,fR nm nx rs hs,ao,cb,fH nm nx rs hs⟩ ⟨rfl,rfl,rfl,rfl⟩
    have HDN:Hid (Dq fR fH ks (d++[⟨nm,nx,some ⟨g,0,none⟩,ce,fR nm nx rs hs,ao,cb,fH nm nx rs hs⟩]) q (k+1)):=hdn
    have HSN:Hid (sumN fN (ks.take (k+1))=sm+fN nm nx rs hs):=by show _=_;rw [htk,sum_snoc,HSS.out]
    obtain⟨L,hL⟩:∃ L,fR nm nx rs hs=L:=⟨_,rfl⟩
    obtain⟨H,hH⟩:∃ H,fH nm nx rs hs=H:=⟨_,rfl⟩
    obtain⟨N,hN'⟩:∃ N,fN nm nx rs hs=N:=⟨_,rfl⟩
    rw [hL,hH] at HPUT HDN HI4 hal3
    rw [hN'] at hnb HSN
    rw [hL,hH,hN']
    have HP:Hid (Ie w es bs qs ts a0 b0 q0 t0 ec bc qc tc (w.heap.size+2) ge gb gq gt gn us (d++⟨nm,nx,some ⟨g,0,none⟩,ce,L,ao,cb,H⟩ :: q) _):=HPUT
    have bx:=bnew w3 #[.string nm,.int .i64 nx,.slice (some ⟨g,0,none⟩) L.length ce,.slice ao H.length cb] 68
    have n2:(w3.alloc (.cells #[.string nm,.int .i64 nx,.slice (some ⟨g,0,none⟩) L.length ce,.slice ao H.length cb] 68)).cell? ⟨gn,2,none⟩=some (.slice (some ⟨gq,0,none⟩) qs.length qs.length):=bcell HI4.gnb rfl
    have hlen:(d++(⟨nm,nx,some ⟨gr,0,none⟩,rc,rs,some ⟨gh,0,none⟩,hc,hs⟩:qu.E) :: q).length=k+1+q.length:=by simp;have:=HDL.out;omega
    obtain⟨v0,g0⟩:=HI4.ca.hq.own.at (k*4) (by rw [hlen];omega)
    obtain⟨v1,g1⟩:=HI4.ca.hq.own.at (k*4+1) (by rw [hlen];omega)
    obtain⟨v2,g2⟩:=HI4.ca.hq.own.at (k*4+2) (by rw [hlen];omega)
    obtain⟨v3,g3⟩:=HI4.ca.hq.own.at (k*4+3) (by rw [hlen];omega)
    have u0:=HI4.ca.hq.own.free (k*4)
    have u1:=HI4.ca.hq.own.free (k*4+1)
    have u2:=HI4.ca.hq.own.free (k*4+2)
    have u3:=HI4.ca.hq.own.free (k*4+3)
    obtain⟨y0,y1,y2,y3⟩:=fl.q4 bx
    have hne:w3.heap.size≠gq:=by have h1:=HI3.ca.hq.own.lt;omega
    clear hcf HPUT HI3 HI4 hmA hmH oA oH hdn htk hal3 bx hL hH hN' c0 c1 c2 c3 HIX hlen
    go_wp2
    go_roundw
    case rel=>exact⟨k+1,_,_,by omega,by go_num,by rw [HSN.out],HDN,by rw [List.append_assoc];exact HP⟩
    case measure=>simp [intOf];omega
end Go.Proofs.YteoojodkkjepeaaGreat.ean
namespace Go.Proofs.YteoojodkkjepeaaGreat.qbk
open ChangeShapes WideShapes ChangeAt RowKit fl qsp qdp
def again (h:flH.Hd):flM.Ms:=⟨h.m.q,h.m.x,h.m.k,h.m.b,true⟩
def at_ (l:List flM.Ms)(q:Int):Nat:=(l.takeWhile fun e=>decide (e.q<q)).length
def back (l:List flM.Ms)(m:flM.Ms):List flM.Ms:=l.take (at_ l m.q)++[m]++l.drop (at_ l m.q)
def backs (l:List flM.Ms)(hs:List flH.Hd):List flM.Ms:=hs.foldl (fun l h=>back l (again h)) l
theorem at_le (l:List flM.Ms)(q:Int):at_ l q <= l.length:=by unfold at_;exact(List.takeWhile_sublist _).length_le
theorem back_len (l:List flM.Ms)(m:flM.Ms):(back l m).length=l.length+1:=by
 have:=at_le l m.q
 simp [back]
 omega
theorem back_perm (l:List flM.Ms)(m:flM.Ms):(back l m).Perm (l++[m]):=by
 unfold back
 rw [List.append_assoc]
 refine(List.Perm.append_left _ List.perm_append_comm).trans ?_
 rw [<- List.append_assoc,List.take_append_drop]
theorem backs_snoc (l:List flM.Ms)(hs:List flH.Hd)(h:flH.Hd):backs l (hs++[h])=back (backs l hs) (again h):=by unfold backs;rw [List.foldl_append];rfl
theorem backs_perm (l:List flM.Ms)(hs:List flH.Hd):(backs l hs).Perm (l++hs.map again):=by
 induction hs generalizing l with
 | nil=>simp [backs]
 | cons h t ih =>
  have e:backs l (h :: t)=backs (back l (again h)) t:=rfl
  rw [e]
  refine(ih _).trans ?_
  have e2:l++(h :: t).map again=(l++[again h])++t.map again:=by simp
  rw [e2]
  exact(back_perm l (again h)).append_right _
theorem backs_len (l:List flM.Ms)(hs:List flH.Hd):(backs l hs).length=l.length+hs.length:=by rw [(backs_perm l hs).length_eq];simp
theorem at_lt {l:List flM.Ms}{q:Int}{k:Nat}(hk:k<at_ l q):∃ e,l[k]?=some e/\e.q<q:=by
 induction l generalizing k with
 | nil=>simp [at_] at hk
 | cons a l ih =>
  by_cases ha:a.q<q
  ·cases k with
   | zero=>exact⟨a,rfl,ha⟩
   | succ k =>
    have:at_ (a :: l) q=at_ l q+1:=by simp [at_,ha]
    obtain⟨e,h1,h2⟩:=ih (k:=k) (by omega)
    exact⟨e,by simpa using h1,h2⟩
  ·have:at_ (a :: l) q=0:=by simp [at_,ha]
   omega
theorem at_not {l:List flM.Ms}{q:Int}{e:flM.Ms}(he:l[at_ l q]?=some e):¬ e.q<q:=by
 induction l with
 | nil=>simp at he
 | cons a l ih =>
  by_cases ha:a.q<q
  ·have h1:at_ (a :: l) q=at_ l q+1:=by simp [at_,ha]
   rw [h1] at he
   exact ih (by simpa using he)
  ·have h1:at_ (a :: l) q=0:=by simp [at_,ha]
   rw [h1] at he
   simp at he
   subst he
   exact ha
theorem at_of {l:List flM.Ms}{q:Int}{k:Nat}(h1:∀ i e,i<k->l[i]?=some e->e.q<q)(h2:∀ e,l[k]?=some e->¬ e.q<q)(hk:k <= l.length):at_ l q=k:=by
 rcases Nat.lt_trichotomy (at_ l q) k with h | h | h
 ·have hlt:at_ l q<l.length:=by omega
  exact absurd (h1 _ _ h (List.getElem?_eq_getElem hlt)) (at_not (List.getElem?_eq_getElem hlt))
 ·exact h
 ·obtain⟨e,h3,h4⟩:=at_lt h
  exact absurd h4 (h2 e h3)
def Up (l:List flM.Ms):Prop:=l.Pairwise fun a b=>a.q<b.q
theorem back_up {l:List flM.Ms}{m:flM.Ms}(hl:Up l)(hm:∀ e∈l,e.q≠m.q):Up (back l m):=by
 have hsplit:l.take (at_ l m.q)++l.drop (at_ l m.q)=l:=List.take_append_drop _ _
 have hl2:=hl
 unfold Up at hl2
 rw [<- hsplit,List.pairwise_append] at hl2
 obtain⟨ha,hb,hab⟩:=hl2
 have h1:∀ e∈l.take (at_ l m.q),e.q<m.q:=fun e he=>by
  obtain⟨i,hi⟩:=List.mem_iff_getElem?.1 he
  have hlt:=(List.getElem?_eq_some_iff.1 hi).1
  rw [List.length_take] at hlt
  obtain⟨e',h3,h4⟩:=at_lt (l:=l) (q:=m.q) (k:=i) (by omega)
  rw [List.getElem?_take_of_lt (by omega),h3] at hi
  cases hi
  exact h4
 have h2:∀ e∈l.drop (at_ l m.q),m.q<e.q:=fun e he=>by
  have hge:¬ e.q<m.q:=by
   cases hd:l.drop (at_ l m.q) with
   | nil=>rw [hd] at he;cases he
   | cons f t =>
    have hf:l[at_ l m.q]?=some f:=by
     have:=congrArg (fun x=>x[0]?) hd
     simpa using this
    have hfn:=at_not hf
    rw [hd] at he
    rcases List.mem_cons.1 he with rfl | he
    ·exact hfn
    ·rw [hd] at hb
     have:=(List.pairwise_cons.1 hb).1 e he
     omega
  have:=hm e (List.mem_of_mem_drop he)
  omega
 unfold Up back
 rw [List.append_assoc,List.pairwise_append]
 refine⟨ha,List.pairwise_append.2 ⟨List.pairwise_singleton _ _,hb,fun a ha b hb=>by rw [List.mem_singleton] at ha;subst ha;exact h2 b hb⟩,fun a ha b hb=>?_⟩
 rcases List.mem_append.1 hb with hb | hb
 ·rw [List.mem_singleton] at hb;subst hb;exact h1 a ha
 ·exact hab a ha b hb
theorem backs_up {l:List flM.Ms}{hs:List flH.Hd}(hl:Up l)(hd:∀ h∈hs,∀ e∈l,e.q≠h.m.q)(hp:hs.Pairwise fun a b=>a.m.q≠b.m.q):Up (backs l hs):=by
 induction hs generalizing l with
 | nil=>exact hl
 | cons h t ih =>
  obtain⟨hp1,hp2⟩:=List.pairwise_cons.1 hp
  have e:backs l (h :: t)=backs (back l (again h)) t:=rfl
  rw [e]
  refine ih (back_up hl (fun e he=>hd h (List.mem_cons_self ..) e he)) (fun h' hh' e he=>?_) hp2
  rcases List.mem_append.1 ((back_perm l (again h)).mem_iff.1 he) with he | he
  ·exact hd h' (List.mem_cons_of_mem _ hh') e he
  ·rw [List.mem_singleton] at he
   subst he
   exact hp1 h' hh'
theorem up_of {l:List flM.Ms}(ha:∀ (i:Nat) (a c:flM.Ms),l[i]?=some a->l[i+1]?=some c->a.q<c.q):Up l:=List.pairwise_iff_getElem.2 fun i j hi hj hij=>by
 have:=qop.asc_lt ha (j - i - 1) i l[i] l[j] (List.getElem?_eq_getElem hi) (by rw [show i+(j - i - 1)+1=j by omega];exact List.getElem?_eq_getElem hj)
 exact this
theorem of_up {l:List flM.Ms}(h:Up l):∀ (i:Nat) (a c:flM.Ms),l[i]?=some a->l[i+1]?=some c->a.q<c.q:=fun i a c ha hc=>by
 have h1:=(List.getElem?_eq_some_iff.1 ha)
 have h2:=(List.getElem?_eq_some_iff.1 hc)
 obtain⟨h3,rfl⟩:=h1
 obtain⟨h4,rfl⟩:=h2
 exact List.pairwise_iff_getElem.1 h i (i+1) h3 h4 (Nat.lt_succ_self i)
theorem ok_up {nm:ByteArray}{nx:Int}{es:List flM.Ms}{ms:List flH.Hd}(hok:qk.OkQ nm nx es ms)(o t:Int)(a:Bool):Up (backs es (gone o t a ms)):=by
 refine backs_up (up_of hok.ru) (fun h hh e he=>?_) ?_
 ·obtain⟨i,hi⟩:=List.mem_iff_getElem?.1 (List.mem_filter.1 hh).1
  obtain⟨k,hk⟩:=List.mem_iff_getElem?.1 he
  exact hok.d1 i k e h hk hi
 ·refine List.Pairwise.sublist List.filter_sublist ?_
  exact List.pairwise_iff_getElem.2 fun i j hi hj hij=>hok.d2 j i _ _ hij (List.getElem?_eq_getElem hi) (List.getElem?_eq_getElem hj)
noncomputable def ansR (nm:ByteArray)(nx:Int)(rs:List flM.Ms)(hs:List flH.Hd)(o t:Int)(a:Bool):List flM.Ms:=if okB nm nx rs hs=true then backs rs (gone o t a hs) else rs
theorem ansR_le (nm:ByteArray)(nx:Int)(rs:List flM.Ms)(hs:List flH.Hd)(o t:Int)(a:Bool):(ansR nm nx rs hs o t a).length <= rs.length ∨ (ansR nm nx rs hs o t a).length <= 500:=by
 unfold ansR
 split
 ·rename_i hob
  have hl:=(okB_true.1 hob).ln
  have:=gone_le o t a hs
  rw [backs_len]
  omega
 ·omega
end Go.Proofs.YteoojodkkjepeaaGreat.qbk
