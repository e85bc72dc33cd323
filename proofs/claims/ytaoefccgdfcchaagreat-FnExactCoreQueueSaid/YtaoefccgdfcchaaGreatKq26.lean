/- CoreAns, RouteArg, FlatArg, QueueArg, StreamArg, CoreArg, CoreOkLaw. -/
import Derived.Test.YtaoefccgdfcchaaGreatKq17
import Derived.Test.YtaoefccgdfcchaaGreatKq25
import Derived.Test.YtaoefccgdfcchaaGreatKq11
import Derived.Deep.SlicePairs
import Derived.Deep.Strs
import Derived.Lib.SmallJoins
import Derived.Test.YtaoefccgdfcchaaGreatKq01
import Derived.Test.YtaoefccgdfcchaaGreatKq02
import Derived.Test.YtaoefccgdfcchaaGreatKq03
import Derived.Test.YtaoefccgdfcchaaGreatKq06
import Derived.Test.YtaoefccgdfcchaaGreatKq07
import Derived.Test.YtaoefccgdfcchaaGreatKq09
set_option maxRecDepth 100000
set_option maxHeartbeats 8000000
set_option linter.unusedVariables false
namespace Go.Proofs.YtaoefccgdfcchaaGreat.cn
open ChangeShapes WideShapes ChangeAt RowKit rr ra rt fl co
structure SA (w w':World) (es:List Ex) (bs:List Bi) (Q:List qu.E) (U:List su.E) (ea ba qa ta:Option Addr) (ls:List qu.E) (us:List su.E):Prop where
 se:fo.Mine Go.Proofs.YtaoefccgdfcchaaGreat.su.cE 2 137 w' w.heap.size ea es
 sb:fo.Mine Go.Proofs.YtaoefccgdfcchaaGreat.su.cB 3 138 w' w.heap.size ba bs
 q:fo.Mine qu.c 4 58 w' w.heap.size qa ls
 qe:∀ r ∈ ls,fo.Mine flM.c 5 129 w' w.heap.size r.ra r.rs/\fo.Mine flH.c 7 131 w' w.heap.size r.ha r.hs
 t:fo.Mine su.c 5 54 w' w.heap.size ta us
 te:∀ r ∈ us,fo.Mine flY.c 3 134 w' w.heap.size r.ra r.rs/\fo.Mine flK.c 2 136 w' w.heap.size r.ha r.hs
 same:cb.Same Q ls U us
 bel:Below w.heap.size w w'
theorem SA.rows {w w':World} {es:List Ex} {bs:List Bi} {Q:List qu.E} {U:List su.E} {ea ba qa ta:Option Addr} {ls:List qu.E} {us:List su.E} (h:SA w w' es bs Q U ea ba qa ta ls us):SE w' w'.heap.size ea es/\SB w' w'.heap.size ba bs/\qu.V w' w'.heap.size qa ls/\su.V w' w'.heap.size ta us:=⟨Go.Proofs.YtaoefccgdfcchaaGreat.su.se_row h.se.row,Go.Proofs.YtaoefccgdfcchaaGreat.su.sb_row h.sb.row,⟨h.q.row,fun r hr=>⟨(h.qe r hr).1.row,(h.qe r hr).2.row⟩⟩,⟨h.t.row,fun r hr=>⟨(h.te r hr).1.row,(h.te r hr).2.row⟩⟩⟩
theorem mine_lo {α:Type} {c:α->List Value} {n:Nat} {U:TypeId} {W:World} {B B':Nat} {a:Option Addr} {l:List α} (h:fo.Mine c n U W B a l) (hB:B' <= B):fo.Mine c n U W B' a l:=by
 rcases h with h | ⟨g,o,h1,h2,h3⟩
 ·exact .inl h
 ·exact .inr ⟨g,o,h1,by omega,h3⟩
theorem mine_keep {α:Type} {c:α->List Value} {n B B' g:Nat} {T T':TypeId} {a:Option Addr} {l:List α} {W W':World} (hT:T ≠ T') (ht:fo.Tn W W' (fun k=>k=g)) (hg:∃ cur,W.heap[g]?=some (.cells cur T (0,0))) (hB:B' <= B) (h:fo.Mine c n T' W B a l):fo.Mine c n T' W' B' a l:=mine_lo (h.kept ht (fun k hk e=>by subst e; exact rmk.ne_type hT hg (rmk.mine_type h hk))) hB
theorem sa_res {w W w1:World} {es:List Ex} {bs:List Bi} {Q:List qu.E} {U:List su.E} {ea ba qa ta:Option Addr} {ls:List qu.E} {us:List su.E} {b:Nat} {cur:Array Value} {v0 v1 v2 v3:Value} (hW:Below w.heap.size w W) (h:SA W w1 es bs Q U ea ba qa ta ls us) (hb:w1.heap[b]?=some (.cells cur 38 (0,0))) (hlo:w.heap.size <= b):Hid (SA w ((((w1.setCell ⟨b,0,none⟩ v0).setCell ⟨b,1,none⟩ v1).setCell ⟨b,2,none⟩ v2).setCell ⟨b,3,none⟩ v3) es bs Q U ea ba qa ta ls us):=by
 have hg:∃ cur,w1.heap[b]?=some (.cells cur 38 (0,0)):=⟨_,hb⟩
 have ht:fo.Tn w1 ((((w1.setCell ⟨b,0,none⟩ v0).setCell ⟨b,1,none⟩ v1).setCell ⟨b,2,none⟩ v2).setCell ⟨b,3,none⟩ v3) (fun k=>k=b):=((((fo.Tn.refl w1 (fun k=>k=b)).set (g:=b) rfl _ _).set (g:=b) rfl _ _).set (g:=b) rfl _ _).set (g:=b) rfl _ _
 generalize (((w1.setCell ⟨b,0,none⟩ v0).setCell ⟨b,1,none⟩ v1).setCell ⟨b,2,none⟩ v2).setCell ⟨b,3,none⟩ v3=V at ht ⊢
 have hs:=hW.size
 have hB:=hW.trans (h.bel.mono hs)
 exact ⟨mine_keep (by decide) ht hg hs h.se,mine_keep (by decide) ht hg hs h.sb,mine_keep (by decide) ht hg hs h.q,fun r hr=>⟨mine_keep (by decide) ht hg hs (h.qe r hr).1,mine_keep (by decide) ht hg hs (h.qe r hr).2⟩,mine_keep (by decide) ht hg hs h.t,fun r hr=>⟨mine_keep (by decide) ht hg hs (h.te r hr).1,mine_keep (by decide) ht hg hs (h.te r hr).2⟩,h.same,hB.trans (ht.below hB.size (fun k e=>by rw [e]; exact hlo))⟩
structure IA (w w':World) (es:List Ex) (bs:List Bi) (Q:List qu.E) (U:List su.E) (ge gb gq gt:Nat) (ls:List qu.E) (us:List su.E):Prop where
 ca:Ca w' w.heap.size es bs ls us ge gb gq gt
 same:cb.Same Q ls U us
 bel:Below w.heap.size w w'
section
variable {w w':World} {B ge gb gq gt:Nat} {es:List Ex} {bs:List Bi} {Q ls ls':List qu.E} {U us us':List su.E} {Z:Nat->Prop}
theorem ls_v {l:List qu.E} (h:qu.Ls w B gq l):qu.V w w.heap.size (some ⟨gq,0,none⟩) l:=⟨h.own.row,fun r hr=>⟨(h.ea r hr).row,(h.eb r hr).row⟩⟩
theorem lt_v {l:List su.E} (h:su.Ls w B gt l):su.V w w.heap.size (some ⟨gt,0,none⟩) l:=⟨h.own.row,fun r hr=>⟨(h.ea r hr).row,(h.eb r hr).row⟩⟩
theorem ca_hi (h:Ca w B es bs ls us ge gb gq gt) {k:Nat} (hk:coB ls us ge gb gq gt k):k < w.heap.size:=by
 rcases hk with rfl | rfl | (rfl | ⟨r,hr,h1 | h1⟩) | (rfl | ⟨r,hr,h1 | h1⟩)
 ·exact h.he.lt
 ·exact h.hb.lt
 ·exact h.hq.own.lt
 ·exact ((h.hq.ea r hr).blk_le h1).2
 ·exact ((h.hq.eb r hr).blk_le h1).2
 ·exact h.ht.own.lt
 ·exact ((h.ht.ea r hr).blk_le h1).2
 ·exact ((h.ht.eb r hr).blk_le h1).2
theorem ca_kept (h:Ca w B es bs ls us ge gb gq gt) (ht:fo.Tn w w' Z) (hZ:∀ k,Z k->k < B):Ca w' B es bs ls us ge gb gq gt:=by
 have hn:∀ k,B <= k->¬ Z k:=fun k hk hz=>by have:=hZ k hz; omega
 refine ⟨ro2.keptE h.he (ht.block ge h.he.lt (hn ge h.be)),ro2.keptB h.hb (ht.block gb h.hb.lt (hn gb h.bb)),⟨h.hq.own.kept (ht.block gq h.hq.own.lt (hn gq h.hq.bg)),h.hq.bg,fun r hr=>(h.hq.ea r hr).kept ht (fun k hk=>hn k ((h.hq.ea r hr).blk_le hk).1),fun r hr=>(h.hq.eb r hr).kept ht (fun k hk=>hn k ((h.hq.eb r hr).blk_le hk).1),h.hq.pw⟩,⟨h.ht.own.kept (ht.block gt h.ht.own.lt (hn gt h.ht.bg)),h.ht.bg,fun r hr=>(h.ht.ea r hr).kept ht (fun k hk=>hn k ((h.ht.ea r hr).blk_le hk).1),fun r hr=>(h.ht.eb r hr).kept ht (fun k hk=>hn k ((h.ht.eb r hr).blk_le hk).1),h.ht.pw⟩,h.be,h.bb,h.eb⟩
theorem tot_q:∀ {Q ls:List qu.E},ls.length=Q.length->(∀ (k:Nat) (r s:qu.E),ls[k]?=some r->Q[k]?=some s->qu.same r s)->qu.tot ls=qu.tot Q
 | [],[],_,_=>rfl
 | [],_ :: _,h,_=>by simp at h
 | _ :: _,[],h,_=>by simp at h
 | s :: Q,r :: ls,h,hs=>by
  obtain ⟨_,_,h3,h4⟩:=hs 0 r s rfl rfl
  simp only [qu.tot,qu.wtm,h3,h4]
  rw [tot_q (by simpa using h) (fun k a b ha hb=>hs (k+1) a b (by simpa using ha) (by simpa using hb))]
theorem tot_t:∀ {U us:List su.E},us.length=U.length->(∀ (k:Nat) (r s:su.E),us[k]?=some r->U[k]?=some s->su.same r s)->su.tot us=su.tot U
 | [],[],_,_=>rfl
 | [],_ :: _,h,_=>by simp at h
 | _ :: _,[],h,_=>by simp at h
 | s :: U,r :: us,h,hs=>by
  obtain ⟨_,_,_,h3,h4⟩:=hs 0 r s rfl rfl
  simp only [su.tot,su.wtm,h3,h4]
  rw [tot_t (by simpa using h) (fun k a b ha hb=>hs (k+1) a b (by simpa using ha) (by simpa using hb))]
theorem sm_same (S:Sm es bs Q U) (h:cb.Same Q ls U us):Sm es bs ls us:=by
 refine ⟨S.el,S.bl,by rw [h.ql]; exact S.ql,by rw [h.tl]; exact S.tl,fun r hr=>?_,fun r hr=>?_,by rw [tot_q h.ql h.q]; exact S.qt,by rw [tot_t h.tl h.t]; exact S.tt⟩
 ·obtain ⟨i,hi⟩:=cb.mem_at hr
  obtain ⟨s,hs,_,_,h3,h4⟩:=h.flip.q_at hi
  have:=S.qe s (List.mem_iff_getElem?.2 ⟨i,hs⟩)
  rwa [h3,h4] at this
 ·obtain ⟨i,hi⟩:=cb.mem_at hr
  obtain ⟨s,hs,_,_,_,h3,h4⟩:=h.flip.t_at hi
  have:=S.te s (List.mem_iff_getElem?.2 ⟨i,hs⟩)
  rwa [h3,h4] at this
theorem tot_wt:∀ (l:List qu.E),qu.tot l <= 2*l.length+7*bulk qu.wt l
 | []=>by simp [qu.tot]
 | r :: l=>by
  have h:=tot_wt l
  have e:bulk qu.wt (r :: l)=qu.wt r+bulk qu.wt l:=rfl
  simp only [qu.tot,qu.wtm,List.length_cons,e,qu.wt]
  omega
theorem tot_wtt:∀ (l:List su.E),su.tot l <= 3*l.length+3*bulk su.wt l
 | []=>by simp [su.tot]
 | r :: l=>by
  have h:=tot_wtt l
  have e:bulk su.wt (r :: l)=su.wt r+bulk su.wt l:=rfl
  simp only [su.tot,su.wtm,List.length_cons,e,su.wt]
  omega
theorem sm_of {qs:List qu.E} {ts:List su.E} (h:es.length+bulkE es+bs.length+bulkB bs+qs.length+bulk qu.wt qs+ts.length+bulk su.wt ts <= 1048576):Sm es bs qs ts:=by
 have F:=cb.fit h
 have h1:=tot_wt qs
 have h2:=tot_wtt ts
 exact ⟨F.el,F.bl,by have:=F.ql; omega,by have:=F.tl; omega,fun r hr=>by have:=(F.qf r hr).el; have:=(F.qf r hr).ml; omega,fun r hr=>by have:=(F.tf r hr).el; have:=(F.tf r hr).ml; omega,by omega,by omega⟩
theorem eq_ans (w:World) (ea ba qa ta:Option Addr) (ec bc qc tc ec' bc' qc' tc':Nat) (S:Sm es bs Q U) (I:Ca w B es bs ls us ge gb gq gt) (s1:cb.Same Q ls U us) (h1:SE w w.heap.size ea es) (h2:SB w w.heap.size ba bs) (h3:qu.V w w.heap.size qa ls') (h4:su.V w w.heap.size ta us') (s2:cb.Same Q ls' U us') :
  Calls Tryz.prog 8 #[.agg #[.slice (some ⟨ge,0,none⟩) es.length ec,.slice (some ⟨gb,0,none⟩) bs.length bc,.slice (some ⟨gq,0,none⟩) Q.length qc,.slice (some ⟨gt,0,none⟩) U.length tc],.agg #[.slice ea es.length ec',.slice ba bs.length bc',.slice qa Q.length qc',.slice ta U.length tc']] w fun e w'=>e=.returned (.bool true)/\Below w.heap.size w w':=by
 have S':=sm_same S s1
 have k:=eq_core es bs ls ls' us us' (some ⟨ge,0,none⟩) (some ⟨gb,0,none⟩) (some ⟨gq,0,none⟩) (some ⟨gt,0,none⟩) ea ba qa ta ec bc qc tc ec' bc' qc' tc' w S.el S.bl (by have:=S'.ql; unfold maxLen; omega) (by have:=S'.tl; unfold maxLen; omega) (fun e he=>by have:=S'.qe e he; unfold maxLen; omega) (fun e he=>by have:=S'.te e he; unfold maxLen; omega) (by rw [s2.ql,s1.ql]) (by rw [s2.tl,s1.tl]) (fun k r s hr hs=>?_) (fun k r s hr hs=>?_) (se_re I.he.all) h1 (sb_rb I.hb.all) h2 (ls_v I.hq) h3 (lt_v I.ht) h4
 ·rw [s1.ql,s1.tl] at k
  exact k
 ·obtain ⟨x,hx,a,b,c,d⟩:=s2.flip.q_at hs
  obtain ⟨a',b',c',d'⟩:=s1.q k r x hr hx
  exact ⟨a'.trans a,b'.trans b,c'.trans c,d'.trans d⟩
 ·obtain ⟨x,hx,a,b,c,d,f⟩:=s2.flip.t_at hs
  obtain ⟨a',b',c',d',f'⟩:=s1.t k r x hr hx
  exact ⟨a'.trans a,b'.trans b,c'.trans c,d'.trans d,f'.trans f⟩
theorem mark_ans (w:World) (ec bc qc tc:Nat) (S:Sm es bs Q U) (I:Ca w B es bs ls us ge gb gq gt) (s1:cb.Same Q ls U us) :
  Calls Tryz.prog 9 #[.agg #[.slice (some ⟨ge,0,none⟩) es.length ec,.slice (some ⟨gb,0,none⟩) bs.length bc,.slice (some ⟨gq,0,none⟩) Q.length qc,.slice (some ⟨gt,0,none⟩) U.length tc],.int .i64 1] w fun e w'=>e=.returned (.int .i64 (1+2*es.length+bs.length*3+qu.tot ls+su.tot us:Nat))/\fo.Tn w w' (coB ls us ge gb gq gt)/\Cm w' B es bs ls us ge gb gq gt:=by
 have k:=mark_core es bs ls us B ge gb gq gt ec bc qc tc w (sm_same S s1) I
 rw [s1.ql,s1.tl] at k
 exact k
theorem held_ans (w:World) (ec bc qc tc:Nat) (S:Sm es bs Q U) (I:Cm w B es bs ls us ge gb gq gt) (s1:cb.Same Q ls U us) :
  Calls Tryz.prog 10 #[.agg #[.slice (some ⟨ge,0,none⟩) es.length ec,.slice (some ⟨gb,0,none⟩) bs.length bc,.slice (some ⟨gq,0,none⟩) Q.length qc,.slice (some ⟨gt,0,none⟩) U.length tc],.int .i64 1] w fun e w'=>e=.returned (.int .i64 (1+2*es.length+bs.length*3+qu.tot ls+su.tot us:Nat))/\Below w.heap.size w w':=by
 have k:=held_core es bs ls us B ge gb gq gt ec bc qc tc w (sm_same S s1) I
 rw [s1.ql,s1.tl] at k
 exact k
end
end Go.Proofs.YtaoefccgdfcchaaGreat.cn
namespace Go.Proofs.YtaoefccgdfcchaaGreat.rg
open ChangeShapes WideShapes ChangeAt RowKit rr ra
theorem add_at {b off:Nat} (i:Nat):(⟨b,off,none⟩:Addr).add i=⟨b,off+i,none⟩:=by unfold Addr.add; split <;> simp_all
instance :Inhabited Ex:=⟨⟨ByteArray.empty,0⟩⟩
instance :Inhabited Bi:=⟨⟨ByteArray.empty,ByteArray.empty,ByteArray.empty⟩⟩
theorem se_of {W:World} {a:Addr} {l:List Ex} (hc:∀ (i:Nat) (e:Ex),l[i]?=some e->W.cell? (a.add (i*2))=some (.string e.n)/\W.cell? (a.add (i*2+1))=some (.int .i64 e.k)):SE W W.heap.size (some a) l:=by
 cases l with
 | nil=>exact .inl rfl
 | cons y r =>
  obtain ⟨b,off,spot⟩:=a
  have h0:=(hc 0 y rfl).1
  have hspot:spot=none:=by simpa [Addr.add] using World.cell?_spot h0
  subst hspot
  refine .inr ⟨b,off,rfl,block_lt_of_cell h0,fun i x hx=>?_⟩
  have h:=hc i x hx
  rw [add_at,add_at] at h
  exact h
theorem sb_of {W:World} {a:Addr} {l:List Bi} (hc:∀ (i:Nat) (e:Bi),l[i]?=some e->W.cell? (a.add (i*3))=some (.string e.x)/\W.cell? (a.add (i*3+1))=some (.string e.k)/\W.cell? (a.add (i*3+2))=some (.string e.q)):SB W W.heap.size (some a) l:=by
 cases l with
 | nil=>exact .inl rfl
 | cons y r =>
  obtain ⟨b,off,spot⟩:=a
  have h0:=(hc 0 y rfl).1
  have hspot:spot=none:=by simpa [Addr.add] using World.cell?_spot h0
  subst hspot
  refine .inr ⟨b,off,rfl,block_lt_of_cell h0,fun i x hx=>?_⟩
  have h:=hc i x hx
  rw [add_at,add_at,add_at] at h
  exact h
section
variable {H:Type} {enc:TypeId × Value->H}
theorem open_triples {P:Program} {w:World} {base:Nat} {held:Bool} {t e:TypeId} {f0 f1 f2:Field} {fuel:Nat} {cs:List Value} {x:DataW H × List MemPlace} (ht:P.underlying t=some (.slice e)) (he:P.underlying e=some (.struct #[f0,f1,f2]))
  (ce:P.cellsOf e=3) (o0:f0.offset=0) (o1:f1.offset=1) (o2:f2.offset=2) (c0:P.cellsOf f0.type=1) (c1:P.cellsOf f1.type=1) (c2:P.cellsOf f2.type=1)
  (h:DataW.trod enc P w base (fun _=>true) held fuel t cs=some x) :
  cs=[.slice none 0 0] ∨
  ∃ (a:Addr) (len cap:Nat),cs=[.slice (some a) len cap]/\len <= cap/\cap <= maxLen /\
   ∀ i,i < len->∃ (v0 v1 v2:Value) (y0 y1 y2:DataW H × List MemPlace) (n:Nat),w.cell? (a.add (i*3))=some v0/\w.cell? (a.add (i*3+1))=some v1/\w.cell? (a.add (i*3+2))=some v2 /\
    DataW.trod enc P w base (fun _=>true) held n f0.type [v0]=some y0/\DataW.trod enc P w base (fun _=>true) held n f1.type [v1]=some y1/\DataW.trod enc P w base (fun _=>true) held n f2.type [v2]=some y2:=by
 rcases Deep.open_slice ht h with ⟨h0,_⟩ | ⟨a,len,cap,m,n,D,Pl,rfl,hb,hl,hm,hmm,rfl,hx⟩
 ·exact .inl h0
 refine .inr ⟨a,len,cap,rfl,hl,hm,fun i hi=>?_⟩
 simp at hmm
 obtain ⟨cs',h1,h2⟩:=hx i (by omega)
 rw [ce] at h1
 obtain ⟨_,hlen,hcell⟩:=World.cells?_some h1
 obtain ⟨xs,k,hk,hxy,_,hxl,hf⟩:=DataW.trod_struct he h2
 match xs,hxl,cs',hlen with
 | [y0,y1,y2],_,[v0,v1,v2],_ =>
  have g0:=hf 0 f0 rfl
  have g1:=hf 1 f1 rfl
  have g2:=hf 2 f2 rfl
  simp [o0,o1,o2,c0,c1,c2] at g0 g1 g2
  have e0:=hcell 0 (by omega)
  have e1:=hcell 1 (by omega)
  have e2:=hcell 2 (by omega)
  rw [Deep.add_add] at e0 e1 e2
  exact ⟨v0,v1,v2,y0,y1,y2,k,by simpa using e0,by simpa using e1,by simpa using e2,g0,g1,g2⟩
theorem open_exchanges {W:World} {n:Nat} {v:Value} {y:DataW H × List MemPlace} (h:DataW.trod enc Tryz.prog W 0 (fun _=>true) true n 22 [v]=some y) :
  ∃ (a:Option Addr) (es:List Ex) (cap:Nat),v=.slice a es.length cap/\es.length <= maxLen/\(∀ e ∈ es,e.n.size <= maxLen)/\SE W W.heap.size a es:=by
 rcases Deep.open_slice_pairs Tryz.underlying22 Tryz.underlying117 (by kernel_rfl) rfl rfl (by kernel_rfl) (by kernel_rfl) h with ⟨hcs,_⟩ | ⟨a,len,cap,m,k,V0,V1,D0,D1,P0,P1,hcs,_,hl,hm,hmm,_,hx⟩
 ·simp at hcs
  exact ⟨none,[],0,hcs,by simp,by simp,.inl rfl⟩
 ·simp at hcs hmm
  have each:∀ i,i < len->∃ e:Ex,e.n.size <= maxLen/\W.cell? (a.add (i*2))=some (.string e.n)/\W.cell? (a.add (i*2+1))=some (.int .i64 e.k):=fun i hi=>by
   obtain ⟨c0,c1,t0,t1⟩:=hx i (by omega)
   obtain ⟨s,e0,_,ws⟩:=DataW.trod_string Tryz.underlying9 t0
   obtain ⟨z,e1,_,wz⟩:=DataW.trod_int Tryz.underlying3 t1
   simp at e0 e1
   exact ⟨⟨s,z⟩,ws,by rw [c0,e0],by rw [c1,e1]⟩
  obtain ⟨E,hE⟩:=Deep.choose_lt each
  refine ⟨some a,(List.range len).map E,cap,by simpa using hcs,by simp; omega,?_,se_of fun i x hi=>?_⟩
  ·intro x hxm
   obtain ⟨i,hi,rfl⟩:=List.mem_map.1 hxm
   exact (hE i (List.mem_range.1 hi)).1
  ·have hlt:=(List.getElem?_eq_some_iff.1 hi).1
   simp at hlt
   have he:=(List.getElem?_eq_some_iff.1 hi).2
   simp at he
   subst he
   exact (hE i hlt).2
theorem open_bindings {W:World} {n:Nat} {v:Value} {y:DataW H × List MemPlace} (h:DataW.trod enc Tryz.prog W 0 (fun _=>true) true n 23 [v]=some y) :
  ∃ (a:Option Addr) (bs:List Bi) (cap:Nat),v=.slice a bs.length cap/\bs.length <= maxLen/\(∀ e ∈ bs,e.x.size <= maxLen/\e.k.size <= maxLen/\e.q.size <= maxLen)/\SB W W.heap.size a bs:=by
 rcases open_triples Tryz.underlying23 Tryz.underlying120 (by kernel_rfl) rfl rfl rfl (by kernel_rfl) (by kernel_rfl) (by kernel_rfl) h with hcs | ⟨a,len,cap,hcs,hl,hm,hx⟩
 ·simp at hcs
  exact ⟨none,[],0,hcs,by simp,by simp,.inl rfl⟩
 ·simp at hcs
  have each:∀ i,i < len->∃ e:Bi,(e.x.size <= maxLen/\e.k.size <= maxLen/\e.q.size <= maxLen)/\W.cell? (a.add (i*3))=some (.string e.x)/\W.cell? (a.add (i*3+1))=some (.string e.k)/\W.cell? (a.add (i*3+2))=some (.string e.q):=fun i hi=>by
   obtain ⟨v0,v1,v2,y0,y1,y2,k,c0,c1,c2,t0,t1,t2⟩:=hx i hi
   obtain ⟨s,e0,_,ws⟩:=DataW.trod_string Tryz.underlying9 t0
   obtain ⟨u,e1,_,wu⟩:=DataW.trod_string Tryz.underlying9 t1
   obtain ⟨q,e2,_,wq⟩:=DataW.trod_string Tryz.underlying9 t2
   simp at e0 e1 e2
   exact ⟨⟨s,u,q⟩,⟨ws,wu,wq⟩,by rw [c0,e0],by rw [c1,e1],by rw [c2,e2]⟩
  obtain ⟨E,hE⟩:=Deep.choose_lt each
  refine ⟨some a,(List.range len).map E,cap,by simpa using hcs,by simp; omega,?_,sb_of fun i x hi=>?_⟩
  ·intro x hxm
   obtain ⟨i,hi,rfl⟩:=List.mem_map.1 hxm
   exact (hE i (List.mem_range.1 hi)).1
  ·have hlt:=(List.getElem?_eq_some_iff.1 hi).1
   simp at hlt
   have he:=(List.getElem?_eq_some_iff.1 hi).2
   simp at he
   subst he
   exact (hE i hlt).2
end
end Go.Proofs.YtaoefccgdfcchaaGreat.rg
namespace Go.Proofs.YtaoefccgdfcchaaGreat.fl
open ChangeShapes WideShapes ChangeAt RowKit
theorem add_at {b off:Nat} (i:Nat):(⟨b,off,none⟩:Addr).add i=⟨b,off+i,none⟩:=by unfold Addr.add; split <;> simp_all
theorem row_of {α:Type} {c:α->List Value} {n:Nat} {W:World} {a:Addr} {l:List α} (hn:∀ e,(c e).length=n) (h0:0 < n) (hc:∀ (i:Nat) (e:α),l[i]?=some e->∀ (j:Nat) (v:Value),(c e)[j]?=some v->W.cell? (a.add (i*n+j))=some v):Row c n W W.heap.size (some a) l:=by
 cases l with
 | nil=>exact .inl rfl
 | cons y r =>
  obtain ⟨b,off,spot⟩:=a
  have hy:0 < (c y).length:=by rw [hn]; exact h0
  have h0:=hc 0 y rfl 0 _ (List.getElem?_eq_getElem hy)
  have hspot:spot=none:=by simpa [Addr.add] using World.cell?_spot h0
  subst hspot
  refine .inr ⟨b,off,rfl,by have:=block_lt_of_cell h0; rw [add_at] at this; exact this,fun i x hx j v hv=>?_⟩
  have h:=hc i x hx j v hv
  rw [add_at,<- Nat.add_assoc] at h
  exact h
section
variable {H:Type} {enc:TypeId × Value->H}
theorem open_row {α:Type} [Inhabited α] {c:α->List Value} {n:Nat} {ok:α->Prop} {P:Program} {W:World} {held:Bool} {fuel:Nat} {t e:TypeId} {v:Value} {y:DataW H × List MemPlace} (hn:∀ e,(c e).length=n) (h0:0 < n)
  (ht:P.underlying t=some (.slice e)) (ce:P.cellsOf e=n)
  (hel:∀ (cs:List Value) (k:Nat) (x:DataW H × List MemPlace),DataW.trod enc P W 0 (fun _=>true) held k e cs=some x->∃ a,cs=c a/\ok a)
  (h:DataW.trod enc P W 0 (fun _=>true) held fuel t [v]=some y) :
  ∃ (a:Option Addr) (l:List α) (cap:Nat),v=.slice a l.length cap/\l.length <= maxLen/\(∀ e ∈ l,ok e)/\Row c n W W.heap.size a l:=by
 rcases Deep.open_slice ht h with ⟨hcs,_⟩ | ⟨a,len,cap,m,k,D,Pl,hcs,hb,hl,hm,hmm,_,hx⟩
 ·simp at hcs
  exact ⟨none,[],0,hcs,by simp,by simp,.inl rfl⟩
 ·simp at hcs hmm
  have each:∀ i,i < len->∃ x:α,ok x/\∀ (j:Nat) (v:Value),(c x)[j]?=some v->W.cell? (a.add (i*n+j))=some v:=fun i hi=>by
   obtain ⟨cs',h1,h2⟩:=hx i (by omega)
   rw [ce] at h1
   obtain ⟨_,hlen,hcell⟩:=World.cells?_some h1
   obtain ⟨x,rfl,hok⟩:=hel cs' k _ h2
   refine ⟨x,hok,fun j v hv=>?_⟩
   have hj:=(List.getElem?_eq_some_iff.1 hv).1
   have hh:=hcell j (by rw [hn] at hj; exact hj)
   rw [Deep.add_add] at hh
   rw [hh]
   simpa using hv
  obtain ⟨E,hE⟩:=Deep.choose_lt each
  refine ⟨some a,(List.range len).map E,cap,by simpa using hcs,by simp; omega,?_,row_of hn h0 fun i x hi=>?_⟩
  ·intro x hxm
   obtain ⟨i,hi,rfl⟩:=List.mem_map.1 hxm
   exact (hE i (List.mem_range.1 hi)).1
  ·have hlt:=(List.getElem?_eq_some_iff.1 hi).1
   simp at hlt
   have he:=(List.getElem?_eq_some_iff.1 hi).2
   simp at he
   subst he
   exact (hE i hlt).2
end
end Go.Proofs.YtaoefccgdfcchaaGreat.fl
namespace Go.Proofs.YtaoefccgdfcchaaGreat.qa
open ChangeShapes WideShapes ChangeAt RowKit fl
instance :Inhabited flM.Ms:=⟨⟨0,ByteArray.empty,ByteArray.empty,ByteArray.empty,false⟩⟩
instance :Inhabited flH.Hd:=⟨⟨0,0,default⟩⟩
theorem cI:Tryz.prog.cellsOf 3=1:=by kernel_rfl
theorem cS:Tryz.prog.cellsOf 9=1:=by kernel_rfl
theorem cB:Tryz.prog.cellsOf 4=1:=by kernel_rfl
theorem cM:Tryz.prog.cellsOf 175=5:=by kernel_rfl
theorem cH:Tryz.prog.cellsOf 178=7:=by kernel_rfl
section
variable {H:Type} {enc:TypeId × Value->H} {W:World}
theorem open_message (cs:List Value) (k:Nat) (x:DataW H × List MemPlace) (h:DataW.trod enc Tryz.prog W 0 (fun _=>true) true k 175 cs=some x):∃ a:flM.Ms,cs=flM.c a/\flM.ok a:=by
 obtain ⟨xs,m,_,_,hlen,hxl,hf⟩:=DataW.trod_struct Tryz.underlying175 h
 rw [cM] at hlen
 match xs,hxl,cs,hlen with
 | [y0,y1,y2,y3,y4],_,[v0,v1,v2,v3,v4],_ =>
  have g0:=hf 0 _ rfl
  have g1:=hf 1 _ rfl
  have g2:=hf 2 _ rfl
  have g3:=hf 3 _ rfl
  have g4:=hf 4 _ rfl
  simp [cI,cS,cB] at g0 g1 g2 g3 g4
  obtain ⟨z,e0,_,_⟩:=DataW.trod_int Tryz.underlying3 g0
  obtain ⟨s1,e1,_,w1⟩:=DataW.trod_string Tryz.underlying9 g1
  obtain ⟨s2,e2,_,w2⟩:=DataW.trod_string Tryz.underlying9 g2
  obtain ⟨s3,e3,_,w3⟩:=DataW.trod_string Tryz.underlying9 g3
  obtain ⟨b,e4,_⟩:=DataW.trod_bool Tryz.underlying4 g4
  simp at e0 e1 e2 e3 e4
  subst e0 e1 e2 e3 e4
  exact ⟨⟨z,s1,s2,s3,b⟩,rfl,w1,w2,w3⟩
theorem open_held (cs:List Value) (k:Nat) (x:DataW H × List MemPlace) (h:DataW.trod enc Tryz.prog W 0 (fun _=>true) true k 178 cs=some x):∃ a:flH.Hd,cs=flH.c a/\flH.ok a:=by
 obtain ⟨xs,m,_,_,hlen,hxl,hf⟩:=DataW.trod_struct Tryz.underlying178 h
 rw [cH] at hlen
 match xs,hxl,cs,hlen with
 | [y0,y1,y2],_,[v0,v1,v2,v3,v4,v5,v6],_ =>
  have g0:=hf 0 _ rfl
  have g1:=hf 1 _ rfl
  have g2:=hf 2 _ rfl
  simp [cI,cM] at g0 g1 g2
  obtain ⟨z,e0,_,_⟩:=DataW.trod_int Tryz.underlying3 g0
  obtain ⟨o,e1,_,_⟩:=DataW.trod_int Tryz.underlying3 g1
  obtain ⟨ms,e2,hok⟩:=open_message _ _ _ g2
  simp [flM.c] at e0 e1 e2
  obtain ⟨rfl,rfl,rfl,rfl,rfl⟩:=e2
  subst e0 e1
  exact ⟨⟨z,o,ms⟩,rfl,hok⟩
end
end Go.Proofs.YtaoefccgdfcchaaGreat.qa
namespace Go.Proofs.YtaoefccgdfcchaaGreat.sa
open ChangeShapes WideShapes ChangeAt RowKit fl
instance :Inhabited flY.En:=⟨⟨0,0,ByteArray.empty⟩⟩
instance :Inhabited rr.Ex:=⟨⟨ByteArray.empty,0⟩⟩
theorem cI:Tryz.prog.cellsOf 3=1:=by kernel_rfl
theorem cS:Tryz.prog.cellsOf 9=1:=by kernel_rfl
theorem cY:Tryz.prog.cellsOf 180=3:=by kernel_rfl
theorem cK:Tryz.prog.cellsOf 182=2:=by kernel_rfl
section
variable {H:Type} {enc:TypeId × Value->H} {W:World}
theorem open_entry (cs:List Value) (k:Nat) (x:DataW H × List MemPlace) (h:DataW.trod enc Tryz.prog W 0 (fun _=>true) true k 180 cs=some x):∃ a:flY.En,cs=flY.c a/\flY.ok a:=by
 obtain ⟨xs,m,_,_,hlen,hxl,hf⟩:=DataW.trod_struct Tryz.underlying180 h
 rw [cY] at hlen
 match xs,hxl,cs,hlen with
 | [y0,y1,y2],_,[v0,v1,v2],_ =>
  have g0:=hf 0 _ rfl
  have g1:=hf 1 _ rfl
  have g2:=hf 2 _ rfl
  simp [cI,cS] at g0 g1 g2
  obtain ⟨z,e0,_,_⟩:=DataW.trod_int Tryz.underlying3 g0
  obtain ⟨o,e1,_,_⟩:=DataW.trod_int Tryz.underlying3 g1
  obtain ⟨s1,e2,_,w1⟩:=DataW.trod_string Tryz.underlying9 g2
  simp at e0 e1 e2
  subst e0 e1 e2
  exact ⟨⟨z,o,s1⟩,rfl,w1⟩
theorem open_mark (cs:List Value) (k:Nat) (x:DataW H × List MemPlace) (h:DataW.trod enc Tryz.prog W 0 (fun _=>true) true k 182 cs=some x):∃ a:rr.Ex,cs=flK.c a/\flK.ok a:=by
 obtain ⟨xs,m,_,_,hlen,hxl,hf⟩:=DataW.trod_struct Tryz.underlying182 h
 rw [cK] at hlen
 match xs,hxl,cs,hlen with
 | [y0,y1],_,[v0,v1],_ =>
  have g0:=hf 0 _ rfl
  have g1:=hf 1 _ rfl
  simp [cI,cS] at g0 g1
  obtain ⟨s1,e0,_,w1⟩:=DataW.trod_string Tryz.underlying9 g0
  obtain ⟨o,e1,_,_⟩:=DataW.trod_int Tryz.underlying3 g1
  simp at e0 e1
  subst e0 e1
  exact ⟨⟨s1,o⟩,rfl,w1⟩
end
end Go.Proofs.YtaoefccgdfcchaaGreat.sa
namespace Go.Proofs.YtaoefccgdfcchaaGreat.ca
open ChangeShapes WideShapes ChangeAt RowKit rr ra fl
instance :Inhabited qu.E:=⟨⟨ByteArray.empty,0,none,0,[],none,0,[]⟩⟩
instance :Inhabited su.E:=⟨⟨ByteArray.empty,0,0,none,0,[],none,0,[]⟩⟩
structure InQ (W:World) (r:qu.E):Prop where
 ok:qu.ok r
 wf:(Lit.int .i64 r.nx).wf=true
 rr:Row flM.c 5 W W.heap.size r.ra r.rs
 rh:Row flH.c 7 W W.heap.size r.ha r.hs
structure InT (W:World) (r:su.E):Prop where
 ok:su.ok r
 wl:(Lit.int .i64 r.lo).wf=true
 wf:(Lit.int .i64 r.nx).wf=true
 rr:Row flY.c 3 W W.heap.size r.ra r.rs
 rh:Row flK.c 2 W W.heap.size r.ha r.hs
theorem cI:Tryz.prog.cellsOf 3=1:=by kernel_rfl
theorem cS:Tryz.prog.cellsOf 9=1:=by kernel_rfl
theorem cMs:Tryz.prog.cellsOf 77=1:=by kernel_rfl
theorem cHs:Tryz.prog.cellsOf 78=1:=by kernel_rfl
theorem cYs:Tryz.prog.cellsOf 82=1:=by kernel_rfl
theorem cKs:Tryz.prog.cellsOf 83=1:=by kernel_rfl
theorem cQ:Tryz.prog.cellsOf 80=4:=by kernel_rfl
theorem cT:Tryz.prog.cellsOf 85=5:=by kernel_rfl
theorem cR:Tryz.prog.cellsOf 25=2:=by kernel_rfl
theorem cEs:Tryz.prog.cellsOf 22=1:=by kernel_rfl
theorem cBs:Tryz.prog.cellsOf 23=1:=by kernel_rfl
theorem cQs:Tryz.prog.cellsOf 26=1:=by kernel_rfl
theorem cTs:Tryz.prog.cellsOf 27=1:=by kernel_rfl
theorem cC:Tryz.prog.cellsOf 29=4:=by kernel_rfl
section
variable {H:Type} {enc:TypeId × Value->H} {W:World}
theorem open_one_queue (cs:List Value) (k:Nat) (x:DataW H × List MemPlace) (h:DataW.trod enc Tryz.prog W 0 (fun _=>true) true k 80 cs=some x):∃ a:qu.E,cs=qu.c a/\InQ W a:=by
 obtain ⟨xs,m,_,_,hlen,hxl,hf⟩:=DataW.trod_struct Tryz.underlying80 h
 rw [cQ] at hlen
 match xs,hxl,cs,hlen with
 | [y0,y1,y2,y3],_,[v0,v1,v2,v3],_ =>
  have g0:=hf 0 _ rfl
  have g1:=hf 1 _ rfl
  have g2:=hf 2 _ rfl
  have g3:=hf 3 _ rfl
  simp [cI,cS,cMs,cHs] at g0 g1 g2 g3
  obtain ⟨nm,e0,_,w0⟩:=DataW.trod_string Tryz.underlying9 g0
  obtain ⟨nx,e1,_,w1⟩:=DataW.trod_int Tryz.underlying3 g1
  simp at e0 e1
  subst e0 e1
  obtain ⟨ra,rs,rc,rfl,h1,h2,h3⟩:=open_row flM.c_len (by omega) Tryz.underlying77 qa.cM qa.open_message g2
  obtain ⟨ha,hs,hc,rfl,k1,k2,k3⟩:=open_row flH.c_len (by omega) Tryz.underlying78 qa.cH qa.open_held g3
  exact ⟨⟨nm,nx,ra,rc,rs,ha,hc,hs⟩,rfl,⟨w0,h1,k1,h2,k2⟩,w1,h3,k3⟩
theorem open_one_stream (cs:List Value) (k:Nat) (x:DataW H × List MemPlace) (h:DataW.trod enc Tryz.prog W 0 (fun _=>true) true k 85 cs=some x):∃ a:su.E,cs=su.c a/\InT W a:=by
 obtain ⟨xs,m,_,_,hlen,hxl,hf⟩:=DataW.trod_struct Tryz.underlying85 h
 rw [cT] at hlen
 match xs,hxl,cs,hlen with
 | [y0,y1,y2,y3,y4],_,[v0,v1,v2,v3,v4],_ =>
  have g0:=hf 0 _ rfl
  have g1:=hf 1 _ rfl
  have g2:=hf 2 _ rfl
  have g3:=hf 3 _ rfl
  have g4:=hf 4 _ rfl
  simp [cI,cS,cYs,cKs] at g0 g1 g2 g3 g4
  obtain ⟨nm,e0,_,w0⟩:=DataW.trod_string Tryz.underlying9 g0
  obtain ⟨lo,e1,_,w1⟩:=DataW.trod_int Tryz.underlying3 g1
  obtain ⟨nx,e2,_,w2⟩:=DataW.trod_int Tryz.underlying3 g2
  simp at e0 e1 e2
  subst e0 e1 e2
  obtain ⟨ra,rs,rc,rfl,h1,h2,h3⟩:=open_row flY.c_len (by omega) Tryz.underlying82 sa.cY sa.open_entry g3
  obtain ⟨ha,hs,hc,rfl,k1,k2,k3⟩:=open_row flK.c_len (by omega) Tryz.underlying83 sa.cK sa.open_mark g4
  exact ⟨⟨nm,lo,nx,ra,rc,rs,ha,hc,hs⟩,rfl,⟨w0,h1,k1,h2,k2⟩,w1,w2,h3,k3⟩
structure In (W:World) (es:List Ex) (bs:List Bi) (qs:List qu.E) (ts:List su.E) (ea ba qa ta:Option Addr):Prop where
 el:es.length <= maxLen
 bl:bs.length <= maxLen
 ql:qs.length <= maxLen
 tl:ts.length <= maxLen
 eo:∀ e ∈ es,e.n.size <= maxLen
 bo:∀ e ∈ bs,e.x.size <= maxLen/\e.k.size <= maxLen/\e.q.size <= maxLen
 qo:∀ e ∈ qs,InQ W e
 to:∀ e ∈ ts,InT W e
 se:SE W W.heap.size ea es
 sb:SB W W.heap.size ba bs
 qr:Row qu.c 4 W W.heap.size qa qs
 tr:Row su.c 5 W W.heap.size ta ts
theorem In.q {es:List Ex} {bs:List Bi} {qs:List qu.E} {ts:List su.E} {ea ba qa ta:Option Addr} (h:In W es bs qs ts ea ba qa ta):qu.V W W.heap.size qa qs:=⟨h.qr,fun r hr=>⟨(h.qo r hr).rr,(h.qo r hr).rh⟩⟩
theorem In.t {es:List Ex} {bs:List Bi} {qs:List qu.E} {ts:List su.E} {ea ba qa ta:Option Addr} (h:In W es bs qs ts ea ba qa ta):su.V W W.heap.size ta ts:=⟨h.tr,fun r hr=>⟨(h.to r hr).rr,(h.to r hr).rh⟩⟩
theorem open_core {b0:Nat} {v:Value} {d:DataW H} {p:List MemPlace} (hv:Value.okWide Tryz.prog W .any b0 29 v) (h:DataW.Trod enc Tryz.prog W 0 (fun _=>true) true 29 v d p) :
  ∃ (es:List Ex) (bs:List Bi) (qs:List qu.E) (ts:List su.E) (ea ba qa ta:Option Addr) (ec bc qc tc:Nat),v=.agg #[.slice ea es.length ec,.slice ba bs.length bc,.slice qa qs.length qc,.slice ta ts.length tc]/\In W es bs qs ts ea ba qa ta:=by
 obtain ⟨cs,rfl,hsz⟩:=okWide_struct Tryz.underlying29 hv
 have hsz':=hsz.trans cC
 obtain ⟨fuel,hf0⟩:=h
 obtain ⟨xs,m,_,_,hlen,hxl,hf⟩:=DataW.trod_struct Tryz.underlying29 hf0
 obtain ⟨l⟩:=cs
 match xs,hxl,l,hsz' with
 | [y0,y1,y2],_,[v0,v1,v2,v3],_ =>
  have g0:=hf 0 _ rfl
  have g1:=hf 1 _ rfl
  have g2:=hf 2 _ rfl
  simp [Value.cells,cR,cQs,cTs] at g0 g1 g2
  obtain ⟨xs',m',_,_,hlen',hxl',hf'⟩:=DataW.trod_struct Tryz.underlying25 g0
  match xs',hxl' with
  | [z0,z1],_ =>
   have k0:=hf' 0 _ rfl
   have k1:=hf' 1 _ rfl
   simp [cEs,cBs] at k0 k1
   obtain ⟨ea,es,ec,rfl,h1,h2,h3⟩:=rg.open_exchanges k0
   obtain ⟨ba,bs,bc,rfl,j1,j2,j3⟩:=rg.open_bindings k1
   obtain ⟨qa,qs,qc,rfl,q1,q2,q3⟩:=open_row qu.c_len (by omega) Tryz.underlying26 cQ open_one_queue g1
   obtain ⟨ta,ts,tc,rfl,t1,t2,t3⟩:=open_row su.c_len (by omega) Tryz.underlying27 cT open_one_stream g2
   exact ⟨es,bs,qs,ts,ea,ba,qa,ta,ec,bc,qc,tc,rfl,⟨h1,j1,q1,t1,h2,j2,q2,t2,h3,j3,q3,t3⟩⟩
end
end Go.Proofs.YtaoefccgdfcchaaGreat.ca
namespace Go.Proofs.YtaoefccgdfcchaaGreat.lwCoreOk
open ChangeShapes WideShapes ChangeAt RowKit rc rr ra rt ro fl co cb
theorem step6 {w5 w6:World} {es:List Ex} {bs:List Bi} {qs ks4 ks6:List qu.E} {ts us4 us6:List su.E} {B4 B6 ge4 gb4 gq4 gt4 ge6 gb6 gq6 gt6 n:Nat} (F:cb.Fit es bs qs ts) (hb6:Below w5.heap.size w5 w6) (hn:n < w5.heap.size) (hY:w5.heap[n]?=some (.cells #[.slice (some ⟨ge4,0,none⟩) es.length es.length,.slice (some ⟨gb4,0,none⟩) bs.length bs.length,.slice (some ⟨gq4,0,none⟩) qs.length qs.length,.slice (some ⟨gt4,0,none⟩) ts.length ts.length] 38 (0,0))) (h4:Cg w5 B4 es bs qs ts ge4 gb4 gq4 gt4 ks4 us4) (h6:Cg w6 B6 es bs qs ts ge6 gb6 gq6 gt6 ks6 us6) :
  (w6.cell? ⟨n,0,none⟩=some (.slice (some ⟨ge4,0,none⟩) es.length es.length)/\w6.cell? ⟨n,1,none⟩=some (.slice (some ⟨gb4,0,none⟩) bs.length bs.length)/\w6.cell? ⟨n,2,none⟩=some (.slice (some ⟨gq4,0,none⟩) qs.length qs.length)/\w6.cell? ⟨n,3,none⟩=some (.slice (some ⟨gt4,0,none⟩) ts.length ts.length))/\Calls Tryz.prog 8 #[.agg #[.slice (some ⟨ge4,0,none⟩) es.length es.length,.slice (some ⟨gb4,0,none⟩) bs.length bs.length,.slice (some ⟨gq4,0,none⟩) qs.length qs.length,.slice (some ⟨gt4,0,none⟩) ts.length ts.length],.agg #[.slice (some ⟨ge6,0,none⟩) es.length es.length,.slice (some ⟨gb6,0,none⟩) bs.length bs.length,.slice (some ⟨gq6,0,none⟩) qs.length qs.length,.slice (some ⟨gt6,0,none⟩) ts.length ts.length]] w6 fun e w'=>e=.returned (.bool true)/\Below w6.heap.size w6 w':=by
 have q5:=bstay hY hb6 hn
 refine ⟨⟨bcell q5 rfl,bcell q5 rfl,bcell q5 rfl,bcell q5 rfl⟩,?_⟩
 have h4':=h4.below hb6
 have s4:=same_of h4'
 have s6:=same_of h6
 have F4:=fit_same F s4
 obtain ⟨r1,r2,r3,r4⟩:=h4'.rows
 obtain ⟨p1,p2,p3,p4⟩:=h6.rows
 have k:=eq_core es bs ks4 ks6 us4 us6 _ _ _ _ _ _ _ _ es.length bs.length qs.length ts.length es.length bs.length qs.length ts.length w6 F.el F.bl (by have:=F4.ql; unfold maxLen; omega) (by have:=F4.tl; unfold maxLen; omega) (fun e he=>by have:=(F4.qf e he).el; have:=(F4.qf e he).ml; unfold maxLen; omega) (fun e he=>by have:=(F4.tf e he).el; have:=(F4.tf e he).ml; unfold maxLen; omega) (by rw [s6.ql,s4.ql]) (by rw [s6.tl,s4.tl]) (fun k r s hr hs=>?_) (fun k r s hr hs=>?_) (se_re r1) (se_re p1) (sb_rb r2) (sb_rb p2) r3 p3 r4 p4
 ·rw [s4.ql,s4.tl] at k
  exact k
 ·obtain ⟨x,hx,a,b,c,d⟩:=s6.flip.q_at hs
  obtain ⟨a',b',c',d'⟩:=s4.q k r x hr hx
  exact ⟨a'.trans a,b'.trans b,c'.trans c,d'.trans d⟩
 ·obtain ⟨x,hx,a,b,c,d,f⟩:=s6.flip.t_at hs
  obtain ⟨a',b',c',d',f'⟩:=s4.t k r x hr hx
  exact ⟨a'.trans a,b'.trans b,c'.trans c,d'.trans d,f'.trans f⟩
end Go.Proofs.YtaoefccgdfcchaaGreat.lwCoreOk
