/- QDropSpecM, NackKit, AckKit, NackBase, SearchHeld. -/
import Derived.Test.YteoojodkkjepeaaGreatKp37
import Derived.Test.YteoojodkkjepeaaGreatKp01
import Derived.Test.YteoojodkkjepeaaGreatKp41
import Derived.Test.YteoojodkkjepeaaGreatKp38
import Derived.Test.YteoojodkkjepeaaGreatKp25
import Derived.Test.YteoojodkkjepeaaGreatKp05
set_option maxRecDepth 100000
set_option maxHeartbeats 8000000
set_option linter.unusedVariables false
namespace Go.Proofs.YteoojodkkjepeaaGreat.qdm
open ChangeShapes WideShapes ChangeAt RowKit fl qsp qdp qts qds
theorem owns_ownO {α:Type}{c:α->List Value}{n B g cap:Nat}{U:TypeId}{l:List α}{w:World}(hn:∀ e,(c e).length=n)(ho:w.ownsRow B U n (.slice (some ⟨g,0,none⟩) l.length cap) l.length (l.flatMap c)):fo.OwnO c n U w g 0 l l.length/\B <= g:=by
 obtain⟨_,⟨h1,_⟩ | ⟨g',cap',cur,h1,h2,h3,h4,h5,h6,h7⟩⟩:=ho
 ·cases h1
 cases h1
 refine⟨⟨cur,h3,by rw [h6,Nat.zero_add];exact Nat.mul_le_mul_right n h4,fun i e hi he j v hv=>?_⟩,h2⟩
 have hf:=flat_at hn l i e he j v hv
 rw [<- h7] at hf
 have hlt:=(List.getElem?_eq_some_iff.1 hf).1
 rw [List.length_take] at hlt
 rw [List.getElem?_take_of_lt (by omega)] at hf
 rw [Nat.zero_add,<- Array.getElem?_toList]
 exact hf
theorem own_mine {α:Type}{c:α->List Value}{n B B' g cap:Nat}{U:TypeId}{l:List α}{w:World}(hn:∀ e,(c e).length=n)(ho:w.ownsRow B U n (.slice (some ⟨g,0,none⟩) l.length cap) l.length (l.flatMap c))(hB:B' <= B):fo.Mine c n U w B' (some ⟨g,0,none⟩) l:=by
 obtain⟨h1,h2⟩:=owns_ownO hn ho
 exact .inr ⟨g,0,rfl,by omega,h1⟩
end Go.Proofs.YteoojodkkjepeaaGreat.qdm
namespace Go.Proofs.YteoojodkkjepeaaGreat.nkt
open ChangeShapes WideShapes ChangeAt RowKit rr ra rt fl co eb scc
structure Kn (w:World)(es:List Ex)(bs:List Bi)(qs:List qu.E)(ts:List su.E)(a0 b0 q0 t0 ec bc qc tc g1 c1 h1 c2 gn S0:Nat)(qa ta:Option Addr)(qk tk:Nat)(l:List qu.E)(us:List su.E)(W:World):Prop where
 bel:Below w.heap.size w W
 box:W.heap[w.heap.size]?=some (.cells #[.slice (some ⟨a0,0,none⟩) es.length ec,.slice (some ⟨b0,0,none⟩) bs.length bc,.slice (some ⟨q0,0,none⟩) qs.length qc,.slice (some ⟨t0,0,none⟩) ts.length tc] 39 (0,0))
 res:W.heap[w.heap.size+1]?=some (.cells #[.slice none 0 0,.slice none 0 0,.slice none 0 0,.slice none 0 0] 39 (0,0))
 gnb:W.heap[gn]?=some (.cells #[.slice (some ⟨g1,0,none⟩) es.length c1,.slice (some ⟨h1,0,none⟩) bs.length c2,.slice qa qs.length qk,.slice ta ts.length tk] 39 (0,0))
 o1:W.ownsRow (w.heap.size+2) 125 2 (.slice (some ⟨g1,0,none⟩) es.length c1) es.length (es.flatMap Go.Proofs.YteoojodkkjepeaaGreat.su.cE)
 o2:W.ownsRow (w.heap.size+2) 127 3 (.slice (some ⟨h1,0,none⟩) bs.length c2) bs.length (bs.flatMap Go.Proofs.YteoojodkkjepeaaGreat.su.cB)
 own:l=[] ∨ ∃ g,qa=some ⟨g,0,none⟩/\S0 <= g/\fo.OwnO qu.c 4 68 W g 0 l l.length
 so:W.ownsRow S0 74 5 (.slice ta ts.length tk) us.length (us.flatMap su.c)
 ea:∀ r∈l,fo.Mine flM.c 5 48 W S0 r.ra r.rs
 eb:∀ r∈l,fo.Mine flH.c 7 102 W S0 r.ha r.hs
 se:∀ r∈us,Msu W S0 r
 hs:w.heap.size+2 <= S0
 gl:w.heap.size+2 <= gn
section
variable {w:World} {es:List Ex} {bs:List Bi} {qs:List qu.E} {ts:List su.E} {a0 b0 q0 t0 ec bc qc tc g1 c1 h1 c2 gn S0:Nat} {qa ta:Option Addr} {qk tk:Nat} {l d q:List qu.E} {us:List su.E} {W W':World}
theorem Kn.on (h:Kn w es bs qs ts a0 b0 q0 t0 ec bc qc tc g1 c1 h1 c2 gn S0 qa ta qk tk l us W)(hb:Below W.heap.size W W'):Kn w es bs qs ts a0 b0 q0 t0 ec bc qc tc g1 c1 h1 c2 gn S0 qa ta qk tk l us W' :=
 ⟨h.bel.trans (hb.mono h.bel.size),bstay h.box hb (Array.getElem?_eq_some_iff.1 h.box).1,bstay h.res hb (Array.getElem?_eq_some_iff.1 h.res).1,bstay h.gnb hb (Array.getElem?_eq_some_iff.1 h.gnb).1,su.own_stays h.o1 hb,su.own_stays h.o2 hb,h.own.imp id (fun ⟨g,h1,h2,h3⟩=>⟨g,h1,h2,h3.below hb h3.lt⟩),su.own_stays h.so hb,fun r hr=>(h.ea r hr).below hb,fun r hr=>(h.eb r hr).below hb,fun r hr=>(h.se r hr).keep (fun B n q T v xs ho _ _ _=>su.own_stays ho hb),h.hs,h.gl⟩
theorem ne_blk {T T':TypeId}{g b:Nat}(hT:T≠T')(h1:∃ cur,W.heap[g]?=some (.cells cur T (0,0)))(h2:∃ cur,W.heap[b]?=some (.cells cur T' (0,0))):b≠g:=fun e=>by
 subst e
 exact rmk.ne_type hT h1 h2
theorem mine_keep {α:Type}{c:α->List Value}{n B g:Nat}{T T':TypeId}{a:Option Addr}{l:List α}(hT:T≠T')(ht:fo.Tn W W' (fun k=>k=g))(hg:∃ cur,W.heap[g]?=some (.cells cur T (0,0)))(h:fo.Mine c n T' W B a l):fo.Mine c n T' W' B a l:=h.kept ht (fun k hk e=>by subst e;exact rmk.ne_type hT hg (rmk.mine_type h hk))
theorem owns_keep {B n m g:Nat}{T T':TypeId}{v:Value}{xs:List Value}(hT:T≠T')(ht:fo.Tn W W' (fun k=>k=g))(hg:∃ cur,W.heap[g]?=some (.cells cur T (0,0)))(h:W.ownsRow B T' n v m xs):W'.ownsRow B T' n v m xs:=by
 obtain⟨cur,hc⟩:=hg
 exact h.kept (row:=some g) ⟨ht.os,ht.tape,ht.output,ht.size,fun k hk hne=>ht.block k hk (fun e=>hne (by rw [e]))⟩ (.inr (su.apart h hc (Ne.symm hT)))
theorem Kn.put {n gq:Nat}{r r':qu.E}(hn:d.length=n)(hq:qa=some ⟨gq,0,none⟩)(h:Kn w es bs qs ts a0 b0 q0 t0 ec bc qc tc g1 c1 h1 c2 gn S0 qa ta qk tk (d++r :: q) us W)(hA:fo.Mine flM.c 5 48 W S0 r'.ra r'.rs)(hH:fo.Mine flH.c 7 102 W S0 r'.ha r'.hs) :
  Kn w es bs qs ts a0 b0 q0 t0 ec bc qc tc g1 c1 h1 c2 gn S0 qa ta qk tk (d++r' :: q) us ((((W.setCell ⟨gq,n*4,none⟩ (.string r'.nm)).setCell ⟨gq,n*4+1,none⟩ (.int .i64 r'.nx)).setCell ⟨gq,n*4+2,none⟩ (.slice r'.ra r'.rs.length r'.rc)).setCell ⟨gq,n*4+3,none⟩ (.slice r'.ha r'.hs.length r'.hc)):=by
 obtain⟨ho,hlo⟩:fo.OwnO qu.c 4 68 W gq 0 (d++r :: q) (d++r :: q).length/\S0 <= gq:=by
  rcases h.own with h0 | ⟨g,h1,h2,h3⟩
  ·simp at h0
  ·rw [hq] at h1;cases h1;exact⟨h3,h2⟩
 have hg:=qu.own_g ho
 have hs:=h.hs
 have hput:=qu.own_put r' ho
 rw [hn] at hput
 have ht:fo.Tn W (fl.setRow W gq (n*4) (qu.c r')) (fun k=>k=gq):=((((fo.Tn.refl W (fun k=>k=gq)).set (g:=gq) rfl _ _).set (g:=gq) rfl _ _).set (g:=gq) rfl _ _).set (g:=gq) rfl _ _
 show Kn w es bs qs ts a0 b0 q0 t0 ec bc qc tc g1 c1 h1 c2 gn S0 qa ta qk tk (d++r' :: q) us (fl.setRow W gq (n*4) (qu.c r'))
 generalize fl.setRow W gq (n*4) (qu.c r')=W' at ht hput ⊢
 have kb:∀ (b:Nat) (cur:Array Value),W.heap[b]?=some (.cells cur 39 (0,0))->W'.heap[b]?=some (.cells cur 39 (0,0)):=fun b cur hb=>(ht.block b (Array.getElem?_eq_some_iff.1 hb).1 (ne_blk (by decide) hg ⟨cur,hb⟩)).trans hb
 refine⟨h.bel.trans (ht.below h.bel.size (fun k e=>by rw [e];omega)),kb _ _ h.box,kb _ _ h.res,kb _ _ h.gnb,owns_keep (by decide) ht hg h.o1,owns_keep (by decide) ht hg h.o2,.inr ⟨gq,hq,hlo,hput⟩,owns_keep (by decide) ht hg h.so,fun s hs=>?_,fun s hs=>?_,fun s hs=>(h.se s hs).keep (fun B n q T v xs ho h1 _ _=>owns_keep (Ne.symm h1) ht hg ho),h.hs,h.gl⟩
 ·rcases qu.mem_mid hs with rfl | hs
  ·exact mine_keep (by decide) ht hg hA
  ·exact mine_keep (by decide) ht hg (h.ea s (qu.in_mid hs))
 ·rcases qu.mem_mid hs with rfl | hs
  ·exact mine_keep (by decide) ht hg hH
  ·exact mine_keep (by decide) ht hg (h.eb s (qu.in_mid hs))
end
theorem own_cap {W:World}{B n g q c:Nat}{T:TypeId}{xs:List Value}(h:W.ownsRow B T n (.slice (some ⟨g,0,none⟩) q c) q xs):q <= c:=by
 obtain⟨_,⟨h1,_⟩ | ⟨g',cap,cur,h1,_,_,h4,_⟩⟩:=h
 ·cases h1
 ·have e2:=(Value.slice.inj h1).2.2;omega
theorem Kn.szS {w:World}{es:List Ex}{bs:List Bi}{qs:List qu.E}{ts:List su.E}{a0 b0 q0 t0 ec bc qc tc g1 c1 h1 c2 gn S0:Nat}{qa ta:Option Addr}{qk tk:Nat}{d q:List qu.E}{r:qu.E}{us:List su.E}{W:World}(h:Kn w es bs qs ts a0 b0 q0 t0 ec bc qc tc g1 c1 h1 c2 gn S0 qa ta qk tk (d++r :: q) us W):S0 <= W.heap.size:=by
 rcases h.own with h0 | ⟨g,h1,h2,h3⟩
 ·simp at h0
 ·have:=h3.lt;omega
theorem Kn.at_ {w:World}{es:List Ex}{bs:List Bi}{qs:List qu.E}{ts:List su.E}{a0 b0 q0 t0 ec bc qc tc g1 c1 h1 c2 gn S0 gq:Nat}{ta:Option Addr}{qk tk:Nat}{d q:List qu.E}{r:qu.E}{us:List su.E}{W:World}(h:Kn w es bs qs ts a0 b0 q0 t0 ec bc qc tc g1 c1 h1 c2 gn S0 (some ⟨gq,0,none⟩) ta qk tk (d++r :: q) us W):fo.OwnO qu.c 4 68 W gq 0 (d++r :: q) (d++r :: q).length:=by
 rcases h.own with h0 | ⟨g,h1,h2,h3⟩
 ·simp at h0
 ·cases h1;exact h3
theorem Kn.cells {w:World}{es:List Ex}{bs:List Bi}{qs:List qu.E}{ts:List su.E}{a0 b0 q0 t0 ec bc qc tc g1 c1 h1 c2 gn S0 gq n:Nat}{ta:Option Addr}{qk tk:Nat}{d q:List qu.E}{r:qu.E}{us:List su.E}{W:World}(hn:d.length=n)(h:Kn w es bs qs ts a0 b0 q0 t0 ec bc qc tc g1 c1 h1 c2 gn S0 (some ⟨gq,0,none⟩) ta qk tk (d++r :: q) us W):W.cell? ⟨gq,n*4,none⟩=some (.string r.nm)/\W.cell? ⟨gq,n*4+1,none⟩=some (.int .i64 r.nx)/\W.cell? ⟨gq,n*4+2,none⟩=some (.slice r.ra r.rs.length r.rc)/\W.cell? ⟨gq,n*4+3,none⟩=some (.slice r.ha r.hs.length r.hc):=by
 subst hn
 obtain⟨cur,h1,h2,h3⟩:=h.at_
 have k:∀ (j:Nat) (v:Value),(qu.c r)[j]?=some v->W.cell? ⟨gq,d.length*4+j,none⟩=some v:=fun j v hv=>by
  have:=h3 d.length r (by simp) (qu.at_mid d q r) j v hv
  rw [Nat.zero_add] at this
  exact bcell h1 this
 exact⟨k 0 _ rfl,k 1 _ rfl,k 2 _ rfl,k 3 _ rfl⟩
theorem Kn.frees {w:World}{es:List Ex}{bs:List Bi}{qs:List qu.E}{ts:List su.E}{a0 b0 q0 t0 ec bc qc tc g1 c1 h1 c2 gn S0 gq n:Nat}{ta:Option Addr}{qk tk:Nat}{d q:List qu.E}{r:qu.E}{us:List su.E}{W:World}(hn:d.length=n)(h:Kn w es bs qs ts a0 b0 q0 t0 ec bc qc tc g1 c1 h1 c2 gn S0 (some ⟨gq,0,none⟩) ta qk tk (d++r :: q) us W):W.frozen? ⟨gq,n*4,none⟩=false/\W.frozen? ⟨gq,n*4+1,none⟩=false/\W.frozen? ⟨gq,n*4+2,none⟩=false/\W.frozen? ⟨gq,n*4+3,none⟩=false:=⟨h.at_.free _,h.at_.free _,h.at_.free _,h.at_.free _⟩
theorem kn_of' {w W w1 Y:World}{es:List Ex}{bs:List Bi}{qs ks:List qu.E}{ts us:List su.E}{a0 b0 q0 t0 ec bc qc tc g1 c1 h1 c2 S0:Nat}{qa ta:Option Addr}{qk tk:Nat}(hsm:cb.Same qs ks ts us)(h:Ke W es bs g1 c1 h1 c2 S0 (.slice qa qs.length qk) (.slice ta ts.length tk) ks us w1)(hW:Below w.heap.size w W)(hS:w.heap.size+2 <= W.heap.size)(hA:W.heap[w.heap.size]?=some (.cells #[.slice (some ⟨a0,0,none⟩) es.length ec,.slice (some ⟨b0,0,none⟩) bs.length bc,.slice (some ⟨q0,0,none⟩) qs.length qc,.slice (some ⟨t0,0,none⟩) ts.length tc] 39 (0,0)))(hR:W.heap[w.heap.size+1]?=some (.cells #[.slice none 0 0,.slice none 0 0,.slice none 0 0,.slice none 0 0] 39 (0,0)))(hY:Below w1.heap.size w1 Y)(hN:Y.heap[w1.heap.size]?=some (.cells #[.slice (some ⟨g1,0,none⟩) es.length c1,.slice (some ⟨h1,0,none⟩) bs.length c2,.slice qa qs.length qk,.slice ta ts.length tk] 39 (0,0))):Kn w es bs qs ts a0 b0 q0 t0 ec bc qc tc g1 c1 h1 c2 w1.heap.size S0 qa ta qk tk ks us Y:=by
 have hs:=h.bel.size
 have hb:Below W.heap.size W Y:=h.bel.trans (hY.mono hs)
 have hh:=h.hs
 refine⟨hW.trans (hb.mono hW.size),bstay hA hb (by omega),bstay hR hb (by omega),hN,own_lo (su.own_stays h.o1 hY) (by omega),own_lo (su.own_stays h.o2 hY) (by omega),?_,su.own_stays h.so hY,fun r hr=>?_,fun r hr=>?_,fun r hr=>(h.se r hr).keep (fun B n q T v xs ho _ _ _=>su.own_stays ho hY),by omega,by omega⟩
 ·by_cases h0:ks=[]
  ·exact .inl h0
  ·have h1:=h.qo
   rw [<- hsm.ql] at h1
   obtain⟨_,⟨e,h2⟩ | ⟨g,cap,cur,e,hB,_⟩⟩:=id h1
   ·exact absurd (List.eq_nil_of_length_eq_zero h2) h0
   ·obtain rfl:qa=some ⟨g,0,none⟩:=(Value.slice.inj e).1
    obtain⟨k1,k2⟩:=qdm.owns_ownO qu.c_len h1
    exact .inr ⟨g,rfl,k2,k1.below hY k1.lt⟩
 ·obtain⟨g,x,e1,e2,o1,o2⟩:=h.qe r hr
  rw [e1]
  exact(qdm.own_mine flM.c_len o1 (Nat.le_refl _)).below hY
 ·obtain⟨g,x,e1,e2,o1,o2⟩:=h.qe r hr
  rw [e2]
  exact(qdm.own_mine flH.c_len o2 (Nat.le_refl _)).below hY
theorem Kn.fin {w:World}{es:List Ex}{bs:List Bi}{qs:List qu.E}{ts:List su.E}{a0 b0 q0 t0 ec bc qc tc g1 c1 h1 c2 gn S0:Nat}{qa ta:Option Addr}{qk tk:Nat}{l Q:List qu.E}{us:List su.E}{W:World}(h:Kn w es bs qs ts a0 b0 q0 t0 ec bc qc tc g1 c1 h1 c2 gn S0 qa ta qk tk l us W)(hs:cb.Same Q l ts us):Hid (cn.SA w ((((W.setCell ⟨w.heap.size+1,0,none⟩ (.slice (some ⟨g1,0,none⟩) es.length c1)).setCell ⟨w.heap.size+1,1,none⟩ (.slice (some ⟨h1,0,none⟩) bs.length c2)).setCell ⟨w.heap.size+1,2,none⟩ (.slice qa qs.length qk)).setCell ⟨w.heap.size+1,3,none⟩ (.slice ta ts.length tk)) es bs Q ts (some ⟨g1,0,none⟩) (some ⟨h1,0,none⟩) qa ta l us):=by
 have hg:∃ cur,W.heap[w.heap.size+1]?=some (.cells cur 39 (0,0)):=⟨_,h.res⟩
 have ht:fo.Tn W ((((W.setCell ⟨w.heap.size+1,0,none⟩ (.slice (some ⟨g1,0,none⟩) es.length c1)).setCell ⟨w.heap.size+1,1,none⟩ (.slice (some ⟨h1,0,none⟩) bs.length c2)).setCell ⟨w.heap.size+1,2,none⟩ (.slice qa qs.length qk)).setCell ⟨w.heap.size+1,3,none⟩ (.slice ta ts.length tk)) (fun k=>k=w.heap.size+1):=((((fo.Tn.refl W (fun k=>k=w.heap.size+1)).set (g:=w.heap.size+1) rfl _ _).set (g:=w.heap.size+1) rfl _ _).set (g:=w.heap.size+1) rfl _ _).set (g:=w.heap.size+1) rfl _ _
 generalize (((W.setCell ⟨w.heap.size+1,0,none⟩ (.slice (some ⟨g1,0,none⟩) es.length c1)).setCell ⟨w.heap.size+1,1,none⟩ (.slice (some ⟨h1,0,none⟩) bs.length c2)).setCell ⟨w.heap.size+1,2,none⟩ (.slice qa qs.length qk)).setCell ⟨w.heap.size+1,3,none⟩ (.slice ta ts.length tk)=V at ht ⊢
 have hso:=owns_keep (by decide) ht hg h.so
 have hlo:=h.hs
 refine⟨qdm.own_mine Go.Proofs.YteoojodkkjepeaaGreat.su.cE_len (owns_keep (by decide) ht hg h.o1) (by omega),qdm.own_mine Go.Proofs.YteoojodkkjepeaaGreat.su.cB_len (owns_keep (by decide) ht hg h.o2) (by omega),?_,fun r hr=>⟨mine_lo (mine_keep (by decide) ht hg (h.ea r hr)) (by omega),mine_lo (mine_keep (by decide) ht hg (h.eb r hr)) (by omega)⟩,?_,fun r hr=>?_,hs,h.bel.trans (ht.below h.bel.size (fun k e=>by rw [e];omega))⟩
 ·rcases h.own with h0 | ⟨g,rfl,hB,h3⟩
  ·exact .inl h0
  ·exact .inr ⟨g,0,rfl,by omega,h3.kept (ht.block g h3.lt (ne_blk (by decide) hg (qu.own_g h3)))⟩
 ·by_cases h0:us=[]
  ·exact .inl h0
  ·rw [<- hs.tl] at hso
   obtain⟨_,⟨e,h2⟩ | ⟨g,cap,cur,e,hB,_⟩⟩:=id hso
   ·exact absurd (List.eq_nil_of_length_eq_zero h2) h0
   ·obtain rfl:ta=some ⟨g,0,none⟩:=(Value.slice.inj e).1
    exact qdm.own_mine su.c_len hso (by omega)
 ·obtain⟨g,x,e1,e2,o1,o2⟩:=h.se r hr
  rw [e1,e2]
  exact⟨qdm.own_mine flY.c_len (owns_keep (by decide) ht hg o1) (by omega),qdm.own_mine flK.c_len (owns_keep (by decide) ht hg o2) (by omega)⟩
end Go.Proofs.YteoojodkkjepeaaGreat.nkt
namespace Go.Proofs.YteoojodkkjepeaaGreat.akr
open ChangeShapes WideShapes ChangeAt RowKit rr ra rt fl co eb
theorem ca_lo {W:World}{B B' ge gb gq gt:Nat}{es:List Ex}{bs:List Bi}{qs:List qu.E}{ts:List su.E}(h:Ca W B es bs qs ts ge gb gq gt)(hB:B' <= B):Ca W B' es bs qs ts ge gb gq gt :=
 ⟨h.he,h.hb,⟨h.hq.own,Nat.le_trans hB h.hq.bg,fun r hr=>mine_lo (h.hq.ea r hr) hB,fun r hr=>mine_lo (h.hq.eb r hr) hB,h.hq.pw⟩,⟨h.ht.own,Nat.le_trans hB h.ht.bg,fun r hr=>mine_lo (h.ht.ea r hr) hB,fun r hr=>mine_lo (h.ht.eb r hr) hB,h.ht.pw⟩,Nat.le_trans hB h.be,Nat.le_trans hB h.bb,h.eb⟩
end Go.Proofs.YteoojodkkjepeaaGreat.akr
namespace Go.Proofs.YteoojodkkjepeaaGreat.nkw
open ChangeShapes WideShapes ChangeAt RowKit rr ra rt fl co eb cn cb
section
variable {w w':World} {B ge gb gq gt:Nat} {es:List Ex} {bs:List Bi} {qs ks ls:List qu.E} {ts us vs:List su.E}
theorem same_trans {Q K L:List qu.E}{U V X:List su.E}(h1:cb.Same Q K U V)(h2:cb.Same K L V X):cb.Same Q L U X:=by
 refine⟨h2.ql.trans h1.ql,h2.tl.trans h1.tl,fun k r s hr hs=>?_,fun k r s hr hs=>?_⟩
 ·obtain⟨x,hx,a,b,c,d⟩:=h1.q_at hs
  obtain⟨a',b',c',d'⟩:=h2.q k r x hr hx
  exact⟨a'.trans a,b'.trans b,c'.trans c,d'.trans d⟩
 ·obtain⟨x,hx,a,b,c,d,f⟩:=h1.t_at hs
  obtain⟨a',b',c',d',f'⟩:=h2.t k r x hr hx
  exact⟨a'.trans a,b'.trans b,c'.trans c,d'.trans d,f'.trans f⟩
theorem parts (h:Cg w B es bs qs ts ge gb gq gt ks us):RE w ge es/\RB w gb bs/\qu.R w gq ks/\su.R w gt us/\(∀ r∈ks,∃ g h,r.ra=some ⟨g,0,none⟩/\r.ha=some ⟨h,0,none⟩/\Row flM.c 5 w w.heap.size r.ra r.rs/\Row flH.c 7 w w.heap.size r.ha r.hs)/\∀ r∈us,cb.At w r:=by
 obtain⟨r1,r2,r3,r4⟩:=h.rows
 refine⟨r1,r2,qu.r_of r3.1 h.hq.own.lt,su.r_of r4.1 h.ht.own.lt,fun r hr=>?_,cb.at_so h.ht⟩
 obtain⟨j,hj⟩:=cb.mem_at hr
 obtain⟨g,x,h1,h2,_⟩:=h.hq.mine j r (by have:=(List.getElem?_eq_some_iff.1 hj).1;have:=h.hq.len;omega) hj
 exact⟨g,x,h1,h2,(r3.2 r hr).1,(r3.2 r hr).2⟩
theorem ok_impl (ec bc qc tc:Nat)(F:cb.Fit es bs qs ts)(h:Cg w B es bs qs ts ge gb gq gt ks us):∀ V,Below w.heap.size w V->Calls Tryz.prog 13 #[.agg #[.slice (some ⟨ge,0,none⟩) es.length ec,.slice (some ⟨gb,0,none⟩) bs.length bc,.slice (some ⟨gq,0,none⟩) ks.length qc,.slice (some ⟨gt,0,none⟩) us.length tc]] V fun e w'=>e=.returned (.bool (okC es bs qs ts))/\Below V.heap.size V w':=fun V hV=>by
 have k:=cb.impl_ok ec bc qc tc F (h.below hV)
 rw [(same_of h).ql,(same_of h).tl]
 exact k
theorem ok_spec (ec bc qc tc:Nat)(F:cb.Fit es bs qs ts)(h:Cg w B es bs qs ts ge gb gq gt ks us):∀ V,Below w.heap.size w V->Calls Tryz.prog 11 #[.agg #[.slice (some ⟨ge,0,none⟩) es.length ec,.slice (some ⟨gb,0,none⟩) bs.length bc,.slice (some ⟨gq,0,none⟩) ks.length qc,.slice (some ⟨gt,0,none⟩) us.length tc]] V fun e w'=>e=.returned (.bool (okC es bs qs ts))/\Below V.heap.size V w':=fun V hV=>by
 have k:=cb.spec_ok ec bc qc tc F (h.below hV)
 rw [(same_of h).ql,(same_of h).tl]
 exact k
theorem okl (h:okC es bs qs ts=true):qs.length <= 20:=(okC_true.1 h).ql
theorem ia_turn {Q Q':List qu.E}{U U':List su.E}(h:IA w w' es bs Q U ge gb gq gt ls us)(hs:cb.Same Q' Q U' U):IA w w' es bs Q' U' ge gb gq gt ls us:=⟨h.ca,same_trans hs h.same,h.bel⟩
theorem sa_turn {Q Q':List qu.E}{U U':List su.E}{ea ba qa ta:Option Addr}(h:SA w w' es bs Q U ea ba qa ta ls us)(hs:cb.Same Q' Q U' U):SA w w' es bs Q' U' ea ba qa ta ls us:=⟨h.se,h.sb,h.q,h.qe,h.t,h.te,same_trans hs h.same,h.bel⟩
end
end Go.Proofs.YteoojodkkjepeaaGreat.nkw
namespace Go.Proofs.YteoojodkkjepeaaGreat.sch
open ChangeShapes WideShapes ChangeAt RowKit fl qc
def Rh (w:World)(g:Nat)(l:List flH.Hd):Prop:=g<w.heap.size/\∀ (i:Nat) (e:flH.Hd),l[i]?=some e->w.cell? ⟨g,i*7,none⟩=some (.int .i64 e.t)/\w.cell? ⟨g,i*7+1,none⟩=some (.int .i64 e.o)/\w.cell? ⟨g,i*7+2,none⟩=some (.int .i64 e.m.q)/\w.cell? ⟨g,i*7+3,none⟩=some (.string e.m.x)/\w.cell? ⟨g,i*7+4,none⟩=some (.string e.m.k)/\w.cell? ⟨g,i*7+5,none⟩=some (.string e.m.b)/\w.cell? ⟨g,i*7+6,none⟩=some (.bool e.m.a)
theorem Rh.below {w w':World}{g:Nat}{l:List flH.Hd}(h:Rh w g l)(hb:Below w.heap.size w w'):Rh w' g l :=
 ⟨Nat.lt_of_lt_of_le h.1 hb.size,fun i e he=>by
  obtain⟨h0,h1,h2,h3,h4,h5,h6⟩:=h.2 i e he
  exact⟨(hb.cell h.1).trans h0,(hb.cell h.1).trans h1,(hb.cell h.1).trans h2,(hb.cell h.1).trans h3,(hb.cell h.1).trans h4,(hb.cell h.1).trans h5,(hb.cell h.1).trans h6⟩⟩
theorem rh_of {w:World}{B g:Nat}{l:List flH.Hd}(hg:g<w.heap.size)(h:Row flH.c 7 w B (some ⟨g,0,none⟩) l):Rh w g l:=⟨hg,fun i e he=>by
 rcases h with h0 | ⟨b',off',hh,hlt,hc⟩
 ·rw [h0] at he;simp at he
 ·cases hh
  have:=fun j u (hj:(flH.c e)[j]?=some u)=>hc i _ he j u hj
  simp only [Nat.zero_add] at this
  exact⟨this 0 _ rfl,this 1 _ rfl,this 2 _ rfl,this 3 _ rfl,this 4 _ rfl,this 5 _ rfl,this 6 _ rfl⟩⟩
def MonH (l:List flH.Hd)(t:flH.Hd):Prop:=∀ (i j:Nat) a b,i <= j->l[i]?=some a->l[j]?=some b->cmpH b t<0->cmpH a t<0
structure PosH (l:List flH.Hd)(t:flH.Hd)(p:Nat):Prop where
 le:p <= l.length
 lt:∀ (i:Nat) a,i<p->l[i]?=some a->cmpH a t<0
 ge:∀ (i:Nat) a,p <= i->l[i]?=some a->0 <= cmpH a t
theorem search_held (l:List flH.Hd)(g c:Nat)(nt no nq:Int)(nx nk nb:ByteArray)(na:Bool)(w:World)(hl:l.length <= 1048576)(hE:Rh w g l)(hM:MonH l ⟨nt,no,⟨nq,nx,nk,nb,na⟩⟩) :
  Calls Tryz.prog 141 #[.slice (some ⟨g,0,none⟩) l.length c,.agg #[.int .i64 nt,.int .i64 no,.int .i64 nq,.string nx,.string nk,.string nb,.bool na],.func (.func 103) #[] #[]] w fun r w'=>(∃ (p:Nat) (b:Bool),r=.returned (.tuple #[.int .i64 p,.bool b])/\PosH l ⟨nt,no,⟨nq,nx,nk,nb,na⟩⟩ p/\(b=true ↔ ∃ a,l[p]?=some a/\cmpH a ⟨nt,no,⟨nq,nx,nk,nb,na⟩⟩=0))/\Below w.heap.size w w':=by
 have hb:=fl.bl w (.cells #[.int .i64 nt,.int .i64 no,.int .i64 nq,.string nx,.string nk,.string nb,.bool na] 102)
 have HE:Hid (Rh w g l):=hE
 have HM:Hid (MonH l ⟨nt,no,⟨nq,nx,nk,nb,na⟩⟩):=hM
 have tb:=heap_alloc_new w (.cells #[.int .i64 nt,.int .i64 no,.int .i64 nq,.string nx,.string nk,.string nb,.bool na] 102)
 have hlt:w.heap.size<(w.alloc (.cells #[.int .i64 nt,.int .i64 no,.int .i64 nq,.string nx,.string nk,.string nb,.bool na] 102)).heap.size:=by simp
 obtain⟨W,hW⟩:∃ W,w.alloc (.cells #[.int .i64 nt,.int .i64 no,.int .i64 nq,.string nx,.string nk,.string nb,.bool na] 102)=W:=⟨_,rfl⟩
 rw [hW] at hb tb hlt
 have HTB:Hid (W.heap[w.heap.size]?=some (.cells #[.int .i64 nt,.int .i64 no,.int .i64 nq,.string nx,.string nk,.string nb,.bool na] 102 (0,0))):=tb
 have HEW:Hid (Rh W g l):=HE.out.below hb
 clear hE hM tb
 go_enter Tryz.func141,Tryz.ntmps141
 go_wp2
 clear hW
 go_loopw [9,10,11] (fun v x _ wr=>∃ (i j:Nat),i <= j/\j <= l.length/\v=.int .i64 i/\x=.int .i64 j/\Hid ((∀ (t:Nat) a,t<i->l[t]?=some a->cmpH a ⟨nt,no,⟨nq,nx,nk,nb,na⟩⟩<0)/\∀ (t:Nat) a,j <= t->l[t]?=some a->0 <= cmpH a ⟨nt,no,⟨nq,nx,nk,nb,na⟩⟩)/\Below W.heap.size W wr) (fun v x _ _=>(intOf x).toNat - (intOf v).toNat)
 case atStart=>exact⟨0,l.length,Nat.zero_le _,Nat.le_refl _,rfl,rfl,⟨fun t a h=>by omega,fun t a h ha=>by have:=(List.getElem?_eq_some_iff.1 ha).1;omega⟩,Below.refl _ _⟩
 case round =>
  obtain⟨i,j,hij,hjl,rfl,rfl,hinv,hbel⟩:=hrel
  have hbs:=hbel.size
  by_cases hlt2:i<j
  ·obtain⟨h,hh,hh1,hh2⟩:∃ h:Nat,((i:Int)+(j:Int)) / 2=(h:Int)/\i <= h/\h<j:=⟨(i+j) / 2,by omega,by omega,by omega⟩
   have g0:l[h]?=some l[h]:=List.getElem?_eq_getElem (by omega)
   obtain⟨a0,a1,a2,a3,a4,a5,a6⟩:=(HEW.out.below hbel).2 h _ g0
   have t0:wr.cell? ⟨w.heap.size,0,none⟩=some (.int .i64 nt):=by
    have:=(hbel.block w.heap.size hlt).trans HTB.out
    simp [World.cell?,this]
   have t1:wr.cell? ⟨w.heap.size,1,none⟩=some (.int .i64 no):=by
    have:=(hbel.block w.heap.size hlt).trans HTB.out
    simp [World.cell?,this]
   have t2:wr.cell? ⟨w.heap.size,2,none⟩=some (.int .i64 nq):=by
    have:=(hbel.block w.heap.size hlt).trans HTB.out
    simp [World.cell?,this]
   have t3:wr.cell? ⟨w.heap.size,3,none⟩=some (.string nx):=by
    have:=(hbel.block w.heap.size hlt).trans HTB.out
    simp [World.cell?,this]
   have t4:wr.cell? ⟨w.heap.size,4,none⟩=some (.string nk):=by
    have:=(hbel.block w.heap.size hlt).trans HTB.out
    simp [World.cell?,this]
   have t5:wr.cell? ⟨w.heap.size,5,none⟩=some (.string nb):=by
    have:=(hbel.block w.heap.size hlt).trans HTB.out
    simp [World.cell?,this]
   have t6:wr.cell? ⟨w.heap.size,6,none⟩=some (.bool na):=by
    have:=(hbel.block w.heap.size hlt).trans HTB.out
    simp [World.cell?,this]
   have HG0:Hid (l[h]?=some l[h]):=g0
   obtain⟨⟨vt,vo,⟨vq,vx,vk,vb,va⟩⟩,ha⟩:∃ e,l[h]=e:=⟨_,rfl⟩
   rw [ha] at a0 a1 a2 a3 a4 a5 a6 HG0
   have hcmp:=qc.compare_held ⟨vt,vo,⟨vq,vx,vk,vb,va⟩⟩ ⟨nt,no,⟨nq,nx,nk,nb,na⟩⟩ wr.drew
   obtain⟨z,hz⟩:∃ z,cmpH ⟨vt,vo,⟨vq,vx,vk,vb,va⟩⟩ ⟨nt,no,⟨nq,nx,nk,nb,na⟩⟩=z:=⟨_,rfl⟩
   rw [hz] at hcmp
   have HZ:Hid (cmpH ⟨vt,vo,⟨vq,vx,vk,vb,va⟩⟩ ⟨nt,no,⟨nq,nx,nk,nb,na⟩⟩=z):=hz
   have i2:(h:Int)<(l.length:Int):=by omega
   clear g0 ha hz
   by_cases hneg:z<0
   ·have hinv2:Hid ((∀ (t:Nat) a,t<h+1->l[t]?=some a->cmpH a ⟨nt,no,⟨nq,nx,nk,nb,na⟩⟩<0)/\∀ (t:Nat) a,j <= t->l[t]?=some a->0 <= cmpH a ⟨nt,no,⟨nq,nx,nk,nb,na⟩⟩):=⟨fun t a ht hta=>HM.out t h a _ (by omega) hta HG0.out (by show cmpH ⟨vt,vo,⟨vq,vx,vk,vb,va⟩⟩ ⟨nt,no,⟨nq,nx,nk,nb,na⟩⟩<0;rw [HZ.out];exact hneg),hinv.out.2⟩
    go_wp2
    go_region_with (go_at_call 103;refine hcmp.mono ?_;rintro e w1 ⟨rfl,hb1⟩)
    all_goals go_wp2
    all_goals go_roundw
    all_goals first | exact⟨h+1,j,by omega,hjl,by go_num,rfl,hinv2,hbel.drew.trans (hb1.mono hbs)⟩ | (simp [intOf];omega)
   ·have hinv2:Hid ((∀ (t:Nat) a,t<i->l[t]?=some a->cmpH a ⟨nt,no,⟨nq,nx,nk,nb,na⟩⟩<0)/\∀ (t:Nat) a,h <= t->l[t]?=some a->0 <= cmpH a ⟨nt,no,⟨nq,nx,nk,nb,na⟩⟩):=⟨hinv.out.1,fun t a ht hta=>by
     by_cases hn:cmpH a ⟨nt,no,⟨nq,nx,nk,nb,na⟩⟩<0
     ·have h3:=HM.out h t _ a ht HG0.out hta hn
      have h4:cmpH ⟨vt,vo,⟨vq,vx,vk,vb,va⟩⟩ ⟨nt,no,⟨nq,nx,nk,nb,na⟩⟩<0:=h3
      rw [HZ.out] at h4
      exact absurd h4 hneg
     ·omega⟩
    have hge:(0:Int) <= z:=by omega
    go_wp2
    go_region_with (go_at_call 103;refine hcmp.mono ?_;rintro e w1 ⟨rfl,hb1⟩)
    all_goals go_wp2
    all_goals go_roundw
    all_goals first | exact⟨i,h,by omega,by omega,rfl,rfl,hinv2,hbel.drew.trans (hb1.mono hbs)⟩ | (simp [intOf];omega)
  ·obtain rfl:i=j:=by omega
   have hpos:Hid (PosH l ⟨nt,no,⟨nq,nx,nk,nb,na⟩⟩ i):=⟨hjl,hinv.out.1,hinv.out.2⟩
   by_cases hil:i<l.length
   ·have g0:l[i]?=some l[i]:=List.getElem?_eq_getElem hil
    obtain⟨a0,a1,a2,a3,a4,a5,a6⟩:=(HEW.out.below hbel).2 i _ g0
    have t0:wr.cell? ⟨w.heap.size,0,none⟩=some (.int .i64 nt):=by
     have:=(hbel.block w.heap.size hlt).trans HTB.out
     simp [World.cell?,this]
    have t1:wr.cell? ⟨w.heap.size,1,none⟩=some (.int .i64 no):=by
     have:=(hbel.block w.heap.size hlt).trans HTB.out
     simp [World.cell?,this]
    have t2:wr.cell? ⟨w.heap.size,2,none⟩=some (.int .i64 nq):=by
     have:=(hbel.block w.heap.size hlt).trans HTB.out
     simp [World.cell?,this]
    have t3:wr.cell? ⟨w.heap.size,3,none⟩=some (.string nx):=by
     have:=(hbel.block w.heap.size hlt).trans HTB.out
     simp [World.cell?,this]
    have t4:wr.cell? ⟨w.heap.size,4,none⟩=some (.string nk):=by
     have:=(hbel.block w.heap.size hlt).trans HTB.out
     simp [World.cell?,this]
    have t5:wr.cell? ⟨w.heap.size,5,none⟩=some (.string nb):=by
     have:=(hbel.block w.heap.size hlt).trans HTB.out
     simp [World.cell?,this]
    have t6:wr.cell? ⟨w.heap.size,6,none⟩=some (.bool na):=by
     have:=(hbel.block w.heap.size hlt).trans HTB.out
     simp [World.cell?,this]
    have HG0:Hid (l[i]?=some l[i]):=g0
    obtain⟨⟨vt,vo,⟨vq,vx,vk,vb,va⟩⟩,ha⟩:∃ e,l[i]=e:=⟨_,rfl⟩
    rw [ha] at a0 a1 a2 a3 a4 a5 a6 HG0
    have hcmp:=qc.compare_held ⟨vt,vo,⟨vq,vx,vk,vb,va⟩⟩ ⟨nt,no,⟨nq,nx,nk,nb,na⟩⟩ wr.drew
    obtain⟨z,hz⟩:∃ z,cmpH ⟨vt,vo,⟨vq,vx,vk,vb,va⟩⟩ ⟨nt,no,⟨nq,nx,nk,nb,na⟩⟩=z:=⟨_,rfl⟩
    rw [hz] at hcmp
    have HZ:Hid (cmpH ⟨vt,vo,⟨vq,vx,vk,vb,va⟩⟩ ⟨nt,no,⟨nq,nx,nk,nb,na⟩⟩=z):=hz
    have i2:(i:Int)<(l.length:Int):=by omega
    have hd:decide ((i:Int)<(l.length:Int))=true:=by simp;omega
    have kc:∀ N:qi.Cls wr,Calls Tryz.prog 103 #[.agg #[.int .i64 vt,.int .i64 vo,.int .i64 vq,.string vx,.string vk,.string vb,.bool va],.agg #[.int .i64 nt,.int .i64 no,.int .i64 nq,.string nx,.string nk,.string nb,.bool na]] N.x fun e w'=>e=.returned (.int .i64 z)/\qi.T wr w':=fun N=>by
     have h:=qc.compare_held ⟨vt,vo,⟨vq,vx,vk,vb,va⟩⟩ ⟨nt,no,⟨nq,nx,nk,nb,na⟩⟩ N.x
     rw [HZ.out] at h
     exact h.mono fun e w' ⟨h1,h2⟩=>⟨h1,N.h.next h2⟩
    have hgl:=(HEW.out.below hbel).1
    have htl:w.heap.size<wr.heap.size:=Nat.lt_of_lt_of_le hlt hbs
    have A0:=fun N:qi.Cls wr=>(Below.cell N.h (p:=⟨g,i*7,none⟩) hgl).trans a0
    have A1:=fun N:qi.Cls wr=>(Below.cell N.h (p:=⟨g,i*7+1,none⟩) hgl).trans a1
    have A2:=fun N:qi.Cls wr=>(Below.cell N.h (p:=⟨g,i*7+2,none⟩) hgl).trans a2
    have A3:=fun N:qi.Cls wr=>(Below.cell N.h (p:=⟨g,i*7+3,none⟩) hgl).trans a3
    have A4:=fun N:qi.Cls wr=>(Below.cell N.h (p:=⟨g,i*7+4,none⟩) hgl).trans a4
    have A5:=fun N:qi.Cls wr=>(Below.cell N.h (p:=⟨g,i*7+5,none⟩) hgl).trans a5
    have A6:=fun N:qi.Cls wr=>(Below.cell N.h (p:=⟨g,i*7+6,none⟩) hgl).trans a6
    have T0:=fun N:qi.Cls wr=>(Below.cell N.h (p:=⟨w.heap.size,0,none⟩) htl).trans t0
    have T1:=fun N:qi.Cls wr=>(Below.cell N.h (p:=⟨w.heap.size,1,none⟩) htl).trans t1
    have T2:=fun N:qi.Cls wr=>(Below.cell N.h (p:=⟨w.heap.size,2,none⟩) htl).trans t2
    have T3:=fun N:qi.Cls wr=>(Below.cell N.h (p:=⟨w.heap.size,3,none⟩) htl).trans t3
    have T4:=fun N:qi.Cls wr=>(Below.cell N.h (p:=⟨w.heap.size,4,none⟩) htl).trans t4
    have T5:=fun N:qi.Cls wr=>(Below.cell N.h (p:=⟨w.heap.size,5,none⟩) htl).trans t5
    have T6:=fun N:qi.Cls wr=>(Below.cell N.h (p:=⟨w.heap.size,6,none⟩) htl).trans t6
    clear g0 ha hz hcmp a0 a1 a2 a3 a4 a5 a6 t0 t1 t2 t3 t4 t5 t6
    go_wp2
    refine qi.region_in wr (qi.T.refl wr) (by kernel_rfl) (by kernel_rfl) ?_
    repeat (go_big_quiet_step (first | (go_at_call 103;refine(kc _).mono ?_;rintro e wx ⟨rfl,hTx⟩;exact⟨rfl,⟨wx,hTx⟩,rfl⟩)))
    refine wpQuiet_nil ?_
    rintro _ ⟨N,rfl⟩
    have hN:=N.h
    generalize N.x=wN at hN ⊢
    clear N kc A0 A1 A2 A3 A4 A5 A6 T0 T1 T2 T3 T4 T5 T6
    go_wp2
    go_ret2
    exact⟨⟨i,z == 0,rfl,hpos.out,by simp;rw [<- HZ.out];exact⟨fun h=>⟨_,HG0.out,h⟩,fun ⟨a,ha,h⟩=>by rw [HG0.out] at ha;cases ha;exact h⟩⟩,hb.trans ((hbel.trans (Below.mono hN hbs)).mono (by omega))⟩
   ·have hd:decide ((i:Int)<(l.length:Int))=false:=by simp;omega
    have hd2:¬ (i:Int)<(l.length:Int):=by omega
    go_wp2
    refine qi.region_in wr (qi.T.refl wr) (by kernel_rfl) (by kernel_rfl) ?_
    repeat (go_big_quiet_step (first | (go_at_call 103;fail)))
    refine wpQuiet_nil ?_
    rintro _ ⟨N,rfl⟩
    have hN:=N.h
    generalize N.x=wN at hN ⊢
    clear N
    go_wp2
    go_ret2
    exact⟨⟨i,false,rfl,hpos.out,by simp;intro a ha;have:=(List.getElem?_eq_some_iff.1 ha).1;omega⟩,hb.trans ((hbel.trans (Below.mono hN hbs)).mono (by omega))⟩
end Go.Proofs.YteoojodkkjepeaaGreat.sch
