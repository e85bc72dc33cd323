/- EachBase, SpecUnbind, CoreAns, RouteArg, FlatArg, QueueArg, StreamArg. -/
import Derived.Test.YteoojodkkjepeaaGreatKn17
import Derived.Test.YteoojodkkjepeaaGreatKn28
import Derived.Test.YteoojodkkjepeaaGreatKn29
import Derived.Test.YteoojodkkjepeaaGreatKn33
import Derived.Test.YteoojodkkjepeaaGreatKn12
import Derived.Test.YteoojodkkjepeaaGreatKn10
import Derived.Test.YteoojodkkjepeaaGreatKn19
import Derived.Test.YteoojodkkjepeaaGreatKn13
import Derived.Maps.AppendAt
import Derived.Test.YteoojodkkjepeaaGreatKn25
import Derived.Test.YteoojodkkjepeaaGreatKn11
import Derived.Deep.SlicePairs
import Derived.Deep.Strs
import Derived.Lib.SmallJoins
import Derived.Test.YteoojodkkjepeaaGreatKn01
import Derived.Test.YteoojodkkjepeaaGreatKn02
import Derived.Test.YteoojodkkjepeaaGreatKn03
import Derived.Test.YteoojodkkjepeaaGreatKn06
set_option maxRecDepth 100000
set_option maxHeartbeats 8000000
set_option linter.unusedVariables false
namespace Go.Proofs.YteoojodkkjepeaaGreat.eb
open ChangeShapes WideShapes ChangeAt RowKit rr ra rt fl co
section
variable {w w':World} {B ge gb gq gt x j:Nat} {es:List Ex} {bs:List Bi} {qs:List qu.E} {ts:List su.E} {cur:Array Value}
theorem set_core (h:Ca w B es bs qs ts ge gb gq gt)(hx:w.heap[x]?=some (.cells cur 39 (0,0)))(v:Value):Ca (w.setCell ⟨x,j,none⟩ v) B es bs qs ts ge gb gq gt:=by
 have ht:fo.Tn w (w.setCell ⟨x,j,none⟩ v) (fun k=>k=x):=(fo.Tn.refl w (fun k=>k=x)).set (g:=x) rfl _ _
 have hz:∀ k,k=x->∃ cur U,w.heap[k]?=some (.cells cur U (0,0))/\U=39:=fun k e=>⟨cur,_,by rw [e];exact hx,rfl⟩
 exact⟨ro2.keptE h.he (Below.heap_setCell _ _ _ _ (fun e=>rmk.ne_type (V:=39) (by decide) (fe_ty h.he) ⟨cur,by rw [e];exact hx⟩)),ro2.keptB h.hb (Below.heap_setCell _ _ _ _ (fun e=>rmk.ne_type (V:=39) (by decide) (fb_ty h.hb) ⟨cur,by rw [e];exact hx⟩)),h.hq.turn ht (fun k hk=>by obtain⟨c,U,h1,rfl⟩:=hz k hk;exact⟨c,_,h1,by decide,by decide,by decide⟩),h.ht.turn ht (fun k hk=>by obtain⟨c,U,h1,rfl⟩:=hz k hk;exact⟨c,_,h1,by decide,by decide,by decide⟩),h.be,h.bb,h.eb⟩
end
def Is (fR:ByteArray->Int->List flM.Ms->List flH.Hd->List flM.Ms)(fH:ByteArray->Int->List flM.Ms->List flH.Hd->List flH.Hd)(s r:qu.E):Prop:=r.nm=s.nm/\r.nx=s.nx/\r.rs=fR s.nm s.nx s.rs s.hs/\r.hs=fH s.nm s.nx s.rs s.hs
def sumN (fN:ByteArray->Int->List flM.Ms->List flH.Hd->Int):List qu.E->Int
 | []=>0
 | s :: t=>fN s.nm s.nx s.rs s.hs+sumN fN t
theorem sum_snoc (fN:ByteArray->Int->List flM.Ms->List flH.Hd->Int)(p:List qu.E)(s:qu.E):sumN fN (p++[s])=sumN fN p+fN s.nm s.nx s.rs s.hs:=by
 induction p with
 | nil=>simp [sumN]
 | cons x t ih=>simp [sumN,ih];omega
theorem sum_le (fN:ByteArray->Int->List flM.Ms->List flH.Hd->Int)(p:List qu.E)(h:∀ s∈p,0 <= fN s.nm s.nx s.rs s.hs/\fN s.nm s.nx s.rs s.hs <= 1048576):0 <= sumN fN p/\sumN fN p <= 1048576*p.length:=by
 induction p with
 | nil=>simp [sumN]
 | cons x t ih =>
  have h1:=h x (List.mem_cons_self ..)
  have h2:=ih (fun s hs=>h s (List.mem_cons_of_mem _ hs))
  simp only [sumN,List.length_cons]
  omega
structure Dq (fR:ByteArray->Int->List flM.Ms->List flH.Hd->List flM.Ms)(fH:ByteArray->Int->List flM.Ms->List flH.Hd->List flH.Hd)(ks d q:List qu.E)(k:Nat):Prop where
 dl:d.length=k
 ql:ks.drop k=q
 is:∀ (i:Nat) (r s:qu.E),d[i]?=some r->ks[i]?=some s->Is fR fH s r
theorem Dq.more {fR:ByteArray->Int->List flM.Ms->List flH.Hd->List flM.Ms}{fH:ByteArray->Int->List flM.Ms->List flH.Hd->List flH.Hd}{ks d q:List qu.E}{k:Nat}{r r':qu.E}(h:Dq fR fH ks d (r :: q) k)(hr:Is fR fH r r'):Dq fR fH ks (d++[r']) q (k+1)/\ks.take (k+1)=ks.take k++[r]/\k<ks.length/\r∈ks:=by
 have hk:ks[k]?=some r:=by
  have:=congrArg (fun l=>l[0]?) h.ql
  simpa using this
 have hlt:=(List.getElem?_eq_some_iff.1 hk).1
 refine⟨⟨by simp [h.dl],?_,fun i x s hx hs=>?_⟩,?_,hlt,List.mem_iff_getElem?.2 ⟨k,hk⟩⟩
 ·have:=congrArg (List.drop 1) h.ql
  simpa [List.drop_drop,Nat.add_comm] using this
 ·by_cases hi:i<d.length
  ·rw [List.getElem?_append_left hi] at hx
   exact h.is i x s hx hs
  ·have hl:=(List.getElem?_eq_some_iff.1 hx).1
   simp at hl
   obtain rfl:i=k:=by have:=h.dl;omega
   rw [List.getElem?_append_right (by have:=h.dl;omega),h.dl,Nat.sub_self] at hx
   simp at hx
   subst hx
   rw [hk] at hs
   cases hs
   exact hr
 ·rw [List.take_add_one,hk];rfl
structure Ie (w:World)(es:List Ex)(bs:List Bi)(qs:List qu.E)(ts:List su.E)(a0 b0 q0 t0 ec bc qc tc B ge gb gq gt gn:Nat)(us:List su.E)(l:List qu.E)(W:World):Prop where
 bel:Below w.heap.size w W
 res:W.heap[w.heap.size+1]?=some (.cells #[.slice none 0 0,.slice none 0 0,.slice none 0 0,.slice none 0 0] 39 (0,0))
 gnb:W.heap[gn]?=some (.cells #[.slice (some ⟨ge,0,none⟩) es.length es.length,.slice (some ⟨gb,0,none⟩) bs.length bs.length,.slice (some ⟨gq,0,none⟩) qs.length qs.length,.slice (some ⟨gt,0,none⟩) ts.length ts.length] 39 (0,0))
 ca:Ca W B es bs l us ge gb gq gt
section
variable {w:World} {es:List Ex} {bs:List Bi} {qs:List qu.E} {ts:List su.E} {a0 b0 q0 t0 ec bc qc tc B ge gb gq gt gn:Nat} {us:List su.E} {l d q:List qu.E} {W W' X w1:World}
theorem Ie.on (h:Ie w es bs qs ts a0 b0 q0 t0 ec bc qc tc B ge gb gq gt gn us l W)(hb:Below W.heap.size W W'):Ie w es bs qs ts a0 b0 q0 t0 ec bc qc tc B ge gb gq gt gn us l W' :=
 ⟨h.bel.trans (hb.mono h.bel.size),bstay h.res hb (Array.getElem?_eq_some_iff.1 h.res).1,bstay h.gnb hb (Array.getElem?_eq_some_iff.1 h.gnb).1,h.ca.on hb⟩
theorem Ie.put {n:Nat}{r r':qu.E}(hn:d.length=n)(hB:w.heap.size <= B)(hX:Ie w es bs qs ts a0 b0 q0 t0 ec bc qc tc B ge gb gq gt gn us (d++r :: q) X)(h:Ie w es bs qs ts a0 b0 q0 t0 ec bc qc tc B ge gb gq gt gn us (d++r :: q) w1)(hA:fo.Mine flM.c 5 48 w1 B r'.ra r'.rs)(hH:fo.Mine flH.c 7 102 w1 B r'.ha r'.hs)(hlo:∀ k,qu.bA r' k ∨ qu.bB r' k->X.heap.size <= k) :
  Ie w es bs qs ts a0 b0 q0 t0 ec bc qc tc B ge gb gq gt gn us (d++r' :: q) ((((w1.setCell ⟨gq,n*4,none⟩ (.string r'.nm)).setCell ⟨gq,n*4+1,none⟩ (.int .i64 r'.nx)).setCell ⟨gq,n*4+2,none⟩ (.slice r'.ra r'.rs.length r'.rc)).setCell ⟨gq,n*4+3,none⟩ (.slice r'.ha r'.hs.length r'.hc)):=by
 have hg:=qu.own_g h.ca.hq.own
 have hgB:w.heap.size <= gq:=Nat.le_trans hB h.ca.hq.bg
 have ht:fo.Tn w1 ((((w1.setCell ⟨gq,n*4,none⟩ (.string r'.nm)).setCell ⟨gq,n*4+1,none⟩ (.int .i64 r'.nx)).setCell ⟨gq,n*4+2,none⟩ (.slice r'.ra r'.rs.length r'.rc)).setCell ⟨gq,n*4+3,none⟩ (.slice r'.ha r'.hs.length r'.hc)) (fun k=>k=gq):=((((fo.Tn.refl w1 (fun k=>k=gq)).set (g:=gq) rfl _ _).set (g:=gq) rfl _ _).set (g:=gq) rfl _ _).set (g:=gq) rfl _ _
 have kb:∀ (b:Nat) (cur:Array Value),w1.heap[b]?=some (.cells cur 39 (0,0))->((((w1.setCell ⟨gq,n*4,none⟩ (.string r'.nm)).setCell ⟨gq,n*4+1,none⟩ (.int .i64 r'.nx)).setCell ⟨gq,n*4+2,none⟩ (.slice r'.ra r'.rs.length r'.rc)).setCell ⟨gq,n*4+3,none⟩ (.slice r'.ha r'.hs.length r'.hc)).heap[b]?=some (.cells cur 39 (0,0)):=fun b cur hb=>(ht.block b (Array.getElem?_eq_some_iff.1 hb).1 (fun e=>by subst e;exact rmk.ne_type (by decide) hg ⟨cur,hb⟩)).trans hb
 exact⟨h.bel.trans (ht.below h.bel.size (fun k e=>by rw [e];exact hgB)),kb _ _ h.res,kb _ _ h.gnb,ro2.keptE h.ca.he (ht.block ge h.ca.he.lt (fun e=>rmk.ne_type (V:=68) (by decide) (fe_ty h.ca.he) (by rw [e];exact hg))),ro2.keptB h.ca.hb (ht.block gb h.ca.hb.lt (fun e=>rmk.ne_type (V:=68) (by decide) (fb_ty h.ca.hb) (by rw [e];exact hg))),qu.Ls.put r' hn hX.ca.hq h.ca.hq hA hH hlo,h.ca.ht.turn ht (fun k e=>by obtain⟨c,h1⟩:=hg;exact⟨c,_,by rw [e];exact h1,by decide,by decide,by decide⟩),h.ca.be,h.ca.bb,h.ca.eb⟩
theorem mine_ho {h:Nat}{ao:Option Addr}{l:List flH.Hd}(hh:qhn.HO W h ao l)(hB:B <= h):fo.Mine flH.c 7 102 W B ao l:=by
 rcases hh with hh | ⟨e,ho⟩
 ·exact .inl hh
 ·exact .inr ⟨h,0,e,hB,ho⟩
theorem blk_ho {h k:Nat}{ao:Option Addr}{l:List flH.Hd}(hh:qhn.HO W h ao l)(hk:fo.blk ao l k):k=h:=by
 obtain⟨h1,g,o,h2,rfl⟩:=hk
 rcases hh with hh | ⟨e,ho⟩
 ·exact absurd hh h1
 ·rw [e] at h2;cases h2;rfl
end
theorem mine_lo {α:Type}{c:α->List Value}{n:Nat}{U:TypeId}{W:World}{B B':Nat}{a:Option Addr}{l:List α}(h:fo.Mine c n U W B a l)(hB:B' <= B):fo.Mine c n U W B' a l:=by
 rcases h with h | ⟨g,o,h1,h2,h3⟩
 ·exact .inl h
 ·exact .inr ⟨g,o,h1,by omega,h3⟩
theorem sum_same {fN:ByteArray->Int->List flM.Ms->List flH.Hd->Int}:∀ {qs ks:List qu.E} {ts us:List su.E},cb.Same qs ks ts us->sumN fN ks=sumN fN qs:=by
 intro qs ks ts us h
 have hq:=h.q
 have hl:=h.ql
 clear h
 induction qs generalizing ks with
 | nil =>
  obtain rfl:ks=[]:=List.eq_nil_of_length_eq_zero (by simpa using hl)
  rfl
 | cons x t ih =>
  match ks,hl,hq with
  | y :: s,hl,hq =>
   obtain⟨e1,e2,e3,e4⟩:=hq 0 y x rfl rfl
   simp only [sumN]
   rw [e1,e2,e3,e4,ih (fun k r s' hr hs=>hq (k+1) r s' (by simpa using hr) (by simpa using hs)) (by simpa using hl)]
theorem Ie.fin {w:World}{es:List Ex}{bs:List Bi}{qs:List qu.E}{ts:List su.E}{a0 b0 q0 t0 ec bc qc tc B ge gb gq gt gn:Nat}{us:List su.E}{l:List qu.E}{W:World}(h:Ie w es bs qs ts a0 b0 q0 t0 ec bc qc tc B ge gb gq gt gn us l W) :
  Hid (Ca ((((W.setCell ⟨w.heap.size+1,0,none⟩ (.slice (some ⟨ge,0,none⟩) es.length es.length)).setCell ⟨w.heap.size+1,1,none⟩ (.slice (some ⟨gb,0,none⟩) bs.length bs.length)).setCell ⟨w.heap.size+1,2,none⟩ (.slice (some ⟨gq,0,none⟩) qs.length qs.length)).setCell ⟨w.heap.size+1,3,none⟩ (.slice (some ⟨gt,0,none⟩) ts.length ts.length)) B es bs l us ge gb gq gt/\Below w.heap.size w ((((W.setCell ⟨w.heap.size+1,0,none⟩ (.slice (some ⟨ge,0,none⟩) es.length es.length)).setCell ⟨w.heap.size+1,1,none⟩ (.slice (some ⟨gb,0,none⟩) bs.length bs.length)).setCell ⟨w.heap.size+1,2,none⟩ (.slice (some ⟨gq,0,none⟩) qs.length qs.length)).setCell ⟨w.heap.size+1,3,none⟩ (.slice (some ⟨gt,0,none⟩) ts.length ts.length))):=by
 have b0:=h.res
 have b1:=bset b0 0 (.slice (some ⟨ge,0,none⟩) es.length es.length)
 have b2:=bset b1 1 (.slice (some ⟨gb,0,none⟩) bs.length bs.length)
 have b3:=bset b2 2 (.slice (some ⟨gq,0,none⟩) qs.length qs.length)
 have hx:w.heap.size <= w.heap.size+1:=by omega
 exact⟨set_core (set_core (set_core (set_core h.ca b0 _) b1 _) b2 _) b3 _,(((h.bel.setCell hx _).setCell hx _).setCell hx _).setCell hx _⟩
end Go.Proofs.YteoojodkkjepeaaGreat.eb
namespace Go.Proofs.YteoojodkkjepeaaGreat.db
open ChangeShapes WideShapes ChangeAt RowKit
section
variable {w w1 w2:World} {g:Nat} {r:Option Nat}
theorem gb_refl (w:World)(r:Option Nat):w.grownBy w r:=⟨rfl,rfl,rfl,Nat.le_refl _,fun _ _ _=>rfl⟩
theorem gb_set (h:w.grownBy w1 (some g))(o:Nat)(v:Value):w.grownBy (w1.setCell ⟨g,o,none⟩ v) (some g):=by
 have hb:Below 0 w1 (w1.setCell ⟨g,o,none⟩ v):=(Below.refl 0 w1).setCell (Nat.zero_le _) v
 exact h.trans ⟨hb.os,hb.tape,hb.output,hb.size,fun k hk hne=>RowKit.Below.heap_setCell _ _ _ _ (by intro e;exact hne (by rw [e]))⟩
end
end Go.Proofs.YteoojodkkjepeaaGreat.db
namespace Go.Proofs.YteoojodkkjepeaaGreat.su
open ChangeShapes WideShapes ChangeAt RowKit rr ra rt fl
def cE (e:Ex):List Value:=[.string e.n,.int .i64 e.k]
def cB (e:Bi):List Value:=[.string e.x,.string e.k,.string e.q]
theorem cE_len (e:Ex):(cE e).length=2:=rfl
theorem cB_len (e:Bi):(cB e).length=3:=rfl
section
variable {W W':World}
theorem own_stays {B n m:Nat}{T:TypeId}{v:Value}{xs:List Value}(h:W.ownsRow B T n v m xs)(hb:Below W.heap.size W W'):W'.ownsRow B T n v m xs :=
 h.kept (row:=none) ⟨hb.os,hb.tape,hb.output,hb.size,fun k hk _=>hb.block k hk⟩ (by cases h:v.ownBlock <;> simp)
theorem apart {B n m h:Nat}{T T':TypeId}{v:Value}{xs:List Value}{cur:Array Value}(h1:W.ownsRow B T n v m xs)(h2:W.heap[h]?=some (.cells cur T' (0,0)))(hT:T≠T'):v.ownBlock≠some h:=by
 intro e
 obtain⟨_,⟨rfl,_⟩ | ⟨g,cap,c,rfl,_,h3,_⟩⟩:=h1
 ·simp [Value.ownBlock] at e
 ·simp [Value.ownBlock] at e
  subst e
  rw [h2] at h3
  simp at h3
  exact hT h3.2.symm
theorem apartOO {B n m B' n' m':Nat}{T T':TypeId}{v v':Value}{xs xs':List Value}(h1:W.ownsRow B T n v m xs)(h2:W.ownsRow B' T' n' v' m' xs')(hT:T≠T'):v.ownBlock=none ∨ v.ownBlock≠v'.ownBlock:=by
 obtain⟨_,⟨rfl,_⟩ | ⟨g,cap,c,rfl,_,h3,_⟩⟩:=h1
 ·exact .inl rfl
 ·refine .inr fun e=>?_
  refine apart h2 h3 (Ne.symm hT) ?_
  rw [<- e]
  rfl
end
theorem infoB:∃ i0,Tryz.prog.info? 127=some i0/\i0.zero=some (.agg #[.string ByteArray.empty,.string ByteArray.empty,.string ByteArray.empty])/\i0.size=3/\i0.bytes=48:=by
 have h:=rt.infoB
 cases hh:Tryz.prog.info? 127 with
 | none=>rw [hh] at h;cases h
 | some i=>rw [hh] at h;simp at h;exact⟨i,rfl,h.1,h.2.1,h.2.2⟩
theorem infoE:∃ i0,Tryz.prog.info? 125=some i0/\i0.zero=some (.agg #[.string ByteArray.empty,.int .i64 0])/\i0.size=2/\i0.bytes=24:=by
 have h:=rt.infoE
 cases hh:Tryz.prog.info? 125 with
 | none=>rw [hh] at h;cases h
 | some i=>rw [hh] at h;simp at h;exact⟨i,rfl,h.1,h.2.1,h.2.2⟩
theorem se_row {W:World}{B:Nat}{a:Option Addr}{es:List Ex}(h:Row cE 2 W B a es):SE W B a es:=by
 rcases h with h | ⟨b,off,ha,hlt,hc⟩
 ·exact .inl h
 ·exact .inr ⟨b,off,ha,hlt,fun i e he=>⟨hc i e he 0 _ rfl,hc i e he 1 _ rfl⟩⟩
theorem sb_row {W:World}{B:Nat}{a:Option Addr}{bs:List Bi}(h:Row cB 3 W B a bs):SB W B a bs:=by
 rcases h with h | ⟨b,off,ha,hlt,hc⟩
 ·exact .inl h
 ·exact .inr ⟨b,off,ha,hlt,fun i e he=>⟨hc i e he 0 _ rfl,hc i e he 1 _ rfl,hc i e he 2 _ rfl⟩⟩
end Go.Proofs.YteoojodkkjepeaaGreat.su
namespace Go.Proofs.YteoojodkkjepeaaGreat.cn
open ChangeShapes WideShapes ChangeAt RowKit rr ra rt fl co eb
structure SA (w w':World)(es:List Ex)(bs:List Bi)(Q:List qu.E)(U:List su.E)(ea ba qa ta:Option Addr)(ls:List qu.E)(us:List su.E):Prop where
 se:fo.Mine Go.Proofs.YteoojodkkjepeaaGreat.su.cE 2 125 w' w.heap.size ea es
 sb:fo.Mine Go.Proofs.YteoojodkkjepeaaGreat.su.cB 3 127 w' w.heap.size ba bs
 q:fo.Mine qu.c 4 68 w' w.heap.size qa ls
 qe:∀ r∈ls,fo.Mine flM.c 5 48 w' w.heap.size r.ra r.rs/\fo.Mine flH.c 7 102 w' w.heap.size r.ha r.hs
 t:fo.Mine su.c 5 74 w' w.heap.size ta us
 te:∀ r∈us,fo.Mine flY.c 3 121 w' w.heap.size r.ra r.rs/\fo.Mine flK.c 2 123 w' w.heap.size r.ha r.hs
 same:cb.Same Q ls U us
 bel:Below w.heap.size w w'
theorem SA.rows {w w':World}{es:List Ex}{bs:List Bi}{Q:List qu.E}{U:List su.E}{ea ba qa ta:Option Addr}{ls:List qu.E}{us:List su.E}(h:SA w w' es bs Q U ea ba qa ta ls us):SE w' w'.heap.size ea es/\SB w' w'.heap.size ba bs/\qu.V w' w'.heap.size qa ls/\su.V w' w'.heap.size ta us:=⟨Go.Proofs.YteoojodkkjepeaaGreat.su.se_row h.se.row,Go.Proofs.YteoojodkkjepeaaGreat.su.sb_row h.sb.row,⟨h.q.row,fun r hr=>⟨(h.qe r hr).1.row,(h.qe r hr).2.row⟩⟩,⟨h.t.row,fun r hr=>⟨(h.te r hr).1.row,(h.te r hr).2.row⟩⟩⟩
structure IA (w w':World)(es:List Ex)(bs:List Bi)(Q:List qu.E)(U:List su.E)(ge gb gq gt:Nat)(ls:List qu.E)(us:List su.E):Prop where
 ca:Ca w' w.heap.size es bs ls us ge gb gq gt
 same:cb.Same Q ls U us
 bel:Below w.heap.size w w'
section
variable {w w':World} {B ge gb gq gt:Nat} {es:List Ex} {bs:List Bi} {Q ls ls':List qu.E} {U us us':List su.E} {Z:Nat->Prop}
theorem ls_v {l:List qu.E}(h:qu.Ls w B gq l):qu.V w w.heap.size (some ⟨gq,0,none⟩) l:=⟨h.own.row,fun r hr=>⟨(h.ea r hr).row,(h.eb r hr).row⟩⟩
theorem lt_v {l:List su.E}(h:su.Ls w B gt l):su.V w w.heap.size (some ⟨gt,0,none⟩) l:=⟨h.own.row,fun r hr=>⟨(h.ea r hr).row,(h.eb r hr).row⟩⟩
theorem ca_hi (h:Ca w B es bs ls us ge gb gq gt){k:Nat}(hk:coB ls us ge gb gq gt k):k<w.heap.size:=by
 rcases hk with rfl | rfl | (rfl | ⟨r,hr,h1 | h1⟩) | (rfl | ⟨r,hr,h1 | h1⟩)
 ·exact h.he.lt
 ·exact h.hb.lt
 ·exact h.hq.own.lt
 ·exact((h.hq.ea r hr).blk_le h1).2
 ·exact((h.hq.eb r hr).blk_le h1).2
 ·exact h.ht.own.lt
 ·exact((h.ht.ea r hr).blk_le h1).2
 ·exact((h.ht.eb r hr).blk_le h1).2
theorem ca_kept (h:Ca w B es bs ls us ge gb gq gt)(ht:fo.Tn w w' Z)(hZ:∀ k,Z k->k<B):Ca w' B es bs ls us ge gb gq gt:=by
 have hn:∀ k,B <= k->¬ Z k:=fun k hk hz=>by have:=hZ k hz;omega
 refine⟨ro2.keptE h.he (ht.block ge h.he.lt (hn ge h.be)),ro2.keptB h.hb (ht.block gb h.hb.lt (hn gb h.bb)),⟨h.hq.own.kept (ht.block gq h.hq.own.lt (hn gq h.hq.bg)),h.hq.bg,fun r hr=>(h.hq.ea r hr).kept ht (fun k hk=>hn k ((h.hq.ea r hr).blk_le hk).1),fun r hr=>(h.hq.eb r hr).kept ht (fun k hk=>hn k ((h.hq.eb r hr).blk_le hk).1),h.hq.pw⟩,⟨h.ht.own.kept (ht.block gt h.ht.own.lt (hn gt h.ht.bg)),h.ht.bg,fun r hr=>(h.ht.ea r hr).kept ht (fun k hk=>hn k ((h.ht.ea r hr).blk_le hk).1),fun r hr=>(h.ht.eb r hr).kept ht (fun k hk=>hn k ((h.ht.eb r hr).blk_le hk).1),h.ht.pw⟩,h.be,h.bb,h.eb⟩
theorem tot_q:∀ {Q ls:List qu.E},ls.length=Q.length->(∀ (k:Nat) (r s:qu.E),ls[k]?=some r->Q[k]?=some s->qu.same r s)->qu.tot ls=qu.tot Q
 | [],[],_,_=>rfl
 | [],_ :: _,h,_=>by simp at h
 | _ :: _,[],h,_=>by simp at h
 | s :: Q,r :: ls,h,hs=>by
  obtain⟨_,_,h3,h4⟩:=hs 0 r s rfl rfl
  simp only [qu.tot,qu.wtm,h3,h4]
  rw [tot_q (by simpa using h) (fun k a b ha hb=>hs (k+1) a b (by simpa using ha) (by simpa using hb))]
theorem tot_t:∀ {U us:List su.E},us.length=U.length->(∀ (k:Nat) (r s:su.E),us[k]?=some r->U[k]?=some s->su.same r s)->su.tot us=su.tot U
 | [],[],_,_=>rfl
 | [],_ :: _,h,_=>by simp at h
 | _ :: _,[],h,_=>by simp at h
 | s :: U,r :: us,h,hs=>by
  obtain⟨_,_,_,h3,h4⟩:=hs 0 r s rfl rfl
  simp only [su.tot,su.wtm,h3,h4]
  rw [tot_t (by simpa using h) (fun k a b ha hb=>hs (k+1) a b (by simpa using ha) (by simpa using hb))]
theorem sm_same (S:Sm es bs Q U)(h:cb.Same Q ls U us):Sm es bs ls us:=by
 refine⟨S.el,S.bl,by rw [h.ql];exact S.ql,by rw [h.tl];exact S.tl,fun r hr=>?_,fun r hr=>?_,by rw [tot_q h.ql h.q];exact S.qt,by rw [tot_t h.tl h.t];exact S.tt⟩
 ·obtain⟨i,hi⟩:=cb.mem_at hr
  obtain⟨s,hs,_,_,h3,h4⟩:=h.flip.q_at hi
  have:=S.qe s (List.mem_iff_getElem?.2 ⟨i,hs⟩)
  rwa [h3,h4] at this
 ·obtain⟨i,hi⟩:=cb.mem_at hr
  obtain⟨s,hs,_,_,_,h3,h4⟩:=h.flip.t_at hi
  have:=S.te s (List.mem_iff_getElem?.2 ⟨i,hs⟩)
  rwa [h3,h4] at this
theorem tot_wt:∀ (l:List qu.E),qu.tot l <= 2*l.length+7*bulk qu.wt l
 | []=>by simp [qu.tot]
 | r :: l=>by
  have h:=tot_wt l
  have e:bulk qu.wt (r :: l)=qu.wt r+bulk qu.wt l:=rfl
  simp only [qu.tot,qu.wtm,List.length_cons,e,qu.wt]
  omega
theorem tot_wtt:∀ (l:List su.E),su.tot l <= 3*l.length+3*bulk su.wt l
 | []=>by simp [su.tot]
 | r :: l=>by
  have h:=tot_wtt l
  have e:bulk su.wt (r :: l)=su.wt r+bulk su.wt l:=rfl
  simp only [su.tot,su.wtm,List.length_cons,e,su.wt]
  omega
theorem tot_le (K:Nat):∀ (l:List qu.E),(∀ r∈l,r.rs.length <= K/\r.hs.length <= K)->qu.tot l <= l.length*(2+12*K)
 | [],_=>by simp [qu.tot]
 | r :: l,h=>by
  have h1:=tot_le K l (fun s hs=>h s (List.mem_cons_of_mem _ hs))
  have h2:=h r (List.mem_cons_self ..)
  simp only [qu.tot,qu.wtm,List.length_cons,Nat.add_mul,Nat.one_mul]
  omega
theorem sm_of {qs:List qu.E}{ts:List su.E}(h:es.length+bulkE es+bs.length+bulkB bs+qs.length+bulk qu.wt qs+ts.length+bulk su.wt ts <= 1048576):Sm es bs qs ts:=by
 have F:=cb.fit h
 have h1:=tot_wt qs
 have h2:=tot_wtt ts
 exact⟨F.el,F.bl,by have:=F.ql;omega,by have:=F.tl;omega,fun r hr=>by have:=(F.qf r hr).el;have:=(F.qf r hr).ml;omega,fun r hr=>by have:=(F.tf r hr).el;have:=(F.tf r hr).ml;omega,by omega,by omega⟩
theorem eq_ans (w:World)(ea ba qa ta:Option Addr)(ec bc qc tc ec' bc' qc' tc':Nat)(S:Sm es bs Q U)(I:Ca w B es bs ls us ge gb gq gt)(s1:cb.Same Q ls U us)(h1:SE w w.heap.size ea es)(h2:SB w w.heap.size ba bs)(h3:qu.V w w.heap.size qa ls')(h4:su.V w w.heap.size ta us')(s2:cb.Same Q ls' U us') :
  Calls Tryz.prog 14 #[.agg #[.slice (some ⟨ge,0,none⟩) es.length ec,.slice (some ⟨gb,0,none⟩) bs.length bc,.slice (some ⟨gq,0,none⟩) Q.length qc,.slice (some ⟨gt,0,none⟩) U.length tc],.agg #[.slice ea es.length ec',.slice ba bs.length bc',.slice qa Q.length qc',.slice ta U.length tc']] w fun e w'=>e=.returned (.bool true)/\Below w.heap.size w w':=by
 have S':=sm_same S s1
 have k:=eq_core es bs ls ls' us us' (some ⟨ge,0,none⟩) (some ⟨gb,0,none⟩) (some ⟨gq,0,none⟩) (some ⟨gt,0,none⟩) ea ba qa ta ec bc qc tc ec' bc' qc' tc' w S.el S.bl (by have:=S'.ql;unfold maxLen;omega) (by have:=S'.tl;unfold maxLen;omega) (fun e he=>by have:=S'.qe e he;unfold maxLen;omega) (fun e he=>by have:=S'.te e he;unfold maxLen;omega) (by rw [s2.ql,s1.ql]) (by rw [s2.tl,s1.tl]) (fun k r s hr hs=>?_) (fun k r s hr hs=>?_) (se_re I.he.all) h1 (sb_rb I.hb.all) h2 (ls_v I.hq) h3 (lt_v I.ht) h4
 ·rw [s1.ql,s1.tl] at k
  exact k
 ·obtain⟨x,hx,a,b,c,d⟩:=s2.flip.q_at hs
  obtain⟨a',b',c',d'⟩:=s1.q k r x hr hx
  exact⟨a'.trans a,b'.trans b,c'.trans c,d'.trans d⟩
 ·obtain⟨x,hx,a,b,c,d,f⟩:=s2.flip.t_at hs
  obtain⟨a',b',c',d',f'⟩:=s1.t k r x hr hx
  exact⟨a'.trans a,b'.trans b,c'.trans c,d'.trans d,f'.trans f⟩
theorem mark_ans (w:World)(ec bc qc tc:Nat)(S:Sm es bs Q U)(I:Ca w B es bs ls us ge gb gq gt)(s1:cb.Same Q ls U us) :
  Calls Tryz.prog 17 #[.agg #[.slice (some ⟨ge,0,none⟩) es.length ec,.slice (some ⟨gb,0,none⟩) bs.length bc,.slice (some ⟨gq,0,none⟩) Q.length qc,.slice (some ⟨gt,0,none⟩) U.length tc],.int .i64 1] w fun e w'=>e=.returned (.int .i64 (1+2*es.length+bs.length*3+qu.tot ls+su.tot us:Nat))/\fo.Tn w w' (coB ls us ge gb gq gt)/\Cm w' B es bs ls us ge gb gq gt:=by
 have k:=mark_core es bs ls us B ge gb gq gt ec bc qc tc w (sm_same S s1) I
 rw [s1.ql,s1.tl] at k
 exact k
theorem held_ans (w:World)(ec bc qc tc:Nat)(S:Sm es bs Q U)(I:Cm w B es bs ls us ge gb gq gt)(s1:cb.Same Q ls U us) :
  Calls Tryz.prog 18 #[.agg #[.slice (some ⟨ge,0,none⟩) es.length ec,.slice (some ⟨gb,0,none⟩) bs.length bc,.slice (some ⟨gq,0,none⟩) Q.length qc,.slice (some ⟨gt,0,none⟩) U.length tc],.int .i64 1] w fun e w'=>e=.returned (.int .i64 (1+2*es.length+bs.length*3+qu.tot ls+su.tot us:Nat))/\Below w.heap.size w w':=by
 have k:=held_core es bs ls us B ge gb gq gt ec bc qc tc w (sm_same S s1) I
 rw [s1.ql,s1.tl] at k
 exact k
end
def done (ok:Bool)(fR:ByteArray->Int->List flM.Ms->List flH.Hd->List flM.Ms)(fH:ByteArray->Int->List flM.Ms->List flH.Hd->List flH.Hd)(qs:List qu.E):List qu.E:=if ok then qs.map (fun s=>⟨s.nm,s.nx,none,0,fR s.nm s.nx s.rs s.hs,none,0,fH s.nm s.nx s.rs s.hs⟩) else qs
theorem done_len (ok:Bool)(fR:ByteArray->Int->List flM.Ms->List flH.Hd->List flM.Ms)(fH:ByteArray->Int->List flM.Ms->List flH.Hd->List flH.Hd)(qs:List qu.E):(done ok fR fH qs).length=qs.length:=by
 cases ok <;> simp [done]
theorem done_same {ok:Bool}{fR:ByteArray->Int->List flM.Ms->List flH.Hd->List flM.Ms}{fH:ByteArray->Int->List flM.Ms->List flH.Hd->List flH.Hd}{qs ls:List qu.E}{ts us:List su.E}(hl:ls.length=qs.length)(ht:us.length=ts.length)(hq:∀ (i:Nat) (r s:qu.E),ls[i]?=some r->qs[i]?=some s->if ok then Is fR fH s r else qu.same r s)(hu:∀ (i:Nat) (r s:su.E),us[i]?=some r->ts[i]?=some s->su.same r s):cb.Same (done ok fR fH qs) ls ts us:=by
 refine⟨by rw [done_len];exact hl,ht,fun k r s hr hs=>?_,hu⟩
 cases ok with
 | false=>exact hq k r s hr hs
 | true =>
  have hs':(qs.map (fun s=>(⟨s.nm,s.nx,none,0,fR s.nm s.nx s.rs s.hs,none,0,fH s.nm s.nx s.rs s.hs⟩:qu.E)))[k]?=some s:=hs
  rw [List.getElem?_map] at hs'
  cases hx:qs[k]? with
  | none=>rw [hx] at hs';simp at hs'
  | some x =>
   rw [hx] at hs'
   simp at hs'
   subst hs'
   obtain⟨h1,h2,h3,h4⟩:Is fR fH x r:=hq k r x hr hx
   exact⟨h1,h2,h3,h4⟩
theorem done_sm {ok:Bool}{fR:ByteArray->Int->List flM.Ms->List flH.Hd->List flM.Ms}{fH:ByteArray->Int->List flM.Ms->List flH.Hd->List flH.Hd}{es:List Ex}{bs:List Bi}{qs:List qu.E}{ts:List su.E}(S:Sm es bs qs ts)(hl:ok=true->qs.length <= 20)(hR:∀ r∈qs,(fR r.nm r.nx r.rs r.hs).length <= 1048577/\(fH r.nm r.nx r.rs r.hs).length <= 1048577):Sm es bs (done ok fR fH qs) ts:=by
 cases ok with
 | false=>exact S
 | true =>
  have hq:∀ r∈done true fR fH qs,r.rs.length <= 1048577/\r.hs.length <= 1048577:=fun r hr=>by
   have hr':r∈qs.map (fun s=>(⟨s.nm,s.nx,none,0,fR s.nm s.nx s.rs s.hs,none,0,fH s.nm s.nx s.rs s.hs⟩:qu.E)):=hr
   obtain⟨s,hs,rfl⟩:=List.mem_map.1 hr'
   exact hR s hs
  have hlen:=done_len true fR fH qs
  have h20:=hl rfl
  refine⟨S.el,S.bl,by omega,S.tl,hq,S.te,?_,S.tt⟩
  have h1:=tot_le 1048577 _ hq
  rw [hlen] at h1
  have h2:=Nat.mul_le_mul_right (2+12*1048577) h20
  omega
end Go.Proofs.YteoojodkkjepeaaGreat.cn
namespace Go.Proofs.YteoojodkkjepeaaGreat.rg
open ChangeShapes WideShapes ChangeAt RowKit rr ra
theorem add_at {b off:Nat}(i:Nat):(⟨b,off,none⟩:Addr).add i=⟨b,off+i,none⟩:=by unfold Addr.add;split <;> simp_all
instance :Inhabited Ex:=⟨⟨ByteArray.empty,0⟩⟩
instance :Inhabited Bi:=⟨⟨ByteArray.empty,ByteArray.empty,ByteArray.empty⟩⟩
theorem se_of {W:World}{a:Addr}{l:List Ex}(hc:∀ (i:Nat) (e:Ex),l[i]?=some e->W.cell? (a.add (i*2))=some (.string e.n)/\W.cell? (a.add (i*2+1))=some (.int .i64 e.k)):SE W W.heap.size (some a) l:=by
 cases l with
 | nil=>exact .inl rfl
 | cons y r =>
  obtain⟨b,off,spot⟩:=a
  have h0:=(hc 0 y rfl).1
  have hspot:spot=none:=by simpa [Addr.add] using World.cell?_spot h0
  subst hspot
  refine .inr ⟨b,off,rfl,block_lt_of_cell h0,fun i x hx=>?_⟩
  have h:=hc i x hx
  rw [add_at,add_at] at h
  exact h
theorem sb_of {W:World}{a:Addr}{l:List Bi}(hc:∀ (i:Nat) (e:Bi),l[i]?=some e->W.cell? (a.add (i*3))=some (.string e.x)/\W.cell? (a.add (i*3+1))=some (.string e.k)/\W.cell? (a.add (i*3+2))=some (.string e.q)):SB W W.heap.size (some a) l:=by
 cases l with
 | nil=>exact .inl rfl
 | cons y r =>
  obtain⟨b,off,spot⟩:=a
  have h0:=(hc 0 y rfl).1
  have hspot:spot=none:=by simpa [Addr.add] using World.cell?_spot h0
  subst hspot
  refine .inr ⟨b,off,rfl,block_lt_of_cell h0,fun i x hx=>?_⟩
  have h:=hc i x hx
  rw [add_at,add_at,add_at] at h
  exact h
section
variable {H:Type} {enc:TypeId × Value->H}
theorem open_triples {P:Program}{w:World}{base:Nat}{held:Bool}{t e:TypeId}{f0 f1 f2:Field}{fuel:Nat}{cs:List Value}{x:DataW H × List MemPlace}(ht:P.underlying t=some (.slice e))(he:P.underlying e=some (.struct #[f0,f1,f2]))
  (ce:P.cellsOf e=3) (o0:f0.offset=0) (o1:f1.offset=1) (o2:f2.offset=2) (c0:P.cellsOf f0.type=1) (c1:P.cellsOf f1.type=1) (c2:P.cellsOf f2.type=1)
  (h:DataW.trod enc P w base (fun _=>true) held fuel t cs=some x) :
  cs=[.slice none 0 0] ∨
  ∃ (a:Addr) (len cap:Nat),cs=[.slice (some a) len cap]/\len <= cap/\cap <= maxLen /\
   ∀ i,i<len->∃ (v0 v1 v2:Value) (y0 y1 y2:DataW H × List MemPlace) (n:Nat),w.cell? (a.add (i*3))=some v0/\w.cell? (a.add (i*3+1))=some v1/\w.cell? (a.add (i*3+2))=some v2 /\
    DataW.trod enc P w base (fun _=>true) held n f0.type [v0]=some y0/\DataW.trod enc P w base (fun _=>true) held n f1.type [v1]=some y1/\DataW.trod enc P w base (fun _=>true) held n f2.type [v2]=some y2:=by
 rcases Deep.open_slice ht h with⟨h0,_⟩ | ⟨a,len,cap,m,n,D,Pl,rfl,hb,hl,hm,hmm,rfl,hx⟩
 ·exact .inl h0
 refine .inr ⟨a,len,cap,rfl,hl,hm,fun i hi=>?_⟩
 simp at hmm
 obtain⟨cs',h1,h2⟩:=hx i (by omega)
 rw [ce] at h1
 obtain⟨_,hlen,hcell⟩:=World.cells?_some h1
 obtain⟨xs,k,hk,hxy,_,hxl,hf⟩:=DataW.trod_struct he h2
 match xs,hxl,cs',hlen with
 | [y0,y1,y2],_,[v0,v1,v2],_ =>
  have g0:=hf 0 f0 rfl
  have g1:=hf 1 f1 rfl
  have g2:=hf 2 f2 rfl
  simp [o0,o1,o2,c0,c1,c2] at g0 g1 g2
  have e0:=hcell 0 (by omega)
  have e1:=hcell 1 (by omega)
  have e2:=hcell 2 (by omega)
  rw [Deep.add_add] at e0 e1 e2
  exact⟨v0,v1,v2,y0,y1,y2,k,by simpa using e0,by simpa using e1,by simpa using e2,g0,g1,g2⟩
theorem open_exchanges {W:World}{n:Nat}{v:Value}{y:DataW H × List MemPlace}(h:DataW.trod enc Tryz.prog W 0 (fun _=>true) true n 22 [v]=some y) :
  ∃ (a:Option Addr) (es:List Ex) (cap:Nat),v=.slice a es.length cap/\es.length <= maxLen/\(∀ e∈es,e.n.size <= maxLen)/\SE W W.heap.size a es:=by
 rcases Deep.open_slice_pairs Tryz.underlying22 Tryz.underlying183 (by kernel_rfl) rfl rfl (by kernel_rfl) (by kernel_rfl) h with⟨hcs,_⟩ | ⟨a,len,cap,m,k,V0,V1,D0,D1,P0,P1,hcs,_,hl,hm,hmm,_,hx⟩
 ·simp at hcs
  exact⟨none,[],0,hcs,by simp,by simp,.inl rfl⟩
 ·simp at hcs hmm
  have each:∀ i,i<len->∃ e:Ex,e.n.size <= maxLen/\W.cell? (a.add (i*2))=some (.string e.n)/\W.cell? (a.add (i*2+1))=some (.int .i64 e.k):=fun i hi=>by
   obtain⟨c0,c1,t0,t1⟩:=hx i (by omega)
   obtain⟨s,e0,_,ws⟩:=DataW.trod_string Tryz.underlying9 t0
   obtain⟨z,e1,_,wz⟩:=DataW.trod_int Tryz.underlying3 t1
   simp at e0 e1
   exact⟨⟨s,z⟩,ws,by rw [c0,e0],by rw [c1,e1]⟩
  obtain⟨E,hE⟩:=Deep.choose_lt each
  refine⟨some a,(List.range len).map E,cap,by simpa using hcs,by simp;omega,?_,se_of fun i x hi=>?_⟩
  ·intro x hxm
   obtain⟨i,hi,rfl⟩:=List.mem_map.1 hxm
   exact(hE i (List.mem_range.1 hi)).1
  ·have hlt:=(List.getElem?_eq_some_iff.1 hi).1
   simp at hlt
   have he:=(List.getElem?_eq_some_iff.1 hi).2
   simp at he
   subst he
   exact(hE i hlt).2
theorem open_bindings {W:World}{n:Nat}{v:Value}{y:DataW H × List MemPlace}(h:DataW.trod enc Tryz.prog W 0 (fun _=>true) true n 23 [v]=some y) :
  ∃ (a:Option Addr) (bs:List Bi) (cap:Nat),v=.slice a bs.length cap/\bs.length <= maxLen/\(∀ e∈bs,e.x.size <= maxLen/\e.k.size <= maxLen/\e.q.size <= maxLen)/\SB W W.heap.size a bs:=by
 rcases open_triples Tryz.underlying23 Tryz.underlying185 (by kernel_rfl) rfl rfl rfl (by kernel_rfl) (by kernel_rfl) (by kernel_rfl) h with hcs | ⟨a,len,cap,hcs,hl,hm,hx⟩
 ·simp at hcs
  exact⟨none,[],0,hcs,by simp,by simp,.inl rfl⟩
 ·simp at hcs
  have each:∀ i,i<len->∃ e:Bi,(e.x.size <= maxLen/\e.k.size <= maxLen/\e.q.size <= maxLen)/\W.cell? (a.add (i*3))=some (.string e.x)/\W.cell? (a.add (i*3+1))=some (.string e.k)/\W.cell? (a.add (i*3+2))=some (.string e.q):=fun i hi=>by
   obtain⟨v0,v1,v2,y0,y1,y2,k,c0,c1,c2,t0,t1,t2⟩:=hx i hi
   obtain⟨s,e0,_,ws⟩:=DataW.trod_string Tryz.underlying9 t0
   obtain⟨u,e1,_,wu⟩:=DataW.trod_string Tryz.underlying9 t1
   obtain⟨q,e2,_,wq⟩:=DataW.trod_string Tryz.underlying9 t2
   simp at e0 e1 e2
   exact⟨⟨s,u,q⟩,⟨ws,wu,wq⟩,by rw [c0,e0],by rw [c1,e1],by rw [c2,e2]⟩
  obtain⟨E,hE⟩:=Deep.choose_lt each
  refine⟨some a,(List.range len).map E,cap,by simpa using hcs,by simp;omega,?_,sb_of fun i x hi=>?_⟩
  ·intro x hxm
   obtain⟨i,hi,rfl⟩:=List.mem_map.1 hxm
   exact(hE i (List.mem_range.1 hi)).1
  ·have hlt:=(List.getElem?_eq_some_iff.1 hi).1
   simp at hlt
   have he:=(List.getElem?_eq_some_iff.1 hi).2
   simp at he
   subst he
   exact(hE i hlt).2
end
end Go.Proofs.YteoojodkkjepeaaGreat.rg
namespace Go.Proofs.YteoojodkkjepeaaGreat.fl
open ChangeShapes WideShapes ChangeAt RowKit
theorem add_at {b off:Nat}(i:Nat):(⟨b,off,none⟩:Addr).add i=⟨b,off+i,none⟩:=by unfold Addr.add;split <;> simp_all
theorem row_of {α:Type}{c:α->List Value}{n:Nat}{W:World}{a:Addr}{l:List α}(hn:∀ e,(c e).length=n)(h0:0<n)(hc:∀ (i:Nat) (e:α),l[i]?=some e->∀ (j:Nat) (v:Value),(c e)[j]?=some v->W.cell? (a.add (i*n+j))=some v):Row c n W W.heap.size (some a) l:=by
 cases l with
 | nil=>exact .inl rfl
 | cons y r =>
  obtain⟨b,off,spot⟩:=a
  have hy:0<(c y).length:=by rw [hn];exact h0
  have h0:=hc 0 y rfl 0 _ (List.getElem?_eq_getElem hy)
  have hspot:spot=none:=by simpa [Addr.add] using World.cell?_spot h0
  subst hspot
  refine .inr ⟨b,off,rfl,by have:=block_lt_of_cell h0;rw [add_at] at this;exact this,fun i x hx j v hv=>?_⟩
  have h:=hc i x hx j v hv
  rw [add_at,<- Nat.add_assoc] at h
  exact h
section
variable {H:Type} {enc:TypeId × Value->H}
theorem open_row {α:Type}[Inhabited α]{c:α->List Value}{n:Nat}{ok:α->Prop}{P:Program}{W:World}{held:Bool}{fuel:Nat}{t e:TypeId}{v:Value}{y:DataW H × List MemPlace}(hn:∀ e,(c e).length=n)(h0:0<n)
  (ht:P.underlying t=some (.slice e)) (ce:P.cellsOf e=n)
  (hel:∀ (cs:List Value) (k:Nat) (x:DataW H × List MemPlace),DataW.trod enc P W 0 (fun _=>true) held k e cs=some x->∃ a,cs=c a/\ok a)
  (h:DataW.trod enc P W 0 (fun _=>true) held fuel t [v]=some y) :
  ∃ (a:Option Addr) (l:List α) (cap:Nat),v=.slice a l.length cap/\l.length <= maxLen/\(∀ e∈l,ok e)/\Row c n W W.heap.size a l:=by
 rcases Deep.open_slice ht h with⟨hcs,_⟩ | ⟨a,len,cap,m,k,D,Pl,hcs,hb,hl,hm,hmm,_,hx⟩
 ·simp at hcs
  exact⟨none,[],0,hcs,by simp,by simp,.inl rfl⟩
 ·simp at hcs hmm
  have each:∀ i,i<len->∃ x:α,ok x/\∀ (j:Nat) (v:Value),(c x)[j]?=some v->W.cell? (a.add (i*n+j))=some v:=fun i hi=>by
   obtain⟨cs',h1,h2⟩:=hx i (by omega)
   rw [ce] at h1
   obtain⟨_,hlen,hcell⟩:=World.cells?_some h1
   obtain⟨x,rfl,hok⟩:=hel cs' k _ h2
   refine⟨x,hok,fun j v hv=>?_⟩
   have hj:=(List.getElem?_eq_some_iff.1 hv).1
   have hh:=hcell j (by rw [hn] at hj;exact hj)
   rw [Deep.add_add] at hh
   rw [hh]
   simpa using hv
  obtain⟨E,hE⟩:=Deep.choose_lt each
  refine⟨some a,(List.range len).map E,cap,by simpa using hcs,by simp;omega,?_,row_of hn h0 fun i x hi=>?_⟩
  ·intro x hxm
   obtain⟨i,hi,rfl⟩:=List.mem_map.1 hxm
   exact(hE i (List.mem_range.1 hi)).1
  ·have hlt:=(List.getElem?_eq_some_iff.1 hi).1
   simp at hlt
   have he:=(List.getElem?_eq_some_iff.1 hi).2
   simp at he
   subst he
   exact(hE i hlt).2
end
end Go.Proofs.YteoojodkkjepeaaGreat.fl
namespace Go.Proofs.YteoojodkkjepeaaGreat.qa
open ChangeShapes WideShapes ChangeAt RowKit fl
instance :Inhabited flM.Ms:=⟨⟨0,ByteArray.empty,ByteArray.empty,ByteArray.empty,false⟩⟩
instance :Inhabited flH.Hd:=⟨⟨0,0,default⟩⟩
theorem cI:Tryz.prog.cellsOf 3=1:=by kernel_rfl
theorem cS:Tryz.prog.cellsOf 9=1:=by kernel_rfl
theorem cB:Tryz.prog.cellsOf 4=1:=by kernel_rfl
theorem cM:Tryz.prog.cellsOf 220=5:=by kernel_rfl
theorem cH:Tryz.prog.cellsOf 223=7:=by kernel_rfl
section
variable {H:Type} {enc:TypeId × Value->H} {W:World}
theorem open_message (cs:List Value)(k:Nat)(x:DataW H × List MemPlace)(h:DataW.trod enc Tryz.prog W 0 (fun _=>true) true k 220 cs=some x):∃ a:flM.Ms,cs=flM.c a/\flM.ok a:=by
 obtain⟨xs,m,_,_,hlen,hxl,hf⟩:=DataW.trod_struct Tryz.underlying220 h
 rw [cM] at hlen
 match xs,hxl,cs,hlen with
 | [y0,y1,y2,y3,y4],_,[v0,v1,v2,v3,v4],_ =>
  have g0:=hf 0 _ rfl
  have g1:=hf 1 _ rfl
  have g2:=hf 2 _ rfl
  have g3:=hf 3 _ rfl
  have g4:=hf 4 _ rfl
  simp [cI,cS,cB] at g0 g1 g2 g3 g4
  obtain⟨z,e0,_,_⟩:=DataW.trod_int Tryz.underlying3 g0
  obtain⟨s1,e1,_,w1⟩:=DataW.trod_string Tryz.underlying9 g1
  obtain⟨s2,e2,_,w2⟩:=DataW.trod_string Tryz.underlying9 g2
  obtain⟨s3,e3,_,w3⟩:=DataW.trod_string Tryz.underlying9 g3
  obtain⟨b,e4,_⟩:=DataW.trod_bool Tryz.underlying4 g4
  simp at e0 e1 e2 e3 e4
  subst e0 e1 e2 e3 e4
  exact⟨⟨z,s1,s2,s3,b⟩,rfl,w1,w2,w3⟩
theorem open_held (cs:List Value)(k:Nat)(x:DataW H × List MemPlace)(h:DataW.trod enc Tryz.prog W 0 (fun _=>true) true k 223 cs=some x):∃ a:flH.Hd,cs=flH.c a/\flH.ok a:=by
 obtain⟨xs,m,_,_,hlen,hxl,hf⟩:=DataW.trod_struct Tryz.underlying223 h
 rw [cH] at hlen
 match xs,hxl,cs,hlen with
 | [y0,y1,y2],_,[v0,v1,v2,v3,v4,v5,v6],_ =>
  have g0:=hf 0 _ rfl
  have g1:=hf 1 _ rfl
  have g2:=hf 2 _ rfl
  simp [cI,cM] at g0 g1 g2
  obtain⟨z,e0,_,_⟩:=DataW.trod_int Tryz.underlying3 g0
  obtain⟨o,e1,_,_⟩:=DataW.trod_int Tryz.underlying3 g1
  obtain⟨ms,e2,hok⟩:=open_message _ _ _ g2
  simp [flM.c] at e0 e1 e2
  obtain⟨rfl,rfl,rfl,rfl,rfl⟩:=e2
  subst e0 e1
  exact⟨⟨z,o,ms⟩,rfl,hok⟩
end
end Go.Proofs.YteoojodkkjepeaaGreat.qa
namespace Go.Proofs.YteoojodkkjepeaaGreat.sa
open ChangeShapes WideShapes ChangeAt RowKit fl
instance :Inhabited flY.En:=⟨⟨0,0,ByteArray.empty⟩⟩
instance :Inhabited rr.Ex:=⟨⟨ByteArray.empty,0⟩⟩
theorem cI:Tryz.prog.cellsOf 3=1:=by kernel_rfl
theorem cS:Tryz.prog.cellsOf 9=1:=by kernel_rfl
theorem cY:Tryz.prog.cellsOf 225=3:=by kernel_rfl
theorem cK:Tryz.prog.cellsOf 227=2:=by kernel_rfl
section
variable {H:Type} {enc:TypeId × Value->H} {W:World}
theorem open_entry (cs:List Value)(k:Nat)(x:DataW H × List MemPlace)(h:DataW.trod enc Tryz.prog W 0 (fun _=>true) true k 225 cs=some x):∃ a:flY.En,cs=flY.c a/\flY.ok a:=by
 obtain⟨xs,m,_,_,hlen,hxl,hf⟩:=DataW.trod_struct Tryz.underlying225 h
 rw [cY] at hlen
 match xs,hxl,cs,hlen with
 | [y0,y1,y2],_,[v0,v1,v2],_ =>
  have g0:=hf 0 _ rfl
  have g1:=hf 1 _ rfl
  have g2:=hf 2 _ rfl
  simp [cI,cS] at g0 g1 g2
  obtain⟨z,e0,_,_⟩:=DataW.trod_int Tryz.underlying3 g0
  obtain⟨o,e1,_,_⟩:=DataW.trod_int Tryz.underlying3 g1
  obtain⟨s1,e2,_,w1⟩:=DataW.trod_string Tryz.underlying9 g2
  simp at e0 e1 e2
  subst e0 e1 e2
  exact⟨⟨z,o,s1⟩,rfl,w1⟩
theorem open_mark (cs:List Value)(k:Nat)(x:DataW H × List MemPlace)(h:DataW.trod enc Tryz.prog W 0 (fun _=>true) true k 227 cs=some x):∃ a:rr.Ex,cs=flK.c a/\flK.ok a:=by
 obtain⟨xs,m,_,_,hlen,hxl,hf⟩:=DataW.trod_struct Tryz.underlying227 h
 rw [cK] at hlen
 match xs,hxl,cs,hlen with
 | [y0,y1],_,[v0,v1],_ =>
  have g0:=hf 0 _ rfl
  have g1:=hf 1 _ rfl
  simp [cI,cS] at g0 g1
  obtain⟨s1,e0,_,w1⟩:=DataW.trod_string Tryz.underlying9 g0
  obtain⟨o,e1,_,_⟩:=DataW.trod_int Tryz.underlying3 g1
  simp at e0 e1
  subst e0 e1
  exact⟨⟨s1,o⟩,rfl,w1⟩
end
end Go.Proofs.YteoojodkkjepeaaGreat.sa
