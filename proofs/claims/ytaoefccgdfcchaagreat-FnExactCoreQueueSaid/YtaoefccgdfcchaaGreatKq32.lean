/- ThreeApp, ThreeAppB. -/
import Derived.Test.YtaoefccgdfcchaaGreatKq10
import Derived.Test.YtaoefccgdfcchaaGreatKq20
import Derived.Test.YtaoefccgdfcchaaGreatKq29
set_option maxRecDepth 100000
set_option maxHeartbeats 8000000
set_option linter.unusedVariables false
namespace Go.Proofs.YtaoefccgdfcchaaGreat.ta
open ChangeShapes WideShapes ChangeAt RowKit fl
structure G where
 e0:Nat
 v1:Value
 h:Nat
 v2:Value
 v3:Value
structure Pr where
 W0:World
 T:TypeId
 n:Nat
 xs:List Value
 ms:List Value
 ys:List Value
 k:Nat
 m:Nat
 b:Nat
 j:Nat
structure D (p:Pr) (g:G) (c0 c1 c2 c3 c4 c5:Bool) (W:World):Prop where
 bel:∃ V,Below p.W0.heap.size p.W0 V/\W=if c5 then V.setCell ⟨p.b,p.j,none⟩ g.v3 else V
 at0:c0=true->c1=false->W.ownsRow p.W0.heap.size p.T p.n (.slice (some ⟨g.e0,0,none⟩) 0 0) 0 []
 at1:c1=true->c0=true/\(c3=false->W.ownsRow p.W0.heap.size p.T p.n g.v1 p.k p.xs)
 at2:c2=true->c3=false->W.heap[g.h]?=some (.cells p.ms.toArray p.T (0,0))/\(c0=true->c1=false->g.e0 ≠ g.h)/\(c1=true->g.v1.ownBlock ≠ some g.h)
 at3:c3=true->c1=true/\c2=true/\(c4=false->W.ownsRow p.W0.heap.size p.T p.n g.v2 (p.k+1) (p.xs++p.ms))
 at4:c4=true->c3=true/\W.ownsRow p.W0.heap.size p.T p.n g.v3 (p.k+1+p.m) (p.xs++p.ms++p.ys)
 at5:c5=true->c4=true
section
variable {p:Pr} {g:G} {c0 c1 c2 c3 c4 c5:Bool} {W W':World} {v:Value}
theorem D.size (h:D p g c0 c1 c2 c3 c4 c5 W):p.W0.heap.size <= W.heap.size:=by
 obtain ⟨V,hV,rfl⟩:=h.bel
 have:=hV.size
 split
 ·simpa using this
 ·exact this
theorem D.below (h:D p g c0 c1 c2 c3 c4 false W):Below p.W0.heap.size p.W0 W:=by
 obtain ⟨V,hV,rfl⟩:=h.bel
 exact hV
theorem no31 (h:D p g c0 false c2 c3 c4 c5 W):c3=false:=by
 cases c3 with
 | false=>rfl
 | true=>have:=(h.at3 rfl).1; cases this
theorem no32 (h:D p g c0 c1 false c3 c4 c5 W):c3=false:=by
 cases c3 with
 | false=>rfl
 | true=>have:=(h.at3 rfl).2.1; cases this
theorem no4 (h:D p g c0 c1 c2 false c4 c5 W):c4=false:=by
 cases c4 with
 | false=>rfl
 | true=>have:=(h.at4 rfl).1; cases this
theorem no5 (h:D p g c0 c1 c2 c3 false c5 W):c5=false:=by
 cases c5 with
 | false=>rfl
 | true=>have:=h.at5 rfl; cases this
theorem no1 (h:D p g false c1 c2 c3 c4 c5 W):c1=false:=by
 cases c1 with
 | false=>rfl
 | true=>have:=(h.at1 rfl).1; cases this
theorem D.s0 (h:D p g false c1 c2 c3 c4 c5 W):D p { g with e0:=W.heap.size } true c1 c2 c3 c4 c5 (W.alloc (.cells #[] p.T)):=by
 obtain rfl:=no1 h
 obtain rfl:=no31 h
 obtain rfl:=no4 h
 obtain rfl:=no5 h
 have hs:=h.size
 refine ⟨⟨_,h.below.alloc hs _,rfl⟩,fun _ _=>World.ownsRow_made W #[] 0 hs (by unfold maxLen; omega) (by simp),fun e=>(by cases e),fun e _=>?_,fun e=>(by cases e),fun e=>(by cases e),fun e=>(by cases e)⟩
 obtain ⟨h1,_,h3⟩:=h.at2 e rfl
 have:=(Array.getElem?_eq_some_iff.1 h1).1
 exact ⟨bold h1 _,fun _ _=>(by show W.heap.size ≠ g.h; omega),h3⟩
theorem D.s1 (h:D p g c0 false c2 c3 c4 c5 W) (h0:c0=true) (hg:W.grownBy W' (some g.e0)) (ho:W'.ownsRow p.W0.heap.size p.T p.n v p.k p.xs) (hat:v.ownBlock=some g.e0 ∨ v.ownBlock=some W.heap.size):D p { g with v1:=v } c0 true c2 c3 c4 c5 W':=by
 obtain rfl:=no31 h
 obtain rfl:=no4 h
 obtain rfl:=no5 h
 have hs:=h.size
 have he:=((h.at0 h0 rfl).lt g.e0 rfl)
 refine ⟨⟨_,h.below.grown hg hs (fun b hb=>by cases hb; exact he.1),rfl⟩,fun _ e=>(by cases e),fun _=>⟨h0,fun _=>ho⟩,fun e _=>?_,fun e=>(by cases e),fun e=>(by cases e),fun e=>(by cases e)⟩
 obtain ⟨h1,h2,_⟩:=h.at2 e rfl
 have hne:=h2 h0 rfl
 have hlt:=(Array.getElem?_eq_some_iff.1 h1).1
 refine ⟨(hg.block _ hlt (fun e=>by have:=Option.some.inj e; omega)).trans h1,fun _ e=>(by cases e),fun _ e=>?_⟩
 have e':v.ownBlock=some g.h:=e
 rcases hat with ha | ha
 ·rw [ha] at e'; have:=Option.some.inj e'; omega
 ·rw [ha] at e'; simp at e'; omega
theorem D.s2 (h:D p g c0 c1 false c3 c4 c5 W):D p { g with h:=W.heap.size } c0 c1 true c3 c4 c5 (W.alloc (.cells p.ms.toArray p.T)):=by
 obtain rfl:=no32 h
 obtain rfl:=no4 h
 obtain rfl:=no5 h
 have hs:=h.size
 refine ⟨⟨_,h.below.alloc hs _,rfl⟩,fun a b=>(h.at0 a b).alloc _,fun a=>⟨(h.at1 a).1,fun b=>((h.at1 a).2 b).alloc _⟩,fun _ _=>⟨bnew W _ _,fun a b=>?_,fun a e=>?_⟩,fun e=>(by cases e),fun e=>(by cases e),fun e=>(by cases e)⟩
 ·have:=((h.at0 a b).lt g.e0 rfl).2
  show g.e0 ≠ W.heap.size
  omega
 ·have:=(((h.at1 a).2 rfl).lt _ e).2
  have:W.heap.size < W.heap.size:=this
  omega
theorem D.s3 (h:D p g c0 c1 c2 false c4 c5 W) (h1:c1=true) (h2:c2=true) (hg:W.grownBy W' g.v1.ownBlock) (ho:W'.ownsRow p.W0.heap.size p.T p.n v (p.k+1) (p.xs++p.ms)):D p { g with v2:=v } c0 c1 c2 true c4 c5 W':=by
 obtain rfl:=no4 h
 obtain rfl:=no5 h
 have hs:=h.size
 have he:=((h.at1 h1).2 rfl).lt
 exact ⟨⟨_,h.below.grown hg hs (fun b hb=>(he b hb).1),rfl⟩,fun a b=>(by rw [h1] at b; cases b),fun a=>⟨(h.at1 a).1,fun e=>(by cases e)⟩,fun _ e=>(by cases e),fun _=>⟨h1,h2,fun _=>ho⟩,fun e=>(by cases e),fun e=>(by cases e)⟩
theorem D.s4 (h:D p g c0 c1 c2 c3 false c5 W) (h3:c3=true) (hg:W.grownBy W' g.v2.ownBlock) (ho:W'.ownsRow p.W0.heap.size p.T p.n v (p.k+1+p.m) (p.xs++p.ms++p.ys)):D p { g with v3:=v } c0 c1 c2 c3 true c5 W':=by
 obtain rfl:=no5 h
 have hs:=h.size
 have he:=((h.at3 h3).2.2 rfl).lt
 obtain ⟨l1,l2,_⟩:=h.at3 h3
 exact ⟨⟨_,h.below.grown hg hs (fun b hb=>(he b hb).1),rfl⟩,fun a b=>(by rw [l1] at b; cases b),fun a=>⟨(h.at1 a).1,fun e=>(by rw [h3] at e; cases e)⟩,fun _ e=>(by rw [h3] at e; cases e),fun _=>⟨l1,l2,fun e=>(by cases e)⟩,fun _=>⟨h3,ho⟩,fun e=>(by cases e)⟩
theorem D.s5 (h:D p g c0 c1 c2 c3 c4 false W) (h4:c4=true) (hb:p.b < p.W0.heap.size):D p g c0 c1 c2 c3 c4 true (W.setCell ⟨p.b,p.j,none⟩ g.v3):=by
 obtain ⟨h3,ho⟩:=h.at4 h4
 obtain ⟨l1,l2,_⟩:=h.at3 h3
 refine ⟨⟨W,h.below,rfl⟩,fun a b=>(by rw [l1] at b; cases b),fun a=>⟨(h.at1 a).1,fun e=>(by rw [h3] at e; cases e)⟩,fun _ e=>(by rw [h3] at e; cases e),fun _=>⟨l1,l2,fun e=>(by rw [h4] at e; cases e)⟩,fun _=>⟨h3,?_⟩,fun _=>h4⟩
 refine ho.kept (row:=some p.b) ⟨rfl,rfl,rfl,by simp,fun k hk hne=>Below.heap_setCell _ _ _ _ (fun e=>hne (by rw [e]))⟩ ?_
 right
 intro e
 have:=(ho.lt _ e).1
 omega
end
theorem add0 (g j:Nat):(⟨g,0,none⟩:Addr).add j=⟨g,j,none⟩:=by unfold Addr.add; split <;> simp_all
theorem more_on (L:Nat->Bool) (i:Nat):dn.more L i i=true:=by unfold dn.more; rw [if_pos rfl]
theorem more_off (L:Nat->Bool) {i j:Nat} (h:j ≠ i):dn.more L i j=L j:=by unfold dn.more; rw [if_neg h]
structure J where
 j0:Nat
 j1:Nat
 j2:Nat
 j3:Nat
 j4:Nat
 j5:Nat
def J.up (x:J):Prop:=x.j0 < x.j1/\x.j1 < x.j2/\x.j2 < x.j3/\x.j3 < x.j4/\x.j4 < x.j5
def C (p:Pr) (x:J) (g:G) (L:Nat->Bool) (W:World):Prop:=D p g (L x.j0) (L x.j1) (L x.j2) (L x.j3) (L x.j4) (L x.j5) W
theorem C.d {p:Pr} {x:J} {g:G} {L:Nat->Bool} {W:World} (h:C p x g L W):D p g (L x.j0) (L x.j1) (L x.j2) (L x.j3) (L x.j4) (L x.j5) W:=h
section
variable {p:Pr} {x:J} {ws:G->List (Nat × Value)} {act:Act} {Q:Exit->Act->World->Prop} {o:Oper}
theorem st0 (hx:x.up) {d idx:Nat} (hsel:∀ cs b,o.op ≠ .select cs b) (hdst:o.dst=some d) (hsz:d < act.tmps.size) (ld:∀ g,(ws g).lookup d=some (.slice (some ⟨g.e0,0,none⟩) 0 0)) (hidx:∀ g,((ws g)[idx]?.map (·.1))=some d) (hset:∀ g (e:Nat),ws { g with e0:=e }=(ws g).set idx (d,.slice (some ⟨e,0,none⟩) 0 0))
  (hrun:∀ s W,(execOp (dk.sets act (ws s)).eval o).run Tryz.prog W=.ok (.value (.slice (some ⟨W.heap.size,0,none⟩) 0 0)) (W.alloc (.cells #[] p.T))):gh.Step Tryz.prog (fun s=>dk.sets act (ws s)) (C p x) Q x.j0 o:=by
 refine gh.step_val hsel fun s L W hdp h0 hC=>⟨{ s with e0:=W.heap.size },.slice (some ⟨W.heap.size,0,none⟩) 0 0,dk.agree_sets idx d _ hdst (hidx s) (hset s _),(fun d' hd=>by rw [hdst] at hd; cases hd; exact dk.sets_on _ hsz _ (ld _)),?_⟩
 rw [hrun]
 refine ⟨rfl,?_⟩
 obtain ⟨u0,u1,u2,u3,u4⟩:=hx
 have hd:=hC.d
 rw [h0] at hd
 unfold C
 rw [more_on,more_off L (show x.j1 ≠ x.j0 by omega),more_off L (show x.j2 ≠ x.j0 by omega),more_off L (show x.j3 ≠ x.j0 by omega),more_off L (show x.j4 ≠ x.j0 by omega),more_off L (show x.j5 ≠ x.j0 by omega)]
 exact hd.s0
theorem st2 (hx:x.up) {d idx:Nat} (hsel:∀ cs b,o.op ≠ .select cs b) (hdst:o.dst=some d) (hsz:d < act.tmps.size) (ld:∀ g,(ws g).lookup d=some (.slice (some ⟨g.h,0,none⟩) 1 1)) (hidx:∀ g,((ws g)[idx]?.map (·.1))=some d) (hset:∀ g (e:Nat),ws { g with h:=e }=(ws g).set idx (d,.slice (some ⟨e,0,none⟩) 1 1))
  (hrun:∀ s W,(execOp (dk.sets act (ws s)).eval o).run Tryz.prog W=.ok (.value (.slice (some ⟨W.heap.size,0,none⟩) 1 1)) (W.alloc (.cells p.ms.toArray p.T))):gh.Step Tryz.prog (fun s=>dk.sets act (ws s)) (C p x) Q x.j2 o:=by
 refine gh.step_val hsel fun s L W hdp h0 hC=>⟨{ s with h:=W.heap.size },.slice (some ⟨W.heap.size,0,none⟩) 1 1,dk.agree_sets idx d _ hdst (hidx s) (hset s _),(fun d' hd=>by rw [hdst] at hd; cases hd; exact dk.sets_on _ hsz _ (ld _)),?_⟩
 rw [hrun]
 refine ⟨rfl,?_⟩
 obtain ⟨u0,u1,u2,u3,u4⟩:=hx
 have hd:=hC.d
 rw [h0] at hd
 unfold C
 rw [more_on,more_off L (show x.j0 ≠ x.j2 by omega),more_off L (show x.j1 ≠ x.j2 by omega),more_off L (show x.j3 ≠ x.j2 by omega),more_off L (show x.j4 ≠ x.j2 by omega),more_off L (show x.j5 ≠ x.j2 by omega)]
 exact hd.s2
theorem app_run {ST s1 s2 m c:Nat} {a:Addr} {v v':Value} {f:Act} {W w':World} (hop:o.op=.call { callee:=.builtin .append,args:=#[.tmp s1,.tmp s2],argTypes:=#[ST,ST] }) (e1:f.eval (.tmp s1)=v) (e2:f.eval (.tmp s2)=.slice (some a) m c) (hr:(Builtin.append_ #[ST,ST] o.type #[v,.slice (some a) m c]).run Tryz.prog W=.ok v' w'):(execOp f.eval o).run Tryz.prog W=.ok (.value v') w':=by
 unfold execOp
 simp only [hop,resolve,invoke,builtin,Sem.run_bind,Sem.run_pure,Result.andThen_ok,List.map_toArray,List.map_cons,List.map_nil,e1,e2,hr]
variable {ST:TypeId} {i0:TypeInfo} {z:Value} {bytes:Nat}
theorem st3 (hx:x.up) (ht:Tryz.prog.underlying ST=some (.slice p.T)) (hi:Tryz.prog.info? p.T=some i0) (hz:i0.zero=some z) (hn:i0.size=p.n) (hb:i0.bytes=bytes) (hzs:z.cells.size=p.n) (hn0:0 < p.n)
  {s1 s2 d idx:Nat} (hop:o.op=.call { callee:=.builtin .append,args:=#[.tmp s1,.tmp s2],argTypes:=#[ST,ST] }) (hdst:o.dst=some d) (hsz:d < act.tmps.size/\s1 < act.tmps.size/\s2 < act.tmps.size)
  (ld:∀ g,(ws g).lookup d=some g.v2) (l1:∀ g,(ws g).lookup s1=some g.v1) (l2:∀ g,(ws g).lookup s2=some (.slice (some ⟨g.h,0,none⟩) 1 1)) (hidx:∀ g,((ws g)[idx]?.map (·.1))=some d) (hset:∀ g (v:Value),ws { g with v2:=v }=(ws g).set idx (d,v))
  (hlen:p.ms.length=p.n) (h1c:∀ u ∈ p.ms,u.oneCell'=true) (hk:p.k <= 1048576) (hby:(p.k+1)*bytes <= 140737488355328)
  (hdep:∃ e ∈ o.after,Region.binds .any e=true/\e.on=x.j1) (hdep2:∃ e ∈ o.after,Region.binds .any e=true/\e.on=x.j2):gh.Step Tryz.prog (fun s=>dk.sets act (ws s)) (C p x) Q x.j3 o:=by
 refine gh.step_val (by rw [hop]; simp) fun s L W hdp h0 hC=>?_
 obtain ⟨xp,mp,yp,zp⟩:=hdep
 have lp:=hdp xp mp yp
 rw [zp] at lp
 obtain ⟨xq,mq,yq,zq⟩:=hdep2
 have lq:=hdp xq mq yq
 rw [zq] at lq
 obtain ⟨u0,u1,u2,u3,u4⟩:=hx
 have hd:=hC.d
 rw [h0] at hd
 have hold:=(hd.at1 lp).2 rfl
 obtain ⟨hcell,_,_⟩:=hd.at2 lq rfl
 have hnews:∀ j u,p.ms[j]?=some u->W.cell? ((⟨s.h,0,none⟩:Addr).add j)=some u:=fun j u hu=>by
  rw [add0]
  exact bcell hcell (by simpa using hu)
 obtain ⟨v',w',hr,ho,hg,_,hat⟩:=run_append_own_at (P:=Tryz.prog) W p.W0.heap.size ST o.type p.T i0 z p.n bytes ht hi hz hn hb hzs hn0 _ p.k p.xs hold ⟨s.h,0,none⟩ 1 1 p.ms (by rw [hlen,Nat.one_mul]) hnews h1c (by unfold maxLen; omega) hby hd.size
 refine ⟨{ s with v2:=v' },v',dk.agree_sets idx d _ hdst (hidx s) (hset s _),(fun d' hd=>by rw [hdst] at hd; cases hd; exact dk.sets_on _ hsz.1 _ (ld _)),?_⟩
 rw [app_run hop (dk.eval_on _ _ hsz.2.1 (l1 s)) (dk.eval_on _ _ hsz.2.2 (l2 s)) hr]
 refine ⟨rfl,?_⟩
 unfold C
 rw [more_on,more_off L (show x.j0 ≠ x.j3 by omega),more_off L (show x.j1 ≠ x.j3 by omega),more_off L (show x.j2 ≠ x.j3 by omega),more_off L (show x.j4 ≠ x.j3 by omega),more_off L (show x.j5 ≠ x.j3 by omega)]
 exact hd.s3 lp lq hg ho
theorem st5 (hx:x.up) (hsel:∀ cs b,o.op ≠ .select cs b) (hdst:o.dst=none) (hb:p.b < p.W0.heap.size)
  (hrun:∀ s W,(∀ (b:Nat) (o:Obj),p.W0.heap[b]?=some o->W.heap[b]?=some o)->(∃ a n c,s.v3=.slice a n c)->(execOp (dk.sets act (ws s)).eval o).run Tryz.prog W=.ok .skip (W.setCell ⟨p.b,p.j,none⟩ s.v3))
  (hdep:∃ e ∈ o.after,Region.binds .any e=true/\e.on=x.j4):gh.Step Tryz.prog (fun s=>dk.sets act (ws s)) (C p x) Q x.j5 o:=by
 refine gh.step_val hsel fun s L W hdp h0 hC=>⟨s,undef,gh.Agree.refl _ _,(fun d hd=>by rw [hdst] at hd; cases hd),?_⟩
 obtain ⟨xp,mp,yp,zp⟩:=hdep
 have lp:=hdp xp mp yp
 rw [zp] at lp
 obtain ⟨u0,u1,u2,u3,u4⟩:=hx
 have hd:=hC.d
 rw [h0] at hd
 have hv:∃ a n c,s.v3=.slice a n c:=by
  obtain ⟨_,⟨e,_⟩ | ⟨g,cap,cur,e,_⟩⟩:=(hd.at4 lp).2
  ·exact ⟨_,_,_,e⟩
  ·exact ⟨_,_,_,e⟩
 rw [hrun s W (fun b o hb=>bstay hb hd.below (Array.getElem?_eq_some_iff.1 hb).1) hv]
 refine ⟨rfl,?_⟩
 unfold C
 rw [more_on,more_off L (show x.j0 ≠ x.j5 by omega),more_off L (show x.j1 ≠ x.j5 by omega),more_off L (show x.j2 ≠ x.j5 by omega),more_off L (show x.j3 ≠ x.j5 by omega),more_off L (show x.j4 ≠ x.j5 by omega)]
 exact hd.s5 lp hb
end
theorem done {p:Pr} {x:J} {g:G} {L:Nat->Bool} {W:World} {N:Nat} (hC:C p x g L W) (hx:x.up) (hN:x.j5 < N) (hL:∀ i,i < N->L i=true) :
  ∃ V,Below p.W0.heap.size p.W0 V/\W=V.setCell ⟨p.b,p.j,none⟩ g.v3/\W.ownsRow p.W0.heap.size p.T p.n g.v3 (p.k+1+p.m) (p.xs++p.ms++p.ys):=by
 have hd:=hC.d
 obtain ⟨u0,u1,u2,u3,u4⟩:=hx
 rw [hL x.j4 (by omega),hL x.j5 hN] at hd
 obtain ⟨V,h1,h2⟩:=hd.bel
 exact ⟨V,h1,h2,(hd.at4 rfl).2⟩
theorem start (p:Pr) (x:J) (g:G):C p x g (fun _=>false) p.W0.drew :=
 ⟨⟨_,(Below.refl _ _).drew,rfl⟩,fun e=>(by cases e),fun e=>(by cases e),fun e=>(by cases e),fun e=>(by cases e),fun e=>(by cases e),fun e=>(by cases e)⟩
end Go.Proofs.YtaoefccgdfcchaaGreat.ta
namespace Go.Proofs.YtaoefccgdfcchaaGreat.tab
open ChangeShapes WideShapes ChangeAt RowKit fl dn
def Cl (l:List Oper) (L:Nat->Bool):Prop:=∀ (i:Nat) (o:Oper),l[i]?=some o->L i=true->∀ e ∈ o.after,Region.binds .any e=true->L e.on=true
def C2 (l:List Oper) (p:ta.Pr) (x:ta.J) (g:ta.G) (L:Nat->Bool) (W:World):Prop:=Cl l L/\ta.C p x g L W
theorem back {l:List Oper} {L:Nat->Bool} (hc:Cl l L) {i j:Nat} {oj:Oper} (hl:l[j]?=some oj) (he:∃ e ∈ oj.after,Region.binds .any e=true/\e.on=i) (h:L i=false):L j=false:=by
 cases hj:L j with
 | false=>rfl
 | true =>
  obtain ⟨e,h1,h2,h3⟩:=he
  have:=hc j oj hl hj e h1 h2
  rw [h3,h] at this
  cases this
section
variable {p:ta.Pr} {x:ta.J} {ws:ta.G->List (Nat × Value)} {act:Act} {Q:Exit->Act->World->Prop} {o:Oper} {l:List Oper} {i:Nat}
theorem lift (hl:l[i]?=some o) (h:gh.Step Tryz.prog (fun s=>dk.sets act (ws s)) (ta.C p x) Q i o):gh.Step Tryz.prog (fun s=>dk.sets act (ws s)) (C2 l p x) Q i o:=by
 intro s L w a ha hd h0 hC K hK
 exact h s L w a ha hd h0 hC.2 K (fun s' v w' hag hv hC'=>hK s' v w' hag hv ⟨chn.shut hl hd hC.1,hC'⟩)
theorem quiet (hl:l[i]?=some o) (hi:i ≠ x.j0/\i ≠ x.j1/\i ≠ x.j2/\i ≠ x.j3/\i ≠ x.j4/\i ≠ x.j5) (hsel:∀ cs b,o.op ≠ .select cs b) (u:Value) (hd:∀ s d,o.dst=some d->(dk.sets act (ws s)).tmps[d]?=some u)
  (hnd:∀ L,Cl l L->L i=false->L x.j5=false) (hrun:∀ s W,Below p.W0.heap.size p.W0 W->(execOp (dk.sets act (ws s)).eval o).run Tryz.prog W=.ok (.value u) W):gh.Step Tryz.prog (fun s=>dk.sets act (ws s)) (C2 l p x) Q i o:=by
 refine gh.step_val hsel fun s L W hdp h0 hC=>⟨s,u,gh.Agree.refl _ _,hd s,?_⟩
 have hD:=hC.2.d
 rw [hnd L hC.1 h0] at hD
 rw [hrun s W hD.below]
 refine ⟨rfl,chn.shut hl hdp hC.1,?_⟩
 obtain ⟨i0,i1,i2,i3,i4,i5⟩:=hi
 unfold ta.C
 rw [ta.more_off L i0.symm,ta.more_off L i1.symm,ta.more_off L i2.symm,ta.more_off L i3.symm,ta.more_off L i4.symm,ta.more_off L i5.symm]
 exact hC.2
end
def Src (n:Nat) (W:World) (sv:Value) (k:Nat) (xs:List Value):Prop:=(∃ a c,sv=.slice (some a) k c/\xs.length=k*n/\∀ j u,xs[j]?=some u->W.cell? (a.add j)=some u) ∨ (sv=.slice none 0 0/\k=0/\xs=[])
theorem run_none {W:World} {ST T ty:TypeId} {i0:TypeInfo} {a:Option Addr} {m c:Nat} (ht:Tryz.prog.underlying ST=some (.slice T)) (hi:Tryz.prog.info? T=some i0) (hc:m <= c):(Builtin.append_ #[ST,ST] ty #[.slice a m c,.slice none 0 0]).run Tryz.prog W=.ok (.slice a m c) W:=by
 cases a <;> simp [Builtin.append_,run_underlying ht,sizeOf,typeInfo,hi,Builtin.lenOf,hc,Builtin.firstCells,storeCells]
theorem app_src {W:World} {B:Nat} {ST T ty:TypeId} {i0:TypeInfo} {z:Value} {n bytes m k:Nat} {v sv:Value} {xs ys:List Value} (ht:Tryz.prog.underlying ST=some (.slice T)) (hi:Tryz.prog.info? T=some i0) (hz:i0.zero=some z) (hn:i0.size=n) (hb:i0.bytes=bytes) (hzs:z.cells.size=n) (hn0:0 < n) (ho:W.ownsRow B T n v m xs) (hs:Src n W sv k ys) (h1c:∀ u ∈ ys,u.oneCell'=true) (hl:m+k <= maxLen) (hby:(m+k)*bytes <= 140737488355328) (hB:B <= W.heap.size) :
  ∃ v' w',(Builtin.append_ #[ST,ST] ty #[v,sv]).run Tryz.prog W=.ok v' w'/\w'.ownsRow B T n v' (m+k) (xs++ys)/\W.grownBy w' v.ownBlock/\(v'.ownBlock=v.ownBlock ∨ v'.ownBlock=some W.heap.size):=by
 rcases hs with ⟨a,c,rfl,h1,h2⟩ | ⟨rfl,rfl,rfl⟩
 ·obtain ⟨v',w',k1,k2,k3,_,k5⟩:=run_append_own_at (P:=Tryz.prog) W B ST ty T i0 z n bytes ht hi hz hn hb hzs hn0 v m xs ho a k c ys h1 h2 h1c hl hby hB
  exact ⟨v',w',k1,k2,k3,k5⟩
 ·rw [List.append_nil]
  have hg:W.grownBy W v.ownBlock:=⟨rfl,rfl,rfl,Nat.le_refl _,fun _ _ _=>rfl⟩
  obtain ⟨h0,⟨h1,h2⟩ | ⟨g,cap,cur,h1,h2,h3,h4,h5⟩⟩:=id ho
  ·subst h1
   exact ⟨_,W,run_none ht hi (Nat.le_refl _),ho,hg,.inl rfl⟩
  ·subst h1
   exact ⟨_,W,run_none ht hi h4,ho,hg,.inl rfl⟩
section
variable {p:ta.Pr} {x:ta.J} {ws:ta.G->List (Nat × Value)} {act:Act} {Q:Exit->Act->World->Prop} {o:Oper} {l:List Oper} {i:Nat} {ST:TypeId} {i0:TypeInfo} {z:Value} {bytes:Nat}
theorem run_app {s1 s2:Nat} {v sv v':Value} {f:Act} {W w':World} (hop:o.op=.call { callee:=.builtin .append,args:=#[.tmp s1,.tmp s2],argTypes:=#[ST,ST] }) (e1:f.eval (.tmp s1)=v) (e2:f.eval (.tmp s2)=sv) (hr:(Builtin.append_ #[ST,ST] o.type #[v,sv]).run Tryz.prog W=.ok v' w'):(execOp f.eval o).run Tryz.prog W=.ok (.value v') w':=by
 unfold execOp
 simp only [hop,resolve,invoke,builtin,Sem.run_bind,Sem.run_pure,Result.andThen_ok,List.map_toArray,List.map_cons,List.map_nil,e1,e2,hr]
theorem st1 (hl:l[x.j1]?=some o) (hx:x.up) (ht:Tryz.prog.underlying ST=some (.slice p.T)) (hi:Tryz.prog.info? p.T=some i0) (hz:i0.zero=some z) (hn:i0.size=p.n) (hb:i0.bytes=bytes) (hzs:z.cells.size=p.n) (hn0:0 < p.n)
  {s1 s2 d idx:Nat} {sv:Value} (hop:o.op=.call { callee:=.builtin .append,args:=#[.tmp s1,.tmp s2],argTypes:=#[ST,ST] }) (hdst:o.dst=some d) (hsz:d < act.tmps.size/\s1 < act.tmps.size/\s2 < act.tmps.size)
  (ld:∀ g,(ws g).lookup d=some g.v1) (l1:∀ g,(ws g).lookup s1=some (.slice (some ⟨g.e0,0,none⟩) 0 0)) (l2:∀ g,(ws g).lookup s2=some sv) (hidx:∀ g,((ws g)[idx]?.map (·.1))=some d) (hset:∀ g (v:Value),ws { g with v1:=v }=(ws g).set idx (d,v))
  (hsrc:∀ W,Below p.W0.heap.size p.W0 W->Src p.n W sv p.k p.xs) (h1c:∀ u ∈ p.xs,u.oneCell'=true) (hk:p.k <= 1048576) (hby:(0+p.k)*bytes <= 140737488355328)
  (hdep:∃ e ∈ o.after,Region.binds .any e=true/\e.on=x.j0):gh.Step Tryz.prog (fun s=>dk.sets act (ws s)) (C2 l p x) Q x.j1 o:=by
 refine lift hl (gh.step_val (by rw [hop]; simp) fun s L W hdp h0 hC=>?_)
 obtain ⟨xp,mp,yp,zp⟩:=hdep
 have lp:=hdp xp mp yp
 rw [zp] at lp
 obtain ⟨u0,u1,u2,u3,u4⟩:=hx
 have hd:=hC.d
 rw [h0] at hd
 have hbel:Below p.W0.heap.size p.W0 W:=by
  have e3:=ta.no31 hd
  rw [e3] at hd
  have e4:=ta.no4 hd
  rw [e4] at hd
  have e5:=ta.no5 hd
  rw [e5] at hd
  exact hd.below
 have hold:=hd.at0 lp rfl
 obtain ⟨v',w',hr,ho,hg,hat⟩:=app_src (ty:=o.type) ht hi hz hn hb hzs hn0 hold (hsrc W hbel) h1c (by unfold maxLen; omega) hby hd.size
 rw [Nat.zero_add,List.nil_append] at ho
 refine ⟨{ s with v1:=v' },v',dk.agree_sets idx d _ hdst (hidx s) (hset s _),(fun d' hd=>by rw [hdst] at hd; cases hd; exact dk.sets_on _ hsz.1 _ (ld _)),?_⟩
 rw [run_app hop (dk.eval_on _ _ hsz.2.1 (l1 s)) (dk.eval_on _ _ hsz.2.2 (l2 s)) hr]
 refine ⟨rfl,?_⟩
 unfold ta.C
 rw [ta.more_on,ta.more_off L (show x.j0 ≠ x.j1 by omega),ta.more_off L (show x.j2 ≠ x.j1 by omega),ta.more_off L (show x.j3 ≠ x.j1 by omega),ta.more_off L (show x.j4 ≠ x.j1 by omega),ta.more_off L (show x.j5 ≠ x.j1 by omega)]
 exact hd.s1 lp hg ho hat
theorem st4 (hl:l[x.j4]?=some o) (hx:x.up) (ht:Tryz.prog.underlying ST=some (.slice p.T)) (hi:Tryz.prog.info? p.T=some i0) (hz:i0.zero=some z) (hn:i0.size=p.n) (hb:i0.bytes=bytes) (hzs:z.cells.size=p.n) (hn0:0 < p.n)
  {s1 s2 d idx:Nat} {sv:Value} (hop:o.op=.call { callee:=.builtin .append,args:=#[.tmp s1,.tmp s2],argTypes:=#[ST,ST] }) (hdst:o.dst=some d) (hsz:d < act.tmps.size/\s1 < act.tmps.size/\s2 < act.tmps.size)
  (ld:∀ g,(ws g).lookup d=some g.v3) (l1:∀ g,(ws g).lookup s1=some g.v2) (l2:∀ g,(ws g).lookup s2=some sv) (hidx:∀ g,((ws g)[idx]?.map (·.1))=some d) (hset:∀ g (v:Value),ws { g with v3:=v }=(ws g).set idx (d,v))
  (hsrc:∀ W,Below p.W0.heap.size p.W0 W->Src p.n W sv p.m p.ys) (h1c:∀ u ∈ p.ys,u.oneCell'=true) (hk:p.k <= 1048576/\p.m <= 1048576) (hby:(p.k+1+p.m)*bytes <= 140737488355328)
  (hdep:∃ e ∈ o.after,Region.binds .any e=true/\e.on=x.j3):gh.Step Tryz.prog (fun s=>dk.sets act (ws s)) (C2 l p x) Q x.j4 o:=by
 refine lift hl (gh.step_val (by rw [hop]; simp) fun s L W hdp h0 hC=>?_)
 obtain ⟨xp,mp,yp,zp⟩:=hdep
 have lp:=hdp xp mp yp
 rw [zp] at lp
 obtain ⟨u0,u1,u2,u3,u4⟩:=hx
 have hd:=hC.d
 rw [h0] at hd
 have hbel:Below p.W0.heap.size p.W0 W:=by
  have e5:=ta.no5 hd
  rw [e5] at hd
  exact hd.below
 have hold:=(hd.at3 lp).2.2 rfl
 obtain ⟨v',w',hr,ho,hg,hat⟩:=app_src (ty:=o.type) ht hi hz hn hb hzs hn0 hold (hsrc W hbel) h1c (by unfold maxLen; omega) hby hd.size
 refine ⟨{ s with v3:=v' },v',dk.agree_sets idx d _ hdst (hidx s) (hset s _),(fun d' hd=>by rw [hdst] at hd; cases hd; exact dk.sets_on _ hsz.1 _ (ld _)),?_⟩
 rw [run_app hop (dk.eval_on _ _ hsz.2.1 (l1 s)) (dk.eval_on _ _ hsz.2.2 (l2 s)) hr]
 refine ⟨rfl,?_⟩
 unfold ta.C
 rw [ta.more_on,ta.more_off L (show x.j0 ≠ x.j4 by omega),ta.more_off L (show x.j1 ≠ x.j4 by omega),ta.more_off L (show x.j2 ≠ x.j4 by omega),ta.more_off L (show x.j3 ≠ x.j4 by omega),ta.more_off L (show x.j5 ≠ x.j4 by omega)]
 exact hd.s4 lp hg ho
end
def cut1 (a:Option Addr) (k cap:Nat):Value:=match a with
 | none=>.slice none 0 0
 | some p=>.slice (some p) k cap
def cut2 (a:Option Addr) (k m cap n:Nat):Value:=match a with
 | none=>.slice none 0 0
 | some p=>.slice (some ⟨p.block,if cap=k then 0 else k*n,none⟩) (m - k) (cap - k)
section
variable {α:Type} {c:α->List Value} {n B cap k m:Nat} {U:TypeId} {l:List α} {W:World} {a:Option Addr}
theorem form (ho:W.ownsRow B U n (.slice a m cap) m (l.flatMap c)):(a=none/\m=0/\cap=0) ∨ ∃ g,a=some ⟨g,0,none⟩/\m <= cap:=by
 obtain ⟨_,⟨h1,h2⟩ | ⟨g,cap',cur,h1,_,_,h4,_⟩⟩:=ho
 ·obtain ⟨rfl,rfl,rfl⟩:=Value.slice.inj h1
  exact .inl ⟨rfl,rfl,rfl⟩
 ·obtain ⟨rfl,_,rfl⟩:=Value.slice.inj h1
  exact .inr ⟨g,rfl,h4⟩
theorem cell_at (ho:W.ownsRow B U n (.slice a l.length cap) l.length (l.flatMap c)) {g:Nat} (ha:a=some ⟨g,0,none⟩) {j:Nat} {u:Value} (hu:(l.flatMap c)[j]?=some u):W.cell? ⟨g,j,none⟩=some u:=by
 obtain ⟨_,⟨h1,_⟩ | ⟨g',cap',cur,h1,h2,h3,h4,h5,h6,h7⟩⟩:=ho
 ·rw [ha] at h1; cases h1
 ·rw [ha] at h1
  cases h1
  rw [<- h7] at hu
  have hlt:=(List.getElem?_eq_some_iff.1 hu).1
  rw [List.length_take] at hlt
  rw [List.getElem?_take_of_lt (by omega)] at hu
  exact bcell h3 (by simpa using hu)
theorem src1 (hn:∀ e,(c e).length=n) (ho:W.ownsRow B U n (.slice a l.length cap) l.length (l.flatMap c)) (hk:k <= l.length):Src n W (cut1 a k cap) k ((l.take k).flatMap c):=by
 rcases form ho with ⟨rfl,h2,rfl⟩ | ⟨g,rfl,h2⟩
 ·have:l=[]:=List.eq_nil_of_length_eq_zero h2
  subst this
  have:k=0:=by simpa using hk
  subst this
  exact .inr ⟨rfl,rfl,rfl⟩
 ·refine .inl ⟨_,_,rfl,by rw [flat_len hn,List.length_take]; congr 1; omega,fun j u hu=>?_⟩
  rw [ta.add0]
  refine cell_at ho rfl ?_
  rw [<- List.take_append_drop k l,List.flatMap_append,List.getElem?_append_left (List.getElem?_eq_some_iff.1 hu).1]
  exact hu
theorem src2 (hn:∀ e,(c e).length=n) (ho:W.ownsRow B U n (.slice a l.length cap) l.length (l.flatMap c)) (hk:k <= l.length):Src n W (cut2 a k l.length cap n) (l.length - k) ((l.drop k).flatMap c):=by
 rcases form ho with ⟨rfl,h2,rfl⟩ | ⟨g,rfl,h2⟩
 ·have:l=[]:=List.eq_nil_of_length_eq_zero h2
  subst this
  exact .inr ⟨rfl,by simp,by simp⟩
 ·refine .inl ⟨_,_,rfl,by rw [flat_len hn,List.length_drop],fun j u hu=>?_⟩
  have hj:=(List.getElem?_eq_some_iff.1 hu).1
  rw [flat_len hn,List.length_drop] at hj
  have hne:¬ cap=k:=fun e=>by
   subst e
   have:l.length - cap=0:=by omega
   rw [this,Nat.zero_mul] at hj
   omega
  rw [if_neg hne]
  have e:(⟨g,k*n,none⟩:Addr).add j=⟨g,k*n+j,none⟩:=by unfold Addr.add; split <;> simp_all
  rw [e]
  refine cell_at ho rfl ?_
  have hx:((l.take k).flatMap c).length=k*n:=by rw [flat_len hn,List.length_take]; congr 1; omega
  rw [<- List.take_append_drop k l,List.flatMap_append,List.getElem?_append_right (by rw [hx]; omega),hx,show k*n+j - k*n=j by omega]
  exact hu
end
theorem region {Q:Exit->Act->World->Prop} {id:Nat} {l:List Oper} {p:ta.Pr} {w:World} {a0:Act} (ws:ta.G->List (Nat × Value)) (ks:List Nat) (x:ta.J) (s0:ta.G) (hw0:p.W0=w) (hm:Tryz.prog.follows .mixedOrders=true) (hok:dn.okB l.toArray=true)
  (hw:∀ g,(ws g).map (·.1)=ks) (hks:(ks.all fun t=>dn.keepB l t)=true) (hstep:gh.Each Tryz.prog (fun g=>dk.sets a0 (ws g)) (C2 l p x) Q 0 l)
  (hend:∀ (s:ta.G) (L:Nat->Bool) (w':World),(∀ i,i < l.length->L i=true)->ta.C p x s L w'->Q .normal (dk.sets a0 (ws s)) w'):(Code.region id l.toArray true).wp Tryz.prog Q a0 w :=
 dk.region_gsets ws ks (C2 l p x) s0 hm hok hw hks (by subst hw0; exact ⟨fun i o _ h=>Bool.noConfusion h,ta.start p x s0⟩) hstep (fun s L w' hL hC=>hend s L w' hL hC.2)
end Go.Proofs.YtaoefccgdfcchaaGreat.tab
