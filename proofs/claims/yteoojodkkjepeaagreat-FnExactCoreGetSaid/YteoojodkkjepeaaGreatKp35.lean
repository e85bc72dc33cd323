/- QuPut, HeapPure, QItems, QSwap, QState, QUp. -/
import Derived.Test.YteoojodkkjepeaaGreatKp09
import Derived.Test.YteoojodkkjepeaaGreatKp01
import Derived.Test.YteoojodkkjepeaaGreatKp11
import Derived.Test.YteoojodkkjepeaaGreatKp22
import Derived.Deep.QuietTactic
import Derived.BigQuiet
set_option maxRecDepth 100000
set_option maxHeartbeats 8000000
set_option linter.unusedVariables false
namespace Go.Proofs.YteoojodkkjepeaaGreat.qu
open ChangeShapes WideShapes ChangeAt RowKit fl
theorem own_put {w:World}{g:Nat}{p q:List E}{r:E}(r':E)(h:fo.OwnO c 4 68 w g 0 (p++r :: q) (p++r :: q).length):fo.OwnO c 4 68 (fl.setRow w g (p.length*4) (c r')) g 0 (p++r' :: q) (p++r' :: q).length:=by
 obtain⟨cur,h1,h2,h3⟩:=h
 have hlen:(p++r :: q).length=p.length+1+q.length:=by simp;omega
 have hlen':(p++r' :: q).length=p.length+1+q.length:=by simp;omega
 rw [hlen] at h2
 have h2':p.length*4+4 <= cur.size:=by omega
 refine⟨_,fl.setRow_heap _ _ _ _ h1,by rw [fl.setArr_size,hlen'];exact h2,fun i e hi he j v hv=>?_⟩
 have hj:=(List.getElem?_eq_some_iff.1 hv).1
 rw [c_len] at hj
 by_cases ei:i=p.length
 ·subst ei
  rw [at_mid] at he
  cases he
  rw [Nat.zero_add]
  exact fl.setArr_on _ _ _ _ _ hv (by rw [c_len];exact h2')
 ·rw [Nat.zero_add,fl.setArr_off _ _ _ _ (by rw [c_len];omega)]
  have e1:=List.getElem?_set_ne (l:=p++r :: q) (a:=r') (Ne.symm ei)
  rw [set_mid] at e1
  have:=h3 i e (by rw [hlen];rw [hlen'] at hi;exact hi) (by rw [<- e1];exact he) j v hv
  rwa [Nat.zero_add] at this
theorem Ls.put {X w1:World}{B g n:Nat}{p q:List E}{r:E}(r':E)(hn:p.length=n)(hX:Ls X B g (p++r :: q))(h:Ls w1 B g (p++r :: q))(hA:fo.Mine flM.c 5 48 w1 B r'.ra r'.rs)(hB:fo.Mine flH.c 7 102 w1 B r'.ha r'.hs)(hlo:∀ k,bA r' k ∨ bB r' k->X.heap.size <= k) :
  Ls ((((w1.setCell ⟨g,n*4,none⟩ (.string r'.nm)).setCell ⟨g,n*4+1,none⟩ (.int .i64 r'.nx)).setCell ⟨g,n*4+2,none⟩ (.slice r'.ra r'.rs.length r'.rc)).setCell ⟨g,n*4+3,none⟩ (.slice r'.ha r'.hs.length r'.hc)) B g (p++r' :: q):=by
 subst hn
 have hg:=own_g h.own
 have ht:fo.Tn w1 ((((w1.setCell ⟨g,p.length*4,none⟩ (.string r'.nm)).setCell ⟨g,p.length*4+1,none⟩ (.int .i64 r'.nx)).setCell ⟨g,p.length*4+2,none⟩ (.slice r'.ra r'.rs.length r'.rc)).setCell ⟨g,p.length*4+3,none⟩ (.slice r'.ha r'.hs.length r'.hc)) (fun k=>k=g):=(((((fo.Tn.refl w1 (fun k=>k=g)).set (g:=g) rfl _ _).set (g:=g) rfl _ _).set (g:=g) rfl _ _).set (g:=g) rfl _ _)
 have ka:∀ s:E,fo.Mine flM.c 5 48 w1 B s.ra s.rs->fo.Mine flM.c 5 48 ((((w1.setCell ⟨g,p.length*4,none⟩ (.string r'.nm)).setCell ⟨g,p.length*4+1,none⟩ (.int .i64 r'.nx)).setCell ⟨g,p.length*4+2,none⟩ (.slice r'.ra r'.rs.length r'.rc)).setCell ⟨g,p.length*4+3,none⟩ (.slice r'.ha r'.hs.length r'.hc)) B s.ra s.rs:=fun s m=>m.kept ht (fun k hk e=>by subst e;exact rmk.ne_type (by decide) hg (rmk.mine_type m hk))
 have kb:∀ s:E,fo.Mine flH.c 7 102 w1 B s.ha s.hs->fo.Mine flH.c 7 102 ((((w1.setCell ⟨g,p.length*4,none⟩ (.string r'.nm)).setCell ⟨g,p.length*4+1,none⟩ (.int .i64 r'.nx)).setCell ⟨g,p.length*4+2,none⟩ (.slice r'.ra r'.rs.length r'.rc)).setCell ⟨g,p.length*4+3,none⟩ (.slice r'.ha r'.hs.length r'.hc)) B s.ha s.hs:=fun s m=>m.kept ht (fun k hk e=>by subst e;exact rmk.ne_type (by decide) hg (rmk.mine_type m hk))
 refine⟨own_put r' h.own,h.bg,fun s hs=>?_,fun s hs=>?_,?_⟩
 ·rcases mem_mid hs with rfl | hs
  ·exact ka _ hA
  ·exact ka s (h.ea s (in_mid hs))
 ·rcases mem_mid hs with rfl | hs
  ·exact kb _ hB
  ·exact kb s (h.eb s (in_mid hs))
 ·have hpw:=h.pw
  rw [List.pairwise_append,List.pairwise_cons] at hpw ⊢
  have lo:∀ s:E,(s∈p ∨ s∈q)->(∀ k,bA s k->k<X.heap.size)/\∀ k,bB s k->k<X.heap.size:=fun s hs=>⟨fun k hk=>((hX.ea s (in_mid hs)).blk_le hk).2,fun k hk=>((hX.eb s (in_mid hs)).blk_le hk).2⟩
  refine⟨hpw.1,⟨fun s hs=>⟨fun k h1 h2=>?_,fun k h1 h2=>?_⟩,hpw.2.1.2⟩,fun s hs y hy=>?_⟩
  ·have:=(lo s (.inr hs)).1 k h2;have:=hlo k (.inl h1);omega
  ·have:=(lo s (.inr hs)).2 k h2;have:=hlo k (.inr h1);omega
  ·rcases List.mem_cons.1 hy with rfl | hy
   ·exact⟨fun k h1 h2=>by have:=(lo s (.inl hs)).1 k h1;have:=hlo k (.inl h2);omega,fun k h1 h2=>by have:=(lo s (.inl hs)).2 k h1;have:=hlo k (.inr h2);omega⟩
   ·exact hpw.2.2 s hs y (List.mem_cons_of_mem _ hy)
end Go.Proofs.YteoojodkkjepeaaGreat.qu
namespace Go.Proofs.YteoojodkkjepeaaGreat.hp
variable {α:Type} {lt:α->α->Bool} {l:List α} {i j n:Nat} {a b:α}
structure Ord (lt:α->α->Bool):Prop where
 irr:∀ a,lt a a=false
 tr:∀ {a b c},lt b a=false->lt c b=false->lt c a=false
 asy:∀ {a b},lt a b=true->lt b a=false
def P (i:Nat):Nat:=(i - 1) / 2
theorem P_lt (h:0<i):P i<i:=by unfold P;omega
def Le (lt:α->α->Bool)(l:List α)(i j:Nat):Prop:=∀ a b,l[i]?=some a->l[j]?=some b->lt b a=false
def Heap (lt:α->α->Bool)(l:List α)(n:Nat):Prop:=∀ i,0<i->i<n->Le lt l (P i) i
def DnI (lt:α->α->Bool)(l:List α)(i n:Nat):Prop:=(∀ c,0<c->c<n->P c≠i->Le lt l (P c) c)/\(0<i->∀ c,0<c->c<n->P c=i->Le lt l (P i) c)
def sw (l:List α)(i j:Nat):List α:=match l[i]?,l[j]? with
 | some a,some b=>(l.set i b).set j a
 | _,_=>l
theorem sw_eq (hi:l[i]?=some a)(hj:l[j]?=some b):sw l i j=(l.set i b).set j a:=by simp only [sw,hi,hj]
theorem sw_len:(sw l i j).length=l.length:=by unfold sw;split <;> simp
theorem sw_at (hi:l[i]?=some a)(hj:l[j]?=some b)(k:Nat):(sw l i j)[k]?=if k=j then some a else if k=i then some b else l[k]?:=by
 have hil:=(List.getElem?_eq_some_iff.1 hi).1
 have hjl:=(List.getElem?_eq_some_iff.1 hj).1
 rw [sw_eq hi hj,List.getElem?_set]
 by_cases h1:j=k
 ·subst h1
  simp [hjl]
 ·rw [if_neg h1,if_neg (Ne.symm h1),List.getElem?_set]
  by_cases h2:i=k
  ·subst h2
   simp [hil]
  ·rw [if_neg h2,if_neg (Ne.symm h2)]
theorem sw_first (hi:l[i]?=some a)(hj:l[j]?=some b):(sw l i j)[i]?=some b:=by
 rw [sw_at hi hj]
 by_cases h:i=j
 ·subst h;rw [if_pos rfl,<- hi,hj]
 ·rw [if_neg h,if_pos rfl]
theorem sw_last (hi:l[i]?=some a)(hj:l[j]?=some b):(sw l i j)[j]?=some a:=by rw [sw_at hi hj,if_pos rfl]
theorem sw_else (hi:l[i]?=some a)(hj:l[j]?=some b){k:Nat}(h1:k≠i)(h2:k≠j):(sw l i j)[k]?=l[k]?:=by rw [sw_at hi hj,if_neg h2,if_neg h1]
theorem sw_perm (hi:l[i]?=some a)(hj:l[j]?=some b):(sw l i j).Perm l:=by
 obtain⟨hil,rfl⟩:=List.getElem?_eq_some_iff.1 hi
 obtain⟨hjl,rfl⟩:=List.getElem?_eq_some_iff.1 hj
 rw [sw_eq hi hj]
 have h:=Array.swap_perm (xs:=l.toArray) (i:=i) (j:=j) (by simpa using hil) (by simpa using hjl)
 have h2:=Array.perm_iff_toList_perm.1 h
 simpa [Array.swap] using h2
theorem down_step (O:Ord lt)(hi:l[i]?=some a)(hj:l[j]?=some b)(hj0:0<j)(hjn:j<n)(hpj:P j=i)(D:DnI lt l i n)(h:lt b a=true)(hc:∀ c,0<c->c<n->P c=i->Le lt l j c):DnI lt (sw l i j) j n:=by
 have hij:i<j:=by have:=P_lt hj0;omega
 refine⟨fun c hc0 hcn hne=>?_,fun _ c hc0 hcn hpc=>?_⟩
 ·have hpc:=P_lt hc0
  intro x y hx hy
  by_cases e:P c=i
  ·rw [e,sw_first hi hj] at hx
   cases hx
   by_cases e2:c=j
   ·subst e2
    rw [sw_last hi hj] at hy
    cases hy
    exact O.asy h
   ·rw [sw_else hi hj (by omega) e2] at hy
    exact hc c hc0 hcn e _ _ hj hy
  ·have ecj:c≠j:=fun e2=>e (by rw [e2];exact hpj)
   by_cases e2:c=i
   ·subst e2
    rw [sw_first hi hj] at hy
    cases hy
    rw [sw_else hi hj (by omega) (by omega)] at hx
    exact D.2 hc0 j hj0 hjn hpj _ _ hx hj
   ·rw [sw_else hi hj e2 ecj] at hy
    rw [sw_else hi hj e hne] at hx
    exact D.1 c hc0 hcn e _ _ hx hy
 ·have hpc2:=P_lt hc0
  intro x y hx hy
  rw [hpj,sw_first hi hj] at hx
  cases hx
  rw [sw_else hi hj (by omega) (by omega)] at hy
  exact D.1 c hc0 hcn (by omega) _ _ (by rw [hpc];exact hj) hy
theorem down_end (D:DnI lt l i n)(h:∀ c,0<c->c<n->P c=i->Le lt l i c):Heap lt l n:=fun c hc0 hcn=>by
 by_cases e:P c=i
 ·rw [e];exact h c hc0 hcn e
 ·exact D.1 c hc0 hcn e
theorem none_child (h:¬ 2*i+1<n):∀ c,0<c->c<n->P c=i->Le lt l i c:=fun c h0 h1 h2=>by unfold P at h2;omega
theorem child (hc0:0<j)(h:P j=i):j=2*i+1 ∨ j=2*i+2:=by unfold P at h;omega
theorem P_one (i:Nat):P (2*i+1)=i:=by unfold P;omega
theorem P_two (i:Nat):P (2*i+2)=i:=by unfold P;omega
theorem least_two (O:Ord lt){x y:α}(h1:l[2*i+1]?=some x)(h2:l[2*i+2]?=some y)(h:lt y x=true):∀ c,0<c->c<n->P c=i->Le lt l (2*i+2) c:=fun c hc0 hcn hpc p q hp hq=>by
 rw [h2] at hp;cases hp
 rcases child hc0 hpc with rfl | rfl
 ·rw [h1] at hq;cases hq;exact O.asy h
 ·rw [h2] at hq;cases hq;exact O.irr _
theorem least_one (O:Ord lt){x:α}(h1:l[2*i+1]?=some x)(h:2*i+2<n->∀ y,l[2*i+2]?=some y->lt y x=false):∀ c,0<c->c<n->P c=i->Le lt l (2*i+1) c:=fun c hc0 hcn hpc p q hp hq=>by
 rw [h1] at hp;cases hp
 rcases child hc0 hpc with rfl | rfl
 ·rw [h1] at hq;cases hq;exact O.irr _
 ·exact h hcn q hq
theorem least_end (O:Ord lt)(hj:l[j]?=some b)(hi:l[i]?=some a)(h:lt b a=false)(hc:∀ c,0<c->c<n->P c=i->Le lt l j c):∀ c,0<c->c<n->P c=i->Le lt l i c:=fun c hc0 hcn hpc p q hp hq=>by
 rw [hi] at hp;cases hp
 exact O.tr h (hc c hc0 hcn hpc _ _ hj hq)
theorem down_sw {m:Nat}(h0:l[0]?=some a)(hm:l[m]?=some b)(H:Heap lt l (m+1)):DnI lt (sw l 0 m) 0 m:=by
 refine⟨fun c hc0 hcn hne=>?_,fun h=>absurd h (by omega)⟩
 have hp:=P_lt hc0
 intro x y hx hy
 rw [sw_else h0 hm hne (by omega)] at hx
 rw [sw_else h0 hm (by omega) (by omega)] at hy
 exact H c hc0 (by omega) _ _ hx hy
theorem Heap.head (O:Ord lt)(H:Heap lt l n)(hn:n <= l.length):∀ i,i<n->Le lt l 0 i:=by
 intro i
 induction i using Nat.strongRecOn with
 | ind i ih =>
  intro hin
  by_cases h0:i=0
  ·subst h0
   intro x y hx hy
   rw [hx] at hy;cases hy
   exact O.irr _
  ·have hp:=P_lt (i:=i) (by omega)
   intro x y hx hy
   have hz:l[P i]?=some (l[P i]'(by omega)):=List.getElem?_eq_getElem _
   exact O.tr (ih (P i) hp (by omega) _ _ hx hz) (H i (by omega) hin _ _ hz hy)
theorem Heap.take {m:Nat}(H:Heap lt l n)(hm:m <= n):Heap lt (l.take m) m:=fun i h0 h1 x y hx hy=>by
 have hp:=P_lt h0
 rw [List.getElem?_take_of_lt (by omega)] at hx
 rw [List.getElem?_take_of_lt h1] at hy
 exact H i h0 (by omega) _ _ hx hy
end Go.Proofs.YteoojodkkjepeaaGreat.hp
namespace Go.Proofs.YteoojodkkjepeaaGreat.qit
open ChangeShapes WideShapes ChangeAt RowKit fl
structure Qx where
 nm:ByteArray
 nx:Int
 ha:Option Addr
 hn:Nat
 hc:Nat
def Fits (_:World)(_:Nat)(_:flM.Ms):Prop:=True
theorem Fits.below {w w':World}{B:Nat}{r:flM.Ms}(h:Fits w B r)(hb:Below B w w'):Fits w' B r:=trivial
def less (a b:flM.Ms):Bool:=decide (a.q<b.q)
theorem ord:hp.Ord less:=by
 refine⟨fun a=>by simp [less],fun {a b c} h1 h2=>?_,fun {a b} h=>?_⟩
 ·simp only [less,decide_eq_false_iff_not] at *;omega
 ·simp only [less,decide_eq_false_iff_not,decide_eq_true_eq] at *;omega
structure At (w:World)(g i:Nat)(r:flM.Ms):Prop where
 lt:g<w.heap.size
 c0:w.cell? ⟨g,i*5,none⟩=some (.int .i64 r.q)
 c1:w.cell? ⟨g,i*5+1,none⟩=some (.string r.x)
 c2:w.cell? ⟨g,i*5+2,none⟩=some (.string r.k)
 c3:w.cell? ⟨g,i*5+3,none⟩=some (.string r.b)
 c4:w.cell? ⟨g,i*5+4,none⟩=some (.bool r.a)
theorem bdrewN {B:Nat}{a w:World}(h:Below B a w)(n:Nat):Below B a (w.drewN n):=⟨h.os,h.tape,h.output,h.size,h.block⟩
theorem less_run (g n cap i j:Nat)(A B:flM.Ms)(w:World)(hi:i<n)(hj:j<n)(hA:At w g i A)(hB:At w g j B)(fA:Fits w w.heap.size A)(fB:Fits w w.heap.size B) :
  Calls Tryz.prog 235 #[.slice (some ⟨g,0,none⟩) n cap,.int .i64 i,.int .i64 j] w fun r w'=>r=.returned (.bool (less A B))/\Below w.heap.size w w':=by
 have a0:=hA.c0
 have b0:=hB.c0
 have an:(i:Int)<(n:Int):=by omega
 have bn:(j:Int)<(n:Int):=by omega
 unfold less
 clear hA hB fA fB
 go_enter Tryz.func235,Tryz.ntmps235
 go_wp2
 go_quiet (fail)
 go_wp2
 go_ret
 exact⟨rfl,by first | exact Below.refl _ _ | exact bdrewN (Below.refl _ _) _⟩
end Go.Proofs.YteoojodkkjepeaaGreat.qit
namespace Go.Proofs.YteoojodkkjepeaaGreat.qsw
open ChangeShapes WideShapes ChangeAt RowKit fl qit
def lay (w:World)(g i:Nat)(r:flM.Ms):World:=((((w.setCell ⟨g,i*5,none⟩ (.int .i64 r.q)).setCell ⟨g,i*5+1,none⟩ (.string r.x)).setCell ⟨g,i*5+2,none⟩ (.string r.k)).setCell ⟨g,i*5+3,none⟩ (.string r.b)).setCell ⟨g,i*5+4,none⟩ (.bool r.a)
def S1 (X:World)(g i:Nat)(B:flM.Ms):World:=lay X g i B
def S2 (X:World)(g i j:Nat)(A B:flM.Ms):World:=lay (S1 X g i B) g j A
def ST (w:World)(g i j:Nat)(A B:flM.Ms)(x y:Bool):World:=if y=true then S2 w g i j A B else if x=true then S1 w g i B else w
def C (w:World)(g i j:Nat)(A B:flM.Ms)(L:Nat->Bool)(W:World):Prop:=(L 13=true->L 7=true/\L 11=true)/\(L 15=true->L 13=true)/\W=ST w g i j A B (L 13) (L 15)
theorem more_on (L:Nat->Bool)(i:Nat):dn.more L i i=true:=by unfold dn.more;rw [if_pos rfl]
theorem more_off (L:Nat->Bool){i j:Nat}(h:j≠i):dn.more L i j=L j:=by unfold dn.more;rw [if_neg h]
section
variable {w:World} {g i j:Nat} {A B:flM.Ms} {fin:Act} {o:Oper}
theorem qt {k:Nat}(hk:k≠7/\k≠11/\k≠13/\k≠15)(v:Value)(hd:∀ d,o.dst=some d->fin.tmps[d]?=some v)(hrun:∀ (W:World),True->(execOp fin.eval o).run Tryz.prog W=.ok (.value v) W):dn.Step Tryz.prog fin (C w g i j A B) k o:=by
 intro L W hdp h0 hC
 refine⟨v,hd,?_⟩
 rw [hrun W trivial]
 obtain⟨k7,k11,k13,k15⟩:=hk
 refine⟨rfl,?_⟩
 unfold C
 rw [more_off L k13.symm,more_off L k15.symm,more_off L k7.symm,more_off L k11.symm]
 exact hC
theorem ld7 (v:Value)(hd:∀ d,o.dst=some d->fin.tmps[d]?=some v)(hrun:(execOp fin.eval o).run Tryz.prog w=.ok (.value v) w):dn.Step Tryz.prog fin (C w g i j A B) 7 o:=by
 intro L W hdp h0 hC
 refine⟨v,hd,?_⟩
 obtain⟨c1,c2,c3⟩:=hC
 have n13:L 13=false:=by
  cases h:L 13 with
  | false=>rfl
  | true=>have:=(c1 h).1;rw [h0] at this;cases this
 have n15:L 15=false:=by
  cases h:L 15 with
  | false=>rfl
  | true=>have:=c2 h;rw [n13] at this;cases this
 rw [n13,n15] at c3
 have c3:W=w:=c3
 subst c3
 rw [hrun]
 refine⟨rfl,?_⟩
 unfold C
 rw [more_off L (show 13≠7 by decide),more_off L (show 15≠7 by decide),n13,n15]
 exact⟨fun h=>(by cases h),fun h=>(by cases h),rfl⟩
theorem ld11 (v:Value)(hd:∀ d,o.dst=some d->fin.tmps[d]?=some v)(hrun:(execOp fin.eval o).run Tryz.prog w=.ok (.value v) w):dn.Step Tryz.prog fin (C w g i j A B) 11 o:=by
 intro L W hdp h0 hC
 refine⟨v,hd,?_⟩
 obtain⟨c1,c2,c3⟩:=hC
 have n13:L 13=false:=by
  cases h:L 13 with
  | false=>rfl
  | true=>have:=(c1 h).2;rw [h0] at this;cases this
 have n15:L 15=false:=by
  cases h:L 15 with
  | false=>rfl
  | true=>have:=c2 h;rw [n13] at this;cases this
 rw [n13,n15] at c3
 have c3:W=w:=c3
 subst c3
 rw [hrun]
 refine⟨rfl,?_⟩
 unfold C
 rw [more_off L (show 13≠11 by decide),more_off L (show 15≠11 by decide),n13,n15]
 exact⟨fun h=>(by cases h),fun h=>(by cases h),rfl⟩
theorem st13 (hdst:o.dst=none)(h7:∃ e∈o.after,Region.binds .any e=true/\e.on=7)(h11:∃ e∈o.after,Region.binds .any e=true/\e.on=11)(hrun:(execOp fin.eval o).run Tryz.prog w=.ok .skip (S1 w g i B)):dn.Step Tryz.prog fin (C w g i j A B) 13 o:=by
 intro L W hdp h0 hC
 refine⟨undef,(fun d hd=>by rw [hdst] at hd;cases hd),?_⟩
 obtain⟨e7,m7,b7,o7⟩:=h7
 obtain⟨e11,m11,b11,o11⟩:=h11
 have l7:=hdp e7 m7 b7
 have l11:=hdp e11 m11 b11
 rw [o7] at l7
 rw [o11] at l11
 obtain⟨c1,c2,c3⟩:=hC
 have n15:L 15=false:=by
  cases h:L 15 with
  | false=>rfl
  | true=>have:=c2 h;rw [h0] at this;cases this
 rw [h0,n15] at c3
 have c3:W=w:=c3
 subst c3
 rw [hrun]
 refine⟨rfl,?_⟩
 unfold C
 rw [more_on,more_off L (show 15≠13 by decide),more_off L (show 7≠13 by decide),more_off L (show 11≠13 by decide),n15]
 exact⟨fun _=>⟨l7,l11⟩,fun h=>(by cases h),rfl⟩
theorem st15 (hdst:o.dst=none)(h13:∃ e∈o.after,Region.binds .any e=true/\e.on=13)(hrun:(execOp fin.eval o).run Tryz.prog (S1 w g i B)=.ok .skip (S2 w g i j A B)):dn.Step Tryz.prog fin (C w g i j A B) 15 o:=by
 intro L W hdp h0 hC
 refine⟨undef,(fun d hd=>by rw [hdst] at hd;cases hd),?_⟩
 obtain⟨e13,m13,b13,o13⟩:=h13
 have l13:=hdp e13 m13 b13
 rw [o13] at l13
 obtain⟨c1,c2,c3⟩:=hC
 rw [h0,l13] at c3
 have c3:W=S1 w g i B:=c3
 subst c3
 rw [hrun]
 refine⟨rfl,?_⟩
 unfold C
 rw [more_on,more_off L (show 13≠15 by decide),more_off L (show 7≠15 by decide),more_off L (show 11≠15 by decide),l13]
 exact⟨fun _=>c1 l13,fun _=>rfl,rfl⟩
end
def ws (g n cap i j:Nat)(A B:flM.Ms):List (Nat × Value) :=
 [(6,.slice (some ⟨g,0,none⟩) n cap),(7,.int .i64 i),(8,.slice (some ⟨g,0,none⟩) n cap),(9,.int .i64 j),(10,.slice (some ⟨g,0,none⟩) n cap),(11,.int .i64 j),(12,.pointer (some ⟨g,j*5,none⟩)),(13,.agg #[.int .i64 B.q,.string B.x,.string B.k,.string B.b,.bool B.a]),
   (14,.slice (some ⟨g,0,none⟩) n cap),(15,.int .i64 i),(16,.pointer (some ⟨g,i*5,none⟩)),(17,.agg #[.int .i64 A.q,.string A.x,.string A.k,.string A.b,.bool A.a]),(18,.pointer (some ⟨g,i*5,none⟩)),(19,.pointer (some ⟨g,j*5,none⟩))]
theorem swap_run (g n cap i j:Nat)(cur:Array Value)(A B:flM.Ms)(w:World)(hi:i<n)(hj:j<n)(hn:n*5 <= cur.size)(hb:w.heap[g]?=some (.cells cur 48 (0,0)))(hA:qit.At w g i A)(hB:qit.At w g j B) :
  Calls Tryz.prog 238 #[.slice (some ⟨g,0,none⟩) n cap,.int .i64 i,.int .i64 j] w fun r w'=>r=.returned (.tuple #[])/\w'=S2 w.drew g i j A B:=by
 obtain⟨X,hX⟩:∃ X,w.drew=X:=⟨_,rfl⟩
 have a0:X.cell? ⟨g,i*5,none⟩=some (.int .i64 A.q):=by rw [<- hX];exact hA.c0
 have a1:X.cell? ⟨g,i*5+1,none⟩=some (.string A.x):=by rw [<- hX];exact hA.c1
 have a2:X.cell? ⟨g,i*5+2,none⟩=some (.string A.k):=by rw [<- hX];exact hA.c2
 have a3:X.cell? ⟨g,i*5+3,none⟩=some (.string A.b):=by rw [<- hX];exact hA.c3
 have a4:X.cell? ⟨g,i*5+4,none⟩=some (.bool A.a):=by rw [<- hX];exact hA.c4
 have b0:X.cell? ⟨g,j*5,none⟩=some (.int .i64 B.q):=by rw [<- hX];exact hB.c0
 have b1:X.cell? ⟨g,j*5+1,none⟩=some (.string B.x):=by rw [<- hX];exact hB.c1
 have b2:X.cell? ⟨g,j*5+2,none⟩=some (.string B.k):=by rw [<- hX];exact hB.c2
 have b3:X.cell? ⟨g,j*5+3,none⟩=some (.string B.b):=by rw [<- hX];exact hB.c3
 have b4:X.cell? ⟨g,j*5+4,none⟩=some (.bool B.a):=by rw [<- hX];exact hB.c4
 have hbd:X.heap[g]?=some (.cells cur 48 (0,0)):=by rw [<- hX];exact hb
 have af:∀ k,X.frozen? ⟨g,k,none⟩=false:=fun k=>bfree hbd k
 obtain⟨Y,hY⟩:∃ Y,S1 X g i B=Y:=⟨_,rfl⟩
 have hb1:(S1 X g i B).heap[g]?=some (.cells _ 48 (0,0)):=bset (bset (bset (bset (bset hbd _ _) _ _) _ _) _ _) _ _
 obtain⟨u0,d0⟩:∃ u,(S1 X g i B).cell? ⟨g,j*5,none⟩=some u:=⟨_,bcell hb1 (Array.getElem?_eq_getElem (by simp;omega))⟩
 obtain⟨u1,d1⟩:∃ u,(S1 X g i B).cell? ⟨g,j*5+1,none⟩=some u:=⟨_,bcell hb1 (Array.getElem?_eq_getElem (by simp;omega))⟩
 obtain⟨u2,d2⟩:∃ u,(S1 X g i B).cell? ⟨g,j*5+2,none⟩=some u:=⟨_,bcell hb1 (Array.getElem?_eq_getElem (by simp;omega))⟩
 obtain⟨u3,d3⟩:∃ u,(S1 X g i B).cell? ⟨g,j*5+3,none⟩=some u:=⟨_,bcell hb1 (Array.getElem?_eq_getElem (by simp;omega))⟩
 obtain⟨u4,d4⟩:∃ u,(S1 X g i B).cell? ⟨g,j*5+4,none⟩=some u:=⟨_,bcell hb1 (Array.getElem?_eq_getElem (by simp;omega))⟩
 have df:∀ k,(S1 X g i B).frozen? ⟨g,k,none⟩=false:=fun k=>bfree hb1 k
 rw [hY] at d0 d1 d2 d3 d4 df
 have hS2:S2 X g i j A B=lay Y g j A:=by rw [<- hY];rfl
 have an:(i:Int)<(n:Int):=by omega
 have bn:(j:Int)<(n:Int):=by omega
 clear hA hB hb hbd hb1 hn
 rw [hX]
 go_enter Tryz.func238,Tryz.ntmps238
 refine dk.region_sets (ws g n cap i j A B) [6,7,8,9,10,11,12,13,14,15,16,17,18,19] (C X g i j A B) (by kernel_rfl) (by kernel_rfl) rfl (by kernel_rfl) ⟨fun h=>(by cases h),fun h=>(by cases h),hX⟩ ?each ?fin
 case each =>
  refine⟨qt (by decide) (.slice (some ⟨g,0,none⟩) n cap) (by rintro _ ⟨⟩;exact dk.sets_on _ (by simp) _ rfl) (fun W h=>by simp [execOp,go_sem,Act.eval,dk.sets_get,ws,List.lookup]),?_⟩
  refine⟨qt (by decide) (.int .i64 i) (by rintro _ ⟨⟩;exact dk.sets_on _ (by simp) _ rfl) (fun W h=>by simp [execOp,go_sem,Act.eval,dk.sets_get,ws,List.lookup]),?_⟩
  refine⟨qt (by decide) (.slice (some ⟨g,0,none⟩) n cap) (by rintro _ ⟨⟩;exact dk.sets_on _ (by simp) _ rfl) (fun W h=>by simp [execOp,go_sem,Act.eval,dk.sets_get,ws,List.lookup]),?_⟩
  refine⟨qt (by decide) (.int .i64 j) (by rintro _ ⟨⟩;exact dk.sets_on _ (by simp) _ rfl) (fun W h=>by simp [execOp,go_sem,Act.eval,dk.sets_get,ws,List.lookup]),?_⟩
  refine⟨qt (by decide) (.slice (some ⟨g,0,none⟩) n cap) (by rintro _ ⟨⟩;exact dk.sets_on _ (by simp) _ rfl) (fun W h=>by simp [execOp,go_sem,Act.eval,dk.sets_get,ws,List.lookup]),?_⟩
  refine⟨qt (by decide) (.int .i64 j) (by rintro _ ⟨⟩;exact dk.sets_on _ (by simp) _ rfl) (fun W h=>by simp [execOp,go_sem,Act.eval,dk.sets_get,ws,List.lookup]),?_⟩
  refine⟨qt (by decide) (.pointer (some ⟨g,j*5,none⟩)) (by rintro _ ⟨⟩;exact dk.sets_on _ (by simp) _ rfl) (fun W h=>by simp [execOp,go_sem,Act.eval,dk.sets_get,ws,List.lookup,bn]),?_⟩
  refine⟨ld7 (.agg #[.int .i64 B.q,.string B.x,.string B.k,.string B.b,.bool B.a]) (by rintro _ ⟨⟩;exact dk.sets_on _ (by simp) _ rfl) (by simp [execOp,go_sem,Act.eval,dk.sets_get,ws,List.lookup,b0,b1,b2,b3,b4]),?_⟩
  refine⟨qt (by decide) (.slice (some ⟨g,0,none⟩) n cap) (by rintro _ ⟨⟩;exact dk.sets_on _ (by simp) _ rfl) (fun W h=>by simp [execOp,go_sem,Act.eval,dk.sets_get,ws,List.lookup]),?_⟩
  refine⟨qt (by decide) (.int .i64 i) (by rintro _ ⟨⟩;exact dk.sets_on _ (by simp) _ rfl) (fun W h=>by simp [execOp,go_sem,Act.eval,dk.sets_get,ws,List.lookup]),?_⟩
  refine⟨qt (by decide) (.pointer (some ⟨g,i*5,none⟩)) (by rintro _ ⟨⟩;exact dk.sets_on _ (by simp) _ rfl) (fun W h=>by simp [execOp,go_sem,Act.eval,dk.sets_get,ws,List.lookup,an]),?_⟩
  refine⟨ld11 (.agg #[.int .i64 A.q,.string A.x,.string A.k,.string A.b,.bool A.a]) (by rintro _ ⟨⟩;exact dk.sets_on _ (by simp) _ rfl) (by simp [execOp,go_sem,Act.eval,dk.sets_get,ws,List.lookup,a0,a1,a2,a3,a4]),?_⟩
  refine⟨qt (by decide) (.pointer (some ⟨g,i*5,none⟩)) (by rintro _ ⟨⟩;exact dk.sets_on _ (by simp) _ rfl) (fun W h=>by simp [execOp,go_sem,Act.eval,dk.sets_get,ws,List.lookup,an]),?_⟩
  refine⟨st13 rfl ⟨⟨7,.data⟩,by simp,rfl,rfl⟩ ⟨⟨11,.phase⟩,by simp,rfl,rfl⟩ (by simp [execOp,go_sem,Act.eval,dk.sets_get,ws,List.lookup,a0,a1,a2,a3,a4,af,S1,lay]),?_⟩
  refine⟨qt (by decide) (.pointer (some ⟨g,j*5,none⟩)) (by rintro _ ⟨⟩;exact dk.sets_on _ (by simp) _ rfl) (fun W h=>by simp [execOp,go_sem,Act.eval,dk.sets_get,ws,List.lookup,bn]),?_⟩
  exact⟨st15 rfl ⟨⟨13,.chain⟩,by simp,rfl,rfl⟩ (by rw [hS2,hY];simp [execOp,go_sem,Act.eval,dk.sets_get,ws,List.lookup,d0,d1,d2,d3,d4,df,lay]),trivial⟩
 case fin =>
  intro L W hL hC
  obtain⟨_,_,c3⟩:=hC
  rw [hL 13 (by decide),hL 15 (by decide)] at c3
  have c3:W=S2 X g i j A B:=c3
  subst c3
  clear hL
  go_end0
  exact⟨rfl,rfl⟩
end Go.Proofs.YteoojodkkjepeaaGreat.qsw
namespace Go.Proofs.YteoojodkkjepeaaGreat.qst
open ChangeShapes WideShapes ChangeAt RowKit fl qit
def HR (w:World)(g cap:Nat)(L:List flM.Ms):Prop :=
 ∃ cur,w.heap[g]?=some (.cells cur 48 (0,0))/\cur.size=cap*5/\L.length <= cap/\cap <= maxLen/\∀ (i:Nat) (r:flM.Ms),L[i]?=some r->∀ (j:Nat) (v:Value),(flM.c r)[j]?=some v->cur[i*5+j]?=some v
structure SG (W0:World)(hb:Nat)(Q:qit.Qx)(g cap:Nat)(L:List flM.Ms)(w:World):Prop where
 bel:Below W0.heap.size W0 w
 hbB:W0.heap.size <= hb
 gB:W0.heap.size <= g
 ne:g≠hb
 box:w.heap[hb]?=some (.cells #[.slice (some ⟨g,0,none⟩) L.length cap,.string Q.nm,.int .i64 Q.nx,.slice Q.ha Q.hn Q.hc] 174 (0,0))
 row:HR w g cap L
 fits:∀ r∈L,Fits W0 W0.heap.size r
structure Kp (g:Nat)(w w':World):Prop where
 os:w'.os=w.os
 tape:w'.tape=w.tape
 output:w'.output=w.output
 size:w.heap.size <= w'.heap.size
 block:∀ k,k<w.heap.size->k≠g->w'.heap[k]?=w.heap[k]?
theorem Kp.refl (g:Nat)(w:World):Kp g w w:=⟨rfl,rfl,rfl,Nat.le_refl _,fun _ _ _=>rfl⟩
theorem Kp.trans {g:Nat}{a b c:World}(h1:Kp g a b)(h2:Kp g b c):Kp g a c :=
 ⟨h2.os.trans h1.os,h2.tape.trans h1.tape,h2.output.trans h1.output,Nat.le_trans h1.size h2.size,fun k hk hne=>(h2.block k (Nat.lt_of_lt_of_le hk h1.size) hne).trans (h1.block k hk hne)⟩
theorem Kp.of {g:Nat}{a b:World}(h:Below a.heap.size a b):Kp g a b:=⟨h.os,h.tape,h.output,h.size,fun k hk _=>h.block k hk⟩
theorem meth_val (n:Nat)(nm:String)(f:FuncId)(hb:Nat)(v:Value)(w:World)(hf:(Tryz.prog.info? 168).map (fun i=>(i.methods.find? (·.name == nm)).map (fun m=>(m.path.toList,m.func)))=some (some ([⟨174,0,true⟩],some (f,false))))(h:w.cell? ⟨hb,0,none⟩=some v) :
  (method (n+1) 168 (.pointer (some ⟨hb,0,none⟩)) nm).run Tryz.prog w=.ok (f,v) w:=by
 obtain⟨I,hI,h1⟩:=Option.map_eq_some_iff.1 hf
 obtain⟨m,hm,h2⟩:=Option.map_eq_some_iff.1 h1
 simp only [Prod.mk.injEq] at h2
 obtain⟨p1,p2⟩:=h2
 obtain⟨i0,hi0,hz0⟩:=Option.map_eq_some_iff.1 (show (Tryz.prog.info? 172).map (·.size)=some 1 by kernel_rfl)
 simp [method,typeInfo,hI,hm,p1,p2,follow,underlying,Tryz.underlying174,Tryz.underlying172,Place.get,asAddr,fieldPlace,receiverAt,sizeOf,Result.andThen,go_sem,Addr.add,hi0,hz0,h]
theorem meth_less (hb:Nat)(v:Value)(w:World)(h:w.cell? ⟨hb,0,none⟩=some v):(method 381 168 (.pointer (some ⟨hb,0,none⟩)) "Less").run Tryz.prog w=.ok (235,v) w:=meth_val 380 "Less" _ hb v w (by kernel_rfl) h
theorem meth_swap (hb:Nat)(v:Value)(w:World)(h:w.cell? ⟨hb,0,none⟩=some v):(method 381 168 (.pointer (some ⟨hb,0,none⟩)) "Swap").run Tryz.prog w=.ok (238,v) w:=meth_val 380 "Swap" _ hb v w (by kernel_rfl) h
theorem meth_len (hb:Nat)(v:Value)(w:World)(h:w.cell? ⟨hb,0,none⟩=some v):(method 381 168 (.pointer (some ⟨hb,0,none⟩)) "Len").run Tryz.prog w=.ok (182,v) w:=meth_val 380 "Len" _ hb v w (by kernel_rfl) h
theorem meth_pop (hb:Nat)(w:World):(method 381 168 (.pointer (some ⟨hb,0,none⟩)) "Pop").run Tryz.prog w=.ok (236,.pointer (some ⟨hb,0,none⟩)) w:=by kernel_rfl
theorem HR.at {w:World}{g cap i:Nat}{L:List flM.Ms}{r:flM.Ms}(h:HR w g cap L)(hi:L[i]?=some r):qit.At w g i r:=by
 obtain⟨cur,h1,_,_,_,h5⟩:=h
 exact⟨(Array.getElem?_eq_some_iff.1 h1).1,by have:=bcell (j:=i*5) h1 (h5 i r hi 0 _ rfl);exact this,bcell (j:=i*5+1) h1 (h5 i r hi 1 _ rfl),bcell (j:=i*5+2) h1 (h5 i r hi 2 _ rfl),bcell (j:=i*5+3) h1 (h5 i r hi 3 _ rfl),bcell (j:=i*5+4) h1 (h5 i r hi 4 _ rfl)⟩
theorem HR.below {w w':World}{g cap:Nat}{L:List flM.Ms}(h:HR w g cap L)(hb:w'.heap[g]?=w.heap[g]?):HR w' g cap L:=by
 obtain⟨cur,h1,h2⟩:=h
 exact⟨cur,hb.trans h1,h2⟩
theorem SG.on {W0:World}{Q:qit.Qx}{hb g cap:Nat}{L:List flM.Ms}{w w':World}(h:SG W0 hb Q g cap L w)(hb':Below w.heap.size w w'):SG W0 hb Q g cap L w':=by
 obtain⟨cur,h1,h2⟩:=h.row
 exact⟨h.bel.trans (hb'.mono h.bel.size),h.hbB,h.gB,h.ne,(hb'.block hb (Array.getElem?_eq_some_iff.1 h.box).1).trans h.box,⟨cur,(hb'.block g (Array.getElem?_eq_some_iff.1 h1).1).trans h1,h2⟩,h.fits⟩
theorem SG.fit {W0:World}{Q:qit.Qx}{hb g cap:Nat}{L:List flM.Ms}{w:World}(h:SG W0 hb Q g cap L w){i:Nat}{r:flM.Ms}(hi:L[i]?=some r):Fits w w.heap.size r:=trivial
theorem lay_row (w:World)(g i:Nat)(r:flM.Ms):qsw.lay w g i r=fl.setRow w g (i*5) (flM.c r):=rfl
theorem swap_heap {X:World}{g i j:Nat}{A B:flM.Ms}{cur:Array Value}(hb:X.heap[g]?=some (.cells cur 48 (0,0))):(qsw.S2 X g i j A B).heap[g]?=some (.cells (fl.setArr (fl.setArr cur (i*5) (flM.c B)) (j*5) (flM.c A)) 48 (0,0)):=by
 unfold qsw.S2 qsw.S1
 rw [lay_row,lay_row]
 exact fl.setRow_heap _ _ _ _ (fl.setRow_heap _ _ _ _ hb)
theorem off_heap {X:World}{g i j k:Nat}{A B:flM.Ms}(h:k≠g):(qsw.S2 X g i j A B).heap[k]?=X.heap[k]?:=by
 unfold qsw.S2 qsw.S1 qsw.lay
 rw [Below.heap_setCell _ _ _ k h,Below.heap_setCell _ _ _ k h,Below.heap_setCell _ _ _ k h,Below.heap_setCell _ _ _ k h,Below.heap_setCell _ _ _ k h,Below.heap_setCell _ _ _ k h,Below.heap_setCell _ _ _ k h,Below.heap_setCell _ _ _ k h,Below.heap_setCell _ _ _ k h,Below.heap_setCell _ _ _ k h]
theorem setArr_out (vs:List Value):∀ (cur:Array Value) (o p:Nat),(p<o ∨ o+vs.length <= p)->(fl.setArr cur o vs)[p]?=cur[p]?:=by
 induction vs with
 | nil=>intro cur o p _;rfl
 | cons u r ih =>
  intro cur o p h
  simp at h
  rw [fl.setArr,ih _ _ _ (by omega),Array.getElem?_setIfInBounds_ne (by omega)]
theorem SG.swap {W0:World}{Q:qit.Qx}{hb g cap i j:Nat}{L:List flM.Ms}{w:World}{A B:flM.Ms}(h:SG W0 hb Q g cap L w)(hi:L[i]?=some A)(hj:L[j]?=some B):SG W0 hb Q g cap (hp.sw L i j) (qsw.S2 w.drew g i j A B)/\Kp g w (qsw.S2 w.drew g i j A B):=by
 obtain⟨cur,h1,h2,h3,h4,h5⟩:=h.row
 have hil:=(List.getElem?_eq_some_iff.1 hi).1
 have hjl:=(List.getElem?_eq_some_iff.1 hj).1
 have h1d:w.drew.heap[g]?=some (.cells cur 48 (0,0)):=h1
 have hk:Kp g w (qsw.S2 w.drew g i j A B):=by
  have h0:Below 0 w.drew (qsw.S2 w.drew g i j A B):=by
   unfold qsw.S2 qsw.S1
   rw [lay_row,lay_row]
   exact(fl.setRow_below _ _ _ (Nat.zero_le _)).trans (fl.setRow_below _ _ _ (Nat.zero_le _))
  refine⟨h0.os,h0.tape,h0.output,h0.size,fun k hk hne=>?_⟩
  exact off_heap hne
 have hgB:=h.gB
 have hsz:=h.bel.size
 have hbl:=(Array.getElem?_eq_some_iff.1 h.box).1
 refine⟨⟨⟨hk.os.trans h.bel.os,hk.tape.trans h.bel.tape,hk.output.trans h.bel.output,Nat.le_trans hsz hk.size,fun k hkk=>(hk.block k (by omega) (by omega)).trans (h.bel.block k hkk)⟩,h.hbB,h.gB,h.ne,?_,⟨_,swap_heap h1d,by rw [fl.setArr_size,fl.setArr_size];exact h2,by rw [hp.sw_len];exact h3,h4,?_⟩,fun r hr=>h.fits r ((hp.sw_perm hi hj).mem_iff.1 hr)⟩,hk⟩
 ·rw [hp.sw_len]
  exact(hk.block hb hbl (Ne.symm h.ne)).trans h.box
 ·intro k r hk' q v hv
  rw [hp.sw_at hi hj] at hk'
  have hq:q<5:=by have:=(List.getElem?_eq_some_iff.1 hv).1;rwa [flM.c_len] at this
  have hlc:∀ e,(flM.c e).length=5:=flM.c_len
  by_cases e1:k=j
  ·subst e1
   rw [if_pos rfl] at hk'
   cases hk'
   exact fl.setArr_on _ _ _ _ _ hv (by rw [fl.setArr_size,hlc];omega)
  ·rw [if_neg e1] at hk'
   rw [setArr_out _ _ _ _ (by rw [hlc];omega)]
   by_cases e2:k=i
   ·subst e2
    rw [if_pos rfl] at hk'
    cases hk'
    exact fl.setArr_on _ _ _ _ _ hv (by rw [hlc];omega)
   ·rw [if_neg e2] at hk'
    rw [setArr_out _ _ _ _ (by rw [hlc];omega)]
    exact h5 k r hk' q v hv
end Go.Proofs.YteoojodkkjepeaaGreat.qst
namespace Go.Proofs.YteoojodkkjepeaaGreat.qup
open ChangeShapes WideShapes ChangeAt RowKit fl qit qst
end Go.Proofs.YteoojodkkjepeaaGreat.qup
