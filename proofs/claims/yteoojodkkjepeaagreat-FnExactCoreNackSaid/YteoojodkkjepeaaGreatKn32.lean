/- QPushImpl, QDropPure, QTakeSpec. -/
import Derived.Test.YteoojodkkjepeaaGreatKn31
import Derived.Test.YteoojodkkjepeaaGreatKn23
import Derived.Test.YteoojodkkjepeaaGreatKn01
import Derived.Test.YteoojodkkjepeaaGreatKn20
import Derived.ArgAppend
import Derived.Lib.SliceRun
import Derived.Deep.QuietTactic
import Derived.BigQuiet
set_option maxRecDepth 100000
set_option maxHeartbeats 8000000
set_option linter.unusedVariables false
namespace Go.Proofs.YteoojodkkjepeaaGreat.qpi
open ChangeShapes WideShapes ChangeAt RowKit fl fo qit qst qpu qpo qop qcl qsp qps
theorem impl_okb (sn:ByteArray)(nx:Int)(es:List flM.Ms)(ms:List flH.Hd)(ra ha:Option Addr)(cg ch:Nat)(w:World)(F:Fit sn es ms)(hY:Row flM.c 5 w w.heap.size ra es)(hE:Row flH.c 7 w w.heap.size ha ms) :
  Calls Tryz.prog 46 #[.agg #[.string sn,.int .i64 nx,.slice ra es.length cg,.slice ha ms.length ch]] w fun e w'=>e=.returned (.bool (okB sn nx es ms))/\Below w.heap.size w w':=by
 refine(qki.impl_ok sn nx es ms ra ha cg ch w F.ns F.el F.ml F.eb F.mb hY hE).mono ?_
 rintro e w' ⟨⟨b,rfl,hb⟩,h⟩
 rw [okB_of hb]
 exact⟨rfl,h⟩
theorem owns_ownO {α:Type}{c:α->List Value}{n B g cap:Nat}{U:TypeId}{w:World}{l:List α}(hn:∀ e,(c e).length=n)(h:w.ownsRow B U n (.slice (some ⟨g,0,none⟩) l.length cap) l.length (l.flatMap c)):OwnO c n U w g 0 l l.length:=by
 obtain⟨_,⟨h1,_⟩ | ⟨g',cap',cur,h1,h2,h3,h4,h5,h6,h7⟩⟩:=h
 ·cases h1
 cases h1
 refine⟨cur,h3,by rw [h6,Nat.zero_add];exact Nat.mul_le_mul_right n h4,fun i e hi he j v hv=>?_⟩
 have hf:=flat_at hn l i e he j v hv
 rw [<- h7] at hf
 have hlt:=(List.getElem?_eq_some_iff.1 hf).1
 rw [List.length_take] at hlt
 rw [List.getElem?_take_of_lt (by omega)] at hf
 rw [Nat.zero_add]
 simpa using hf
theorem sort_uniq {R E:List flM.Ms}(hp:R.Perm E)(hs:R.Pairwise Le)(ha:∀ (i:Nat) (a c:flM.Ms),E[i]?=some a->E[i+1]?=some c->a.q<c.q):R=E:=by
 have hE:E.Pairwise fun a c=>a.q<c.q:=List.pairwise_iff_getElem.2 fun i j hi hj hij=>by
  have:=asc_lt ha (j - i - 1) i E[i] E[j] (List.getElem?_eq_getElem hi) (by rw [show i+(j - i - 1)+1=j by omega];exact List.getElem?_eq_getElem hj)
  exact this
 refine List.Perm.eq_of_pairwise (le:=Le) (fun a c ha' hc' h1 h2=>?_) hs (hE.imp fun h=>Int.le_of_lt h) hp
 have haE:=hp.mem_iff.1 ha'
 have heq:a.q=c.q:=Int.le_antisymm h1 h2
 obtain⟨i,hi⟩:=List.mem_iff_getElem?.1 haE
 obtain⟨j,hj⟩:=List.mem_iff_getElem?.1 hc'
 rcases Nat.lt_trichotomy i j with h | h | h
 ·have:=asc_lt ha (j - i - 1) i a c hi (by rw [show i+(j - i - 1)+1=j by omega];exact hj)
  omega
 ·subst h;rw [hi] at hj;cases hj;rfl
 ·have:=asc_lt ha (i - j - 1) j c a hj (by rw [show j+(i - j - 1)+1=i by omega];exact hi)
  omega
end Go.Proofs.YteoojodkkjepeaaGreat.qpi
namespace Go.Proofs.YteoojodkkjepeaaGreat.qdp
open ChangeShapes WideShapes ChangeAt RowKit fl qsp
def hit (o t:Int)(a:Bool)(h:flH.Hd):Bool:=decide (h.o=o) && (decide (h.t=t) || (a && decide (h.t<t)))
def gone (o t:Int)(a:Bool)(hs:List flH.Hd):List flH.Hd:=hs.filter (hit o t a)
def left (o t:Int)(a:Bool)(hs:List flH.Hd):List flH.Hd:=hs.filter fun h=>!hit o t a h
theorem both_yes {o t:Int}{a:Bool}{hs:List flH.Hd}{k:Nat}{h:flH.Hd}(hk:hs[k]?=some h)(hh:hit o t a h=true):gone o t a (hs.take (k+1))=gone o t a (hs.take k)++[h]/\left o t a (hs.take (k+1))=left o t a (hs.take k):=by
 unfold gone left
 rw [List.take_add_one,List.filter_append,List.filter_append,hk]
 simp [hh]
theorem both_no {o t:Int}{a:Bool}{hs:List flH.Hd}{k:Nat}{h:flH.Hd}(hk:hs[k]?=some h)(hh:hit o t a h=false):gone o t a (hs.take (k+1))=gone o t a (hs.take k)/\left o t a (hs.take (k+1))=left o t a (hs.take k)++[h]:=by
 unfold gone left
 rw [List.take_add_one,List.filter_append,List.filter_append,hk]
 simp [hh]
theorem gone_le (o t:Int)(a:Bool)(hs:List flH.Hd):(gone o t a hs).length <= hs.length:=List.length_filter_le _ _
theorem left_le (o t:Int)(a:Bool)(hs:List flH.Hd):(left o t a hs).length <= hs.length:=List.length_filter_le _ _
noncomputable def ansH (nm:ByteArray)(nx:Int)(rs:List flM.Ms)(hs:List flH.Hd)(o t:Int)(a:Bool):List flH.Hd:=if okB nm nx rs hs=true then left o t a hs else hs
noncomputable def ansC (nm:ByteArray)(nx:Int)(rs:List flM.Ms)(hs:List flH.Hd)(o t:Int)(a:Bool):Int:=if okB nm nx rs hs=true then (gone o t a hs).length else 0
theorem ansH_le (nm:ByteArray)(nx:Int)(rs:List flM.Ms)(hs:List flH.Hd)(o t:Int)(a:Bool):(ansH nm nx rs hs o t a).length <= hs.length+1:=by
 unfold ansH
 split
 ·have:=left_le o t a hs;omega
 ·omega
theorem infoH:∃ i0,Tryz.prog.info? 102=some i0/\i0.zero=some (.agg #[.int .i64 0,.int .i64 0,.int .i64 0,.string ByteArray.empty,.string ByteArray.empty,.string ByteArray.empty,.bool false])/\i0.size=7/\i0.bytes=80:=infoK
def All (W:World)(B:Nat)(v:Value)(l:List flH.Hd):Prop:=(l=[]/\∃ ao,v=.slice ao 0 0) ∨ ∃ g cap,v=.slice (some ⟨g,0,none⟩) l.length cap/\W.ownsRow B 102 7 (.slice (some ⟨g,0,none⟩) l.length cap) l.length (l.flatMap flH.c)
theorem All.form {W:World}{B:Nat}{v:Value}{l:List flH.Hd}(h:All W B v l):∃ ao cap,v=.slice ao l.length cap:=by
 rcases h with⟨rfl,ao,rfl⟩ | ⟨g,cap,rfl,_⟩
 ·exact⟨ao,0,rfl⟩
 ·exact⟨_,cap,rfl⟩
theorem All.row {W:World}{B:Nat}{ao:Option Addr}{cap:Nat}{l:List flH.Hd}(h:All W B (.slice ao l.length cap) l):Row flH.c 7 W W.heap.size ao l:=by
 rcases h with⟨rfl,_⟩ | ⟨g,cap',e,ho⟩
 ·exact .inl rfl
 ·cases e
  obtain⟨a',c',e',hr⟩:=own_row flH.c_len ho
  cases e'
  exact hr
theorem All.on {W W':World}{B:Nat}{v:Value}{l:List flH.Hd}(h:All W B v l)(hb:Below W.heap.size W W'):All W' B v l:=by
 rcases h with h | ⟨g,cap,rfl,ho⟩
 ·exact .inl h
 ·exact .inr ⟨g,cap,rfl,ho.kept (row:=none) ⟨hb.os,hb.tape,hb.output,hb.size,fun k hk _=>hb.block k hk⟩ (by simp [Value.ownBlock])⟩
theorem add0 (g j:Nat):(⟨g,0,none⟩:Addr).add j=⟨g,j,none⟩:=by unfold Addr.add;split <;> simp_all
theorem own_all {W:World}{B:Nat}{v:Value}{l:List flH.Hd}(hl:l≠[])(h:W.ownsRow B 102 7 v l.length (l.flatMap flH.c)):All W B v l:=by
 have hs:=h
 obtain⟨_,⟨_,h0⟩ | ⟨g,cap,cur,rfl,_⟩⟩:=hs
 ·exact absurd (List.eq_nil_of_length_eq_zero h0) hl
 ·exact .inr ⟨g,cap,rfl,h⟩
theorem below_grown {W w':World}{B:Nat}{r:Option Nat}(h:W.grownBy w' r)(hB:B <= W.heap.size)(hr:∀ b,r=some b->B <= b):Below B W w':=⟨h.os,h.tape,h.output,h.size,fun k hk=>h.block k (by omega) (fun e=>by have:=hr k e.symm;omega)⟩
theorem app_one {W:World}{B a:Nat}{v:Value}{l:List flH.Hd}(m:flH.Hd)(h:All W B v l)(hB:B <= W.heap.size)(hl:l.length <= 1048576)(hc:W.heap[a]?=some (.cells (flH.c m).toArray 102 (0,0)))(ty:TypeId) :
  ∃ v' w',(Builtin.append_ #[66,66] ty #[v,.slice (some ⟨a,0,none⟩) 1 1]).run Tryz.prog W=.ok v' w'/\All w' B v' (l++[m])/\Below B W w'/\(∀ k,k<W.heap.size->v.ownBlock≠some k->w'.heap[k]?=W.heap[k]?)/\(v'.ownBlock=v.ownBlock ∨ ∃ k,v'.ownBlock=some k/\W.heap.size <= k)/\W.heap.size <= w'.heap.size:=by
 obtain⟨i0,hi,hz0,hz1,hz2⟩:=infoH
 have hnews:∀ j u,(flH.c m)[j]?=some u->W.cell? ((⟨a,0,none⟩:Addr).add j)=some u:=fun j u hu=>by
  rw [add0]
  exact bcell hc (by simpa using hu)
 have h1:∀ u∈flH.c m,u.oneCell'=true:=fun u hu=>by simp [flH.c] at hu;rcases hu with rfl | rfl | rfl | rfl | rfl | rfl | rfl <;> rfl
 have hfl:(l++[m]).flatMap flH.c=l.flatMap flH.c++flH.c m:=by rw [List.flatMap_append];simp
 have hln:(l++[m]).length=l.length+1:=by simp
 rcases h with⟨rfl,ao,rfl⟩ | ⟨g,cap,rfl,ho⟩
 ·cases ao with
  | none =>
   obtain⟨v',w',hr,ho,hg,_,hat⟩:=run_append_own_at (P:=Tryz.prog) W B 66 ty 102 i0 (.agg #[.int .i64 0,.int .i64 0,.int .i64 0,.string ByteArray.empty,.string ByteArray.empty,.string ByteArray.empty,.bool false]) 7 80 Tryz.underlying66 hi hz0 hz1 hz2 rfl (by decide) (.slice none 0 0) 0 [] (World.ownsRow_nil W _ _ _) ⟨a,0,none⟩ 1 1 (flH.c m) rfl hnews h1 (by unfold maxLen;omega) (by omega) hB
   exact⟨v',w',hr,own_all (by simp) (by rw [hfl,hln];simpa using ho),below_grown hg hB (fun b e=>by simp [Value.ownBlock] at e),fun k hk hne=>hg.block k hk (fun e=>hne e.symm),(by rcases hat with h | h;exact .inl h;exact .inr ⟨_,h,Nat.le_refl _⟩),hg.size⟩
  | some b =>
   obtain⟨v',w',hr,ho,hg⟩:=run_append_arg_grows (P:=Tryz.prog) W 66 ty 102 i0 (.agg #[.int .i64 0,.int .i64 0,.int .i64 0,.string ByteArray.empty,.string ByteArray.empty,.string ByteArray.empty,.bool false]) 7 80 Tryz.underlying66 hi hz0 hz1 hz2 rfl (by decide) b 0 0 [] rfl (fun j u hu=>by simp at hu) ⟨a,0,none⟩ 1 1 (flH.c m) rfl hnews (by omega) (by unfold maxLen;omega) (by omega)
   refine⟨v',w',hr,own_all (by simp) ?_,below_grown hg hB (fun b e=>by cases e),fun k hk hne=>hg.block k hk (fun e=>by cases e),?_,hg.size⟩
   rotate_left
   ·obtain⟨_,⟨_,k2⟩ | ⟨g,cap,cur,k3,k4,_⟩⟩:=ho
    ·simp at k2
    ·exact .inr ⟨g,by rw [k3];rfl,k4⟩
   rw [hfl,hln]
   obtain⟨k1,k2 | ⟨g,cap,cur,k3,k4,k5⟩⟩:=ho
   ·simp at k2
   ·exact⟨by simpa using k1,.inr ⟨g,cap,cur,by simpa using k3,by omega,by simpa using k5⟩⟩
 ·obtain⟨v',w',hr,ho',hg,_,hat⟩:=run_append_own_at (P:=Tryz.prog) W B 66 ty 102 i0 (.agg #[.int .i64 0,.int .i64 0,.int .i64 0,.string ByteArray.empty,.string ByteArray.empty,.string ByteArray.empty,.bool false]) 7 80 Tryz.underlying66 hi hz0 hz1 hz2 rfl (by decide) _ l.length _ ho ⟨a,0,none⟩ 1 1 (flH.c m) rfl hnews h1 (by unfold maxLen;omega) (by omega) hB
  exact⟨v',w',hr,own_all (by simp) (by rw [hfl,hln];exact ho'),below_grown hg hB (fun b e=>by have:=Option.some.inj e;subst this;exact(ho.lt g rfl).1),fun k hk hne=>hg.block k hk (fun e=>hne e.symm),(by rcases hat with h | h;exact .inl h;exact .inr ⟨_,h,Nat.le_refl _⟩),hg.size⟩
theorem All.keep {W w':World}{B:Nat}{v:Value}{l:List flH.Hd}(h:All W B v l)(hk:∀ g,v.ownBlock=some g->w'.heap[g]?=W.heap[g]?):All w' B v l:=by
 rcases h with h | ⟨g,cap,rfl,ho⟩
 ·exact .inl h
 ·refine .inr ⟨g,cap,rfl,?_⟩
  obtain⟨h1,h2 | ⟨g',cap',cur,h3,h4,h5,h6⟩⟩:=ho
  ·exact⟨h1,.inl h2⟩
  ·exact⟨h1,.inr ⟨g',cap',cur,h3,h4,(hk g' (by rw [h3];rfl)).trans h5,h6⟩⟩
structure Tk (W:World)(B:Nat)(v u:Value)(l r:List flH.Hd)(wr:World):Prop where
 bel:Below B W wr
 lo:B <= wr.heap.size
 av:All wr B v l
 au:All wr B u r
 ne:∀ g,v.ownBlock=some g->u.ownBlock≠some g
 vl:∀ g,v.ownBlock=some g->g<wr.heap.size
 ul:∀ g,u.ownBlock=some g->g<wr.heap.size
theorem Tk.swap {W wr:World}{B:Nat}{v u:Value}{l r:List flH.Hd}(h:Tk W B v u l r wr):Tk W B u v r l wr:=⟨h.bel,h.lo,h.au,h.av,fun g h1 h2=>h.ne g h2 h1,h.ul,h.vl⟩
theorem Tk.on {W wr X:World}{B:Nat}{v u:Value}{l r:List flH.Hd}(h:Tk W B v u l r wr)(hb:Below wr.heap.size wr X):Tk W B v u l r X :=
 ⟨h.bel.trans (hb.mono h.lo),Nat.le_trans h.lo hb.size,h.av.on hb,h.au.on hb,h.ne,fun g hg=>Nat.lt_of_lt_of_le (h.vl g hg) hb.size,fun g hg=>Nat.lt_of_lt_of_le (h.ul g hg) hb.size⟩
theorem Tk.app {W X:World}{B a:Nat}{v u:Value}{l r:List flH.Hd}(m:flH.Hd)(h:Tk W B v u l r X)(hl:l.length <= 1048576)(hc:X.heap[a]?=some (.cells (flH.c m).toArray 102 (0,0)))(ty:TypeId) :
  ∃ v' w',(Builtin.append_ #[66,66] ty #[v,.slice (some ⟨a,0,none⟩) 1 1]).run Tryz.prog X=.ok v' w'/\Tk W B v' u (l++[m]) r w':=by
 obtain⟨v',w',hrun,hall,hbel,hk,hat,hsz⟩:=app_one m h.av h.lo hl hc ty
 refine⟨v',w',hrun,h.bel.trans hbel,Nat.le_trans h.lo hsz,hall,h.au.keep (fun g hg=>hk g (h.ul g hg) (fun e=>h.ne g e hg)),fun g hg hu=>?_,fun g hg=>?_,fun g hg=>Nat.lt_of_lt_of_le (h.ul g hg) hsz⟩
 ·rcases hat with e | ⟨k,e,hk2⟩
  ·rw [e] at hg;exact h.ne g hg hu
  ·rw [e] at hg;have hkg:=Option.some.inj hg;subst hkg;have:=h.ul _ hu;omega
 ·rcases hall with⟨h9,_⟩ | ⟨g',cap',h9,ho⟩
  ·simp at h9
  ·rw [h9] at hg
   exact(ho.lt g hg).2
end Go.Proofs.YteoojodkkjepeaaGreat.qdp
namespace Go.Proofs.YteoojodkkjepeaaGreat.qts
open ChangeShapes WideShapes ChangeAt RowKit fl qdp
theorem bdrewN {B:Nat}{a w:World}(h:Below B a w)(n:Nat):Below B a (w.drewN n):=⟨h.os,h.tape,h.output,h.size,h.block⟩
theorem all_low {W:World}{B B':Nat}{v:Value}{l:List flH.Hd}(h:All W B v l)(hB:B' <= B):All W B' v l:=by
 rcases h with h | ⟨g,cap,h1,h2⟩
 ·exact .inl h
 ·exact .inr ⟨g,cap,h1,qsp.own_low h2 hB⟩
theorem tk_low {w W wr:World}{v u:Value}{l r:List flH.Hd}(h:Tk W W.heap.size v u l r wr)(hb:Below w.heap.size w W):Tk w w.heap.size v u l r wr :=
 ⟨hb.trans (h.bel.mono hb.size),Nat.le_trans hb.size h.lo,all_low h.av hb.size,all_low h.au hb.size,h.ne,h.vl,h.ul⟩
theorem spec_take_true (nm:ByteArray)(nx:Int)(ra:Option Addr)(rn rc:Nat)(ms:List flH.Hd)(b0 bc:Nat)(o t:Int)(w:World)(hml:ms.length <= 1048576)(hB:Row flH.c 7 w w.heap.size (some ⟨b0,0,none⟩) ms) :
  Calls Tryz.prog 146 #[.agg #[.string nm,.int .i64 nx,.slice ra rn rc,.slice (some ⟨b0,0,none⟩) ms.length bc],.int .i64 o,.int .i64 t,.bool true] w fun e w'=>∃ v u,e=.returned (.tuple #[v,u])/\Tk w w.heap.size v u (gone o t true ms) (left o t true ms) w':=by
 have hWb:Below w.heap.size w (((w.alloc (.cells #[.string nm,.int .i64 nx,.slice ra rn rc,.slice (some ⟨b0,0,none⟩) ms.length bc] 68)).alloc (.cells #[] 102)).alloc (.cells #[] 102)):=(((Below.refl _ _).alloc (Nat.le_refl _) _).alloc (by simp) _).alloc (by simp;omega) _
 have hA:=bold (bold (bnew w #[.string nm,.int .i64 nx,.slice ra rn rc,.slice (some ⟨b0,0,none⟩) ms.length bc] 68) (.cells #[] 102)) (.cells #[] 102)
 obtain⟨W,hW⟩:∃ W,((w.alloc (.cells #[.string nm,.int .i64 nx,.slice ra rn rc,.slice (some ⟨b0,0,none⟩) ms.length bc] 68)).alloc (.cells #[] 102)).alloc (.cells #[] 102)=W:=⟨_,rfl⟩
 have hWs:W.heap.size=w.heap.size+3:=by rw [<- hW];simp
 rw [hW] at hWb hA
 have HBX:Hid (∀ V,Below W.heap.size W V->V.cell? ⟨w.heap.size,3,none⟩=some (.slice (some ⟨b0,0,none⟩) ms.length bc)):=fun V hV=>bcell (bstay hA hV (by omega)) rfl
 have HC:Hid (∀ V,Below W.heap.size W V->∀ (i:Nat) (e:flH.Hd),ms[i]?=some e->∀ (j:Nat) (v:Value),(flH.c e)[j]?=some v->V.cell? ⟨b0,i*7+j,none⟩=some v):=fun V hV i e he j v hv=>by
  rcases(hB.inn hWb).inn hV with h | ⟨b,off,hb,hlt,hc⟩
  ·rw [h] at he;simp at he
  ·cases hb
   have:=hc i e he j v hv
   rwa [Nat.zero_add] at this
 have HT0:Hid (Tk W W.heap.size (.slice (some ⟨w.heap.size+1,0,none⟩) 0 0) (.slice (some ⟨w.heap.size+1+1,0,none⟩) 0 0) (gone o t true (ms.take 0)) (left o t true (ms.take 0)) W):=⟨Below.refl _ _,Nat.le_refl _,.inl ⟨by simp [gone],_,rfl⟩,.inl ⟨by simp [left],_,rfl⟩,fun g h1 h2=>by simp [Value.ownBlock] at h1 h2;omega,fun g h1=>by simp [Value.ownBlock] at h1;omega,fun g h1=>by simp [Value.ownBlock] at h1;omega⟩
 clear hA hB
 go_enter Tryz.func146,Tryz.ntmps146
 go_wp2
 clear hW
 go_loopw [10,11,12] (fun v u y wr=>∃ k:Nat,k <= ms.length/\y=.int .i64 k/\Hid (Tk W W.heap.size v u (gone o t true (ms.take k)) (left o t true (ms.take k)) wr)) (fun _ _ y _=>ms.length - (intOf y).toNat)
 case atStart=>exact⟨0,Nat.zero_le _,rfl,HT0⟩
 case round =>
  obtain⟨k,hk,rfl,hst⟩:=hrel
  clear HT0
  have hbel:=hst.out.bel
  have hlo:=hst.out.lo
  have bx:wr.cell? ⟨w.heap.size,3,none⟩=some (.slice (some ⟨b0,0,none⟩) ms.length bc):=HBX.out wr hbel
  by_cases hkl:k<ms.length
  ·have i2:(k:Int)<(ms.length:Int):=by omega
   have HG:Hid (ms[k]?=some ms[k]):=List.getElem?_eq_getElem hkl
   obtain⟨⟨ht,ho,⟨q,x,y,z,ag⟩⟩,he⟩:∃ e,ms[k]=e:=⟨_,rfl⟩
   rw [he] at HG
   have cs:=HC.out wr hbel k _ HG.out
   have c0:wr.cell? ⟨b0,k*7,none⟩=some (.int .i64 ht):=cs 0 _ rfl
   have c1:wr.cell? ⟨b0,k*7+1,none⟩=some (.int .i64 ho):=cs 1 _ rfl
   have c2:wr.cell? ⟨b0,k*7+2,none⟩=some (.int .i64 q):=cs 2 _ rfl
   have c3:wr.cell? ⟨b0,k*7+3,none⟩=some (.string x):=cs 3 _ rfl
   have c4:wr.cell? ⟨b0,k*7+4,none⟩=some (.string y):=cs 4 _ rfl
   have c5:wr.cell? ⟨b0,k*7+5,none⟩=some (.string z):=cs 5 _ rfl
   have c6:wr.cell? ⟨b0,k*7+6,none⟩=some (.bool ag):=cs 6 _ rfl
   have HS:Hid (Tk W W.heap.size u10 u11 (gone o t true (ms.take k)) (left o t true (ms.take k)) wr):=hst.out
   clear he cs hst
   by_cases p1:ho=o
   ·obtain rfl:o=ho:=p1.symm
    by_cases p2:ht=t
    ·obtain rfl:t=ht:=p2.symm
     have hh:hit o t true ⟨t,o,⟨q,x,y,z,ag⟩⟩=true:=by simp [hit]
     obtain⟨e1,e2⟩:=both_yes HG.out hh
     have hal:=fl.bl wr (.cells #[.int .i64 t,.int .i64 o,.int .i64 q,.string x,.string y,.string z,.bool ag] 102)
     have hal2:Below (wr.alloc (.cells #[.int .i64 t,.int .i64 o,.int .i64 q,.string x,.string y,.string z,.bool ag] 102)).heap.size (wr.alloc (.cells #[.int .i64 t,.int .i64 o,.int .i64 q,.string x,.string y,.string z,.bool ag] 102)) ((wr.alloc (.cells #[.int .i64 t,.int .i64 o,.int .i64 q,.string x,.string y,.string z,.bool ag] 102)).alloc (.cells #[.int .i64 t,.int .i64 o,.int .i64 q,.string x,.string y,.string z,.bool ag] 102)):=(Below.refl _ _).alloc (Nat.le_refl _) _
     have hlen:(gone o t true (ms.take k)).length <= 1048576:=by have:=gone_le o t true (ms.take k);rw [List.length_take] at this;omega
     obtain⟨v',w',hrun,htk⟩:=Tk.app ⟨t,o,⟨q,x,y,z,ag⟩⟩ (((HS.out.on hal).on hal2)) hlen (bnew (wr.alloc (.cells #[.int .i64 t,.int .i64 o,.int .i64 q,.string x,.string y,.string z,.bool ag] 102)) _ _) 66
     have HRUN:Hid ((Builtin.append_ #[66,66] 66 #[u10,.slice (some ⟨(wr.alloc (.cells #[.int .i64 t,.int .i64 o,.int .i64 q,.string x,.string y,.string z,.bool ag] 102)).heap.size,0,none⟩) 1 1]).run Tryz.prog ((wr.alloc (.cells #[.int .i64 t,.int .i64 o,.int .i64 q,.string x,.string y,.string z,.bool ag] 102)).alloc (.cells #[.int .i64 t,.int .i64 o,.int .i64 q,.string x,.string y,.string z,.bool ag] 102))=.ok v' w'):=hrun
     simp only [World.size_alloc] at HRUN
     have HN:Hid (Tk W W.heap.size v' u11 (gone o t true (ms.take (k+1))) (left o t true (ms.take (k+1))) w'):=by
      unfold Hid
      rw [e1,e2]
      exact htk
     clear hrun htk hal hal2 HS e1 e2 hh 
     go_wp2_with (at_builtin;refine cpr.wpList_append_run rfl _ _ 66 66 rfl _ _ _ rfl rfl HRUN.out ?_)
     go_wp2
     go_roundw
     case rel=>exact⟨k+1,by omega,by go_num,HN⟩
     case measure=>simp [intOf];omega
    ·have q2:(ht == t)=false:=by simpa using p2
     by_cases p5:ht<t
     ·have q3:decide (ht<t)=true:=by simpa using p5
      have p4:=p2
      have p6:=p5
      have hh:hit o t true ⟨ht,o,⟨q,x,y,z,ag⟩⟩=true:=by simp [hit,p4,p6]
      obtain⟨e1,e2⟩:=both_yes HG.out hh
      have hal:=fl.bl wr (.cells #[.int .i64 ht,.int .i64 o,.int .i64 q,.string x,.string y,.string z,.bool ag] 102)
      have hal2:Below (wr.alloc (.cells #[.int .i64 ht,.int .i64 o,.int .i64 q,.string x,.string y,.string z,.bool ag] 102)).heap.size (wr.alloc (.cells #[.int .i64 ht,.int .i64 o,.int .i64 q,.string x,.string y,.string z,.bool ag] 102)) ((wr.alloc (.cells #[.int .i64 ht,.int .i64 o,.int .i64 q,.string x,.string y,.string z,.bool ag] 102)).alloc (.cells #[.int .i64 ht,.int .i64 o,.int .i64 q,.string x,.string y,.string z,.bool ag] 102)):=(Below.refl _ _).alloc (Nat.le_refl _) _
      have hlen:(gone o t true (ms.take k)).length <= 1048576:=by have:=gone_le o t true (ms.take k);rw [List.length_take] at this;omega
      obtain⟨v',w',hrun,htk⟩:=Tk.app ⟨ht,o,⟨q,x,y,z,ag⟩⟩ (((HS.out.on hal).on hal2)) hlen (bnew (wr.alloc (.cells #[.int .i64 ht,.int .i64 o,.int .i64 q,.string x,.string y,.string z,.bool ag] 102)) _ _) 66
      have HRUN:Hid ((Builtin.append_ #[66,66] 66 #[u10,.slice (some ⟨(wr.alloc (.cells #[.int .i64 ht,.int .i64 o,.int .i64 q,.string x,.string y,.string z,.bool ag] 102)).heap.size,0,none⟩) 1 1]).run Tryz.prog ((wr.alloc (.cells #[.int .i64 ht,.int .i64 o,.int .i64 q,.string x,.string y,.string z,.bool ag] 102)).alloc (.cells #[.int .i64 ht,.int .i64 o,.int .i64 q,.string x,.string y,.string z,.bool ag] 102))=.ok v' w'):=hrun
      simp only [World.size_alloc] at HRUN
      have HN:Hid (Tk W W.heap.size v' u11 (gone o t true (ms.take (k+1))) (left o t true (ms.take (k+1))) w'):=by
       unfold Hid
       rw [e1,e2]
       exact htk
      clear hrun htk hal hal2 HS e1 e2 hh p4 p6
      go_wp2_with (at_builtin;refine cpr.wpList_append_run rfl _ _ 66 66 rfl _ _ _ rfl rfl HRUN.out ?_)
      go_wp2
      go_roundw
      case rel=>exact⟨k+1,by omega,by go_num,HN⟩
      case measure=>simp [intOf];omega
     ·have q3:decide (ht<t)=false:=by simpa using p5
      have p4:=p2
      have p6:=p5
      have hh:hit o t true ⟨ht,o,⟨q,x,y,z,ag⟩⟩=false:=by simp [hit,p4,p6]
      obtain⟨e1,e2⟩:=both_no HG.out hh
      have hal:=fl.bl wr (.cells #[.int .i64 ht,.int .i64 o,.int .i64 q,.string x,.string y,.string z,.bool ag] 102)
      have hal2:Below (wr.alloc (.cells #[.int .i64 ht,.int .i64 o,.int .i64 q,.string x,.string y,.string z,.bool ag] 102)).heap.size (wr.alloc (.cells #[.int .i64 ht,.int .i64 o,.int .i64 q,.string x,.string y,.string z,.bool ag] 102)) ((wr.alloc (.cells #[.int .i64 ht,.int .i64 o,.int .i64 q,.string x,.string y,.string z,.bool ag] 102)).alloc (.cells #[.int .i64 ht,.int .i64 o,.int .i64 q,.string x,.string y,.string z,.bool ag] 102)):=(Below.refl _ _).alloc (Nat.le_refl _) _
      have hlen:(left o t true (ms.take k)).length <= 1048576:=by have:=left_le o t true (ms.take k);rw [List.length_take] at this;omega
      obtain⟨v',w',hrun,htk⟩:=Tk.app ⟨ht,o,⟨q,x,y,z,ag⟩⟩ (((HS.out.on hal).on hal2).swap) hlen (bnew (wr.alloc (.cells #[.int .i64 ht,.int .i64 o,.int .i64 q,.string x,.string y,.string z,.bool ag] 102)) _ _) 66
      have HRUN:Hid ((Builtin.append_ #[66,66] 66 #[u11,.slice (some ⟨(wr.alloc (.cells #[.int .i64 ht,.int .i64 o,.int .i64 q,.string x,.string y,.string z,.bool ag] 102)).heap.size,0,none⟩) 1 1]).run Tryz.prog ((wr.alloc (.cells #[.int .i64 ht,.int .i64 o,.int .i64 q,.string x,.string y,.string z,.bool ag] 102)).alloc (.cells #[.int .i64 ht,.int .i64 o,.int .i64 q,.string x,.string y,.string z,.bool ag] 102))=.ok v' w'):=hrun
      simp only [World.size_alloc] at HRUN
      have HN:Hid (Tk W W.heap.size u10 v' (gone o t true (ms.take (k+1))) (left o t true (ms.take (k+1))) w'):=by
       unfold Hid
       rw [e1,e2]
       exact htk.swap
      clear hrun htk hal hal2 HS e1 e2 hh p4 p6
      go_wp2_with (at_builtin;refine cpr.wpList_append_run rfl _ _ 66 66 rfl _ _ _ rfl rfl HRUN.out ?_)
      go_wp2
      go_roundw
      case rel=>exact⟨k+1,by omega,by go_num,HN⟩
      case measure=>simp [intOf];omega
   ·have q1:(ho == o)=false:=by simpa using p1
    have p3:=p1
    have hh:hit o t true ⟨ht,ho,⟨q,x,y,z,ag⟩⟩=false:=by simp [hit,p3]
    obtain⟨e1,e2⟩:=both_no HG.out hh
    have hal:=fl.bl wr (.cells #[.int .i64 ht,.int .i64 ho,.int .i64 q,.string x,.string y,.string z,.bool ag] 102)
    have hal2:Below (wr.alloc (.cells #[.int .i64 ht,.int .i64 ho,.int .i64 q,.string x,.string y,.string z,.bool ag] 102)).heap.size (wr.alloc (.cells #[.int .i64 ht,.int .i64 ho,.int .i64 q,.string x,.string y,.string z,.bool ag] 102)) ((wr.alloc (.cells #[.int .i64 ht,.int .i64 ho,.int .i64 q,.string x,.string y,.string z,.bool ag] 102)).alloc (.cells #[.int .i64 ht,.int .i64 ho,.int .i64 q,.string x,.string y,.string z,.bool ag] 102)):=(Below.refl _ _).alloc (Nat.le_refl _) _
    have hlen:(left o t true (ms.take k)).length <= 1048576:=by have:=left_le o t true (ms.take k);rw [List.length_take] at this;omega
    obtain⟨v',w',hrun,htk⟩:=Tk.app ⟨ht,ho,⟨q,x,y,z,ag⟩⟩ (((HS.out.on hal).on hal2).swap) hlen (bnew (wr.alloc (.cells #[.int .i64 ht,.int .i64 ho,.int .i64 q,.string x,.string y,.string z,.bool ag] 102)) _ _) 66
    have HRUN:Hid ((Builtin.append_ #[66,66] 66 #[u11,.slice (some ⟨(wr.alloc (.cells #[.int .i64 ht,.int .i64 ho,.int .i64 q,.string x,.string y,.string z,.bool ag] 102)).heap.size,0,none⟩) 1 1]).run Tryz.prog ((wr.alloc (.cells #[.int .i64 ht,.int .i64 ho,.int .i64 q,.string x,.string y,.string z,.bool ag] 102)).alloc (.cells #[.int .i64 ht,.int .i64 ho,.int .i64 q,.string x,.string y,.string z,.bool ag] 102))=.ok v' w'):=hrun
    simp only [World.size_alloc] at HRUN
    have HN:Hid (Tk W W.heap.size u10 v' (gone o t true (ms.take (k+1))) (left o t true (ms.take (k+1))) w'):=by
     unfold Hid
     rw [e1,e2]
     exact htk.swap
    clear hrun htk hal hal2 HS e1 e2 hh p3
    go_wp2_with (at_builtin;refine cpr.wpList_append_run rfl _ _ 66 66 rfl _ _ _ rfl rfl HRUN.out ?_)
    go_wp2
    go_roundw
    case rel=>exact⟨k+1,by omega,by go_num,HN⟩
    case measure=>simp [intOf];omega
  ·obtain rfl:k=ms.length:=by omega
   rw [List.take_length] at hst
   have HF:Hid (Tk w w.heap.size u10 u11 (gone o t true ms) (left o t true ms) wr):=tk_low hst.out hWb
   clear hst
   go_wp2
   go_ret2
   exact⟨_,_,rfl,HF.out⟩
theorem spec_take_false (nm:ByteArray)(nx:Int)(ra:Option Addr)(rn rc:Nat)(ms:List flH.Hd)(b0 bc:Nat)(o t:Int)(w:World)(hml:ms.length <= 1048576)(hB:Row flH.c 7 w w.heap.size (some ⟨b0,0,none⟩) ms) :
  Calls Tryz.prog 146 #[.agg #[.string nm,.int .i64 nx,.slice ra rn rc,.slice (some ⟨b0,0,none⟩) ms.length bc],.int .i64 o,.int .i64 t,.bool false] w fun e w'=>∃ v u,e=.returned (.tuple #[v,u])/\Tk w w.heap.size v u (gone o t false ms) (left o t false ms) w':=by
 have hWb:Below w.heap.size w (((w.alloc (.cells #[.string nm,.int .i64 nx,.slice ra rn rc,.slice (some ⟨b0,0,none⟩) ms.length bc] 68)).alloc (.cells #[] 102)).alloc (.cells #[] 102)):=(((Below.refl _ _).alloc (Nat.le_refl _) _).alloc (by simp) _).alloc (by simp;omega) _
 have hA:=bold (bold (bnew w #[.string nm,.int .i64 nx,.slice ra rn rc,.slice (some ⟨b0,0,none⟩) ms.length bc] 68) (.cells #[] 102)) (.cells #[] 102)
 obtain⟨W,hW⟩:∃ W,((w.alloc (.cells #[.string nm,.int .i64 nx,.slice ra rn rc,.slice (some ⟨b0,0,none⟩) ms.length bc] 68)).alloc (.cells #[] 102)).alloc (.cells #[] 102)=W:=⟨_,rfl⟩
 have hWs:W.heap.size=w.heap.size+3:=by rw [<- hW];simp
 rw [hW] at hWb hA
 have HBX:Hid (∀ V,Below W.heap.size W V->V.cell? ⟨w.heap.size,3,none⟩=some (.slice (some ⟨b0,0,none⟩) ms.length bc)):=fun V hV=>bcell (bstay hA hV (by omega)) rfl
 have HC:Hid (∀ V,Below W.heap.size W V->∀ (i:Nat) (e:flH.Hd),ms[i]?=some e->∀ (j:Nat) (v:Value),(flH.c e)[j]?=some v->V.cell? ⟨b0,i*7+j,none⟩=some v):=fun V hV i e he j v hv=>by
  rcases(hB.inn hWb).inn hV with h | ⟨b,off,hb,hlt,hc⟩
  ·rw [h] at he;simp at he
  ·cases hb
   have:=hc i e he j v hv
   rwa [Nat.zero_add] at this
 have HT0:Hid (Tk W W.heap.size (.slice (some ⟨w.heap.size+1,0,none⟩) 0 0) (.slice (some ⟨w.heap.size+1+1,0,none⟩) 0 0) (gone o t false (ms.take 0)) (left o t false (ms.take 0)) W):=⟨Below.refl _ _,Nat.le_refl _,.inl ⟨by simp [gone],_,rfl⟩,.inl ⟨by simp [left],_,rfl⟩,fun g h1 h2=>by simp [Value.ownBlock] at h1 h2;omega,fun g h1=>by simp [Value.ownBlock] at h1;omega,fun g h1=>by simp [Value.ownBlock] at h1;omega⟩
 clear hA hB
 go_enter Tryz.func146,Tryz.ntmps146
 go_wp2
 clear hW
 go_loopw [10,11,12] (fun v u y wr=>∃ k:Nat,k <= ms.length/\y=.int .i64 k/\Hid (Tk W W.heap.size v u (gone o t false (ms.take k)) (left o t false (ms.take k)) wr)) (fun _ _ y _=>ms.length - (intOf y).toNat)
 case atStart=>exact⟨0,Nat.zero_le _,rfl,HT0⟩
 case round =>
  obtain⟨k,hk,rfl,hst⟩:=hrel
  clear HT0
  have hbel:=hst.out.bel
  have hlo:=hst.out.lo
  have bx:wr.cell? ⟨w.heap.size,3,none⟩=some (.slice (some ⟨b0,0,none⟩) ms.length bc):=HBX.out wr hbel
  by_cases hkl:k<ms.length
  ·have i2:(k:Int)<(ms.length:Int):=by omega
   have HG:Hid (ms[k]?=some ms[k]):=List.getElem?_eq_getElem hkl
   obtain⟨⟨ht,ho,⟨q,x,y,z,ag⟩⟩,he⟩:∃ e,ms[k]=e:=⟨_,rfl⟩
   rw [he] at HG
   have cs:=HC.out wr hbel k _ HG.out
   have c0:wr.cell? ⟨b0,k*7,none⟩=some (.int .i64 ht):=cs 0 _ rfl
   have c1:wr.cell? ⟨b0,k*7+1,none⟩=some (.int .i64 ho):=cs 1 _ rfl
   have c2:wr.cell? ⟨b0,k*7+2,none⟩=some (.int .i64 q):=cs 2 _ rfl
   have c3:wr.cell? ⟨b0,k*7+3,none⟩=some (.string x):=cs 3 _ rfl
   have c4:wr.cell? ⟨b0,k*7+4,none⟩=some (.string y):=cs 4 _ rfl
   have c5:wr.cell? ⟨b0,k*7+5,none⟩=some (.string z):=cs 5 _ rfl
   have c6:wr.cell? ⟨b0,k*7+6,none⟩=some (.bool ag):=cs 6 _ rfl
   have HS:Hid (Tk W W.heap.size u10 u11 (gone o t false (ms.take k)) (left o t false (ms.take k)) wr):=hst.out
   clear he cs hst
   by_cases p1:ho=o
   ·obtain rfl:o=ho:=p1.symm
    by_cases p2:ht=t
    ·obtain rfl:t=ht:=p2.symm
     have hh:hit o t false ⟨t,o,⟨q,x,y,z,ag⟩⟩=true:=by simp [hit]
     obtain⟨e1,e2⟩:=both_yes HG.out hh
     have hal:=fl.bl wr (.cells #[.int .i64 t,.int .i64 o,.int .i64 q,.string x,.string y,.string z,.bool ag] 102)
     have hal2:Below (wr.alloc (.cells #[.int .i64 t,.int .i64 o,.int .i64 q,.string x,.string y,.string z,.bool ag] 102)).heap.size (wr.alloc (.cells #[.int .i64 t,.int .i64 o,.int .i64 q,.string x,.string y,.string z,.bool ag] 102)) ((wr.alloc (.cells #[.int .i64 t,.int .i64 o,.int .i64 q,.string x,.string y,.string z,.bool ag] 102)).alloc (.cells #[.int .i64 t,.int .i64 o,.int .i64 q,.string x,.string y,.string z,.bool ag] 102)):=(Below.refl _ _).alloc (Nat.le_refl _) _
     have hlen:(gone o t false (ms.take k)).length <= 1048576:=by have:=gone_le o t false (ms.take k);rw [List.length_take] at this;omega
     obtain⟨v',w',hrun,htk⟩:=Tk.app ⟨t,o,⟨q,x,y,z,ag⟩⟩ (((HS.out.on hal).on hal2)) hlen (bnew (wr.alloc (.cells #[.int .i64 t,.int .i64 o,.int .i64 q,.string x,.string y,.string z,.bool ag] 102)) _ _) 66
     have HRUN:Hid ((Builtin.append_ #[66,66] 66 #[u10,.slice (some ⟨(wr.alloc (.cells #[.int .i64 t,.int .i64 o,.int .i64 q,.string x,.string y,.string z,.bool ag] 102)).heap.size,0,none⟩) 1 1]).run Tryz.prog ((wr.alloc (.cells #[.int .i64 t,.int .i64 o,.int .i64 q,.string x,.string y,.string z,.bool ag] 102)).alloc (.cells #[.int .i64 t,.int .i64 o,.int .i64 q,.string x,.string y,.string z,.bool ag] 102))=.ok v' w'):=hrun
     simp only [World.size_alloc] at HRUN
     have HN:Hid (Tk W W.heap.size v' u11 (gone o t false (ms.take (k+1))) (left o t false (ms.take (k+1))) w'):=by
      unfold Hid
      rw [e1,e2]
      exact htk
     clear hrun htk hal hal2 HS e1 e2 hh 
     go_wp2_with (at_builtin;refine cpr.wpList_append_run rfl _ _ 66 66 rfl _ _ _ rfl rfl HRUN.out ?_)
     go_wp2
     go_roundw
     case rel=>exact⟨k+1,by omega,by go_num,HN⟩
     case measure=>simp [intOf];omega
    ·have q2:(ht == t)=false:=by simpa using p2
     have p4:=p2
     have hh:hit o t false ⟨ht,o,⟨q,x,y,z,ag⟩⟩=false:=by simp [hit,p4]
     obtain⟨e1,e2⟩:=both_no HG.out hh
     have hal:=fl.bl wr (.cells #[.int .i64 ht,.int .i64 o,.int .i64 q,.string x,.string y,.string z,.bool ag] 102)
     have hal2:Below (wr.alloc (.cells #[.int .i64 ht,.int .i64 o,.int .i64 q,.string x,.string y,.string z,.bool ag] 102)).heap.size (wr.alloc (.cells #[.int .i64 ht,.int .i64 o,.int .i64 q,.string x,.string y,.string z,.bool ag] 102)) ((wr.alloc (.cells #[.int .i64 ht,.int .i64 o,.int .i64 q,.string x,.string y,.string z,.bool ag] 102)).alloc (.cells #[.int .i64 ht,.int .i64 o,.int .i64 q,.string x,.string y,.string z,.bool ag] 102)):=(Below.refl _ _).alloc (Nat.le_refl _) _
     have hlen:(left o t false (ms.take k)).length <= 1048576:=by have:=left_le o t false (ms.take k);rw [List.length_take] at this;omega
     obtain⟨v',w',hrun,htk⟩:=Tk.app ⟨ht,o,⟨q,x,y,z,ag⟩⟩ (((HS.out.on hal).on hal2).swap) hlen (bnew (wr.alloc (.cells #[.int .i64 ht,.int .i64 o,.int .i64 q,.string x,.string y,.string z,.bool ag] 102)) _ _) 66
     have HRUN:Hid ((Builtin.append_ #[66,66] 66 #[u11,.slice (some ⟨(wr.alloc (.cells #[.int .i64 ht,.int .i64 o,.int .i64 q,.string x,.string y,.string z,.bool ag] 102)).heap.size,0,none⟩) 1 1]).run Tryz.prog ((wr.alloc (.cells #[.int .i64 ht,.int .i64 o,.int .i64 q,.string x,.string y,.string z,.bool ag] 102)).alloc (.cells #[.int .i64 ht,.int .i64 o,.int .i64 q,.string x,.string y,.string z,.bool ag] 102))=.ok v' w'):=hrun
     simp only [World.size_alloc] at HRUN
     have HN:Hid (Tk W W.heap.size u10 v' (gone o t false (ms.take (k+1))) (left o t false (ms.take (k+1))) w'):=by
      unfold Hid
      rw [e1,e2]
      exact htk.swap
     clear hrun htk hal hal2 HS e1 e2 hh p4
     go_wp2_with (at_builtin;refine cpr.wpList_append_run rfl _ _ 66 66 rfl _ _ _ rfl rfl HRUN.out ?_)
     go_wp2
     go_roundw
     case rel=>exact⟨k+1,by omega,by go_num,HN⟩
     case measure=>simp [intOf];omega
   ·have q1:(ho == o)=false:=by simpa using p1
    have p3:=p1
    have hh:hit o t false ⟨ht,ho,⟨q,x,y,z,ag⟩⟩=false:=by simp [hit,p3]
    obtain⟨e1,e2⟩:=both_no HG.out hh
    have hal:=fl.bl wr (.cells #[.int .i64 ht,.int .i64 ho,.int .i64 q,.string x,.string y,.string z,.bool ag] 102)
    have hal2:Below (wr.alloc (.cells #[.int .i64 ht,.int .i64 ho,.int .i64 q,.string x,.string y,.string z,.bool ag] 102)).heap.size (wr.alloc (.cells #[.int .i64 ht,.int .i64 ho,.int .i64 q,.string x,.string y,.string z,.bool ag] 102)) ((wr.alloc (.cells #[.int .i64 ht,.int .i64 ho,.int .i64 q,.string x,.string y,.string z,.bool ag] 102)).alloc (.cells #[.int .i64 ht,.int .i64 ho,.int .i64 q,.string x,.string y,.string z,.bool ag] 102)):=(Below.refl _ _).alloc (Nat.le_refl _) _
    have hlen:(left o t false (ms.take k)).length <= 1048576:=by have:=left_le o t false (ms.take k);rw [List.length_take] at this;omega
    obtain⟨v',w',hrun,htk⟩:=Tk.app ⟨ht,ho,⟨q,x,y,z,ag⟩⟩ (((HS.out.on hal).on hal2).swap) hlen (bnew (wr.alloc (.cells #[.int .i64 ht,.int .i64 ho,.int .i64 q,.string x,.string y,.string z,.bool ag] 102)) _ _) 66
    have HRUN:Hid ((Builtin.append_ #[66,66] 66 #[u11,.slice (some ⟨(wr.alloc (.cells #[.int .i64 ht,.int .i64 ho,.int .i64 q,.string x,.string y,.string z,.bool ag] 102)).heap.size,0,none⟩) 1 1]).run Tryz.prog ((wr.alloc (.cells #[.int .i64 ht,.int .i64 ho,.int .i64 q,.string x,.string y,.string z,.bool ag] 102)).alloc (.cells #[.int .i64 ht,.int .i64 ho,.int .i64 q,.string x,.string y,.string z,.bool ag] 102))=.ok v' w'):=hrun
    simp only [World.size_alloc] at HRUN
    have HN:Hid (Tk W W.heap.size u10 v' (gone o t false (ms.take (k+1))) (left o t false (ms.take (k+1))) w'):=by
     unfold Hid
     rw [e1,e2]
     exact htk.swap
    clear hrun htk hal hal2 HS e1 e2 hh p3
    go_wp2_with (at_builtin;refine cpr.wpList_append_run rfl _ _ 66 66 rfl _ _ _ rfl rfl HRUN.out ?_)
    go_wp2
    go_roundw
    case rel=>exact⟨k+1,by omega,by go_num,HN⟩
    case measure=>simp [intOf];omega
  ·obtain rfl:k=ms.length:=by omega
   rw [List.take_length] at hst
   have HF:Hid (Tk w w.heap.size u10 u11 (gone o t false ms) (left o t false ms) wr):=tk_low hst.out hWb
   clear hst
   go_wp2
   go_ret2
   exact⟨_,_,rfl,HF.out⟩
end Go.Proofs.YteoojodkkjepeaaGreat.qts
