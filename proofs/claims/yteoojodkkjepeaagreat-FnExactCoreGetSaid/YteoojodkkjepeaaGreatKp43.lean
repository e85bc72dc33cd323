/- QPopPure, GetKit, QHand, ThreeApp, SetNine. -/
import Derived.Test.YteoojodkkjepeaaGreatKp42
import Derived.Test.YteoojodkkjepeaaGreatKp22
import Derived.Deep.QuietTactic
import Derived.BigQuiet
import Derived.Test.YteoojodkkjepeaaGreatKp11
import Derived.Test.YteoojodkkjepeaaGreatKp01
set_option maxRecDepth 100000
set_option maxHeartbeats 8000000
set_option linter.unusedVariables false
namespace Go.Proofs.YteoojodkkjepeaaGreat.qpp
open ChangeShapes WideShapes ChangeAt RowKit fl qsp qc sch
def hand (o t:Int):Bool:=decide (0 <= o/\o <= 1000) && decide (1 <= t/\t <= 1000000000)
def late (o t:Int)(h:flH.Hd):Bool:=decide (h.o=o) && decide (t <= h.t)
def atO (o:Int)(hs:List flH.Hd):Nat->Nat
 | 0=>0
 | k+1=>match hs[k]? with
  | some h=>if h.o <= o then k+1 else atO o hs k
  | none=>atO o hs k
theorem atO_le (o:Int)(hs:List flH.Hd):∀ k,atO o hs k <= k
 | 0=>Nat.le_refl _
 | k+1=>by
  have:=atO_le o hs k
  unfold atO
  split
  ·split <;> omega
  ·omega
theorem atO_yes {o:Int}{hs:List flH.Hd}{k:Nat}{h:flH.Hd}(hk:hs[k]?=some h)(hh:h.o <= o):atO o hs (k+1)=k+1:=by unfold atO;rw [hk];simp [hh]
theorem atO_no {o:Int}{hs:List flH.Hd}{k:Nat}{h:flH.Hd}(hk:hs[k]?=some h)(hh:¬ h.o <= o):atO o hs (k+1)=atO o hs k:=by rw [atO,hk];simp [hh]
theorem atO_of {o:Int}{hs:List flH.Hd}{p:Nat}(h1:∀ (i:Nat) a,i<p->hs[i]?=some a->a.o <= o)(h2:∀ (i:Nat) a,p <= i->hs[i]?=some a->¬ a.o <= o):∀ k,k <= hs.length->atO o hs k=if k <= p then k else p
 | 0,_=>by simp [atO]
 | k+1,hk=>by
  have ih:=atO_of h1 h2 k (by omega)
  have hg:hs[k]?=some hs[k]:=List.getElem?_eq_getElem (by omega)
  by_cases hkp:k<p
  ·rw [atO_yes hg (h1 k _ hkp hg),if_pos (by omega)]
  ·rw [atO_no hg (h2 k _ (by omega) hg),ih]
   split <;> split <;> omega
theorem cmpH_lt {a b:flH.Hd}:cmpH a b<0 ↔ a.o<b.o ∨ (a.o=b.o/\a.t<b.t):=by
 unfold cmpH
 by_cases h:a.o=b.o
 ·rw [if_neg (by rw [cmpI_zero.2 h];simp),cmpI_neg]
  omega
 ·rw [if_pos (fun e=>h (cmpI_zero.1 e)),cmpI_neg]
  omega
theorem own_up {nm:ByteArray}{nx:Int}{es:List flM.Ms}{hs:List flH.Hd}(hok:qk.OkQ nm nx es hs):∀ (d i:Nat) (a b:flH.Hd),hs[i]?=some a->hs[i+d+1]?=some b->cmpH a b<0
 | 0,i,a,b,ha,hb=>by
  have:=hok.hu i a b ha hb
  rw [cmpH_lt]
  unfold qk.hLt at this
  omega
 | d+1,i,a,b,ha,hb=>by
  have hlt:=(List.getElem?_eq_some_iff.1 hb).1
  have hm:hs[i+d+1]?=some hs[i+d+1]:=List.getElem?_eq_getElem (by omega)
  have h1:=own_up hok d i a _ ha hm
  have h2:=hok.hu (i+d+1) _ b hm (by rw [show i+d+1+1=i+(d+1)+1 by omega];exact hb)
  rw [cmpH_lt] at h1 ⊢
  unfold qk.hLt at h2
  omega
theorem mon_ok {nm:ByteArray}{nx:Int}{es:List flM.Ms}{hs:List flH.Hd}(hok:qk.OkQ nm nx es hs)(t:flH.Hd):MonH hs t:=fun i j a b hij ha hb h=>by
 rcases Nat.lt_or_ge i j with hlt | hge
 ·have:=own_up hok (j - i - 1) i a b ha (by rw [show i+(j - i - 1)+1=j by omega];exact hb)
  rw [cmpH_lt] at this h ⊢
  omega
 ·obtain rfl:i=j:=by omega
  rw [ha] at hb
  cases hb
  exact h
theorem late_iff {nm:ByteArray}{nx:Int}{es:List flM.Ms}{hs:List flH.Hd}(hok:qk.OkQ nm nx es hs){o t:Int}{m:flM.Ms}{p:Nat}(hp:PosH hs ⟨t,o,m⟩ p):hs.any (late o t)=true ↔ ∃ a,hs[p]?=some a/\a.o=o:=by
 rw [List.any_eq_true]
 constructor
 ·rintro⟨h,hm,hl⟩
  simp only [late,Bool.and_eq_true,decide_eq_true_eq] at hl
  obtain⟨i,hi⟩:=List.mem_iff_getElem?.1 hm
  have hpi:p <= i:=by
   rcases Nat.lt_or_ge i p with h1 | h1
   ·have:=cmpH_lt.1 (hp.lt i h h1 hi)
    have h2:h.o<o ∨ (h.o=o/\h.t<t):=this
    omega
   ·exact h1
  have hlt:=(List.getElem?_eq_some_iff.1 hi).1
  have hg:hs[p]?=some hs[p]:=List.getElem?_eq_getElem (by omega)
  refine⟨_,hg,?_⟩
  have hge:=hp.ge p _ (Nat.le_refl _) hg
  have hn:¬ (hs[p].o<o ∨ (hs[p].o=o/\hs[p].t<t)):=fun e=>by have:=cmpH_lt (b:=⟨t,o,m⟩).2 e;omega
  rcases Nat.lt_or_ge p i with h1 | h1
  ·have h3:=cmpH_lt.1 (own_up hok (i - p - 1) p _ h hg (by rw [show p+(i - p - 1)+1=i by omega];exact hi))
   omega
  ·obtain rfl:p=i:=by omega
   rw [hi] at hg
   have:=Option.some.inj hg
   rw [<- this]
   exact hl.1
 ·rintro⟨a,ha,hao⟩
  refine⟨a,List.mem_of_getElem? ha,?_⟩
  have hge:=hp.ge p a (Nat.le_refl _) ha
  have hn:¬ (a.o<o ∨ (a.o=o/\a.t<t)):=fun e=>by have:=cmpH_lt (b:=⟨t,o,m⟩).2 e;omega
  simp only [late,Bool.and_eq_true,decide_eq_true_eq]
  omega
theorem atO_pos {nm:ByteArray}{nx:Int}{es:List flM.Ms}{hs:List flH.Hd}(hok:qk.OkQ nm nx es hs){o t:Int}{m:flM.Ms}{p:Nat}(hp:PosH hs ⟨t,o,m⟩ p)(hl:hs.any (late o t)=false):atO o hs hs.length=p:=by
 have h:=atO_of (o:=o) (hs:=hs) (p:=p) (fun i a hi ha=>by
  have h2:a.o<o ∨ (a.o=o/\a.t<t):=cmpH_lt.1 (hp.lt i a hi ha)
  omega) (fun i a hi ha=>by
  have hge:=hp.ge i a hi ha
  have hn:¬ (a.o<o ∨ (a.o=o/\a.t<t)):=fun e=>by have:=cmpH_lt (b:=⟨t,o,m⟩).2 e;omega
  have hx:late o t a=false:=by
   cases hh:late o t a with
   | false=>rfl
   | true=>have:hs.any (late o t)=true:=List.any_eq_true.2 ⟨a,List.mem_of_getElem? ha,hh⟩;rw [hl] at this;cases this
  have hx2:¬ (a.o=o/\t <= a.t):=fun e=>by simp [late,e.1,e.2] at hx
  omega) hs.length (Nat.le_refl _)
 rw [h]
 have:=hp.le
 split <;> omega
noncomputable def good (nm:ByteArray)(nx:Int)(rs:List flM.Ms)(hs:List flH.Hd)(o t:Int):Bool:=okB nm nx rs hs && hand o t && !rs.isEmpty && !hs.any (late o t)
def headM (rs:List flM.Ms):flM.Ms:=match rs with
 | []=>⟨0,⟨#[]⟩,⟨#[]⟩,⟨#[]⟩,false⟩
 | m :: _=>m
noncomputable def ansR (nm:ByteArray)(nx:Int)(rs:List flM.Ms)(hs:List flH.Hd)(o t:Int):List flM.Ms:=if good nm nx rs hs o t=true then rs.tail else rs
noncomputable def ansH (nm:ByteArray)(nx:Int)(rs:List flM.Ms)(hs:List flH.Hd)(o t:Int):List flH.Hd:=if good nm nx rs hs o t=true then hs.take (atO o hs hs.length)++⟨t,o,headM rs⟩ :: hs.drop (atO o hs hs.length) else hs
noncomputable def ansM (nm:ByteArray)(nx:Int)(rs:List flM.Ms)(hs:List flH.Hd)(o t:Int):flM.Ms:=if good nm nx rs hs o t=true then headM rs else headM []
theorem ansR_le (nm:ByteArray)(nx:Int)(rs:List flM.Ms)(hs:List flH.Hd)(o t:Int):(ansR nm nx rs hs o t).length <= rs.length:=by
 unfold ansR
 split <;> simp
theorem ansH_le (nm:ByteArray)(nx:Int)(rs:List flM.Ms)(hs:List flH.Hd)(o t:Int):(ansH nm nx rs hs o t).length <= hs.length+1:=by
 have:=atO_le o hs hs.length
 unfold ansH
 split
 ·simp;omega
 ·omega
end Go.Proofs.YteoojodkkjepeaaGreat.qpp
namespace Go.Proofs.YteoojodkkjepeaaGreat.cge
open ChangeShapes WideShapes ChangeAt RowKit rc rr ra rt fl co cn cb
noncomputable def popE (o t:Int)(s:qu.E):qu.E:=⟨s.nm,s.nx,none,0,qpp.ansR s.nm s.nx s.rs s.hs o t,none,0,qpp.ansH s.nm s.nx s.rs s.hs o t⟩
noncomputable def sel (es:List Ex)(bs:List Bi)(qs:List qu.E)(ts:List su.E)(name:ByteArray):Option (Nat × qu.E):=if okC es bs qs ts=true then (qs.findIdx? (fun e=>decide (e.nm=name))).bind (fun i=>qs[i]?.map (fun s=>(i,s))) else none
noncomputable def getQ (es:List Ex)(bs:List Bi)(qs:List qu.E)(ts:List su.E)(name:ByteArray)(o t:Int):List qu.E:=match sel es bs qs ts name with | some (i,s)=>qs.set i (popE o t s) | none=>qs
noncomputable def getM (es:List Ex)(bs:List Bi)(qs:List qu.E)(ts:List su.E)(name:ByteArray)(o t:Int):flM.Ms:=match sel es bs qs ts name with | some (_,s)=>qpp.ansM s.nm s.nx s.rs s.hs o t | none=>⟨0,⟨#[]⟩,⟨#[]⟩,⟨#[]⟩,false⟩
noncomputable def getB (es:List Ex)(bs:List Bi)(qs:List qu.E)(ts:List su.E)(name:ByteArray)(o t:Int):Bool:=match sel es bs qs ts name with | some (_,s)=>qpp.good s.nm s.nx s.rs s.hs o t | none=>false
section
variable {es:List Ex} {bs:List Bi} {qs ks:List qu.E} {ts us:List su.E} {name:ByteArray} {i:Nat} {s:qu.E}
theorem sel_some (h:sel es bs qs ts name=some (i,s)):okC es bs qs ts=true/\qs[i]?=some s/\s.nm=name/\∀ j f,j<i->qs[j]?=some f->f.nm≠name:=by
 unfold sel at h
 split at h
 ·rename_i hok
  cases hf:qs.findIdx? (fun e=>decide (e.nm=name)) with
  | none=>rw [hf] at h;simp at h
  | some k =>
   rw [hf] at h
   simp only [Option.bind_some] at h
   obtain⟨hlt,hp,hno⟩:=List.findIdx?_eq_some_iff_getElem.1 hf
   rw [List.getElem?_eq_getElem hlt] at h
   simp only [Option.map_some,Option.some.injEq,Prod.mk.injEq] at h
   obtain⟨rfl,rfl⟩:=h
   refine⟨hok,List.getElem?_eq_getElem hlt,by simpa using hp,fun j f hj hjf=>?_⟩
   have:=hno j hj
   obtain⟨h1,rfl⟩:=List.getElem?_eq_some_iff.1 hjf
   simpa using this
 ·cases h
theorem sel_none (h:sel es bs qs ts name=none):okC es bs qs ts=false ∨ ∀ (j:Nat) f,qs[j]?=some f->f.nm≠name:=by
 unfold sel at h
 split at h
 ·right
  cases hf:qs.findIdx? (fun e=>decide (e.nm=name)) with
  | none =>
   have h1:=List.findIdx?_eq_none_iff.1 hf
   intro j f hj
   have:=h1 f (List.mem_iff_getElem?.2 ⟨j,hj⟩)
   simpa using this
  | some k =>
   rw [hf] at h
   obtain⟨hlt,_⟩:=List.findIdx?_eq_some_iff_getElem.1 hf
   simp [List.getElem?_eq_getElem hlt] at h
 ·rename_i hok
  left
  simpa using hok
theorem set_same {r':qu.E}{o t:Int}(sm:cb.Same qs ks ts us)(hs:qs[i]?=some s)(hr:qu.same r' (popE o t s)):cb.Same (qs.set i (popE o t s)) (ks.set i r') ts us:=by
 have hi:=(List.getElem?_eq_some_iff.1 hs).1
 refine⟨by simp [sm.ql],sm.tl,fun k a b ha hb=>?_,sm.t⟩
 by_cases e:k=i
 ·subst e
  rw [List.getElem?_set_self hi] at hb
  rw [List.getElem?_set_self (by rw [sm.ql];exact hi)] at ha
  cases ha;cases hb
  exact hr
 ·rw [List.getElem?_set_ne (Ne.symm e)] at ha hb
  exact sm.q k a b ha hb
theorem get_sm (o t:Int)(name:ByteArray)(h:es.length+bulkE es+bs.length+bulkB bs+qs.length+bulk qu.wt qs+ts.length+bulk su.wt ts <= 1048576):Sm es bs (getQ es bs qs ts name o t) ts:=by
 have S:=sm_of h
 unfold getQ
 cases hs:sel es bs qs ts name with
 | none=>exact S
 | some p =>
  obtain⟨i,s⟩:=p
  obtain⟨hok,hi,_⟩:=sel_some hs
  have h20:=nkw.okl hok
  have F:=cb.fit h
  have hmem:s∈qs:=List.mem_iff_getElem?.2 ⟨i,hi⟩
  have f:=F.qf s hmem
  have hq:∀ r∈qs.set i (popE o t s),r.rs.length <= 1048577/\r.hs.length <= 1048577:=fun r hr=>by
   rcases List.mem_or_eq_of_mem_set hr with h1 | rfl
   ·exact S.qe r h1
   ·have h1:=qpp.ansR_le s.nm s.nx s.rs s.hs o t
    have h2:=qpp.ansH_le s.nm s.nx s.rs s.hs o t
    have h3:=f.el
    have h4:=f.ml
    exact⟨by show (qpp.ansR s.nm s.nx s.rs s.hs o t).length <= 1048577;omega,by show (qpp.ansH s.nm s.nx s.rs s.hs o t).length <= 1048577;omega⟩
  refine⟨S.el,S.bl,by simp only [List.length_set];exact S.ql,S.tl,hq,S.te,?_,S.tt⟩
  have h1:=tot_le 1048577 _ hq
  rw [List.length_set] at h1
  have h2:=Nat.mul_le_mul_right (2+12*1048577) h20
  show qu.tot (qs.set i (popE o t s)) <= 50000000000
  omega
end
end Go.Proofs.YteoojodkkjepeaaGreat.cge
namespace Go.Proofs.YteoojodkkjepeaaGreat.qhd
open ChangeShapes WideShapes ChangeAt RowKit qpp
theorem impl_hand (o t:Int)(w:World):Calls Tryz.prog 105 #[.int .i64 o,.int .i64 t] w fun e w'=>e=.returned (.bool (hand o t))/\w'=w:=by
 by_cases h1:0 <= o
 ·by_cases h2:o <= 1000
  ·by_cases h3:1 <= t
   ·by_cases h4:t <= 1000000000
    ·have hh:hand o t=true:=by simp [hand,h1,h2,h3,h4]
     rw [hh]
     go_enter Tryz.func105,Tryz.ntmps105
     go_wp2
     go_ret
     exact⟨rfl,rfl⟩
    ·have hh:hand o t=false:=by simp [hand,h1,h2,h3,h4]
     rw [hh]
     go_enter Tryz.func105,Tryz.ntmps105
     go_wp2
     go_ret
     exact⟨rfl,rfl⟩
   ·have hh:hand o t=false:=by simp [hand,h1,h2,h3]
    rw [hh]
    go_enter Tryz.func105,Tryz.ntmps105
    go_wp2
    go_ret
    exact⟨rfl,rfl⟩
  ·have hh:hand o t=false:=by simp [hand,h1,h2]
   rw [hh]
   go_enter Tryz.func105,Tryz.ntmps105
   go_wp2
   go_ret
   exact⟨rfl,rfl⟩
 ·have hh:hand o t=false:=by simp [hand,h1]
  rw [hh]
  go_enter Tryz.func105,Tryz.ntmps105
  go_wp2
  go_ret
  exact⟨rfl,rfl⟩
theorem within (x a b:Int)(w:World):Calls Tryz.prog 80 #[.int .i64 x,.int .i64 a,.int .i64 b] w fun e w'=>e=.returned (.bool (decide (a <= x/\x <= b)))/\w=w':=by
 by_cases h1:a <= x
 ·by_cases h2:x <= b
  ·have e:decide (a <= x/\x <= b)=true:=by simp [h1,h2]
   rw [e]
   go_enter Tryz.func80,Tryz.ntmps80
   go_wp2
   go_ret
   simp
  ·have e:decide (a <= x/\x <= b)=false:=by simp [h1,h2]
   rw [e]
   go_enter Tryz.func80,Tryz.ntmps80
   go_wp2
   go_ret
   simp
 ·have e:decide (a <= x/\x <= b)=false:=by simp [h1]
  rw [e]
  go_enter Tryz.func80,Tryz.ntmps80
  go_wp2
  go_ret
  exact⟨rfl,rfl⟩
end Go.Proofs.YteoojodkkjepeaaGreat.qhd
namespace Go.Proofs.YteoojodkkjepeaaGreat.ta
open ChangeShapes WideShapes ChangeAt RowKit fl
structure G where
 e0:Nat
 v1:Value
 h:Nat
 v2:Value
 v3:Value
structure Pr where
 W0:World
 T:TypeId
 n:Nat
 xs:List Value
 ms:List Value
 ys:List Value
 k:Nat
 m:Nat
 b:Nat
 j:Nat
structure D (p:Pr)(g:G)(c0 c1 c2 c3 c4 c5:Bool)(W:World):Prop where
 bel:∃ V,Below p.W0.heap.size p.W0 V/\W=if c5 then V.setCell ⟨p.b,p.j,none⟩ g.v3 else V
 at0:c0=true->c1=false->W.ownsRow p.W0.heap.size p.T p.n (.slice (some ⟨g.e0,0,none⟩) 0 0) 0 []
 at1:c1=true->c0=true/\(c3=false->W.ownsRow p.W0.heap.size p.T p.n g.v1 p.k p.xs)
 at2:c2=true->c3=false->W.heap[g.h]?=some (.cells p.ms.toArray p.T (0,0))/\(c0=true->c1=false->g.e0≠g.h)/\(c1=true->g.v1.ownBlock≠some g.h)
 at3:c3=true->c1=true/\c2=true/\(c4=false->W.ownsRow p.W0.heap.size p.T p.n g.v2 (p.k+1) (p.xs++p.ms))
 at4:c4=true->c3=true/\W.ownsRow p.W0.heap.size p.T p.n g.v3 (p.k+1+p.m) (p.xs++p.ms++p.ys)
 at5:c5=true->c4=true
section
variable {p:Pr} {g:G} {c0 c1 c2 c3 c4 c5:Bool} {W W':World} {v:Value}
theorem D.size (h:D p g c0 c1 c2 c3 c4 c5 W):p.W0.heap.size <= W.heap.size:=by
 obtain⟨V,hV,rfl⟩:=h.bel
 have:=hV.size
 split
 ·simpa using this
 ·exact this
theorem D.old (h:D p g c0 c1 c2 c3 c4 c5 W){b:Nat}{o:Obj}(hb:p.W0.heap[b]?=some o)(hne:b≠p.b):W.heap[b]?=some o:=by
 obtain⟨V,hV,rfl⟩:=h.bel
 have:=bstay hb hV (Array.getElem?_eq_some_iff.1 hb).1
 split
 ·exact boff this _ _ _ hne
 ·exact this
theorem D.below (h:D p g c0 c1 c2 c3 c4 false W):Below p.W0.heap.size p.W0 W:=by
 obtain⟨V,hV,rfl⟩:=h.bel
 exact hV
theorem no31 (h:D p g c0 false c2 c3 c4 c5 W):c3=false:=by
 cases c3 with
 | false=>rfl
 | true=>have:=(h.at3 rfl).1;cases this
theorem no32 (h:D p g c0 c1 false c3 c4 c5 W):c3=false:=by
 cases c3 with
 | false=>rfl
 | true=>have:=(h.at3 rfl).2.1;cases this
theorem no4 (h:D p g c0 c1 c2 false c4 c5 W):c4=false:=by
 cases c4 with
 | false=>rfl
 | true=>have:=(h.at4 rfl).1;cases this
theorem no5 (h:D p g c0 c1 c2 c3 false c5 W):c5=false:=by
 cases c5 with
 | false=>rfl
 | true=>have:=h.at5 rfl;cases this
theorem no1 (h:D p g false c1 c2 c3 c4 c5 W):c1=false:=by
 cases c1 with
 | false=>rfl
 | true=>have:=(h.at1 rfl).1;cases this
theorem D.s0 (h:D p g false c1 c2 c3 c4 c5 W):D p { g with e0:=W.heap.size } true c1 c2 c3 c4 c5 (W.alloc (.cells #[] p.T)):=by
 obtain rfl:=no1 h
 obtain rfl:=no31 h
 obtain rfl:=no4 h
 obtain rfl:=no5 h
 have hs:=h.size
 refine⟨⟨_,h.below.alloc hs _,rfl⟩,fun _ _=>World.ownsRow_made W #[] 0 hs (by unfold maxLen;omega) (by simp),fun e=>(by cases e),fun e _=>?_,fun e=>(by cases e),fun e=>(by cases e),fun e=>(by cases e)⟩
 obtain⟨h1,_,h3⟩:=h.at2 e rfl
 have:=(Array.getElem?_eq_some_iff.1 h1).1
 exact⟨bold h1 _,fun _ _=>(by show W.heap.size≠g.h;omega),h3⟩
theorem D.s1 (h:D p g c0 false c2 c3 c4 c5 W)(h0:c0=true)(hg:W.grownBy W' (some g.e0))(ho:W'.ownsRow p.W0.heap.size p.T p.n v p.k p.xs)(hat:v.ownBlock=some g.e0 ∨ v.ownBlock=some W.heap.size):D p { g with v1:=v } c0 true c2 c3 c4 c5 W':=by
 obtain rfl:=no31 h
 obtain rfl:=no4 h
 obtain rfl:=no5 h
 have hs:=h.size
 have he:=((h.at0 h0 rfl).lt g.e0 rfl)
 refine⟨⟨_,h.below.grown hg hs (fun b hb=>by cases hb;exact he.1),rfl⟩,fun _ e=>(by cases e),fun _=>⟨h0,fun _=>ho⟩,fun e _=>?_,fun e=>(by cases e),fun e=>(by cases e),fun e=>(by cases e)⟩
 obtain⟨h1,h2,_⟩:=h.at2 e rfl
 have hne:=h2 h0 rfl
 have hlt:=(Array.getElem?_eq_some_iff.1 h1).1
 refine⟨(hg.block _ hlt (fun e=>by have:=Option.some.inj e;omega)).trans h1,fun _ e=>(by cases e),fun _ e=>?_⟩
 have e':v.ownBlock=some g.h:=e
 rcases hat with ha | ha
 ·rw [ha] at e';have:=Option.some.inj e';omega
 ·rw [ha] at e';simp at e';omega
theorem D.s2 (h:D p g c0 c1 false c3 c4 c5 W):D p { g with h:=W.heap.size } c0 c1 true c3 c4 c5 (W.alloc (.cells p.ms.toArray p.T)):=by
 obtain rfl:=no32 h
 obtain rfl:=no4 h
 obtain rfl:=no5 h
 have hs:=h.size
 refine⟨⟨_,h.below.alloc hs _,rfl⟩,fun a b=>(h.at0 a b).alloc _,fun a=>⟨(h.at1 a).1,fun b=>((h.at1 a).2 b).alloc _⟩,fun _ _=>⟨bnew W _ _,fun a b=>?_,fun a e=>?_⟩,fun e=>(by cases e),fun e=>(by cases e),fun e=>(by cases e)⟩
 ·have:=((h.at0 a b).lt g.e0 rfl).2
  show g.e0≠W.heap.size
  omega
 ·have:=(((h.at1 a).2 rfl).lt _ e).2
  have:W.heap.size<W.heap.size:=this
  omega
theorem D.s3 (h:D p g c0 c1 c2 false c4 c5 W)(h1:c1=true)(h2:c2=true)(hg:W.grownBy W' g.v1.ownBlock)(ho:W'.ownsRow p.W0.heap.size p.T p.n v (p.k+1) (p.xs++p.ms)):D p { g with v2:=v } c0 c1 c2 true c4 c5 W':=by
 obtain rfl:=no4 h
 obtain rfl:=no5 h
 have hs:=h.size
 have he:=((h.at1 h1).2 rfl).lt
 exact⟨⟨_,h.below.grown hg hs (fun b hb=>(he b hb).1),rfl⟩,fun a b=>(by rw [h1] at b;cases b),fun a=>⟨(h.at1 a).1,fun e=>(by cases e)⟩,fun _ e=>(by cases e),fun _=>⟨h1,h2,fun _=>ho⟩,fun e=>(by cases e),fun e=>(by cases e)⟩
theorem D.s4 (h:D p g c0 c1 c2 c3 false c5 W)(h3:c3=true)(hg:W.grownBy W' g.v2.ownBlock)(ho:W'.ownsRow p.W0.heap.size p.T p.n v (p.k+1+p.m) (p.xs++p.ms++p.ys)):D p { g with v3:=v } c0 c1 c2 c3 true c5 W':=by
 obtain rfl:=no5 h
 have hs:=h.size
 have he:=((h.at3 h3).2.2 rfl).lt
 obtain⟨l1,l2,_⟩:=h.at3 h3
 exact⟨⟨_,h.below.grown hg hs (fun b hb=>(he b hb).1),rfl⟩,fun a b=>(by rw [l1] at b;cases b),fun a=>⟨(h.at1 a).1,fun e=>(by rw [h3] at e;cases e)⟩,fun _ e=>(by rw [h3] at e;cases e),fun _=>⟨l1,l2,fun e=>(by cases e)⟩,fun _=>⟨h3,ho⟩,fun e=>(by cases e)⟩
theorem D.s5 (h:D p g c0 c1 c2 c3 c4 false W)(h4:c4=true)(hb:p.b<p.W0.heap.size):D p g c0 c1 c2 c3 c4 true (W.setCell ⟨p.b,p.j,none⟩ g.v3):=by
 obtain⟨h3,ho⟩:=h.at4 h4
 obtain⟨l1,l2,_⟩:=h.at3 h3
 refine⟨⟨W,h.below,rfl⟩,fun a b=>(by rw [l1] at b;cases b),fun a=>⟨(h.at1 a).1,fun e=>(by rw [h3] at e;cases e)⟩,fun _ e=>(by rw [h3] at e;cases e),fun _=>⟨l1,l2,fun e=>(by rw [h4] at e;cases e)⟩,fun _=>⟨h3,?_⟩,fun _=>h4⟩
 refine ho.kept (row:=some p.b) ⟨rfl,rfl,rfl,by simp,fun k hk hne=>Below.heap_setCell _ _ _ _ (fun e=>hne (by rw [e]))⟩ ?_
 right
 intro e
 have:=(ho.lt _ e).1
 omega
end
theorem add0 (g j:Nat):(⟨g,0,none⟩:Addr).add j=⟨g,j,none⟩:=by unfold Addr.add;split <;> simp_all
theorem more_on (L:Nat->Bool)(i:Nat):dn.more L i i=true:=by unfold dn.more;rw [if_pos rfl]
theorem more_off (L:Nat->Bool){i j:Nat}(h:j≠i):dn.more L i j=L j:=by unfold dn.more;rw [if_neg h]
structure J where
 j0:Nat
 j1:Nat
 j2:Nat
 j3:Nat
 j4:Nat
 j5:Nat
def J.up (x:J):Prop:=x.j0<x.j1/\x.j1<x.j2/\x.j2<x.j3/\x.j3<x.j4/\x.j4<x.j5
def C (p:Pr)(x:J)(g:G)(L:Nat->Bool)(W:World):Prop:=D p g (L x.j0) (L x.j1) (L x.j2) (L x.j3) (L x.j4) (L x.j5) W
theorem C.d {p:Pr}{x:J}{g:G}{L:Nat->Bool}{W:World}(h:C p x g L W):D p g (L x.j0) (L x.j1) (L x.j2) (L x.j3) (L x.j4) (L x.j5) W:=h
section
variable {p:Pr} {x:J} {ws:G->List (Nat × Value)} {act:Act} {Q:Exit->Act->World->Prop} {o:Oper}
theorem quiet {i:Nat}(hi:i≠x.j0/\i≠x.j1/\i≠x.j2/\i≠x.j3/\i≠x.j4/\i≠x.j5)(hsel:∀ cs b,o.op≠.select cs b)(u:Value)(hd:∀ s d,o.dst=some d->(dk.sets act (ws s)).tmps[d]?=some u)
  (hrun:∀ s W,(∀ (b:Nat) (o:Obj),p.W0.heap[b]?=some o->b≠p.b->W.heap[b]?=some o)->(execOp (dk.sets act (ws s)).eval o).run Tryz.prog W=.ok (.value u) W):gh.Step Tryz.prog (fun s=>dk.sets act (ws s)) (C p x) Q i o:=by
 refine gh.step_val hsel fun s L W hdp h0 hC=>⟨s,u,gh.Agree.refl _ _,hd s,?_⟩
 rw [hrun s W (fun b o hb hne=>hC.d.old hb hne)]
 refine⟨rfl,?_⟩
 obtain⟨i0,i1,i2,i3,i4,i5⟩:=hi
 unfold C
 rw [more_off L i0.symm,more_off L i1.symm,more_off L i2.symm,more_off L i3.symm,more_off L i4.symm,more_off L i5.symm]
 exact hC
theorem st0 (hx:x.up){d idx:Nat}(hsel:∀ cs b,o.op≠.select cs b)(hdst:o.dst=some d)(hsz:d<act.tmps.size)(ld:∀ g,(ws g).lookup d=some (.slice (some ⟨g.e0,0,none⟩) 0 0))(hidx:∀ g,((ws g)[idx]?.map (·.1))=some d)(hset:∀ g (e:Nat),ws { g with e0:=e }=(ws g).set idx (d,.slice (some ⟨e,0,none⟩) 0 0))
  (hrun:∀ s W,(execOp (dk.sets act (ws s)).eval o).run Tryz.prog W=.ok (.value (.slice (some ⟨W.heap.size,0,none⟩) 0 0)) (W.alloc (.cells #[] p.T))):gh.Step Tryz.prog (fun s=>dk.sets act (ws s)) (C p x) Q x.j0 o:=by
 refine gh.step_val hsel fun s L W hdp h0 hC=>⟨{ s with e0:=W.heap.size },.slice (some ⟨W.heap.size,0,none⟩) 0 0,dk.agree_sets idx d _ hdst (hidx s) (hset s _),(fun d' hd=>by rw [hdst] at hd;cases hd;exact dk.sets_on _ hsz _ (ld _)),?_⟩
 rw [hrun]
 refine⟨rfl,?_⟩
 obtain⟨u0,u1,u2,u3,u4⟩:=hx
 have hd:=hC.d
 rw [h0] at hd
 unfold C
 rw [more_on,more_off L (show x.j1≠x.j0 by omega),more_off L (show x.j2≠x.j0 by omega),more_off L (show x.j3≠x.j0 by omega),more_off L (show x.j4≠x.j0 by omega),more_off L (show x.j5≠x.j0 by omega)]
 exact hd.s0
theorem st2 (hx:x.up){d idx:Nat}(hsel:∀ cs b,o.op≠.select cs b)(hdst:o.dst=some d)(hsz:d<act.tmps.size)(ld:∀ g,(ws g).lookup d=some (.slice (some ⟨g.h,0,none⟩) 1 1))(hidx:∀ g,((ws g)[idx]?.map (·.1))=some d)(hset:∀ g (e:Nat),ws { g with h:=e }=(ws g).set idx (d,.slice (some ⟨e,0,none⟩) 1 1))
  (hrun:∀ s W,(execOp (dk.sets act (ws s)).eval o).run Tryz.prog W=.ok (.value (.slice (some ⟨W.heap.size,0,none⟩) 1 1)) (W.alloc (.cells p.ms.toArray p.T))):gh.Step Tryz.prog (fun s=>dk.sets act (ws s)) (C p x) Q x.j2 o:=by
 refine gh.step_val hsel fun s L W hdp h0 hC=>⟨{ s with h:=W.heap.size },.slice (some ⟨W.heap.size,0,none⟩) 1 1,dk.agree_sets idx d _ hdst (hidx s) (hset s _),(fun d' hd=>by rw [hdst] at hd;cases hd;exact dk.sets_on _ hsz _ (ld _)),?_⟩
 rw [hrun]
 refine⟨rfl,?_⟩
 obtain⟨u0,u1,u2,u3,u4⟩:=hx
 have hd:=hC.d
 rw [h0] at hd
 unfold C
 rw [more_on,more_off L (show x.j0≠x.j2 by omega),more_off L (show x.j1≠x.j2 by omega),more_off L (show x.j3≠x.j2 by omega),more_off L (show x.j4≠x.j2 by omega),more_off L (show x.j5≠x.j2 by omega)]
 exact hd.s2
theorem app_run {ST s1 s2 m c:Nat}{a:Addr}{v v':Value}{f:Act}{W w':World}(hop:o.op=.call { callee:=.builtin .append,args:=#[.tmp s1,.tmp s2],argTypes:=#[ST,ST] })(e1:f.eval (.tmp s1)=v)(e2:f.eval (.tmp s2)=.slice (some a) m c)(hr:(Builtin.append_ #[ST,ST] o.type #[v,.slice (some a) m c]).run Tryz.prog W=.ok v' w'):(execOp f.eval o).run Tryz.prog W=.ok (.value v') w':=by
 unfold execOp
 simp only [hop,resolve,invoke,builtin,Sem.run_bind,Sem.run_pure,Result.andThen_ok,List.map_toArray,List.map_cons,List.map_nil,e1,e2,hr]
variable {ST:TypeId} {i0:TypeInfo} {z:Value} {bytes:Nat}
theorem st1 (hx:x.up)(ht:Tryz.prog.underlying ST=some (.slice p.T))(hi:Tryz.prog.info? p.T=some i0)(hz:i0.zero=some z)(hn:i0.size=p.n)(hb:i0.bytes=bytes)(hzs:z.cells.size=p.n)(hn0:0<p.n)
  {s1 s2 d idx c:Nat} {a:Addr} (hop:o.op=.call { callee:=.builtin .append,args:=#[.tmp s1,.tmp s2],argTypes:=#[ST,ST] }) (hdst:o.dst=some d) (hsz:d<act.tmps.size/\s1<act.tmps.size/\s2<act.tmps.size)
  (ld:∀ g,(ws g).lookup d=some g.v1) (l1:∀ g,(ws g).lookup s1=some (.slice (some ⟨g.e0,0,none⟩) 0 0)) (l2:∀ g,(ws g).lookup s2=some (.slice (some a) p.k c)) (hidx:∀ g,((ws g)[idx]?.map (·.1))=some d) (hset:∀ g (v:Value),ws { g with v1:=v }=(ws g).set idx (d,v))
  (hlen:p.xs.length=p.k*p.n) (hnews:∀ W,Below p.W0.heap.size p.W0 W->∀ j u,p.xs[j]?=some u->W.cell? (a.add j)=some u) (h1c:∀ u∈p.xs,u.oneCell'=true) (hk:p.k <= 1048576) (hby:(0+p.k)*bytes <= 140737488355328)
  (hdep:∃ e∈o.after,Region.binds .any e=true/\e.on=x.j0):gh.Step Tryz.prog (fun s=>dk.sets act (ws s)) (C p x) Q x.j1 o:=by
 refine gh.step_val (by rw [hop];simp) fun s L W hdp h0 hC=>?_
 obtain⟨xp,mp,yp,zp⟩:=hdep
 have lp:=hdp xp mp yp
 rw [zp] at lp
 obtain⟨u0,u1,u2,u3,u4⟩:=hx
 have hd:=hC.d
 rw [h0] at hd
 have hbel:Below p.W0.heap.size p.W0 W:=by
  have e3:=no31 hd
  rw [e3] at hd
  have e4:=no4 hd
  rw [e4] at hd
  have e5:=no5 hd
  rw [e5] at hd
  exact hd.below
 have hold:=hd.at0 lp rfl
 obtain⟨v',w',hr,ho,hg,_,hat⟩:=run_append_own_at (P:=Tryz.prog) W p.W0.heap.size ST o.type p.T i0 z p.n bytes ht hi hz hn hb hzs hn0 _ 0 [] hold a p.k c p.xs hlen (hnews W hbel) h1c (by unfold maxLen;omega) hby hd.size
 rw [Nat.zero_add,List.nil_append] at ho
 refine⟨{ s with v1:=v' },v',dk.agree_sets idx d _ hdst (hidx s) (hset s _),(fun d' hd=>by rw [hdst] at hd;cases hd;exact dk.sets_on _ hsz.1 _ (ld _)),?_⟩
 rw [app_run hop (dk.eval_on _ _ hsz.2.1 (l1 s)) (dk.eval_on _ _ hsz.2.2 (l2 s)) hr]
 refine⟨rfl,?_⟩
 unfold C
 rw [more_on,more_off L (show x.j0≠x.j1 by omega),more_off L (show x.j2≠x.j1 by omega),more_off L (show x.j3≠x.j1 by omega),more_off L (show x.j4≠x.j1 by omega),more_off L (show x.j5≠x.j1 by omega)]
 exact hd.s1 lp hg ho hat
theorem st3 (hx:x.up)(ht:Tryz.prog.underlying ST=some (.slice p.T))(hi:Tryz.prog.info? p.T=some i0)(hz:i0.zero=some z)(hn:i0.size=p.n)(hb:i0.bytes=bytes)(hzs:z.cells.size=p.n)(hn0:0<p.n)
  {s1 s2 d idx:Nat} (hop:o.op=.call { callee:=.builtin .append,args:=#[.tmp s1,.tmp s2],argTypes:=#[ST,ST] }) (hdst:o.dst=some d) (hsz:d<act.tmps.size/\s1<act.tmps.size/\s2<act.tmps.size)
  (ld:∀ g,(ws g).lookup d=some g.v2) (l1:∀ g,(ws g).lookup s1=some g.v1) (l2:∀ g,(ws g).lookup s2=some (.slice (some ⟨g.h,0,none⟩) 1 1)) (hidx:∀ g,((ws g)[idx]?.map (·.1))=some d) (hset:∀ g (v:Value),ws { g with v2:=v }=(ws g).set idx (d,v))
  (hlen:p.ms.length=p.n) (h1c:∀ u∈p.ms,u.oneCell'=true) (hk:p.k <= 1048576) (hby:(p.k+1)*bytes <= 140737488355328)
  (hdep:∃ e∈o.after,Region.binds .any e=true/\e.on=x.j1) (hdep2:∃ e∈o.after,Region.binds .any e=true/\e.on=x.j2):gh.Step Tryz.prog (fun s=>dk.sets act (ws s)) (C p x) Q x.j3 o:=by
 refine gh.step_val (by rw [hop];simp) fun s L W hdp h0 hC=>?_
 obtain⟨xp,mp,yp,zp⟩:=hdep
 have lp:=hdp xp mp yp
 rw [zp] at lp
 obtain⟨xq,mq,yq,zq⟩:=hdep2
 have lq:=hdp xq mq yq
 rw [zq] at lq
 obtain⟨u0,u1,u2,u3,u4⟩:=hx
 have hd:=hC.d
 rw [h0] at hd
 have hold:=(hd.at1 lp).2 rfl
 obtain⟨hcell,_,_⟩:=hd.at2 lq rfl
 have hnews:∀ j u,p.ms[j]?=some u->W.cell? ((⟨s.h,0,none⟩:Addr).add j)=some u:=fun j u hu=>by
  rw [add0]
  exact bcell hcell (by simpa using hu)
 obtain⟨v',w',hr,ho,hg,_,hat⟩:=run_append_own_at (P:=Tryz.prog) W p.W0.heap.size ST o.type p.T i0 z p.n bytes ht hi hz hn hb hzs hn0 _ p.k p.xs hold ⟨s.h,0,none⟩ 1 1 p.ms (by rw [hlen,Nat.one_mul]) hnews h1c (by unfold maxLen;omega) hby hd.size
 refine⟨{ s with v2:=v' },v',dk.agree_sets idx d _ hdst (hidx s) (hset s _),(fun d' hd=>by rw [hdst] at hd;cases hd;exact dk.sets_on _ hsz.1 _ (ld _)),?_⟩
 rw [app_run hop (dk.eval_on _ _ hsz.2.1 (l1 s)) (dk.eval_on _ _ hsz.2.2 (l2 s)) hr]
 refine⟨rfl,?_⟩
 unfold C
 rw [more_on,more_off L (show x.j0≠x.j3 by omega),more_off L (show x.j1≠x.j3 by omega),more_off L (show x.j2≠x.j3 by omega),more_off L (show x.j4≠x.j3 by omega),more_off L (show x.j5≠x.j3 by omega)]
 exact hd.s3 lp lq hg ho
theorem st4 (hx:x.up)(ht:Tryz.prog.underlying ST=some (.slice p.T))(hi:Tryz.prog.info? p.T=some i0)(hz:i0.zero=some z)(hn:i0.size=p.n)(hb:i0.bytes=bytes)(hzs:z.cells.size=p.n)(hn0:0<p.n)
  {s1 s2 d idx c:Nat} {a:Addr} (hop:o.op=.call { callee:=.builtin .append,args:=#[.tmp s1,.tmp s2],argTypes:=#[ST,ST] }) (hdst:o.dst=some d) (hsz:d<act.tmps.size/\s1<act.tmps.size/\s2<act.tmps.size)
  (ld:∀ g,(ws g).lookup d=some g.v3) (l1:∀ g,(ws g).lookup s1=some g.v2) (l2:∀ g,(ws g).lookup s2=some (.slice (some a) p.m c)) (hidx:∀ g,((ws g)[idx]?.map (·.1))=some d) (hset:∀ g (v:Value),ws { g with v3:=v }=(ws g).set idx (d,v))
  (hlen:p.ys.length=p.m*p.n) (hnews:∀ W,Below p.W0.heap.size p.W0 W->∀ j u,p.ys[j]?=some u->W.cell? (a.add j)=some u) (h1c:∀ u∈p.ys,u.oneCell'=true) (hk:p.k <= 1048576/\p.m <= 1048576) (hby:(p.k+1+p.m)*bytes <= 140737488355328)
  (hdep:∃ e∈o.after,Region.binds .any e=true/\e.on=x.j3):gh.Step Tryz.prog (fun s=>dk.sets act (ws s)) (C p x) Q x.j4 o:=by
 refine gh.step_val (by rw [hop];simp) fun s L W hdp h0 hC=>?_
 obtain⟨xp,mp,yp,zp⟩:=hdep
 have lp:=hdp xp mp yp
 rw [zp] at lp
 obtain⟨u0,u1,u2,u3,u4⟩:=hx
 have hd:=hC.d
 rw [h0] at hd
 have hbel:Below p.W0.heap.size p.W0 W:=by
  have e5:=no5 hd
  rw [e5] at hd
  exact hd.below
 have hold:=(hd.at3 lp).2.2 rfl
 obtain⟨v',w',hr,ho,hg,_,hat⟩:=run_append_own_at (P:=Tryz.prog) W p.W0.heap.size ST o.type p.T i0 z p.n bytes ht hi hz hn hb hzs hn0 _ (p.k+1) (p.xs++p.ms) hold a p.m c p.ys hlen (hnews W hbel) h1c (by unfold maxLen;omega) hby hd.size
 refine⟨{ s with v3:=v' },v',dk.agree_sets idx d _ hdst (hidx s) (hset s _),(fun d' hd=>by rw [hdst] at hd;cases hd;exact dk.sets_on _ hsz.1 _ (ld _)),?_⟩
 rw [app_run hop (dk.eval_on _ _ hsz.2.1 (l1 s)) (dk.eval_on _ _ hsz.2.2 (l2 s)) hr]
 refine⟨rfl,?_⟩
 unfold C
 rw [more_on,more_off L (show x.j0≠x.j4 by omega),more_off L (show x.j1≠x.j4 by omega),more_off L (show x.j2≠x.j4 by omega),more_off L (show x.j3≠x.j4 by omega),more_off L (show x.j5≠x.j4 by omega)]
 exact hd.s4 lp hg ho
theorem st5 (hx:x.up)(hsel:∀ cs b,o.op≠.select cs b)(hdst:o.dst=none)(hb:p.b<p.W0.heap.size)
  (hrun:∀ s W,(∀ (b:Nat) (o:Obj),p.W0.heap[b]?=some o->W.heap[b]?=some o)->(∃ a n c,s.v3=.slice a n c)->(execOp (dk.sets act (ws s)).eval o).run Tryz.prog W=.ok .skip (W.setCell ⟨p.b,p.j,none⟩ s.v3))
  (hdep:∃ e∈o.after,Region.binds .any e=true/\e.on=x.j4):gh.Step Tryz.prog (fun s=>dk.sets act (ws s)) (C p x) Q x.j5 o:=by
 refine gh.step_val hsel fun s L W hdp h0 hC=>⟨s,undef,gh.Agree.refl _ _,(fun d hd=>by rw [hdst] at hd;cases hd),?_⟩
 obtain⟨xp,mp,yp,zp⟩:=hdep
 have lp:=hdp xp mp yp
 rw [zp] at lp
 obtain⟨u0,u1,u2,u3,u4⟩:=hx
 have hd:=hC.d
 rw [h0] at hd
 have hv:∃ a n c,s.v3=.slice a n c:=by
  obtain⟨_,⟨e,_⟩ | ⟨g,cap,cur,e,_⟩⟩:=(hd.at4 lp).2
  ·exact⟨_,_,_,e⟩
  ·exact⟨_,_,_,e⟩
 rw [hrun s W (fun b o hb=>bstay hb hd.below (Array.getElem?_eq_some_iff.1 hb).1) hv]
 refine⟨rfl,?_⟩
 unfold C
 rw [more_on,more_off L (show x.j0≠x.j5 by omega),more_off L (show x.j1≠x.j5 by omega),more_off L (show x.j2≠x.j5 by omega),more_off L (show x.j3≠x.j5 by omega),more_off L (show x.j4≠x.j5 by omega)]
 exact hd.s5 lp hb
end
theorem done {p:Pr}{x:J}{g:G}{L:Nat->Bool}{W:World}{N:Nat}(hC:C p x g L W)(hx:x.up)(hN:x.j5<N)(hL:∀ i,i<N->L i=true) :
  ∃ V,Below p.W0.heap.size p.W0 V/\W=V.setCell ⟨p.b,p.j,none⟩ g.v3/\W.ownsRow p.W0.heap.size p.T p.n g.v3 (p.k+1+p.m) (p.xs++p.ms++p.ys):=by
 have hd:=hC.d
 obtain⟨u0,u1,u2,u3,u4⟩:=hx
 rw [hL x.j4 (by omega),hL x.j5 hN] at hd
 obtain⟨V,h1,h2⟩:=hd.bel
 exact⟨V,h1,h2,(hd.at4 rfl).2⟩
theorem start (p:Pr)(x:J)(g:G):C p x g (fun _=>false) p.W0.drew :=
 ⟨⟨_,(Below.refl _ _).drew,rfl⟩,fun e=>(by cases e),fun e=>(by cases e),fun e=>(by cases e),fun e=>(by cases e),fun e=>(by cases e),fun e=>(by cases e)⟩
end Go.Proofs.YteoojodkkjepeaaGreat.ta
namespace Go.Proofs.YteoojodkkjepeaaGreat.s9
open ChangeShapes WideShapes ChangeAt RowKit
section
variable {w W:World} {b d B:Nat} {v0 v1 v2 v3 u0 u1 u2 u3 u4:Value}
theorem bel (h:Below B w W)(h1:B <= b)(h2:B <= d):Below B w (((((((((W.setCell ⟨b,0,none⟩ v0).setCell ⟨b,1,none⟩ v1).setCell ⟨b,2,none⟩ v2).setCell ⟨b,3,none⟩ v3).setCell ⟨d,0,none⟩ u0).setCell ⟨d,1,none⟩ u1).setCell ⟨d,2,none⟩ u2).setCell ⟨d,3,none⟩ u3).setCell ⟨d,4,none⟩ u4):=((((((((h.setCell h1 _).setCell h1 _).setCell h1 _).setCell h1 _).setCell h2 _).setCell h2 _).setCell h2 _).setCell h2 _).setCell h2 _
theorem heap {g:Nat}(h1:g≠b)(h2:g≠d):(((((((((W.setCell ⟨b,0,none⟩ v0).setCell ⟨b,1,none⟩ v1).setCell ⟨b,2,none⟩ v2).setCell ⟨b,3,none⟩ v3).setCell ⟨d,0,none⟩ u0).setCell ⟨d,1,none⟩ u1).setCell ⟨d,2,none⟩ u2).setCell ⟨d,3,none⟩ u3).setCell ⟨d,4,none⟩ u4).heap[g]?=W.heap[g]?:=by
 rw [Below.heap_setCell _ _ _ _ h2,Below.heap_setCell _ _ _ _ h2,Below.heap_setCell _ _ _ _ h2,Below.heap_setCell _ _ _ _ h2,Below.heap_setCell _ _ _ _ h2,Below.heap_setCell _ _ _ _ h1,Below.heap_setCell _ _ _ _ h1,Below.heap_setCell _ _ _ _ h1,Below.heap_setCell _ _ _ _ h1]
end
end Go.Proofs.YteoojodkkjepeaaGreat.s9
